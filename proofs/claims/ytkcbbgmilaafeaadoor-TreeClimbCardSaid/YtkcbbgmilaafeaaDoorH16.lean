/-
  The first sixteen bytes of the hash of a frame, on lists.
-/
import Derived.Test.YtkcbbgmilaafeaaDoorSpec
namespace Go.Proofs.YtkcbbgmilaafeaaDoor
open Go.RowKit

/-- The first sixteen bytes of the hash of a frame. -/
def hash16 (tag : Int) (fs : List (List Int)) : List Int := (sha256 (frameI tag fs)).take 16
theorem hash16_length (tag : Int) (fs : List (List Int)) : (hash16 tag fs).length = 16 := by rw [hash16, List.length_take, sha256_length]; rfl
end Go.Proofs.YtkcbbgmilaafeaaDoor
