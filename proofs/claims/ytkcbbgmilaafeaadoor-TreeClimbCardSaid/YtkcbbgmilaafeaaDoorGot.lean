/-
  Small facts on what a call hands back: a row of bytes that is not empty lies in a block; lengths of digests; the digest of abc.
-/
import Derived.Test.YtkcbbgmilaafeaaDoorSum
import Derived.Lib.SlBytesConst
namespace Go.Proofs.YtkcbbgmilaafeaaDoor
open Go.RowKit

set_option maxRecDepth 1000000 in
theorem sha256_abc : sha256 [97, 98, 99] = [186, 120, 22, 191, 143, 1, 207, 234, 65, 65, 64, 222, 93, 174, 34, 35, 176, 3, 97, 163, 150, 23, 122, 156, 180, 16, 255, 97, 242, 0, 21, 173] := by decide +kernel
theorem digestI_length (alg : Int) (xs : List Int) : ((digestI alg xs).length : Int) = sizeI alg := by
  unfold digestI sizeI
  split
  · rw [sha1_length]; rfl
  · split
    · rw [sha256_length]; rfl
    · rfl

end Go.Proofs.YtkcbbgmilaafeaaDoor
