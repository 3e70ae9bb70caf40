/-
  How long a frame is.
-/
import Derived.Test.YtkcbbgmilaafeaaDoorFld
import Derived.Test.YtkcbbgmilaafeaaDoorSpec
namespace Go.Proofs.YtkcbbgmilaafeaaDoor
open Go.RowKit

theorem frameI_take (tag : Int) (fs : List (List Int)) (k : Nat) (h : k < fs.length) : frameI tag (fs.take (k + 1)) = frameI tag (fs.take k) ++ be4 (((fs.getD k []).length : Int) % 4294967296) ++ fs.getD k [] := by
  have : fs.take (k + 1) = fs.take k ++ [fs.getD k []] := by rw [List.take_add_one, List.getElem?_eq_getElem h]; simp [List.getD, h]
  rw [this]
  simp [frameI]
theorem frameI_length (tag : Int) (fs : List (List Int)) : (frameI tag fs).length = 1 + 4 * fs.length + tot fs := by
  induction fs with
  | nil => rfl
  | cons f l ih => simp [frameI, tot, be4] at ih ⊢; omega
end Go.Proofs.YtkcbbgmilaafeaaDoor
