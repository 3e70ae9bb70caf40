/-
  Whether two texts differ and their digests begin alike, on lists.
-/
import Derived.Test.YtkcbbgmilaafeaaDoorSpec
import Derived.Test.YtkcbbgmilaafeaaDoorSame
namespace Go.Proofs.YtkcbbgmilaafeaaDoor
open Go.RowKit

/-- Whether two texts differ and their digests begin alike. -/
def collideI (xs ys : List Int) (n : Int) : Bool := decide (0 ≤ n ∧ n ≤ 32) && (!sameB xs ys && sameB ((sha256 xs).take n.toNat) ((sha256 ys).take n.toNat))
theorem collideI_out {xs ys : List Int} {n : Int} (h : n < 0 ∨ 32 < n) : collideI xs ys n = false := by
  have : decide (0 ≤ n ∧ n ≤ 32) = false := by simp; omega
  simp only [collideI, this, Bool.false_and]
theorem collideI_same {xs ys : List Int} {n : Int} (h : sameB xs ys = true) : collideI xs ys n = false := by
  simp [collideI, h]
theorem collideI_in {xs ys : List Int} {n : Nat} (h : sameB xs ys = false) (hn : n ≤ 32) : collideI xs ys n = sameB ((sha256 xs).take n) ((sha256 ys).take n) := by
  have : decide (0 ≤ (n : Int) ∧ (n : Int) ≤ 32) = true := by simp; omega
  simp only [collideI, this, h, Bool.true_and, Bool.not_false, Int.toNat_natCast]

end Go.Proofs.YtkcbbgmilaafeaaDoor
