/-
  The reference's comparison of equal byte strings; the reference's copy.
-/
import Derived.Test.YtdgnolmkpfdcmaaDoorMac
namespace Go.Proofs.YtdgnolmkpfdcmaaDoor
open Go.RowKit

theorem same_self (A A2 : Option Addr) (n c c2 : Nat) (D : List Int) (W : World) (h1 : Seg W W.heap.size .u8 A n D) (h2 : Seg W W.heap.size .u8 A2 n D) (hn : n ≤ 1099511627776) :
    Calls Tryd.prog 10 #[.slice A n c, .slice A2 n c2] W fun e w' => e = .returned (.bool true) ∧ Below W.heap.size W w' := by
  refine (same_any A A2 n c n c2 D D W h1 h2 hn).mono ?_
  rintro e w' ⟨rfl, q, rfl⟩
  rw [sameB_self]
  exact ⟨rfl, below_drewN (Below.refl _ _) q⟩
end Go.Proofs.YtdgnolmkpfdcmaaDoor
