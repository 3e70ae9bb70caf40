/-
  The program's Equal.
-/
import Derived.Test.YtcmbnldeojlhbaaDoorEqual
namespace Go.Proofs.YtcmbnldeojlhbaaDoor
open Go.RowKit

theorem mequal_any (A A2 : Option Addr) (n c n2 c2 B B2 : Nat) (xs ys : List Int) (w : World) (hs : Seg w B .u8 A n xs) (ht : Seg w B2 .u8 A2 n2 ys) (hx : InB xs) (hy : InB ys) :
    Calls Tryd.prog 29 #[.slice A n c, .slice A2 n2 c2] w fun e w' => e = .returned (.bool (sameB xs ys)) ∧ w = w' := by
  have HE := Lib.hid (equal_any A A2 n c n2 c2 B B2 xs ys w hs ht hx hy)
  clear hs ht hx hy
  go_enter Tryd.func29, Tryd.ntmps29
  go_wp2_with fail
  refine HE.out.mono ?_
  rintro e w1 ⟨rfl, rfl⟩
  go_wp2_with fail
  go_ret
  exact ⟨rfl, rfl⟩
end Go.Proofs.YtcmbnldeojlhbaaDoor
