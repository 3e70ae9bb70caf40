/-
  The program's Reader reads bytes.
-/
import Derived.Test.YtcmbnldeojlhbaaDoorWTry
namespace Go.Proofs.YtcmbnldeojlhbaaDoor
open Go.RowKit

set_option maxRecDepth 100000 in
set_option maxHeartbeats 1000000 in
theorem wrraw_any (g p : Nat) (xs : List Int) (err m : Int) (w : World) (h : WRdr w g 53 xs p err) (hxl : xs.length ≤ 1099511627776) :
    Calls Tryd.prog 27 #[.pointer (some ⟨g, 0, none⟩), .int .i64 m] w
      fun e w' => ∃ A k c, e = .returned (.slice A k c) ∧ Seg w' g .u8 A k (rawR xs p err m).1 ∧ k ≤ xs.length ∧ k ≤ c ∧ c ≤ 9223372036854775807 ∧ WRdr w' g 53 xs (rawR xs p err m).2.1 (rawR xs p err m).2.2 ∧ But w w' g := by
  have hmf : ∀ (fn : Fn) (first cap : Array Value) (w : World), (Instr.makeFunc fn first cap).run Tryd.prog w = .ok (.func fn first cap) w := fun _ _ _ _ => rfl
  by_cases he : err = 0
  · subst he
    have HT := Lib.hid (trybytes_ok 47 (fun _ _ => rfl) g p xs m _ w h ((wbytes_any g p xs m w h hxl).mono fun _ _ h => h.blob) (rawR_back xs p m))
    clear h
    go_enter Tryd.func27, Tryd.ntmps27
    go_wp2_with fail
    refine HT.out.mono ?_
    rintro e w1 ⟨A1, k1, c1, rfl, hS1, hk1, hc1, hcm1, hW1, hB1⟩
    go_wp2_with fail
    go_ret
    exact ⟨_, _, _, rfl, hS1, hk1, hc1, hcm1, hW1, hB1⟩
  · rw [rawR_err xs p err m he]
    have H := Lib.hid h
    have HT := Lib.hid (fun f => trybytes_err g p xs err he f m w h)
    clear h he
    go_enter Tryd.func27, Tryd.ntmps27
    go_wp2_with fail
    refine (HT.out _).mono ?_
    rintro e w1 ⟨rfl, rfl⟩
    go_wp2_with fail
    go_ret
    exact ⟨none, 0, 0, rfl, Seg.nil _ _ _ _, Nat.zero_le _, Nat.le_refl _, by omega, H.out, but_refl w g⟩
end Go.Proofs.YtcmbnldeojlhbaaDoor
