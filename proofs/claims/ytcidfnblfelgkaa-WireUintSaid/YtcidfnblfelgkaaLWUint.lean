/-
  The walk of the statement on the bytes of a number of any size.
-/
import Derived.Test.YtcidfnblfelgkaaWake3
import Derived.Test.YtcidfnblfelgkaaRWr
import Derived.Test.YtcidfnblfelgkaaSame
namespace Go.Proofs.Ytcidfnblfelgkaa
open Go.RowKit

set_option maxRecDepth 100000 in
set_option maxHeartbeats 2000000 in
theorem lawWireUint (A : Option Addr) (l c : Nat) (b : List Int) (size n : Int) (w : World) (hs : Seg w w.heap.size .u8 A l b) (hc : l ≤ c) (hcm : c ≤ 9223372036854775807) :
    Calls Try.prog 3 #[.slice A l c, .int .i64 size, .int .i64 n] w fun e w' => e = .returned (.bool true) ∧ Below w.heap.size w w' := by
  have HS := Lib.hid hs
  clear hs
  go_enter Try.func3, Try.ntmps3
  go_wp2_with fail
  refine (awake3_any w).mono ?_
  rintro e w1 ⟨rfl, hb1⟩
  have hz1 := hb1.size
  by_cases hl : 100 < l
  · have hd : decide ((100 : Int) < l) = true := by simp; omega
    go_wp2_with fail
    go_ret
    exact ⟨rfl, hb1⟩
  have hd : decide ((100 : Int) < l) = false := by simp; omega
  go_wp2_with fail
  go_loopw [7] (fun i wr => ∃ k : Nat, k ≤ 10 ∧ i = .int .i64 k ∧ Below w.heap.size w wr) (fun i _ => 10 - (intOf i).toNat)
  case atStart => exact ⟨0, by omega, rfl, hb1⟩
  case round =>
    clear hb1 hz1
    obtain ⟨k, hk, rfl, hb⟩ := hrel
    have hz := hb.size
    have HSr := Lib.hid ((HS.out.below hb (Nat.le_refl _)).more hz)
    by_cases hlt : k < 10
    focus
      have hdk : decide ((k : Int) < 10) = true := by simp; omega
      go_wp2_with fail
      refine (wuint_any A l c b k n wr HSr.out (by omega) hc hcm).mono ?_
    rotate_left
    focus
      have hdk : decide ((k : Int) < 10) = false := by simp; omega
      go_wp2_with fail
      refine (wuint_any A l c b size n wr HSr.out (by omega) hc hcm).mono ?_
    rotate_left
    all_goals
      rintro e w2 ⟨v2, k2, rfl, hk2, hR2, hb2⟩
      obtain ⟨A2, c2, rfl, _, _⟩ := hR2.cut
      have HR2 := Lib.hid hR2
      have hbw2 := hb.trans (hb2.mono hz)
      have hzw2 := hbw2.size
      clear hR2
      go_wp2_with fail
      refine (ruint_any A l c b _ n w2 ((HS.out.below hbw2 (Nat.le_refl _)).more hzw2) (by omega)).mono ?_
      rintro e w3 ⟨v3, k3, rfl, hk3, hR3, hb3⟩
      have hk23 : k2 = k3 := by rw [← HR2.out.length, ← hR3.length]
      subst hk23
      obtain ⟨A3, c3, rfl, _, _⟩ := hR3.cut
      have HR3 := Lib.hid hR3
      have HS2 := Lib.hid ((HR2.out.seg.below hb3 (Nat.le_refl _)).more hb3.size)
      have hbw3 := hbw2.trans (hb3.mono hzw2)
      have hzw3 := hbw3.size
      clear hR3
      go_wp2_with fail
      refine (same_self A2 A3 k2 c2 c3 _ w3 HS2.out HR3.out.seg (by omega)).mono ?_
      rintro e w4 ⟨rfl, hb4⟩
      have hbw4 := hbw3.trans (hb4.mono hzw3)
      go_wp2_with fail
    · go_roundw
      case measure => simp [intOf]; omega
      case rel => exact ⟨k + 1, by omega, by go_num, hbw4⟩
    · go_ret
      exact ⟨rfl, hbw4⟩
end Go.Proofs.Ytcidfnblfelgkaa
