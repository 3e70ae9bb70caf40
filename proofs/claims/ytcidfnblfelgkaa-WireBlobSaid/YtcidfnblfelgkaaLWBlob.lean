/-
  The walk of the statement on the bytes of a blob, also of one that is too long.
-/
import Derived.Test.YtcidfnblfelgkaaWake3
import Derived.Test.YtcidfnblfelgkaaRWr
import Derived.Test.YtcidfnblfelgkaaSame
namespace Go.Proofs.Ytcidfnblfelgkaa
open Go.RowKit

set_option maxRecDepth 100000 in
set_option maxHeartbeats 4000000 in
theorem lawWireBlob (A : Option Addr) (l c : Nat) (b : List Int) (A2 : Option Addr) (l2 c2 : Nat) (x : List Int) (long : Bool) (w : World) (hs : Seg w w.heap.size .u8 A l b) (hc : l ≤ c) (hcm : c ≤ 9223372036854775807) (ht : Seg w w.heap.size .u8 A2 l2 x) (hc2 : l2 ≤ c2) (hcm2 : c2 ≤ 9223372036854775807) :
    Calls Try.prog 4 #[.slice A l c, .slice A2 l2 c2, .bool long] w fun e w' => e = .returned (.bool true) ∧ Below w.heap.size w w' := by
  obtain ⟨i0, hi, hz0, hz1, hz2⟩ := info_parts Try.infoU8
  have HS := Lib.hid hs
  have HT := Lib.hid ht
  clear hs ht
  go_enter Try.func4, Try.ntmps4
  go_wp2_with fail
  refine (awake3_any w).mono ?_
  rintro e w1 ⟨rfl, hb1⟩
  have hzb1 := hb1.size
  by_cases hl : 100 < l
  · have hd : decide ((100 : Int) < l) = true := by simp; omega
    go_wp2_with fail
    go_ret
    exact ⟨rfl, hb1⟩
  have hd : decide ((100 : Int) < l) = false := by simp; omega
  by_cases hl2 : 300 < l2
  · have hd2 : decide ((300 : Int) < l2) = true := by simp; omega
    go_wp2_with fail
    go_ret
    exact ⟨rfl, hb1⟩
  have hd2 : decide ((300 : Int) < l2) = false := by simp; omega
  have HT1 := Lib.hid ((HT.out.below hb1 (Nat.le_refl _)).more hzb1)
  cases long with
  | false => ?_
  | true => ?_
  focus
    go_wp2_with fail
    obtain ⟨wy, HWY⟩ : ∃ wy, Hid (w1 = wy) := ⟨_, rfl⟩
    obtain ⟨Y, HY⟩ : ∃ Y, Hid (x = Y) := ⟨_, rfl⟩
    rw [HWY.out] at hb1 hzb1 HT1 ⊢
    rw [HY.out] at HT1
    obtain ⟨A3, rfl⟩ : ∃ A3, A3 = A2 := ⟨_, rfl⟩
    obtain ⟨l3, rfl⟩ : ∃ l3, l3 = l2 := ⟨_, rfl⟩
    obtain ⟨c3, rfl⟩ : ∃ c3, c3 = c2 := ⟨_, rfl⟩
    have hl3 : l3 ≤ 66000 := by omega
    have hc3 : l3 ≤ c3 := hc2
    have hcm3 : c3 ≤ 9223372036854775807 := hcm2
    clear HT hl2
  rotate_left
  focus
    obtain ⟨m, HM⟩ : ∃ m : Nat, Hid (m = 65530) := ⟨65530, rfl⟩
    have hmb : m ≤ 65530 := by have := HM.out; omega
    have HZ : Hid ((List.replicate m (0 : Int)).length = m) := by show _ = _; simp
    go_wp2_with (first
      | (at_make; refine wpList_make_cap rfl _ _ 22 rfl w1.heap.size 5 i0 .u8 Try.underlying22 hi hz0 hz1 hz2 .i64 .i64 m m _ _ rfl rfl (by have := HM.out; omega) (by have := HM.out; omega) (Nat.le_refl _) (by omega) (Nat.le_refl _) ?_; intro w2 hR2 hb2 hs2; have HR2 := Lib.hid hR2; have HT2 := Lib.hid (HT1.out.below hb2 (Nat.le_refl _)); have hz2' := hb2.size; clear hR2 hs2)
      | (at_builtin; refine wpList_app _ rfl (.tmp 20) (.tmp 21) 22 rfl w1.heap.size 5 i0 (.int .u8 0) 1 Try.underlying22 hi hz0 hz1 hz2 rfl .u8 _ (List.replicate m 0) rfl HR2.out.own w1.heap.size A2 l2 c2 x rfl HT2.out (by unfold maxLen; rw [HZ.out]; omega) (by rw [HZ.out]; omega) hz2' ?_; intro v3 wy hown3 hg3 hor3; have hb3 : Below w1.heap.size w1 wy := own_below HR2.out.own hg3 hb2 hz2'; have HR3 : Hid (Row wy w1.heap.size 5 .u8 v3 (m + l2) (List.replicate m 0 ++ x)) := hown3.row (by rw [List.length_append, HZ.out, HT.out.1]); clear hown3 hg3 hor3))
    have hl3 : m + l2 ≤ 66000 := by omega
    obtain ⟨A3, c3, rfl, hc3, hcm3⟩ := HR3.out.cut
    have hcm3 : c3 ≤ 9223372036854775807 := by unfold maxLen at hcm3; omega
    obtain ⟨l3, hl3e⟩ : ∃ l3, l3 = m + l2 := ⟨_, rfl⟩
    obtain ⟨Y, HY⟩ : ∃ Y, Hid (List.replicate m (0 : Int) ++ x = Y) := ⟨_, rfl⟩
    rw [HY.out] at HR3
    rw [← hl3e] at HR3 hl3 hc3 ⊢
    clear hl3e
    have hb1 := hb1.trans (hb3.mono hzb1)
    have hzb1 := hb1.size
    have HT1 := Lib.hid HR3.out.seg
  rotate_left
  all_goals
    have HS1 := Lib.hid ((HS.out.below hb1 (Nat.le_refl _)).more hzb1)
    refine (wblob_any A A3 l c l3 c3 b Y wy HS1.out (by omega) hc hcm HT1.out (by omega) hc3 hcm3).mono ?_
    rintro e w2 ⟨v2, k2, rfl, hk2, hR2, hb2⟩
    obtain ⟨A4, c4, rfl, _, _⟩ := hR2.cut
    have HR4 := Lib.hid hR2
    have hbw2 := hb1.trans (hb2.mono hzb1)
    have hzw2 := hbw2.size
    have HT2 := Lib.hid ((HT1.out.below hb2 (Nat.le_refl _)).more hb2.size)
    clear hR2
    go_wp2_with fail
    refine (rblob_any A A3 l c l3 c3 b Y w2 ((HS.out.below hbw2 (Nat.le_refl _)).more hzw2) (by omega) HT2.out (by omega) hc3 hcm3).mono ?_
    rintro e w3 ⟨v3, k3, rfl, hk3, hR3, hb3⟩
    have hk23 : k2 = k3 := by rw [← HR4.out.length, ← hR3.length]
    subst hk23
    obtain ⟨A5, c5, rfl, _, _⟩ := hR3.cut
    have HR5 := Lib.hid hR3
    have HS4 := Lib.hid ((HR4.out.seg.below hb3 (Nat.le_refl _)).more hb3.size)
    have hbw3 := hbw2.trans (hb3.mono hzw2)
    have hzw3 := hbw3.size
    clear hR3
    go_wp2_with fail
    refine (same_self A4 A5 k2 c4 c5 _ w3 HS4.out HR5.out.seg (by omega)).mono ?_
    rintro e w4 ⟨rfl, hb4⟩
    have hbw4 := hbw3.trans (hb4.mono hzw3)
    go_wp2_with fail
    go_ret
    exact ⟨rfl, hbw4⟩
end Go.Proofs.Ytcidfnblfelgkaa
