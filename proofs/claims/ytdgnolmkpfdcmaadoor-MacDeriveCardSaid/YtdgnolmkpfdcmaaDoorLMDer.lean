/-
  The walk of the statement on the bytes that are derived from a key, a label and a context.
-/
import Derived.Test.YtdgnolmkpfdcmaaDoorWake2
import Derived.Test.YtdgnolmkpfdcmaaDoorRDer
import Derived.Test.YtdgnolmkpfdcmaaDoorAlike
namespace Go.Proofs.YtdgnolmkpfdcmaaDoor
open Go.RowKit

set_option maxRecDepth 100000 in
set_option maxHeartbeats 4000000 in
theorem lawMacDerive (A : Option Addr) (n c : Nat) (key : List Int) (label : ByteArray) (A2 : Option Addr) (n2 c2 : Nat) (ctx : List Int) (m : Int) (w : World)
    (hs : Seg w w.heap.size .u8 A n key) (hc : n ≤ c) (hcm : c ≤ 9223372036854775807) (hlm : label.size ≤ 9223372036854775807)
    (ht : Seg w w.heap.size .u8 A2 n2 ctx) (_hc2 : n2 ≤ c2) (_hcm2 : c2 ≤ 9223372036854775807) (hK : Tab w 0 .u32 kay256) :
    Calls Tryd.prog 6 #[.slice A n c, .string label, .slice A2 n2 c2, .int .i64 m] w fun e w' => e = .returned (.bool true) ∧ Below w.heap.size w w' := by
  have HK := Lib.hid hK
  have HS := Lib.hid hs
  have HT := Lib.hid ht
  have h0 : 0 < w.heap.size := hK.lt
  clear hs ht hK
  go_enter Tryd.func6, Tryd.ntmps6
  go_wp2_with fail
  refine (awake2_any w HK.out).mono ?_
  rintro e w1 ⟨rfl, hb1⟩
  have hzb1 := hb1.size
  by_cases hn : 100 < n
  · have hd : decide ((100 : Int) < n) = true := by simp; omega
    go_wp2_with fail
    go_ret
    exact ⟨rfl, hb1⟩
  have hd : decide ((100 : Int) < n) = false := by simp; omega
  by_cases hl : 60 < label.size
  · have hd1 : decide ((60 : Int) < label.size) = true := by simp; omega
    go_wp2_with fail
    go_ret
    exact ⟨rfl, hb1⟩
  have hd1 : decide ((60 : Int) < label.size) = false := by simp; omega
  by_cases hn2 : 100 < n2
  · have hd2 : decide ((100 : Int) < n2) = true := by simp; omega
    go_wp2_with fail
    go_ret
    exact ⟨rfl, hb1⟩
  have hd2 : decide ((100 : Int) < n2) = false := by simp; omega
  have HS1 := Lib.hid ((HS.out.below hb1 (Nat.le_refl _)).more hzb1)
  have HT1 := Lib.hid ((HT.out.below hb1 (Nat.le_refl _)).more hzb1)
  have HK1 := Lib.hid (HK.out.below hb1 h0)
  rcases (by omega : 1100 < m ∨ (m ≤ 1100 ∧ m < 0) ∨ (m ≤ 1100 ∧ 0 ≤ m)) with hm | ⟨hm, hm2⟩ | ⟨hm, hm2⟩
  focus
    have hd3 : decide (1100 < m) = true := by simpa using hm
    go_wp2_with fail
  rotate_left
  focus
    have hd3 : decide (1100 < m) = false := by simp; omega
    have hd4 : decide (m < 0) = true := by simpa using hm2
    go_wp2_with fail
  rotate_left
  focus
    have hd3 : decide (1100 < m) = false := by simp; omega
    have hd4 : decide (m < 0) = false := by simp; omega
    go_wp2_with fail
  rotate_left
  all_goals
    refine (derive_any A A2 n c n2 c2 key ctx label m w1 HS1.out (by omega) hc hcm HT1.out (by omega) (by omega) HK1.out).mono ?_
    rintro e w2 ⟨A3, k3, c3, rfl, hk3, hs3, hb2⟩
    have hbw2 := hb1.trans (hb2.mono hzb1)
    have hzw2 := hbw2.size
    have HS2 := Lib.hid ((HS.out.below hbw2 (Nat.le_refl _)).more hzw2)
    have HT2 := Lib.hid ((HT.out.below hbw2 (Nat.le_refl _)).more hzw2)
    obtain ⟨D, HD⟩ : ∃ D, Hid (deriveI key (strI label) ctx m = D) := ⟨_, rfl⟩
    rw [HD.out] at hs3
    have HS3 := Lib.hid hs3
    clear hs3
    go_wp2_with fail
    refine (rderive_any A A2 n c n2 c2 key ctx label m w2 HS2.out (by omega) HT2.out (by omega) (by omega)).mono ?_
    rintro e w3 ⟨A4, k4, c4, rfl, hk4, hs4, hb3⟩
    have hbw3 := hbw2.trans (hb3.mono hzw2)
    have hzw3 := hbw3.size
    rw [HD.out] at hs4
    obtain rfl : k3 = k4 := by rw [← HS3.out.1, ← hs4.1]
    have HS4 := Lib.hid hs4
    have HS34 := Lib.hid ((HS3.out.below hb3 (Nat.le_refl _)).more hb3.size)
    clear hs4
    go_wp2_with fail
    refine (same_self A3 A4 k3 c3 c4 D w3 HS34.out HS4.out (by omega)).mono ?_
    rintro e w4 ⟨rfl, hb4⟩
    have hbw4 := hbw3.trans (hb4.mono hzw3)
    have hzw4 := hbw4.size
    have HS5 := Lib.hid ((HS.out.below hbw4 (Nat.le_refl _)).more hzw4)
    have HT5 := Lib.hid ((HT.out.below hbw4 (Nat.le_refl _)).more hzw4)
    have HK5 := Lib.hid (HK.out.below hbw4 h0)
    go_wp2_with fail
    refine (derive_any A A2 n c n2 c2 key ctx label _ w4 HS5.out (by omega) hc hcm HT5.out (by omega) (by omega) HK5.out).mono ?_
    rintro e w5 ⟨A6, k6, c6, rfl, hk6, hs6, hb5⟩
    have hbw5 := hbw4.trans (hb5.mono hzw4)
    have hzw5 := hbw5.size
    have HS6 := Lib.hid ((HS.out.below hbw5 (Nat.le_refl _)).more hzw5)
    have HT6 := Lib.hid ((HT.out.below hbw5 (Nat.le_refl _)).more hzw5)
    have HS6d := Lib.hid hs6
    clear hs6
    go_wp2_with fail
    refine (rderive_any A A2 n c n2 c2 key ctx label _ w5 HS6.out (by omega) HT6.out (by omega) (by omega)).mono ?_
    rintro e w6 ⟨A7, k7, c7, rfl, hk7, hs7, hb6⟩
    have hbw6 := hbw5.trans (hb6.mono hzw5)
    have hzw6 := hbw6.size
    obtain rfl : k6 = k7 := by rw [← HS6d.out.1, ← hs7.1]
    have HS7 := Lib.hid hs7
    have HS67 := Lib.hid ((HS6d.out.below hb6 (Nat.le_refl _)).more hb6.size)
    clear hs7
    go_wp2_with fail
    refine (same_self A6 A7 k6 c6 c7 _ w6 HS67.out HS7.out (by omega)).mono ?_
    rintro e w7 ⟨rfl, hb7⟩
    go_wp2_with fail
    go_ret
    exact ⟨rfl, hbw6.trans (hb7.mono hzw6)⟩
end Go.Proofs.YtdgnolmkpfdcmaaDoor
