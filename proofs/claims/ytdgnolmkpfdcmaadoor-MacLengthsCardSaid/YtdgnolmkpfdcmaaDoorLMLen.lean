/-
  The walk of the statement on how many bytes are derived.
-/
import Derived.Test.YtdgnolmkpfdcmaaDoorWake2
import Derived.Test.YtdgnolmkpfdcmaaDoorDerive
namespace Go.Proofs.YtdgnolmkpfdcmaaDoor
open Go.RowKit

/-- The label "x". -/
def labelX : ByteArray := { data := #[120] }

theorem derive_len (A : Option Addr) (n c : Nat) (key : List Int) (m : Int) (w : World) (hs : Seg w w.heap.size .u8 A n key) (hn : n ≤ 1048576) (hc : n ≤ c) (hcm : c ≤ 9223372036854775807) (hK : Tab w 0 .u32 kay256)
    (k : Nat) (hk : (k : Int) = if m < 1 ∨ 1024 < m then 0 else m) :
    Calls Tryd.prog 15 #[.slice A n c, .string labelX, .slice none 0 0, .int .i64 m] w
      fun e w' => ∃ A' c', e = .returned (.slice A' k c') ∧ Below w.heap.size w w' := by
  refine (derive_any A none n c 0 0 key [] labelX m w hs hn hc hcm (Seg.nil _ _ _ _) (by omega) (show (1 : Nat) ≤ 1048576 by omega) hK).mono ?_
  rintro e w' ⟨A', k', c', rfl, _, h, hb⟩
  have h1 := deriveI_length key (strI labelX) [] m
  rw [h.1] at h1
  obtain rfl : k = k' := by omega
  exact ⟨A', c', rfl, hb⟩

set_option maxRecDepth 100000 in
set_option maxHeartbeats 2000000 in
theorem lawMacLengths (A : Option Addr) (n c : Nat) (key : List Int) (m : Int) (w : World) (hs : Seg w w.heap.size .u8 A n key) (hc : n ≤ c) (hcm : c ≤ 9223372036854775807) (hK : Tab w 0 .u32 kay256) :
    Calls Tryd.prog 7 #[.slice A n c, .int .i64 m] w fun e w' => e = .returned (.bool true) ∧ Below w.heap.size w w' := by
  have HK := Lib.hid hK
  have HS := Lib.hid hs
  have h0 : 0 < w.heap.size := hK.lt
  clear hs hK
  go_enter Tryd.func7, Tryd.ntmps7
  go_wp2_with fail
  refine (awake2_any w HK.out).mono ?_
  rintro e w1 ⟨rfl, hb1⟩
  have hzb1 := hb1.size
  by_cases hn : 100 < n
  · have hd : decide ((100 : Int) < n) = true := by simp; omega
    go_wp2_with fail
    go_ret
    exact ⟨rfl, hb1⟩
  have hd : decide ((100 : Int) < n) = false := by simp; omega
  have HS1 := Lib.hid ((HS.out.below hb1 (Nat.le_refl _)).more hzb1)
  have HK1 := Lib.hid (HK.out.below hb1 h0)
  rcases (by omega : m < 1 ∨ (1 ≤ m ∧ 1024 < m) ∨ (1 ≤ m ∧ m ≤ 1024)) with hm | ⟨hm, hm2⟩ | ⟨hm, hm2⟩
  focus
    have hd1 : decide (m < 1) = true := by simpa using hm
    go_wp2_with fail
    refine (derive_len A n c key m w1 HS1.out (by omega) hc hcm HK1.out 0 (by rw [if_pos (.inl hm)]; rfl)).mono ?_
    rintro e w2 ⟨A2, c2, rfl, hb2⟩
    clear hd1
    go_wp2_with fail
  rotate_left
  focus
    have hd1 : decide (m < 1) = false := by simp; omega
    have hd2 : decide (1024 < m) = true := by simpa using hm2
    go_wp2_with fail
    refine (derive_len A n c key m w1 HS1.out (by omega) hc hcm HK1.out 0 (by rw [if_pos (.inr hm2)]; rfl)).mono ?_
    rintro e w2 ⟨A2, c2, rfl, hb2⟩
    clear hd1 hd2
    go_wp2_with fail
  rotate_left
  focus
    have hd1 : decide (m < 1) = false := by simp; omega
    have hd2 : decide (1024 < m) = false := by simp; omega
    obtain ⟨q, rfl⟩ : ∃ q : Nat, m = q := ⟨m.toNat, by omega⟩
    go_wp2_with fail
    refine (derive_len A n c key (q : Int) w1 HS1.out (by omega) hc hcm HK1.out q (by rw [if_neg (by omega)])).mono ?_
    rintro e w2 ⟨A2, c2, rfl, hb2⟩
    clear hd1 hd2
    go_wp2_with fail
  rotate_left
  all_goals
    have hbw2 := hb1.trans (hb2.mono hzb1)
    have hzw2 := hbw2.size
    have HS2 := Lib.hid ((HS.out.below hbw2 (Nat.le_refl _)).more hzw2)
    have HK2 := Lib.hid (HK.out.below hbw2 h0)
    refine (derive_len A n c key 1024 w2 HS2.out (by omega) hc hcm HK2.out 1024 rfl).mono ?_
    rintro e w3 ⟨A3, c3, rfl, hb3⟩
    have hbw3 := hbw2.trans (hb3.mono hzw2)
    have hzw3 := hbw3.size
    have HS3 := Lib.hid ((HS.out.below hbw3 (Nat.le_refl _)).more hzw3)
    have HK3 := Lib.hid (HK.out.below hbw3 h0)
    go_wp2_with fail
    refine (derive_len A n c key 1025 w3 HS3.out (by omega) hc hcm HK3.out 0 rfl).mono ?_
    rintro e w4 ⟨A4, c4, rfl, hb4⟩
    have hbw4 := hbw3.trans (hb4.mono hzw3)
    have hzw4 := hbw4.size
    have HS4 := Lib.hid ((HS.out.below hbw4 (Nat.le_refl _)).more hzw4)
    have HK4 := Lib.hid (HK.out.below hbw4 h0)
    go_wp2_with fail
    refine (derive_len A n c key 0 w4 HS4.out (by omega) hc hcm HK4.out 0 rfl).mono ?_
    rintro e w5 ⟨A5, c5, rfl, hb5⟩
    go_wp2_with fail
    go_ret
    exact ⟨rfl, hbw4.trans (hb5.mono hzw4)⟩
end Go.Proofs.YtdgnolmkpfdcmaaDoor
