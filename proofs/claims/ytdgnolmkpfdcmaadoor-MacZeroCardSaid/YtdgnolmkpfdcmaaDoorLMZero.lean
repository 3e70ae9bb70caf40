/-
  The walk of the statement that zero bytes at the end of a short key do not matter.
-/
import Derived.Test.YtdgnolmkpfdcmaaDoorWake2
import Derived.Test.YtdgnolmkpfdcmaaDoorAlike
import Derived.Test.YtdgnolmkpfdcmaaDoorZeros
namespace Go.Proofs.YtdgnolmkpfdcmaaDoor
open Go.RowKit

theorem keyI_zeros (xs : List Int) (m : Nat) (h : xs.length + m ≤ 64) : keyI (xs ++ List.replicate m 0) = keyI xs := by
  have h1 : ¬ 64 < xs.length := by omega
  have h2 : ¬ 64 < (xs ++ List.replicate m (0 : Int)).length := by simp; omega
  rw [keyI, keyI, keyOf, keyOf, if_neg h1, if_neg h2, List.append_assoc, List.replicate_append_replicate]
  congr 2
  simp; omega
theorem macI_zeros (xs ys : List Int) (m : Nat) (h : xs.length + m ≤ 64) : macI (xs ++ List.replicate m 0) ys = macI xs ys := by
  rw [macI, macI, innerI, innerI, keyI_zeros xs m h]

set_option maxRecDepth 100000 in
set_option maxHeartbeats 2000000 in
theorem lawMacZero (A : Option Addr) (n c : Nat) (key : List Int) (A2 : Option Addr) (n2 c2 : Nat) (xs : List Int) (m : Int) (w : World) (hs : Seg w w.heap.size .u8 A n key) (hc : n ≤ c) (hcm : c ≤ 9223372036854775807)
    (ht : Seg w w.heap.size .u8 A2 n2 xs) (_hc2 : n2 ≤ c2) (_hcm2 : c2 ≤ 9223372036854775807) (hK : Tab w 0 .u32 kay256) :
    Calls Tryd.prog 5 #[.slice A n c, .slice A2 n2 c2, .int .i64 m] w fun e w' => e = .returned (.bool true) ∧ Below w.heap.size w w' := by
  obtain ⟨i0, hi, hz0, hz1, hz2⟩ := info_parts Tryd.infoU8
  have HK := Lib.hid hK
  have HS := Lib.hid hs
  have HT := Lib.hid ht
  have h0 : 0 < w.heap.size := hK.lt
  clear hs ht hK
  go_enter Tryd.func5, Tryd.ntmps5
  go_wp2_with fail
  refine (awake2_any w HK.out).mono ?_
  rintro e w1 ⟨rfl, hb1⟩
  have hzb1 := hb1.size
  by_cases hn : 63 < n
  · have hd : decide ((63 : Int) < n) = true := by simp; omega
    go_wp2_with fail
    go_ret
    exact ⟨rfl, hb1⟩
  have hd : decide ((63 : Int) < n) = false := by simp; omega
  by_cases hn2 : 100 < n2
  · have hd2 : decide ((100 : Int) < n2) = true := by simp; omega
    go_wp2_with fail
    go_ret
    exact ⟨rfl, hb1⟩
  have hd2 : decide ((100 : Int) < n2) = false := by simp; omega
  by_cases hm : m < 0
  · have hd3 : decide (m < 0) = true := by simpa using hm
    go_wp2_with fail
    go_ret
    exact ⟨rfl, hb1⟩
  have hd3 : decide (m < 0) = false := by simpa using hm
  by_cases hm2 : (64 : Int) - n < m
  · have hd4 : decide ((64 : Int) - n < m) = true := by simpa using hm2
    go_wp2_with fail
    go_ret
    exact ⟨rfl, hb1⟩
  have hd4 : decide ((64 : Int) - n < m) = false := by simpa using hm2
  obtain ⟨q, rfl⟩ : ∃ q : Nat, m = q := ⟨m.toNat, by omega⟩
  have hq : n + q ≤ 64 := by omega
  go_wp2_with fail
  refine (mac_any A A2 n c n2 c2 key xs w1 ((HS.out.below hb1 (Nat.le_refl _)).more hzb1) (by omega) hc hcm ((HT.out.below hb1 (Nat.le_refl _)).more hzb1) (by omega) (HK.out.below hb1 h0)).mono ?_
  rintro e w2 ⟨v2, rfl, hR2, hb2⟩
  obtain ⟨A3, c3, rfl, _, _⟩ := hR2.cut
  have hbw2 := hb1.trans (hb2.mono hzb1)
  have hzw2 := hbw2.size
  have HS2 := Lib.hid hR2.seg
  clear hR2
  go_wp2_with fail
  refine (copy_any A n c key w2 ((HS.out.below hbw2 (Nat.le_refl _)).more hzw2) (by omega)).mono ?_
  rintro e w3 ⟨v3, rfl, hR3, hb3⟩
  have HR3 := Lib.hid hR3
  have hbw3 := hbw2.trans (hb3.mono hzw2)
  have hzw3 := hb3.size
  have HS3 := Lib.hid (HS2.out.below hb3 (Nat.le_refl _))
  clear hR3
  go_wp2_with (at_builtin; refine wpList_appz _ rfl (.tmp 32) (.tmp 33) 22 3 rfl w2.heap.size 5 i0 .u8 .i64 .i64 Tryd.underlying22 Tryd.underlying3 hi hz0 hz1 hz2 v3 n q key rfl HR3.out _ rfl rfl (by omega) hzw3 ?_; intro v4 w4 hR4 hg4; have hb4 : Below w2.heap.size w2 w4 := own_below HR3.out.own hg4 hb3 hzw3)
  obtain ⟨A4, c4, rfl, hc4, hcm4⟩ := hR4.cut
  unfold maxLen at hcm4
  have hbw4 := hbw2.trans (hb4.mono hzw2)
  have hzw4 := hb4.size
  have hzw4' := hbw4.size
  have HS4 := Lib.hid hR4.seg
  have HS24 := Lib.hid ((HS2.out.below hb4 (Nat.le_refl _)).more hzw4)
  clear hR4 hg4
  go_wp2_with fail
  refine (mac_any A4 A2 (n + q) c4 n2 c2 _ xs w4 HS4.out (by omega) hc4 (by omega) ((HT.out.below hbw4 (Nat.le_refl _)).more hzw4') (by omega) (HK.out.below hbw4 h0)).mono ?_
  rintro e w5 ⟨v5, rfl, hR5, hb5⟩
  obtain ⟨A5, c5, rfl, _, _⟩ := hR5.cut
  rw [macI_zeros key xs q (by rw [HS.out.1]; exact hq)] at hR5
  have HS5 := Lib.hid hR5.seg
  have HS25 := Lib.hid ((HS24.out.below hb5 (Nat.le_refl _)).more hb5.size)
  have hbw5 := hbw4.trans (hb5.mono hzw4')
  clear hR5
  go_wp2_with fail
  refine (same_self A3 A5 32 c3 c5 _ w5 HS25.out HS5.out (by omega)).mono ?_
  rintro e w6 ⟨rfl, hb6⟩
  go_wp2_with fail
  go_ret
  exact ⟨rfl, hbw5.trans (hb6.mono hbw5.size)⟩
end Go.Proofs.YtdgnolmkpfdcmaaDoor
