/-
  The walk of the statement that a key of more than 64 bytes is replaced by its digest, and one of at most 64 bytes is not.
-/
import Derived.Test.YtdgnolmkpfdcmaaDoorWake2
import Derived.Test.YtdgnolmkpfdcmaaDoorRMac
import Derived.Test.YtdgnolmkpfdcmaaDoorAlike
namespace Go.Proofs.YtdgnolmkpfdcmaaDoor
open Go.RowKit

theorem keyI_long (xs : List Int) (h : 64 < xs.length) : keyI (sha256 xs) = keyI xs := by
  have h2 : ¬ 64 < (sha256 xs).length := by rw [sha256_length]; omega
  rw [keyI, keyI, keyOf, keyOf, if_neg h2, if_pos h]
theorem macI_long (xs ys : List Int) (h : 64 < xs.length) : macI (sha256 xs) ys = macI xs ys := by
  rw [macI, macI, innerI, innerI, keyI_long xs h]

set_option maxRecDepth 100000 in
set_option maxHeartbeats 4000000 in
theorem lawMacLong (x : Int) (m : Int) (A2 : Option Addr) (n2 c2 : Nat) (xs : List Int) (w : World)
    (ht : Seg w w.heap.size .u8 A2 n2 xs) (_hc2 : n2 ≤ c2) (_hcm2 : c2 ≤ 9223372036854775807) (hK : Tab w 0 .u32 kay256) :
    Calls Tryd.prog 4 #[.int .u8 x, .int .i64 m, .slice A2 n2 c2] w fun e w' => e = .returned (.bool true) ∧ Below w.heap.size w w' := by
  obtain ⟨i0, hi, hz0, hz1, hz2⟩ := info_parts Tryd.infoU8
  have HK := Lib.hid hK
  have HT := Lib.hid ht
  have h0 : 0 < w.heap.size := hK.lt
  clear ht hK
  go_enter Tryd.func4, Tryd.ntmps4
  go_wp2_with fail
  refine (awake2_any w HK.out).mono ?_
  rintro e w1 ⟨rfl, hb1⟩
  have hzb1 := hb1.size
  by_cases hm : m < 0
  · have hd : decide (m < 0) = true := by simpa using hm
    go_wp2_with fail
    go_ret
    exact ⟨rfl, hb1⟩
  have hd : decide (m < 0) = false := by simpa using hm
  by_cases hm2 : 150 < m
  · have hd2 : decide (150 < m) = true := by simpa using hm2
    go_wp2_with fail
    go_ret
    exact ⟨rfl, hb1⟩
  have hd2 : decide (150 < m) = false := by simpa using hm2
  by_cases hn2 : 100 < n2
  · have hd3 : decide ((100 : Int) < n2) = true := by simp; omega
    go_wp2_with fail
    go_ret
    exact ⟨rfl, hb1⟩
  have hd3 : decide ((100 : Int) < n2) = false := by simp; omega
  obtain ⟨n, rfl⟩ : ∃ n : Nat, m = n := ⟨m.toNat, by omega⟩
  have hn : n ≤ 150 := by omega
  go_wp2_with (at_make; refine wpList_make_row _ rfl _ _ 22 rfl 5 i0 (.int .u8 0) Tryd.underlying22 hi hz0 hz1 rfl .i64 .i64 n rfl rfl (by rw [hz2]; omega) (by omega) ?_)
  rw [made_zeros]
  generalize hwq : World.alloc _ _ = wq
  have hbq : Below w.heap.size w wq := by rw [← hwq]; exact hb1.alloc hzb1 _
  have hBq : Blk wq w1.heap.size 5 .u8 (List.replicate n 0) := by rw [← hwq]; exact Blk.new w1 _ .u8 _
  obtain ⟨g, HG⟩ : ∃ g, Hid (w1.heap.size = g) := ⟨_, rfl⟩
  rw [HG.out] at hBq hzb1 ⊢
  clear hwq hd hd2 hd3
  go_wp2_with fail
  go_loopw [8] (fun i wr => ∃ (k : Nat) (ys : List Int), k ≤ n ∧ i = .int .i64 k ∧ Hid (ys.length = n) ∧ Blk wr g 5 .u8 ys ∧ Below w.heap.size w wr) (fun i _ => n - (intOf i).toNat)
  case atStart => exact ⟨0, _, by omega, rfl, by show _ = _; simp, hBq, hbq⟩
  case round =>
    clear hBq hbq
    obtain ⟨k, ys, hk, rfl, HL, hB, hb⟩ := hrel
    have hz := hb.size
    by_cases hlt : k < n
    · have hd : decide ((k : Int) < n) = true := by simp; omega
      have hc := hB.cell k (by rw [HL.out]; exact hlt)
      have hf := hB.frozen k
      go_wp2_with fail
      go_roundw
      case measure => simp [intOf]; omega
      case rel => exact ⟨k + 1, _, by omega, by go_num, by show _ = _; rw [List.length_set]; exact HL.out, hB.set_ k _, hb.setCell hzb1 _⟩
    · have hd : decide ((k : Int) < n) = false := by simp; omega
      have hs := Seg.of_blk hB
      rw [HL.out] at hs
      have HSr := Lib.hid hs
      have HKr := Lib.hid (HK.out.below hb h0)
      clear hs
      go_wp2_with fail
      refine (mac_any _ A2 n n n2 c2 ys xs wr HSr.out (by omega) (Nat.le_refl _) (by omega) ((HT.out.below hb (Nat.le_refl _)).more hz) (by omega) HKr.out).mono ?_
      rintro e w2 ⟨v2, rfl, hR2, hb2⟩
      obtain ⟨A3, c3, rfl, _, _⟩ := hR2.cut
      have hbw2 := hb.trans (hb2.mono hz)
      have hzw2 := hb2.size
      have HS2 := Lib.hid hR2.seg
      have HSk2 := Lib.hid ((HSr.out.below hb2 (Nat.le_refl _)).more hzw2)
      clear hR2
      go_wp2_with fail
      refine (rsum256_any _ n n ys w2 HSk2.out (by omega)).mono ?_
      rintro e w3 ⟨v3, rfl, hown3, hb3⟩
      have hR3 := hown3.row (sha256_length ys)
      obtain ⟨A4, c4, rfl, hc4, hcm4⟩ := hR3.cut
      unfold maxLen at hcm4
      have hbw3 := hbw2.trans (hb3.mono hbw2.size)
      have hzw3 := hb3.size
      have hzw3' := hbw3.size
      have HS3 := Lib.hid hR3.seg
      have HS23 := Lib.hid ((HS2.out.below hb3 (Nat.le_refl _)).more hzw3)
      have HSk3 := Lib.hid ((HSk2.out.below hb3 (Nat.le_refl _)).more hzw3)
      clear hR3 hown3
      go_wp2_with fail
      refine (mac_any A4 A2 32 c4 n2 c2 _ xs w3 HS3.out (by omega) hc4 (by omega) ((HT.out.below hbw3 (Nat.le_refl _)).more hzw3') (by omega) (HK.out.below hbw3 h0)).mono ?_
      rintro e w4 ⟨v4, rfl, hR4, hb4⟩
      obtain ⟨A5, c5, rfl, _, _⟩ := hR4.cut
      have hbw4 := hbw3.trans (hb4.mono hzw3')
      have hzw4 := hb4.size
      have hzw4' := hbw4.size
      have HS4 := Lib.hid hR4.seg
      have HS24 := Lib.hid ((HS23.out.below hb4 (Nat.le_refl _)).more hzw4)
      have HSk4 := Lib.hid ((HSk3.out.below hb4 (Nat.le_refl _)).more hzw4)
      clear hR4
      go_wp2_with fail
      refine (same_any A3 A5 32 c3 32 c5 _ _ w4 HS24.out HS4.out (by omega)).mono ?_
      rintro e w5 ⟨rfl, q, hq⟩
      have hb5 : Below w4.heap.size w4 w5 := by rw [hq]; exact below_drewN (Below.refl _ _) q
      have hbw5 := hbw4.trans (hb5.mono hzw4')
      have hzw5 := hb5.size
      have hzw5' := hbw5.size
      have HSk5 := Lib.hid ((HSk4.out.below hb5 (Nat.le_refl _)).more hzw5)
      obtain ⟨bl, HBL⟩ : ∃ bl, Hid (sameB (macI ys xs) (macI (sha256 ys) xs) = bl) := ⟨_, rfl⟩
      have HBT : 64 < n → bl = true := fun h => by
        rw [← HBL.out, macI_long ys xs (by rw [HL.out]; exact h), sameB_self]
      rw [HBL.out]
      clear hq
      go_wp2_with fail
      refine (mac_any _ A2 n n n2 c2 ys xs w5 HSk5.out (by omega) (Nat.le_refl _) (by omega) ((HT.out.below hbw5 (Nat.le_refl _)).more hzw5') (by omega) (HK.out.below hbw5 h0)).mono ?_
      rintro e w6 ⟨v6, rfl, hR6, hb6⟩
      obtain ⟨A7, c7, rfl, _, _⟩ := hR6.cut
      have hbw6 := hbw5.trans (hb6.mono hzw5')
      have hzw6 := hb6.size
      have hzw6' := hbw6.size
      have HS6 := Lib.hid hR6.seg
      have HSk6 := Lib.hid ((HSk5.out.below hb6 (Nat.le_refl _)).more hzw6)
      clear hR6
      go_wp2_with fail
      refine (rmac_any _ A2 n n n2 c2 ys xs w6 HSk6.out (by omega) ((HT.out.below hbw6 (Nat.le_refl _)).more hzw6') (by omega)).mono ?_
      rintro e w7 ⟨v7, rfl, hR7, hb7⟩
      obtain ⟨A8, c8, rfl, _, _⟩ := hR7.cut
      have hbw7 := hbw6.trans (hb7.mono hzw6')
      have hzw7 := hb7.size
      have HS7 := Lib.hid hR7.seg
      have HS67 := Lib.hid ((HS6.out.below hb7 (Nat.le_refl _)).more hzw7)
      clear hR7
      go_wp2_with fail
      refine (same_self A7 A8 32 c7 c8 _ w7 HS67.out HS7.out (by omega)).mono ?_
      rintro e w8 ⟨rfl, hb8⟩
      have hbw8 := hbw7.trans (hb8.mono hbw7.size)
      by_cases hlong : 64 < n
      · have hd : decide ((n : Int) ≤ 64) = false := by simp; omega
        obtain rfl := HBT hlong
        clear HBT
        go_wp2_with fail
        go_ret
        exact ⟨rfl, hbw8⟩
      · have hd : decide ((n : Int) ≤ 64) = true := by simp; omega
        clear HBT
        go_wp2_with fail
        go_ret
        exact ⟨rfl, hbw8⟩
end Go.Proofs.YtdgnolmkpfdcmaaDoor
