/-
  The walk of the statement that keys and signatures of a wrong length, height or leaf do not verify.
-/
import Derived.Test.YtljkkejjnimjcaaDoorBase13
import Derived.Test.YtljkkejjnimjcaaDoorBase9
import Derived.Test.YtljkkejjnimjcaaDoorBase1
namespace Go.Proofs.YtljkkejjnimjcaaDoor
open Go.RowKit

theorem and8_mask (h : Int) : 0 ≤ bits .and .u8 h 127 ∧ bits .and .u8 h 127 ≤ 127 := by
  have hw : ∀ n : Int, IntKind.u8.wrap n = n % 256 := fun n => by simp [IntKind.wrap, IntKind.bits, IntKind.signed]
  have e : bits .and .u8 h 127 = IntKind.u8.wrap (((BitVec.ofInt 8 h &&& BitVec.ofInt 8 127).toNat : Nat) : Int) := rfl
  have h2 : (BitVec.ofInt 8 h &&& BitVec.ofInt 8 127).toNat ≤ 127 := by
    rw [BitVec.toNat_and, show (BitVec.ofInt 8 127).toNat = 127 by decide]
    exact Nat.and_le_right
  rw [e, hw]
  omega
/-- What becomes of the key and the signature of height 0 under a wrong length, height or leaf. -/
theorem forms7 (seed msg : List Int) : ∃ P S, P = pub7 seed 0 ∧ S = sig7 seed 0 0 msg ∧ P.length = 17 ∧ S.length = 561 ∧ InB P ∧ InB S ∧
    (∀ n : Nat, ver7 (P ++ List.replicate n 0) msg S = (0, decide (n = 0))) ∧ (∀ m : Nat, m ≤ 561 → ver7 P msg (S.take m) = (0, decide (m = 561))) ∧
    (∀ h : Int, 0 ≤ h → ver7 (h :: P.drop 1) msg S = (0, decide (h = 0))) ∧ (∀ h : Int, 1 ≤ h → ver7 P msg (h :: S.drop 1) = (0, false)) := by
  obtain ⟨ht1, ht2, ht3⟩ := trip7 seed msg 0 0 (by omega) (by decide)
  have ht1 : ver7 (pub7 seed 0) msg (sig7 seed 0 0 msg) = (0, true) := ht1
  have ht2 : (sig7 seed 0 0 msg).length = 561 := ht2
  have ht3 : (pub7 seed 0).length = 17 := ht3
  have hP0 : ∃ R, pub7 seed 0 = 0 :: R := ⟨_, by rw [pub7, if_neg (by omega)]; rfl⟩
  have hBP := inB_pub7 seed 0
  have hBS := inB_sig7 seed msg 0 0
  refine ⟨_, _, rfl, rfl, ht3, ht2, hBP, hBS, ?_⟩
  generalize pub7 seed 0 = P at ht1 ht3 hP0
  generalize sig7 seed 0 0 msg = S at ht1 ht2
  obtain ⟨R, rfl⟩ := hP0
  refine ⟨fun n => ?_, fun m hm => ?_, fun h h0 => ?_, fun h h1 => ?_⟩
  · by_cases hn : n = 0
    · subst hn
      rw [List.replicate_zero, List.append_nil, ht1]
      rfl
    · rw [ver7, if_pos (by rw [List.length_append, ht3, List.length_replicate]; omega)]
      simp [hn]
  · by_cases hm2 : m = 561
    · subst hm2
      rw [List.take_of_length_le (by omega), ht1]
      rfl
    · have e : (0 :: R : List Int).getD 0 0 = 0 := rfl
      rw [ver7, if_neg (by rw [ht3, e]; omega), e, if_pos (by rw [List.length_take, ht2]; simp; omega)]
      simp [hm2]
  · by_cases h2 : h = 0
    · subst h2
      rw [List.drop_succ_cons, List.drop_zero, ht1]
      rfl
    · have e : (h :: (0 :: R : List Int).drop 1).getD 0 0 = h := rfl
      have hl : (h :: (0 :: R : List Int).drop 1).length = 17 := by rw [List.length_cons, List.length_drop, ht3]
      have hd : decide (h = 0) = false := by simpa using h2
      rw [ver7, hd]
      by_cases h3 : 3 < h
      · rw [if_pos (by rw [e]; exact .inr h3)]
      · rw [if_neg (by rw [e, hl]; omega), e, if_pos (by rw [ht2]; omega)]
  · have e : (0 :: R : List Int).getD 0 0 = 0 := rfl
    have e2 : (h :: S.drop 1).getD 0 0 = h := rfl
    rw [ver7, if_neg (by rw [ht3, e]; omega), e, if_pos (by rw [e2]; right; simpa using h1)]

/-- A byte that a call has laid, as a row. -/
theorem byte_row (w : World) (x : Int) : Row (w.alloc (.cells #[.int .u8 x] 5)) w.heap.size 5 .u8 (.slice (some ⟨w.heap.size, 0, none⟩) 1 1) 1 [x] :=
  (Own.of_blk (B := w.heap.size) (Blk.new w 5 .u8 [x]) (Nat.le_refl _) (by unfold maxLen; simp)).row rfl
theorem cut_rest (b n c : Nat) (hn : 1 ≤ n) (hc : 2 ≤ c) (W : World) : (Instr.slice 22 (.slice (some ⟨b, 0, none⟩) n c) (some (.int .i64 1)) none none).run Tryd.prog W = .ok (.slice (some ⟨b, 0 + 1, none⟩) (n - 1) (c - 1)) W := by
  have h := slice_from (some ⟨b, 0, none⟩) n c 1 hn W
  rw [if_neg (by omega)] at h
  simpa [addr_add] using h

set_option maxRecDepth 100000 in
set_option maxHeartbeats 4000000 in
theorem lawSignerForms (A : Option Addr) (n c : Nat) (seed : List Int) (A4 : Option Addr) (n4 c4 : Nat) (msg : List Int) (A5 : Option Addr) (n5 c5 : Nat) (raw : List Int) (zn zm h : Int) (w : World) (hs : Seg w w.heap.size .u8 A n seed) (_hc : n ≤ c) (_hm : c ≤ 9223372036854775807)
    (ht : Seg w w.heap.size .u8 A4 n4 msg) (hc4 : n4 ≤ c4) (hm4 : c4 ≤ 9223372036854775807) (ho : Seg w w.heap.size .u8 A5 n5 raw) (hc5 : n5 ≤ c5) (hm5 : c5 ≤ 9223372036854775807) (hraw : InB raw) (hh0 : 0 ≤ h) (hh1 : h < 256) (hK : Tab w 0 .u32 kay256) :
    Calls Tryd.prog 7 #[.slice A n c, .slice A4 n4 c4, .slice A5 n5 c5, .int .i64 zn, .int .i64 zm, .int .u8 h] w fun e w' => e = .returned (.bool true) ∧ Below w.heap.size w w' := by
  obtain ⟨i0, hi, hz0, hz1, hz2⟩ := info_parts Tryd.infoU8
  have HS := Lib.hid hs
  have HT := Lib.hid ht
  have HO := Lib.hid ho
  have HRAW := Lib.hid hraw
  have HK := Lib.hid hK
  have hw0 := hK.lt
  clear hs hK ht ho hraw
  go_enter Tryd.func7, Tryd.ntmps7
  go_wp2_with fail
  refine (awake7_any w HK.out).mono ?_
  rintro e w1 ⟨rfl, hb1⟩
  have hbw1 := hb1
  have hz1' := hb1.size
  clear hb1
  go_wp2_with fail
  refine (short7_any A A4 n c n4 c4 w1).mono ?_
  rintro e w' ⟨rfl, rfl⟩
  cases hsh : (decide (n ≤ 100) && decide (n4 ≤ 100)) with
  | false => ?_
  | true => ?_
  · go_wp2_with fail
    go_ret
    exact ⟨rfl, hbw1⟩
  have hn : n ≤ 100 := by simp at hsh; omega
  have hn4 : n4 ≤ 100 := by simp at hsh; omega
  clear hsh
  by_cases g1 : 600 < n5
  · have d1 : decide ((600 : Int) < n5) = true := by simp; omega
    go_wp2_with fail
    go_ret
    exact ⟨rfl, hbw1⟩
  have d1 : decide ((600 : Int) < n5) = false := by simp; omega
  by_cases g2 : zn < 0
  · have d2 : decide (zn < 0) = true := by simpa using g2
    go_wp2_with fail
    go_ret
    exact ⟨rfl, hbw1⟩
  have d2 : decide (zn < 0) = false := by simpa using g2
  by_cases g3 : 20 < zn
  · have d3 : decide (20 < zn) = true := by simpa using g3
    go_wp2_with fail
    go_ret
    exact ⟨rfl, hbw1⟩
  have d3 : decide (20 < zn) = false := by simpa using g3
  by_cases g4 : zm < 0
  · have d4 : decide (zm < 0) = true := by simpa using g4
    go_wp2_with fail
    go_ret
    exact ⟨rfl, hbw1⟩
  have d4 : decide (zm < 0) = false := by simpa using g4
  by_cases g5 : 561 < zm
  · have d5 : decide (561 < zm) = true := by simpa using g5
    go_wp2_with fail
    go_ret
    exact ⟨rfl, hbw1⟩
  have d5 : decide (561 < zm) = false := by simpa using g5
  obtain ⟨Z, rfl⟩ : ∃ Z : Nat, zn = Z := ⟨zn.toNat, by omega⟩
  obtain ⟨M, rfl⟩ : ∃ M : Nat, zm = M := ⟨zm.toNat, by omega⟩
  have hZ : Z ≤ 20 := by omega
  have hn5 : n5 ≤ 600 := by omega
  have hM : M ≤ 561 := by omega
  obtain ⟨P, S, hP, hS, hPl, hSl, hBP, hBS, v1, v2, v3, v4⟩ := forms7 seed msg
  have HP := Lib.hid hP
  have HSG := Lib.hid hS
  have HPL := Lib.hid hPl
  have HSL := Lib.hid hSl
  have HBP := Lib.hid hBP
  have HBS := Lib.hid hBS
  have HV1 := Lib.hid (v1 Z)
  have HV2 := Lib.hid (v2 M hM)
  have HV3 := Lib.hid (v3 h hh0)
  have hand := and8_mask h
  obtain ⟨q, hq⟩ : ∃ q, bits .and .u8 h 127 = q := ⟨_, rfl⟩
  rw [hq] at hand
  have HV4 := Lib.hid (v4 (1 + q) (by omega))
  have hwq : IntKind.u8.wrap (1 + q) = 1 + q := by simp [IntKind.wrap, IntKind.bits, IntKind.signed]; omega
  have HQ := Lib.hid hand
  clear hP hS hPl hSl hBP hBS v1 v2 v3 v4 g1 g2 g3 g4 g5 hand
  go_wp2_with fail
  refine (rpub7_any A n c seed 0 w1 ((HS.out.below hbw1 (Nat.le_refl _)).more hz1') (by omega)).mono ?_
  rw [← HP.out]
  rintro e w2 ⟨vp, kp, rfl, hkp, hRp, hb2⟩
  have hk : kp = 17 := by rw [← hRp.length]; exact HPL.out
  rw [hk] at hRp
  obtain ⟨gp, cp, rfl, _⟩ := hRp.at_ (by omega)
  have hcp := hRp.caps
  have HRP := Lib.hid hRp.seg
  have hbw2 := hbw1.trans (hb2.mono hz1')
  have hz2' := hbw2.size
  clear hRp hk hkp hb2
  go_wp2_with fail
  refine (rsig7_any A A4 n c n4 c4 seed msg 0 0 w2 ((HS.out.below hbw2 (Nat.le_refl _)).more hz2') (by omega) ((HT.out.below hbw2 (Nat.le_refl _)).more hz2') (by omega) hc4 hm4).mono ?_
  rw [← HSG.out]
  rintro e w3 ⟨vs, ks, rfl, hks, hRs, hb3⟩
  have hk : ks = 561 := by rw [← hRs.length]; exact HSL.out
  rw [hk] at hRs
  obtain ⟨gs, cs, rfl, _⟩ := hRs.at_ (by omega)
  have hcs := hRs.caps
  have HRS := Lib.hid hRs.seg
  have HRP3 := Lib.hid (HRP.out.up hb3)
  have hbw3 := hbw2.trans (hb3.mono hz2')
  have hz3' := hbw3.size
  obtain ⟨hcp1, hcp2⟩ := hcp
  obtain ⟨hcs1, hcs2⟩ := hcs
  unfold maxLen at hcp2 hcs2
  clear hRs hk hks hb3 HRP
  go_wp2_with fail
  refine (copy_any _ 17 cp P w3 HRP3.out (by omega)).mono ?_
  rintro e w4 ⟨v4, rfl, hR4, hb4⟩
  have HR4 := Lib.hid hR4
  clear hR4
  go_wp2_with (at_builtin; refine wpList_appz _ rfl (.tmp 61) (.tmp 62) 22 3 rfl w3.heap.size 5 i0 .u8 .i64 .i64 Tryd.underlying22 Tryd.underlying3 hi hz0 hz1 hz2 _ 17 Z P rfl HR4.out (Z : Int) rfl rfl (by omega) hb4.size ?_; intro v5 w5 hR5 hg5; have hb35 : Below w3.heap.size w3 w5 := own_below HR4.out.own hg5 hb4 hb4.size; have HR5 := Lib.hid hR5; clear hR5 hg5)
  obtain ⟨A6, c6, rfl, hc6, hm6⟩ := HR5.out.cut
  unfold maxLen at hm6
  have hbw5 := hbw3.trans (hb35.mono hz3')
  have hz5 := hbw5.size
  have HBZ : Hid (InB (P ++ List.replicate Z 0)) := inB_append HBP.out (fun y hy => by have := List.eq_of_mem_replicate hy; omega)
  have HS5 := Lib.hid (HRS.out.up hb35)
  have HP5 := Lib.hid (HRP3.out.up hb35)
  clear hb4 HR4 hb35
  refine (wver7_any A6 A4 _ (17 + Z) c6 n4 c4 561 cs (P ++ List.replicate Z 0) msg S w5 HR5.out.seg (by omega) hc6 (by omega) HBZ.out ((HT.out.below hbw5 (Nat.le_refl _)).more hz5) (by omega) hc4 hm4 HS5.out (by omega) hcs1 (by omega) HBS.out (HK.out.below hbw5 hw0)).mono ?_
  rw [HV1.out]
  rintro e w6 ⟨rfl, hb6⟩
  have hbw6 := hbw5.trans (hb6.mono hz5)
  have hz6 := hbw6.size
  have HS6 := Lib.hid (HS5.out.up hb6)
  have HP6 := Lib.hid (HP5.out.up hb6)
  have hsl := slice_to (some ⟨gs, 0, none⟩) 561 cs M (by omega)
  clear hb6 HR5
  go_wp2_with fail
  clear hsl
  refine (wver7_any _ A4 _ 17 cp n4 c4 M cs P msg (S.take M) w6 HP6.out (by omega) hcp1 (by omega) HBP.out ((HT.out.below hbw6 (Nat.le_refl _)).more hz6) (by omega) hc4 hm4 (HS6.out.take (by omega)) (by omega) (by omega) (by omega) (HBS.out.take _) (HK.out.below hbw6 hw0)).mono ?_
  rw [HV2.out]
  rintro e w7 ⟨rfl, hb7⟩
  have hbw7 := hbw6.trans (hb7.mono hz6)
  have hz7 := hbw7.size
  have HS7 := Lib.hid (HS6.out.up hb7)
  have HP7 := Lib.hid (HP6.out.up hb7)
  have hsl := cut_rest gp 17 cp (by omega) (by omega)
  have hbl := below_new w7 (.cells #[.int .u8 h] 5)
  have HROW := Lib.hid (byte_row w7 h)
  have HD7 := Lib.hid ((HP7.out.up hbl).part 1 16 (by omega))
  have HDE : Hid ((P.drop 1).take 16 = P.drop 1) := by show _ = _; rw [List.take_of_length_le (by rw [List.length_drop, HPL.out]; omega)]
  rw [HDE.out] at HD7
  clear hb7
  go_wp2_with (at_builtin; refine wpList_app _ rfl (.tmp 80) (.tmp 82) 22 rfl w7.heap.size 5 i0 (.int .u8 0) 1 Tryd.underlying22 hi hz0 hz1 hz2 rfl .u8 _ [h] rfl HROW.out.own _ (some ⟨gp, 0 + 1, none⟩) 16 (cp - 1) (P.drop 1) rfl HD7.out (by unfold maxLen; simp) (by simp) hbl.size ?_; intro v8 w8 hown8 hg8 hor8; have hb78 : Below w7.heap.size w7 w8 := own_below HROW.out.own hg8 hbl hbl.size; have HR8 := Lib.hid (hown8.row (n := 17) (by rw [List.length_append, List.length_drop, HPL.out]; rfl)); clear hown8 hg8 hor8)
  obtain ⟨A8, c8, rfl, hc8, hm8⟩ := HR8.out.cut
  unfold maxLen at hm8
  have hbw8 := hbw7.trans (hb78.mono hz7)
  have hz8 := hbw8.size
  have HS8 := Lib.hid (HS7.out.up hb78)
  have HP8 := Lib.hid (HP7.out.up hb78)
  have HB8 : Hid (InB (h :: P.drop 1)) := inB_cons ⟨hh0, hh1⟩ (fun y hy => HBP.out y (List.mem_of_mem_drop hy))
  clear hb78 HROW HD7 hbl hsl
  refine (wver7_any A8 A4 _ 17 c8 n4 c4 561 cs (h :: P.drop 1) msg S w8 HR8.out.seg (by omega) hc8 (by omega) HB8.out ((HT.out.below hbw8 (Nat.le_refl _)).more hz8) (by omega) hc4 hm4 HS8.out (by omega) hcs1 (by omega) HBS.out (HK.out.below hbw8 hw0)).mono ?_
  rw [HV3.out]
  rintro e w9 ⟨rfl, hb9⟩
  have hbw9 := hbw8.trans (hb9.mono hz8)
  have hz9 := hbw9.size
  have HS9 := Lib.hid (HS8.out.up hb9)
  have HP9 := Lib.hid (HP8.out.up hb9)
  have hsl := cut_rest gs 561 cs (by omega) (by omega)
  have hbl := below_new w9 (.cells #[.int .u8 (1 + q)] 5)
  have HROW := Lib.hid (byte_row w9 (1 + q))
  have HD9 := Lib.hid ((HS9.out.up hbl).part 1 560 (by omega))
  have HDE2 : Hid ((S.drop 1).take 560 = S.drop 1) := by show _ = _; rw [List.take_of_length_le (by rw [List.length_drop, HSL.out]; omega)]
  rw [HDE2.out] at HD9
  clear hb9 HR8
  go_wp2_with (at_builtin; refine wpList_app _ rfl (.tmp 95) (.tmp 97) 22 rfl w9.heap.size 5 i0 (.int .u8 0) 1 Tryd.underlying22 hi hz0 hz1 hz2 rfl .u8 _ [1 + q] rfl HROW.out.own _ (some ⟨gs, 0 + 1, none⟩) 560 (cs - 1) (S.drop 1) rfl HD9.out (by unfold maxLen; simp) (by simp) hbl.size ?_; intro v10 w10 hown10 hg10 hor10; have hb910 : Below w9.heap.size w9 w10 := own_below HROW.out.own hg10 hbl hbl.size; have HR10 := Lib.hid (hown10.row (n := 561) (by rw [List.length_append, List.length_drop, HSL.out]; rfl)); clear hown10 hg10 hor10)
  obtain ⟨A10, c10, rfl, hc10, hm10⟩ := HR10.out.cut
  unfold maxLen at hm10
  have hbw10 := hbw9.trans (hb910.mono hz9)
  have hz10 := hbw10.size
  have HS10 := Lib.hid (HS9.out.up hb910)
  have HP10 := Lib.hid (HP9.out.up hb910)
  have HB10 : Hid (InB ((1 + q) :: S.drop 1)) := inB_cons (by have := HQ.out; omega) (fun y hy => HBS.out y (List.mem_of_mem_drop hy))
  clear hb910 HROW HD9 hbl hsl
  refine (wver7_any _ A4 A10 17 cp n4 c4 561 c10 P msg ((1 + q) :: S.drop 1) w10 HP10.out (by omega) hcp1 (by omega) HBP.out ((HT.out.below hbw10 (Nat.le_refl _)).more hz10) (by omega) hc4 hm4 HR10.out.seg (by omega) hc10 (by omega) HB10.out (HK.out.below hbw10 hw0)).mono ?_
  rw [HV4.out]
  rintro e w11 ⟨rfl, hb11⟩
  have hbw11 := hbw10.trans (hb11.mono hz10)
  have hz11 := hbw11.size
  have HS11 := Lib.hid (HS10.out.up hb11)
  obtain ⟨VR, hVR⟩ : ∃ V, Hid (ver7 raw msg S = V) := ⟨_, rfl⟩
  clear hb11 HR10
  go_wp2_with fail
  refine (wver7_any A5 A4 _ n5 c5 n4 c4 561 cs raw msg S w11 ((HO.out.below hbw11 (Nat.le_refl _)).more hz11) (by omega) hc5 hm5 HRAW.out ((HT.out.below hbw11 (Nat.le_refl _)).more hz11) (by omega) hc4 hm4 HS11.out (by omega) hcs1 (by omega) HBS.out (HK.out.below hbw11 hw0)).mono ?_
  rw [hVR.out]
  rintro e w12 ⟨rfl, hb12⟩
  have hbw12 := hbw11.trans (hb12.mono hz11)
  have hz12 := hbw12.size
  have HS12 := Lib.hid (HS11.out.up hb12)
  clear hb12
  go_wp2_with fail
  refine (rver7_any A5 A4 _ n5 c5 n4 c4 561 cs raw msg S w12 ((HO.out.below hbw12 (Nat.le_refl _)).more hz12) hc5 (by unfold maxLen; omega) HRAW.out ((HT.out.below hbw12 (Nat.le_refl _)).more hz12) (by omega) hc4 (by unfold maxLen; omega) HS12.out (by omega) hcs1 (by unfold maxLen; omega) HBS.out).mono ?_
  rw [hVR.out]
  rintro e w13 ⟨rfl, hb13⟩
  have hbw13 := hbw12.trans (hb13.mono hz12)
  obtain ⟨VR1, VR2⟩ := VR
  clear hb13
  obtain ⟨O1, hO1⟩ : ∃ O : Bool, decide (Z = 0) = O := ⟨_, rfl⟩
  obtain ⟨O2, hO2⟩ : ∃ O : Bool, decide (M = 561) = O := ⟨_, rfl⟩
  obtain ⟨O3, hO3⟩ : ∃ O : Bool, decide (h = 0) = O := ⟨_, rfl⟩
  rw [hO1, hO2, hO3]
  have e1 : ((Z : Int) == 0) = O1 := by rw [← hO1, Bool.eq_iff_iff]; simp
  have e2 : ((M : Int) == 561) = O2 := by rw [← hO2, Bool.eq_iff_iff]; simp; omega
  have e3 : (h == 0) = O3 := by rw [← hO3, Bool.eq_iff_iff]; simp
  clear hO1 hO2 hO3
  dsimp only
  go_wp2_with fail
  go_ret
  exact ⟨rfl, hbw13⟩
end Go.Proofs.YtljkkejjnimjcaaDoor
