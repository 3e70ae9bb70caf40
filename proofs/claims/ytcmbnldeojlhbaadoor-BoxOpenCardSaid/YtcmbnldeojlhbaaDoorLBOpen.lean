/-
  The walk of the statement on the plaintext or the error of any bytes.
-/
import Derived.Test.YtcmbnldeojlhbaaDoorBoxL
import Derived.Test.YtcmbnldeojlhbaaDoorROpen
import Derived.Test.YtcmbnldeojlhbaaDoorFull
namespace Go.Proofs.YtcmbnldeojlhbaaDoor
open Go.RowKit

theorem lens5 (W : World) (A1 A2 A3 A4 A5 : Option Addr) (n1 n2 n3 n4 n5 c1 c2 c3 c4 c5 : Nat) (t : TypeId) (g : Nat) (hg : g = W.heap.size) :
    Lens (W.alloc (.cells #[.slice A1 n1 c1, .slice A2 n2 c2, .slice A3 n3 c3, .slice A4 n4 c4, .slice A5 n5 c5] t)) g [n1, n2, n3, n4, n5] := by
  intro j hj
  match j, hj with
  | 0, _ => exact ⟨_, _, cell_made W _ t g 0 _ hg rfl⟩
  | 1, _ => exact ⟨_, _, cell_made W _ t g 1 _ hg rfl⟩
  | 2, _ => exact ⟨_, _, cell_made W _ t g 2 _ hg rfl⟩
  | 3, _ => exact ⟨_, _, cell_made W _ t g 3 _ hg rfl⟩
  | 4, _ => exact ⟨_, _, cell_made W _ t g 4 _ hg rfl⟩
theorem small5 {n1 n2 n3 n4 n5 : Nat} (h : smallB [n1, n2, n3, n4, n5] = true) : n1 ≤ 120 ∧ n2 ≤ 120 ∧ n3 ≤ 120 ∧ n4 ≤ 120 ∧ n5 ≤ 120 := by
  simpa [smallB] using h

set_option maxRecDepth 100000 in
set_option maxHeartbeats 8000000 in
theorem lawBoxOpen (A : Option Addr) (n c : Nat) (key : List Int) (A2 : Option Addr) (n2 c2 : Nat) (nonce : List Int) (A3 : Option Addr) (n3 c3 : Nat) (ad : List Int) (A4 : Option Addr) (n4 c4 : Nat) (plain : List Int) (A6 : Option Addr) (n6 c6 : Nat) (raw : List Int) (at' x : Int) (whole : Bool) (w : World)
    (hs : Seg w w.heap.size .u8 A n key) (hc : n ≤ c) (hm : c ≤ 9223372036854775807) (hs2 : Seg w w.heap.size .u8 A2 n2 nonce) (hc2 : n2 ≤ c2) (hm2 : c2 ≤ 9223372036854775807) (hx2 : InB nonce)
    (hs3 : Seg w w.heap.size .u8 A3 n3 ad) (hc3 : n3 ≤ c3) (hm3 : c3 ≤ 9223372036854775807) (hs4 : Seg w w.heap.size .u8 A4 n4 plain) (_hc4 : n4 ≤ c4) (_hm4 : c4 ≤ 9223372036854775807)
    (hs6 : Seg w w.heap.size .u8 A6 n6 raw) (hc6 : n6 ≤ c6) (hm6 : c6 ≤ 9223372036854775807) (hx6 : InB raw) (hK : Tab w 0 .u32 kay256) :
    Calls Tryd.prog 5 #[.slice A n c, .slice A2 n2 c2, .slice A3 n3 c3, .slice A4 n4 c4, .slice A6 n6 c6, .int .i64 at', .int .u8 x, .bool whole] w fun e w' => e = .returned (.bool true) ∧ Below w.heap.size w w' := by
  obtain ⟨i0, hi, hz0, hz1', hz2'⟩ := info_parts Tryd.infoU8
  have HS := Lib.hid hs
  have HS2 := Lib.hid hs2
  have HS3 := Lib.hid hs3
  have HS4 := Lib.hid hs4
  have HS6 := Lib.hid hs6
  have HX2 := Lib.hid hx2
  have HX6 := Lib.hid hx6
  have HL2 := Lib.hid hs2.1
  have HL4 := Lib.hid hs4.1
  have HK := Lib.hid hK
  have hw0 := hK.lt
  clear hs hs2 hs3 hs4 hs6 hK hx2 hx6
  go_enter Tryd.func5, Tryd.ntmps5
  go_wp2_with fail
  refine (awake4_any w HK.out).mono ?_
  rintro e w1 ⟨rfl, hb1⟩
  have hz1 := hb1.size
  have HSM := Lib.hid (small_any w1.heap.size 5 5 [n, n2, n3, n4, n6] _ (lens5 w1 A A2 A3 A4 A6 n n2 n3 n4 n6 c c2 c3 c4 c6 22 _ rfl) rfl (by omega))
  have hb2' : Below w.heap.size w (w1.alloc (.cells #[.slice A n c, .slice A2 n2 c2, .slice A3 n3 c3, .slice A4 n4 c4, .slice A6 n6 c6] 22)) := hb1.alloc hz1 _
  cases hsm : smallB [n, n2, n3, n4, n6] with
  | false => ?_
  | true => ?_
  · rw [hsm] at HSM
    clear hsm
    go_wp2_with fail
    refine HSM.out.mono ?_
    rintro e w2 ⟨rfl, rfl⟩
    go_wp2_with fail
    go_ret
    exact ⟨rfl, hb2'⟩
  obtain ⟨l1, l2, l3, l4, l6⟩ := small5 hsm
  rw [hsm] at HSM
  clear hsm
  by_cases h64 : 64 < n2
  · have hd : decide ((64 : Int) < n2) = true := by simp; omega
    go_wp2_with fail
    refine HSM.out.mono ?_
    rintro e w2 ⟨rfl, rfl⟩
    go_wp2_with fail
    go_ret
    exact ⟨rfl, hb2'⟩
  have hd : decide ((64 : Int) < n2) = false := by simp; omega
  go_wp2_with fail
  refine HSM.out.mono ?_
  rintro e w2 ⟨rfl, hw2⟩
  have hb2 : Below w.heap.size w w2 := by rw [← hw2]; exact hb2'
  have hz2 := hb2.size
  clear hw2 hb2' HSM
  go_wp2_with fail
  refine (rseal_any A A2 A3 A4 n c n2 c2 n3 c3 n4 c4 key nonce ad plain w2 (HS.out.up hb2) (by omega) (HS2.out.up hb2) (by omega) hc2 hm2 (HS3.out.up hb2) (by omega) hc3 hm3 (HS4.out.up hb2) (by omega)).mono ?_
  rintro e w3 ⟨v3, k3, rfl, hk3, hR3, hb3⟩
  have hk36 : k3 = 36 + n2 + n4 := by rw [← hR3.length, sealI_length _ _ _ _ (by rw [HL2.out]; omega) (by rw [HL4.out]; omega), HL2.out, HL4.out]
  obtain ⟨g, d3, rfl, hg⟩ := hR3.at_ (by omega)
  obtain ⟨hkd, hdm⟩ := hR3.caps
  have hk300 : k3 ≤ 300 := by omega
  obtain ⟨S, hSd⟩ : ∃ S, Hid (sealI key nonce ad plain = S) := ⟨_, rfl⟩
  have HSI : Hid (InB S) := by show InB S; rw [← hSd.out]; exact inB_seal _ _ _ _ HX2.out
  rw [hSd.out] at hR3
  have HR3 := Lib.hid hR3
  have hbw3 := hb2.trans (hb3.mono hz2)
  have hz3 := hbw3.size
  have hgw : w.heap.size ≤ g := by omega
  have hdm' : d3 ≤ 9223372036854775807 := by unfold maxLen at hdm; omega
  clear hR3 hk36 hk3
  rcases (by cases whole <;> simp <;> omega : at' < 0 ∨ (0 ≤ at' ∧ at' < k3 ∧ whole = true) ∨ (0 ≤ at' ∧ at' < k3 ∧ whole = false) ∨ (at' = k3 ∧ whole = false) ∨ (at' = k3 ∧ whole = true) ∨ (0 ≤ at' ∧ k3 < at')) with ha | ⟨ha, ha2, rfl⟩ | ⟨ha, ha2, rfl⟩ | ⟨ha, rfl⟩ | ⟨ha, rfl⟩ | ⟨ha, ha2⟩
  focus
    have da : decide (0 ≤ at') = false := by simp; omega
    go_wp2_with fail
    obtain ⟨w5, hw5⟩ : ∃ w5, w5 = w3 := ⟨_, rfl⟩
    obtain ⟨A5, hA5⟩ : ∃ A5, A5 = some (⟨g, 0, none⟩ : Addr) := ⟨_, rfl⟩
    obtain ⟨k5, hk5⟩ : ∃ k5, k5 = k3 := ⟨_, rfl⟩
    obtain ⟨c5, hc5⟩ : ∃ c5, c5 = d3 := ⟨_, rfl⟩
    obtain ⟨S5, hS5⟩ : ∃ S5, S5 = S := ⟨_, rfl⟩
    have HR5 : Hid (Seg w5 w5.heap.size .u8 A5 k5 S5) := by show Seg _ _ _ _ _ _; rw [hw5, hA5, hk5, hS5]; exact HR3.out.seg
    have HI5 : Hid (InB S5) := by show InB S5; rw [hS5]; exact HSI.out
    have hk500 : k5 ≤ 500 := by omega
    have hkc5 : k5 ≤ c5 := by omega
    have hcm5 : c5 ≤ 9223372036854775807 := by omega
    have hbw5 : Below w.heap.size w w5 := by rw [hw5]; exact hbw3
    rw [← hw5, ← hA5, ← hk5, ← hc5]
    clear hw5 hA5 hk5 hc5 hS5
  rotate_left
  focus
    obtain ⟨i, rfl⟩ : ∃ i : Nat, at' = i := ⟨at'.toNat, by omega⟩
    have hik : i < k3 := by omega
    have da : decide ((0 : Int) ≤ i) = true := by simp
    have da2 : decide ((i : Int) < k3) = true := by simp; omega
    have da3 : decide ((i : Int) ≤ k3) = true := by simp; omega
    have hcell := HR3.out.cell i hik
    have hfro := HR3.out.frozen i
    obtain ⟨sv, hsv⟩ : ∃ sv, Hid (S.getD i 0 = sv) := ⟨_, rfl⟩
    rw [hsv.out] at hcell
    go_wp2_with fail
    obtain ⟨w5, hw5⟩ : ∃ w5, w5 = w3.setCell ⟨g, i, none⟩ (.int .u8 (bits .xor .u8 sv x)) := ⟨_, rfl⟩
    obtain ⟨A5, hA5⟩ : ∃ A5, A5 = some (⟨g, 0, none⟩ : Addr) := ⟨_, rfl⟩
    obtain ⟨k5, hk5⟩ : ∃ k5, k5 = k3 := ⟨_, rfl⟩
    obtain ⟨c5, hc5⟩ : ∃ c5, c5 = d3 := ⟨_, rfl⟩
    obtain ⟨S5, hS5⟩ : ∃ S5, S5 = S.set i (bits .xor .u8 sv x) := ⟨_, rfl⟩
    have HR5 : Hid (Seg w5 w5.heap.size .u8 A5 k5 S5) := by show Seg _ _ _ _ _ _; rw [hw5, hA5, hk5, hS5]; exact (HR3.out.set_ i _).seg
    have HI5 : Hid (InB S5) := by show InB S5; rw [hS5]; exact HSI.out.set_ i (xor8_in _ _)
    have hk500 : k5 ≤ 500 := by omega
    have hkc5 : k5 ≤ c5 := by omega
    have hcm5 : c5 ≤ 9223372036854775807 := by omega
    have hbw5 : Below w.heap.size w w5 := by rw [hw5]; exact hbw3.setCell hgw _
    rw [← hw5, ← hA5, ← hk5, ← hc5]
    clear hw5 hA5 hk5 hc5 hS5
  rotate_left
  focus
    obtain ⟨i, rfl⟩ : ∃ i : Nat, at' = i := ⟨at'.toNat, by omega⟩
    have hik : i < k3 := by omega
    have da : decide ((0 : Int) ≤ i) = true := by simp
    have da2 : decide ((i : Int) < k3) = true := by simp; omega
    have da3 : decide ((i : Int) ≤ k3) = true := by simp; omega
    have hcell := HR3.out.cell i hik
    have hfro := HR3.out.frozen i
    obtain ⟨sv, hsv⟩ : ∃ sv, Hid (S.getD i 0 = sv) := ⟨_, rfl⟩
    rw [hsv.out] at hcell
    have hsl := slice_hm (some ⟨g, 0, none⟩) k3 d3 i (by omega)
    have HF : Hid (Seg (w3.setCell ⟨g, i, none⟩ (.int .u8 (bits .xor .u8 sv x))) (w3.setCell ⟨g, i, none⟩ (.int .u8 (bits .xor .u8 sv x))).heap.size .u8 (some ⟨g, 0, none⟩) i ((S.set i (bits .xor .u8 sv x)).take i)) := (HR3.out.set_ i _).seg.take (by omega)
    have hbw4 : Below w.heap.size w (w3.setCell ⟨g, i, none⟩ (.int .u8 (bits .xor .u8 sv x))) := hbw3.setCell hgw _
    have HW := Lib.hid (HS6.out.up hbw4)
    go_wp2_with (at_builtin; refine wpList_full _ rfl (.tmp 76) (.tmp 77) 22 rfl 5 i0 (.int .u8 0) Tryd.underlying22 hi hz0 hz1' hz2' .u8 g i _ rfl HF.out A6 n6 c6 raw rfl HW.out (by omega) ?_; intro A5 c5 w5 hR5 hkc5 hcm5' hb5; have HR5 := Lib.hid hR5; have hbw5 : Below w.heap.size w w5 := hbw4.trans (hb5.mono hbw4.size); clear hR5)
    obtain ⟨k5, hk5⟩ : ∃ k5, k5 = i + n6 := ⟨_, rfl⟩
    obtain ⟨S5, hS5⟩ : ∃ S5, S5 = (S.set i (bits .xor .u8 sv x)).take i ++ raw := ⟨_, rfl⟩
    rw [← hk5] at HR5 hkc5 ⊢
    rw [← hS5] at HR5
    have HI5 : Hid (InB S5) := by show InB S5; rw [hS5]; exact inB_append ((HSI.out.set_ i (xor8_in _ _)).take i) HX6.out
    have hk500 : k5 ≤ 500 := by omega
    have hcm5 : c5 ≤ 9223372036854775807 := by unfold maxLen at hcm5'; omega
    clear hk5 hS5
  rotate_left
  focus
    subst ha
    have da : decide ((0 : Int) ≤ k3) = true := by simp
    have da2 : decide (k3 < k3) = false := by simp
    have da3 : decide (k3 ≤ k3) = true := by simp
    have hsl := slice_hm (some ⟨g, 0, none⟩) k3 d3 k3 (by omega)
    have HF := Lib.hid HR3.out.seg
    have hbw4 := hbw3
    have HW := Lib.hid (HS6.out.up hbw4)
    go_wp2_with (at_builtin; refine wpList_full _ rfl (.tmp 76) (.tmp 77) 22 rfl 5 i0 (.int .u8 0) Tryd.underlying22 hi hz0 hz1' hz2' .u8 g k3 _ rfl HF.out A6 n6 c6 raw rfl HW.out (by omega) ?_; intro A5 c5 w5 hR5 hkc5 hcm5' hb5; have HR5 := Lib.hid hR5; have hbw5 : Below w.heap.size w w5 := hbw4.trans (hb5.mono hbw4.size); clear hR5)
    obtain ⟨k5, hk5⟩ : ∃ k5, k5 = k3 + n6 := ⟨_, rfl⟩
    obtain ⟨S5, hS5⟩ : ∃ S5, S5 = S ++ raw := ⟨_, rfl⟩
    rw [← hk5] at HR5 hkc5 ⊢
    rw [← hS5] at HR5
    have HI5 : Hid (InB S5) := by show InB S5; rw [hS5]; exact inB_append HSI.out HX6.out
    have hk500 : k5 ≤ 500 := by omega
    have hcm5 : c5 ≤ 9223372036854775807 := by unfold maxLen at hcm5'; omega
    clear hk5 hS5
  rotate_left
  focus
    subst ha
    have da : decide ((0 : Int) ≤ k3) = true := by simp
    have da2 : decide (k3 < k3) = false := by simp
    have da3 : decide (k3 ≤ k3) = true := by simp
    go_wp2_with fail
    obtain ⟨w5, hw5⟩ : ∃ w5, w5 = w3 := ⟨_, rfl⟩
    obtain ⟨A5, hA5⟩ : ∃ A5, A5 = some (⟨g, 0, none⟩ : Addr) := ⟨_, rfl⟩
    obtain ⟨k5, hk5⟩ : ∃ k5, k5 = k3 := ⟨_, rfl⟩
    obtain ⟨c5, hc5⟩ : ∃ c5, c5 = d3 := ⟨_, rfl⟩
    obtain ⟨S5, hS5⟩ : ∃ S5, S5 = S := ⟨_, rfl⟩
    have HR5 : Hid (Seg w5 w5.heap.size .u8 A5 k5 S5) := by show Seg _ _ _ _ _ _; rw [hw5, hA5, hk5, hS5]; exact HR3.out.seg
    have HI5 : Hid (InB S5) := by show InB S5; rw [hS5]; exact HSI.out
    have hk500 : k5 ≤ 500 := by omega
    have hkc5 : k5 ≤ c5 := by omega
    have hcm5 : c5 ≤ 9223372036854775807 := by omega
    have hbw5 : Below w.heap.size w w5 := by rw [hw5]; exact hbw3
    rw [← hw5, ← hA5, ← hk5, ← hc5]
    clear hw5 hA5 hk5 hc5 hS5
  rotate_left
  focus
    have da : decide (0 ≤ at') = true := by simp; omega
    have da2 : decide (at' < k3) = false := by simp; omega
    have da3 : decide (at' ≤ k3) = false := by simp; omega
    go_wp2_with fail
    obtain ⟨w5, hw5⟩ : ∃ w5, w5 = w3 := ⟨_, rfl⟩
    obtain ⟨A5, hA5⟩ : ∃ A5, A5 = some (⟨g, 0, none⟩ : Addr) := ⟨_, rfl⟩
    obtain ⟨k5, hk5⟩ : ∃ k5, k5 = k3 := ⟨_, rfl⟩
    obtain ⟨c5, hc5⟩ : ∃ c5, c5 = d3 := ⟨_, rfl⟩
    obtain ⟨S5, hS5⟩ : ∃ S5, S5 = S := ⟨_, rfl⟩
    have HR5 : Hid (Seg w5 w5.heap.size .u8 A5 k5 S5) := by show Seg _ _ _ _ _ _; rw [hw5, hA5, hk5, hS5]; exact HR3.out.seg
    have HI5 : Hid (InB S5) := by show InB S5; rw [hS5]; exact HSI.out
    have hk500 : k5 ≤ 500 := by omega
    have hkc5 : k5 ≤ c5 := by omega
    have hcm5 : c5 ≤ 9223372036854775807 := by omega
    have hbw5 : Below w.heap.size w w5 := by rw [hw5]; exact hbw3
    rw [← hw5, ← hA5, ← hk5, ← hc5]
    clear hw5 hA5 hk5 hc5 hS5
  rotate_left
  all_goals
    have hz5 := hbw5.size
    obtain ⟨⟨P, E⟩, hO⟩ : ∃ r, openI key ad S5 = r := ⟨_, rfl⟩
    obtain ⟨⟨P2, E2⟩, hO2⟩ : ∃ r, openI key ad raw = r := ⟨_, rfl⟩
    have HO := Lib.hid hO
    have HO2 := Lib.hid hO2
    clear hO hO2
    refine (wopen_any A A3 A5 n c n3 c3 k5 c5 key ad S5 w5 (HS.out.up hbw5) (by omega) hc hm (HS3.out.up hbw5) (by omega) hc3 hm3 HR5.out (by omega) hkc5 hcm5 HI5.out (HK.out.below hbw5 hw0)).mono ?_
    rw [HO.out]
    rintro e wa ⟨Ba, ka, da', rfl, hka, _, _, hSa, hba⟩
    have HSa := Lib.hid hSa
    have HRa := Lib.hid (HR5.out.up hba)
    have hbwa := hbw5.trans (hba.mono hz5)
    have hza := hbwa.size
    clear hSa
    go_wp2_with fail
    refine (ropen_any A A3 A5 n c n3 c3 k5 c5 key ad S5 wa (HS.out.up hbwa) (by omega) (HS3.out.up hbwa) (by omega) hc3 hm3 HRa.out (by omega) hkc5 hcm5 HI5.out).mono ?_
    rw [HO.out]
    rintro e wb ⟨⟨vb, kb, rfl, hkb, hRb⟩, hbb⟩
    obtain ⟨Bb, db, rfl, _, _⟩ := hRb.cut
    have HSb := Lib.hid hRb.seg
    have HSab := Lib.hid (HSa.out.up hbb)
    have hbwb := hbwa.trans (hbb.mono hza)
    have hzb := hbwb.size
    have hkab : ka = kb := by rw [← HSa.out.1, ← HSb.out.1]
    subst hkab
    clear hRb
    go_wp2_with fail
    refine (wopen_any A A3 A6 n c n3 c3 n6 c6 key ad raw wb (HS.out.up hbwb) (by omega) hc hm (HS3.out.up hbwb) (by omega) hc3 hm3 (HS6.out.up hbwb) (by omega) hc6 hm6 HX6.out (HK.out.below hbwb hw0)).mono ?_
    rw [HO2.out]
    rintro e wc ⟨Bc, kc, dc, rfl, hkc, _, _, hSc, hbc⟩
    have HSc := Lib.hid hSc
    have HSac := Lib.hid (HSab.out.up hbc)
    have HSbc := Lib.hid (HSb.out.up hbc)
    have hbwc := hbwb.trans (hbc.mono hzb)
    have hzc := hbwc.size
    clear hSc
    go_wp2_with fail
    refine (ropen_any A A3 A6 n c n3 c3 n6 c6 key ad raw wc (HS.out.up hbwc) (by omega) (HS3.out.up hbwc) (by omega) hc3 hm3 (HS6.out.up hbwc) (by omega) hc6 hm6 HX6.out).mono ?_
    rw [HO2.out]
    rintro e wd ⟨⟨vd, kd, rfl, hkd', hRd⟩, hbd⟩
    obtain ⟨Bd, dd, rfl, _, _⟩ := hRd.cut
    have HSd := Lib.hid hRd.seg
    have HSad := Lib.hid (HSac.out.up hbd)
    have HSbd := Lib.hid (HSbc.out.up hbd)
    have HScd := Lib.hid (HSc.out.up hbd)
    have hbwd := hbwc.trans (hbd.mono hzc)
    have hzd := hbwd.size
    have hkcd : kc = kd := by rw [← HSc.out.1, ← HSd.out.1]
    subst hkcd
    clear hRd
    go_wp2_with fail
    refine (same_self Ba Bb ka _ _ P wd HSad.out HSbd.out (by omega)).mono ?_
    rintro e we ⟨rfl, hbe⟩
    have HSde := Lib.hid (HSd.out.up hbe)
    have HSce := Lib.hid (HScd.out.up hbe)
    have hbwe := hbwd.trans (hbe.mono hzd)
    have hze := hbwe.size
    go_wp2_with fail
    refine (same_self Bc Bd kc _ _ P2 we HSce.out HSde.out (by omega)).mono ?_
    rintro e wf ⟨rfl, hbf⟩
    go_wp2_with fail
    go_ret
    exact ⟨rfl, hbwe.trans (hbf.mono hze)⟩
end Go.Proofs.YtcmbnldeojlhbaaDoor
