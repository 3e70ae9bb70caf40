/-
  The walk of the statement that leaves in another order lead to another root, or frames collide.
-/
import Derived.Test.YtkcbbgmilaafeaaDoorLTPath
import Derived.Test.YtkcbbgmilaafeaaDoorRCrash
import Derived.Test.YtkcbbgmilaafeaaDoorLstB
import Derived.Test.YtkcbbgmilaafeaaDoorFront
import Derived.BigRegion
namespace Go.Proofs.YtkcbbgmilaafeaaDoor
open Go.RowKit

set_option maxRecDepth 100000 in
set_option maxHeartbeats 4000000 in
theorem lawTreeSwap (A : Option Addr) (n c : Nat) (fs : List (List Int)) (h i j : Int) (w : World) (hs : Fields w w.heap.size A n fs) (_hc : n ≤ c) (_hm : c ≤ 9223372036854775807) (hK : Tab w 0 .u32 kay256) :
    Calls Tryd.prog 8 #[.slice A n c, .int .i64 h, .int .i64 i, .int .i64 j] w fun e w' => e = .returned (.bool true) ∧ Below w.heap.size w w' := by
  have HS := Lib.hid hs
  have HL := Lib.hid hs.1
  have HK := Lib.hid hK
  have hw0 := hK.lt
  clear hs hK
  go_enter Tryd.func8, Tryd.ntmps8
  go_wp2_with fail
  refine (awake6_any w HK.out).mono ?_
  rintro e w1 ⟨rfl, hb1⟩
  have hz1 := hb1.size
  have HS1 := Lib.hid (HS.out.up hb1)
  go_wp2_with fail
  refine (few6_any A n c fs w1 HS1.out (by omega)).mono ?_
  rintro e w' ⟨rfl, rfl⟩
  cases hfew : fewT fs with
  | false => ?_
  | true => ?_
  · go_wp2_with fail
    go_ret
    exact ⟨rfl, hb1⟩
  obtain ⟨hn20, hsh⟩ := fewT_true hfew
  have hn : n < 20 := by rw [← HL.out]; exact hn20
  have HSH := Lib.hid hsh
  clear hfew hn20 hsh
  go_wp2_with fail
  refine (fit_any A n c fs h w1 HS1.out (by omega)).mono ?_
  rintro e w2 ⟨v2, rfl, hR2, hb2⟩
  obtain ⟨A2, c2, rfl, hc2, hm2⟩ := hR2.cut
  unfold maxLen at hm2
  have hf3 := height_le h
  obtain ⟨L, hL⟩ : ∃ L, Hid (fitTo fs (2 ^ heightF h) = L) := ⟨_, rfl⟩
  have HLS : Hid (∀ x ∈ L, x.length ≤ 60) := by rw [← hL.out]; exact fitTo_short _ _ HSH.out
  have hN8 := two_three hf3
  have hN1 := two_pos (heightF h)
  obtain ⟨N, hN⟩ : ∃ N : Nat, Hid (2 ^ heightF h = N) := ⟨_, rfl⟩
  rw [hN.out] at hN8 hN1 hc2
  have HF2 := Lib.hid hR2.fields
  rw [hL.out, hN.out] at HF2
  rw [hN.out]
  have HS2 := Lib.hid (HS1.out.up hb2)
  have hbw2 := hb1.trans (hb2.mono hz1)
  have hz2 := hbw2.size
  have hsub : IntKind.i64.wrap ((N : Int) - 1) = ((N - 1 : Nat) : Int) := by rw [IntWalk.i64_in _ (by omega)]; omega
  have hsub2 : RowKit.wrap64 ((N : Int) - 1) = ((N - 1 : Nat) : Int) := by unfold RowKit.wrap64; omega
  have hLN : L.length = N := HF2.out.1
  have hlt2 := hR2.lt
  clear hR2 hb2 hb1 hz1 HS1 HS2
  have handi := and_mask i (N - 1) (by omega)
  have handj := and_mask j (N - 1) (by omega)
  obtain ⟨I, hI⟩ : ∃ I : Nat, bits .and .i64 i ((N - 1 : Nat) : Int) = (I : Int) := ⟨(bits .and .i64 i ((N - 1 : Nat) : Int)).toNat, by omega⟩
  obtain ⟨J, hJ⟩ : ∃ J : Nat, bits .and .i64 j ((N - 1 : Nat) : Int) = (J : Int) := ⟨(bits .and .i64 j ((N - 1 : Nat) : Int)).toNat, by omega⟩
  have hIN : I < N := by rw [hI] at handi; omega
  have hJN : J < N := by rw [hJ] at handj; omega
  obtain ⟨M, hM⟩ : ∃ M, Hid (swapL L I J = M) := ⟨_, rfl⟩
  have HMS : Hid (∀ x ∈ M, x.length ≤ 60) := by rw [← hM.out]; exact swapL_short HLS.out I J
  have HCR : Hid (L ≠ M → rootI L = rootI M → crashF 0 (L.getD I []) (M.getD I []) I (pathI I L) (pathI I M) = true) := by
    rw [← hM.out]
    exact fun hne he => swap_crash hf3 (by rw [hLN, hN.out]) I J (by rw [hN.out]; exact hIN) (by rw [hN.out]; exact hJN) (short_big HLS.out) hne he
  have hemp := FRow.empty w2 w2.heap.size 0 (Nat.le_refl _)
  have hbe := below_new w2 (.cells #[] 27)
  have HEMP := Lib.hid hemp
  have HOFF := Lib.hid (Fields.off (r := some w2.heap.size) (HF2.out.below hbe (Nat.le_refl _)) (by rw [show (w2.alloc (.cells #[] 27)).heap.size = w2.heap.size + 1 by simp]; omega) (fun g hg => by injection hg with hg; omega))
  have hbwe := hbw2.trans (hbe.mono hz2)
  clear handi handj hemp hLN
  go_wp2_with (at_builtin; refine wpList_appF rfl (.tmp 23) (.tmp 24) rfl w2.heap.size (.slice (some ⟨w2.heap.size, 0, none⟩) 0 0) 0 [] rfl HEMP.out A2 N c2 L rfl HOFF.out (by omega) (by omega) hbe.size ?_; intro v4 w4 hF4 hg4 hor4)
  have hb24 := frow_below HEMP.out hg4 hbe hbe.size
  have hbw4 := hbw2.trans (hb24.mono hz2)
  have HL4 := Lib.hid (FOff.turn HOFF.out hg4 hor4)
  rw [Nat.zero_add, List.nil_append] at hF4
  obtain ⟨gm, cm, rfl, hgm, hcm, hmm⟩ := hF4.at_ (by omega)
  obtain ⟨A5, n5, c5, A6, n6, c6, hcI, hcJ, hfr, hcJ2, hfJ2, hF5⟩ := hF4.swap I J hIN hJN
  have hfI := hfr I
  have hfJ := hfr J
  rw [hM.out] at hF5
  have HF5 := Lib.hid hF5
  have hi0 : (0 : Int) ≤ (I : Int) := by omega
  have hi1 : (I : Int) < N := by omega
  have hj0 : (0 : Int) ≤ (J : Int) := by omega
  have hj1 : (J : Int) < N := by omega
  have hgmw : w.heap.size ≤ gm := by omega
  unfold maxLen at hmm
  clear hg4 hor4 hF4 hF5 hfr HEMP HOFF hbe hbwe hlt2
  go_region
  generalize hw5 : World.drew _ = w5
  have HM5 : Hid (FRow w5 w2.heap.size 0 (.slice (some ⟨gm, 0, none⟩) N cm) N M) := by show FRow _ _ _ _ _ _; rw [← hw5]; exact HF5.out
  have HL5 : Hid (FOff w5 (some gm) A2 N L) := by
    show FOff _ _ _ _ _
    rw [← hw5]
    exact (HL4.out.keep (((but_refl w4 gm).set_ I _).set_ J _).drew)
  have hbw5 : Below w.heap.size w w5 := by rw [← hw5]; exact ((hbw4.setCell hgmw _).setCell hgmw _).drew
  have hz5 := hbw5.size
  have HFL := Lib.hid HL5.out.fields
  have HFM := Lib.hid HM5.out.fields
  clear hw5 HF5 HL4 hcI hcJ hcJ2 hfJ2 hfI hfJ hb24 hbw4 HF2 HM5 HL5
  go_wp2_with fail
  refine (lists_any A2 _ N c2 N cm L M w5 HFL.out HFM.out (by omega) (Nat.le_trans (tot_short 60 L HLS.out) (by rw [HFL.out.1]; omega))).mono ?_
  rintro e w6 ⟨rfl, q6, hq6⟩
  have hb6 : Below w5.heap.size w5 w6 := by rw [hq6]; exact below_drewN (Below.refl _ _) q6
  have HL6 := Lib.hid (HFL.out.up hb6)
  have HM6 := Lib.hid (HFM.out.up hb6)
  have hbw6 := hbw5.trans (hb6.mono hz5)
  have hz6 := hbw6.size
  clear hq6 hb6 HFL HFM
  obtain ⟨RL, hRL⟩ : ∃ R, Hid (rootI L = R) := ⟨_, rfl⟩
  obtain ⟨RM, hRM⟩ : ∃ R, Hid (rootI M = R) := ⟨_, rfl⟩
  cases hlm : listsB L M with
  | true => ?_
  | false => ?_
  · have hEQ : L = M := by simpa [listsB] using hlm
    have hRR : Hid (RM = RL) := by show _ = _; rw [← hRL.out, ← hRM.out, hEQ]
    clear hlm hEQ
    go_wp2_with fail
    refine (wroot_any A2 N c2 L w6 HL6.out (by omega) hc2 hm2 (short_big HLS.out) (HK.out.below hbw6 hw0)).mono ?_
    rw [hRL.out]
    rintro e w7 ⟨B7, k7, d7, rfl, hk7, hd7, hm7, hS7, hb7⟩
    have HR7 := Lib.hid hS7
    have HM7 := Lib.hid (HM6.out.up hb7)
    have hbw7 := hbw6.trans (hb7.mono hz6)
    have hz7 := hbw7.size
    clear hS7 hb7
    go_wp2_with fail
    refine (wroot_any _ N cm M w7 HM7.out (by omega) hcm hmm (short_big HMS.out) (HK.out.below hbw7 hw0)).mono ?_
    rw [hRM.out, hRR.out]
    rintro e w8 ⟨B8, k8, d8, rfl, hk8, hd8, hm8, hS8, hb8⟩
    have hkk : k8 = k7 := by rw [← hS8.1, HR7.out.1]
    rw [hkk] at hS8 ⊢
    have HR8 := Lib.hid hS8
    have HR78 := Lib.hid (HR7.out.up hb8)
    have hbw8 := hbw7.trans (hb8.mono hz7)
    have hz8 := hbw8.size
    clear hS8 hb8 hkk
    go_wp2_with fail
    refine (same_self B7 B8 k7 d7 d8 RL w8 HR78.out HR8.out (by omega)).mono ?_
    rintro e w9 ⟨rfl, hb9⟩
    go_wp2_with fail
    go_ret
    exact ⟨rfl, hbw8.trans (hb9.mono hz8)⟩
  · have hNE : L ≠ M := by simpa [listsB] using hlm
    have HNE := Lib.hid hNE
    clear hlm hNE
    obtain ⟨b9, o9, rfl, hb9, hcl⟩ := HL6.out.2 (by omega)
    obtain ⟨A7, n7, c7, e7, s7, l7, m7⟩ := hcl I hIN
    obtain ⟨b0, o0, hg0, hb0, hcm2⟩ := HM6.out.2 (by omega)
    obtain ⟨rfl, rfl⟩ : gm = b0 ∧ 0 = o0 := by injection hg0 with hg0; injection hg0 with h1 h2; exact ⟨h1, h2⟩
    obtain ⟨A8, n8, c8, e8, s8, l8, m8⟩ := hcm2 I hIN
    rw [Nat.zero_add] at e8
    have HCC : Hid (∀ W, Below w6.heap.size w6 W → W.cell? ⟨b9, o9 + I, none⟩ = some (.slice A7 n7 c7) ∧ W.cell? ⟨gm, I, none⟩ = some (.slice A8 n8 c8)) := fun W hW => ⟨(hW.cell (p := ⟨b9, o9 + I, none⟩) hb9).trans e7, (hW.cell (p := ⟨gm, I, none⟩) hb0).trans e8⟩
    have HS7 := Lib.hid s7
    have HS8 := Lib.hid s8
    have hn7 : n7 ≤ 60 := by rw [← s7.1]; exact get_short HLS.out I
    have hn8 : n8 ≤ 60 := by rw [← s8.1]; exact get_short HMS.out I
    have hbd : Below w6.heap.size w6 w6.drew := (Below.refl _ _).drew
    clear hcl hcm2 s7 s8 hg0
    cases hrr : sameB RL RM with
    | false => ?_
    | true => ?_
    · have HRR := Lib.hid hrr
      clear hrr
      go_wp2_with fail
      refine wp_region_any (by kernel_rfl) ?_
      change wpAny _ _ _ _ _ _ _ (World.drew _)
      refine wpAny_take (i := 0) (v := _) rfl (by kernel_rfl) (by kernel_rfl) (by kernel_rfl) (fun _ _ _ h => h) (Or.inl ⟨by rfl, fun _ => by rfl⟩) ?_
      refine wpAny_take (i := 2) (v := _) rfl (by kernel_rfl) (by kernel_rfl) (by kernel_rfl) (fun _ _ _ h => h) (Or.inl ⟨by rfl, fun _ => by rfl⟩) ?_
      simp only [Act.put, List.setIfInBounds_toArray]
      refine wpAny_ready (rs := [1]) (by kernel_rfl) (by simp) ?_
      refine AllReady.cons rfl (fun K hK => ?_) AllReady.nil
      go_simp
      refine (wroot_any _ N c2 L w6.drew HL6.out (by omega) hc2 hm2 (short_big HLS.out) (HK.out.below hbw6.drew hw0)).mono ?_
      rw [hRL.out]
      rintro e w7 ⟨B7, k7, d7, rfl, hk7, hd7, hm7, hS7, hbx7⟩
      have hb67 : Below w6.heap.size w6 w7 := hbd.trans (hbx7.mono (Nat.le_refl _))
      have HRL7 := Lib.hid hS7
      clear hS7
      go_simp
      refine hK _ _ ?_
      clear hK K
      refine wpAny_ready (rs := [3]) (by kernel_rfl) (by simp) ?_
      refine AllReady.cons rfl (fun K hK => ?_) AllReady.nil
      go_simp
      refine (wroot_any _ N cm M w7 (HM6.out.up hb67) (by omega) hcm hmm (short_big HMS.out) (HK.out.below (hbw6.trans (hb67.mono hz6)) hw0)).mono ?_
      rw [hRM.out]
      rintro e w8 ⟨B8, k8, d8, rfl, hk8, hd8, hm8, hS8, hbx8⟩
      have hb68 : Below w6.heap.size w6 w8 := hb67.trans (hbx8.mono hb67.size)
      have HRM8 := Lib.hid hS8
      have HRL8 := Lib.hid (HRL7.out.up hbx8)
      have HSQ : Hid (∀ m, Calls Tryd.prog 12 #[.slice B7 k7 d7, .slice B8 k8 d8] (w8.drewN m) fun e w'' => e = .returned (.bool false) ∧ ∃ q, w'' = w8.drewN q) := fun m => by
        refine (same_any B7 B8 k7 d7 k8 d8 RL RM (w8.drewN m) HRL8.out HRM8.out (by omega)).mono ?_
        rw [HRR.out]
        rintro e w9 ⟨rfl, q9, rfl⟩
        exact ⟨rfl, _, World.drewN_drewN _ _ _⟩
      clear hS8
      go_simp
      refine hK _ _ ?_
      clear hK K
      refine wpAny_rest 4 (by kernel_rfl) (by rfl) (by kernel_rfl) ?_
      simp only [List.drop_succ_cons, List.drop_zero]
      repeat (go_big_quiet_step ((go_at_call 12; exact HSQ.out _)))
      refine wpQuiet_nil ?_
      intro _ hw'
      obtain ⟨nq, hw''⟩ := hw'
      subst hw''
      go_wp2
      go_ret
      exact ⟨rfl, hbw6.trans ((below_drewN hb68 _).mono hz6)⟩
    · have hEQ : RL = RM := by simpa [sameB] using hrr
      have HV : Hid (crashF 0 (L.getD I []) (M.getD I []) I (pathI (I : Int) L) (pathI (I : Int) M) = true) := HCR.out HNE.out (by rw [hRL.out, hRM.out, hEQ])
      have HRR := Lib.hid hrr
      have HPSL : Hid (∀ x ∈ pathI (I : Int) L, x.length ≤ 1000) := fun x hx => by have := pathI_short 60 (by omega) I L HLS.out x hx; omega
      have HPSM : Hid (∀ x ∈ pathI (I : Int) M, x.length ≤ 1000) := fun x hx => by have := pathI_short 60 (by omega) I M HMS.out x hx; omega
      obtain ⟨hk1, hk2⟩ := HCC.out _ (Below.refl _ _)
      clear hrr hEQ
      go_wp2_with fail
      go_region_held3 (fun W => W.cell? ⟨b9, o9 + I, none⟩ = some (.slice A7 n7 c7) ∧ W.cell? ⟨gm, I, none⟩ = some (.slice A8 n8 c8))
        (first | exact HCC.out _ hb612 | exact HCC.out _ hb611 | exact HCC.out _ hb610 | exact HCC.out _ hb69 | exact HCC.out _ hb68 | exact HCC.out _ hb67 | exact HCC.out _ hbd)
        ((first
          | (go_at_call 20; refine (rcrash_any A7 A8 PA PB n7 c7 n8 c8 kA cA kB cB I _ _ _ _ w11 (HS7.out.up hb611) (by omega) l7 m7 (HS8.out.up hb611) (by omega) l8 m8 (by omega) HPA11.out HPSL.out (by omega) HPB11.out HPSM.out (by omega)).mono ?_; rw [HV.out]; rintro e w12 ⟨rfl, hbx12⟩; have hb612 : Below w6.heap.size w6 w12 := hb611.trans (hbx12.mono hb611.size))
          | (go_at_call 17; refine (rpath_any I _ N cm M w10 (HM6.out.up hb610) (short_big HMS.out)).mono ?_; rintro e w11 ⟨v11, kB, rfl, hkB, hR11, hbx11⟩; obtain ⟨PB, cB, rfl, _, _⟩ := hR11.cut; have hb611 : Below w6.heap.size w6 w11 := hb610.trans (hbx11.mono hb610.size); have HPB11 := Lib.hid hR11.fields; have HPA11 := Lib.hid (HPA10.out.up hbx11); clear hR11)
          | (go_at_call 17; refine (rpath_any I _ N c2 L w9 (HL6.out.up hb69) (short_big HLS.out)).mono ?_; rintro e w10 ⟨v10, kA, rfl, hkA, hR10, hbx10⟩; obtain ⟨PA, cA, rfl, _, _⟩ := hR10.cut; have hb610 : Below w6.heap.size w6 w10 := hb69.trans (hbx10.mono hb69.size); have HPA10 := Lib.hid hR10.fields; clear hR10)
          | (go_at_call 12; refine (same_any B7 B8 k7 d7 k8 d8 RL RM w8 HRL8.out HRM8.out (by omega)).mono ?_; rw [HRR.out]; rintro e w9 ⟨rfl, q9, hq9⟩; have hb69 : Below w6.heap.size w6 w9 := (by rw [hq9]; exact below_drewN hb68 q9); clear hq9)
          | (go_at_call 13; refine (wroot_any _ N cm M w7 (HM6.out.up hb67) (by omega) hcm hmm (short_big HMS.out) (HK.out.below (hbw6.trans (hb67.mono hz6)) hw0)).mono ?_; rw [hRM.out]; rintro e w8 ⟨B8, k8, d8, rfl, hk8, hd8, hm8, hS8, hbx8⟩; have hb68 : Below w6.heap.size w6 w8 := hb67.trans (hbx8.mono hb67.size); have HRM8 := Lib.hid hS8; have HRL8 := Lib.hid (HRL7.out.up hbx8); clear hS8)
          | (go_at_call 13; refine (wroot_any _ N c2 L w6.drew HL6.out (by omega) hc2 hm2 (short_big HLS.out) (HK.out.below hbw6.drew hw0)).mono ?_; rw [hRL.out]; rintro e w7 ⟨B7, k7, d7, rfl, hk7, hd7, hm7, hS7, hbx7⟩; have hb67 : Below w6.heap.size w6 w7 := hbd.trans (hbx7.mono (Nat.le_refl _)); have HRL7 := Lib.hid hS7; clear hS7)))
      go_wp2
      go_ret
      exact ⟨rfl, hbw6.trans (hb612.mono hz6)⟩
end Go.Proofs.YtkcbbgmilaafeaaDoor
