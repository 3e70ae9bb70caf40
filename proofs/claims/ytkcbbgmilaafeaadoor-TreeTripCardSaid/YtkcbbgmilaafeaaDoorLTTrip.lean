/-
  The walk of the statement that each leaf leads to the root by its path.
-/
import Derived.Test.YtkcbbgmilaafeaaDoorLTRoot
namespace Go.Proofs.YtkcbbgmilaafeaaDoor
open Go.RowKit

set_option maxRecDepth 100000 in
set_option maxHeartbeats 2000000 in
theorem lawTreeTrip (A : Option Addr) (n c : Nat) (fs : List (List Int)) (h : Int) (w : World) (hs : Fields w w.heap.size A n fs) (hc : n ≤ c) (_hm : c ≤ 9223372036854775807) (hK : Tab w 0 .u32 kay256) :
    Calls Tryd.prog 6 #[.slice A n c, .int .i64 h] w fun e w' => e = .returned (.bool true) ∧ Below w.heap.size w w' := by
  have HS := Lib.hid hs
  have HL := Lib.hid hs.1
  have HK := Lib.hid hK
  have hw0 := hK.lt
  clear hs hK
  go_enter Tryd.func6, Tryd.ntmps6
  go_wp2_with fail
  refine (awake6_any w HK.out).mono ?_
  rintro e w1 ⟨rfl, hb1⟩
  have hz1 := hb1.size
  have HS1 := Lib.hid (HS.out.up hb1)
  go_wp2_with fail
  refine (few6_any A n c fs w1 HS1.out (by omega)).mono ?_
  rintro e w' ⟨rfl, rfl⟩
  cases hfew : fewT fs with
  | false => ?_
  | true => ?_
  · go_wp2_with fail
    go_ret
    exact ⟨rfl, hb1⟩
  obtain ⟨hn20, hsh⟩ := fewT_true hfew
  have hn : n < 20 := by rw [← HL.out]; exact hn20
  have HSH := Lib.hid hsh
  clear hfew hn20 hsh
  go_wp2_with fail
  refine (fit_any A n c fs h w1 HS1.out (by omega)).mono ?_
  rintro e w2 ⟨v2, rfl, hR2, hb2⟩
  obtain ⟨A2, c2, rfl, hc2, hm2⟩ := hR2.cut
  unfold maxLen at hm2
  have hf3 := height_le h
  obtain ⟨L, hL⟩ : ∃ L, Hid (fitTo fs (2 ^ heightF h) = L) := ⟨_, rfl⟩
  have HLS : Hid (∀ x ∈ L, x.length ≤ 60) := by rw [← hL.out]; exact fitTo_short _ _ HSH.out
  have hN8 := two_three hf3
  have hN1 := two_pos (heightF h)
  obtain ⟨N, hN⟩ : ∃ N : Nat, Hid (2 ^ heightF h = N) := ⟨_, rfl⟩
  rw [hN.out] at hN8 hN1 hc2
  have HF2 := Lib.hid hR2.fields
  rw [hL.out, hN.out] at HF2
  rw [hN.out]
  have HS2 := Lib.hid (HS1.out.up hb2)
  have hbw2 := hb1.trans (hb2.mono hz1)
  have hz2 := hbw2.size
  have hLN : L.length = N := HF2.out.1
  have HTR : Hid (∀ j, j < N → (pathI (j : Int) L).length = heightF h ∧ climbI (L.getD j []) (j : Int) (pathI (j : Int) L) = rootI L) := by
    intro j hj
    exact climb_trip hf3 (by rw [hLN, hN.out]) j (by rw [hN.out]; exact hj)
  have HR1 : Hid (N ≠ 1 → (rootI L).length = 16) := by
    intro h1
    rw [rootI_two hf3 (by rw [hLN, hN.out])]
    obtain ⟨f, hf⟩ : ∃ f, heightF h = f + 1 := ⟨heightF h - 1, by
      rcases Nat.eq_zero_or_pos (heightF h) with h0 | h0
      · exact absurd (by rw [← hN.out, h0]) h1
      · omega⟩
    rw [hf]
    exact rootF_length f 0 L (by rw [hLN, ← hN.out, hf])
  obtain ⟨f, hfe⟩ : ∃ f, heightF h = f := ⟨_, rfl⟩
  rw [hfe] at hf3 HTR hN
  obtain ⟨R, hR⟩ : ∃ R, Hid (rootI L = R) := ⟨_, rfl⟩
  rw [hR.out] at HR1 HTR
  have HW := Lib.hid (pow_wrap f N hN.out hN8)
  clear hR2 hb2 hb1 hz1 HS1 hLN hfe HS2
  go_wp2_with fail
  refine (wroot_any A2 N c2 L w2 HF2.out (by omega) hc2 hm2 (short_big HLS.out) (HK.out.below hbw2 hw0)).mono ?_
  rw [hR.out]
  rintro e w3 ⟨B3, k3, d3, rfl, hk3, hd3, hm3, hS3, hb3⟩
  have HR3 := Lib.hid hS3
  have HF3 := Lib.hid (HF2.out.up hb3)
  have hbw3 := hbw2.trans (hb3.mono hz2)
  have hz3 := hbw3.size
  have hzero : k3 = 0 → N = 1 := fun e => by
    rcases Nat.decEq N 1 with h1 | h1
    · have := HR1.out h1
      rw [hS3.1] at this
      omega
    · exact h1
  clear hS3 hb3 HF2
  by_cases hk0 : k3 = 0
  focus
    have hN1' := hzero hk0
    have hd : decide ((1 : Int) < N) = false := by simp; omega
    have hq1 : ((k3 : Int) == 0) = true := by simp [hk0]
    clear hk0 hzero hN1'
    go_wp2_with fail
  rotate_left
  focus
    have hq1 : ((k3 : Int) == 0) = false := by simpa using hk0
    clear hk0 hzero
    go_wp2_with fail
  rotate_left
  all_goals
    go_loopw [7, 8] (fun i _ wr => ∃ j : Nat, j ≤ N ∧ i = .int .i64 j ∧ Below w3.heap.size w3 wr) (fun i _ _ => N - (intOf i).toNat)
    case atStart => exact ⟨0, by omega, rfl, Below.refl _ _⟩
    case round =>
      obtain ⟨j, hj, rfl, hb⟩ := hrel
      have hz := hb.size
      have hbw := hbw3.trans (hb.mono hz3)
      by_cases hlt : j < N
      · have hdj : decide ((j : Int) < N) = true := by simp; omega
        have HFr := Lib.hid (HF3.out.up hb)
        have HRr := Lib.hid (HR3.out.up hb)
        obtain ⟨hp1, hp2⟩ := HTR.out j hlt
        have HP1 := Lib.hid hp1
        have HP2 := Lib.hid hp2
        clear hp1 hp2
        go_wp2_with fail
        refine (wpath_any j A2 N c2 L wr HFr.out (by omega) hc2 hm2 (short_big HLS.out) (HK.out.below hbw hw0)).mono ?_
        rintro e w4 ⟨B4, k4, d4, rfl, hk4, hd4, hm4, hF4, hb4⟩
        have hkf : k4 = f := by rw [← hF4.1]; exact HP1.out
        subst hkf
        have HPF := Lib.hid hF4
        have HF4 := Lib.hid (HFr.out.up hb4)
        have HR4 := Lib.hid (HRr.out.up hb4)
        have hbr4 := hb.trans (hb4.mono hz)
        have hbw4 := hbw3.trans (hbr4.mono hz3)
        have hz4 := hbw4.size
        obtain ⟨b, off, rfl, hbl, hcl⟩ := HF4.out.2 (by omega)
        obtain ⟨A5, n5, c5, e5, s5, l5, m5⟩ := hcl j hlt
        unfold maxLen at m5
        have hn5 : n5 ≤ 60 := by rw [← s5.1]; exact get_short HLS.out j
        have HS5 := Lib.hid s5
        have hj0 : (0 : Int) ≤ (j : Int) := by omega
        have hj1 : (j : Int) < N := by omega
        have HPS : Hid (∀ x ∈ pathI (j : Int) L, x.length ≤ 60) := pathI_short 60 (by omega) _ _ HLS.out
        clear hcl s5 hF4 hb4 HFr HRr
        obtain ⟨hw1, hw2⟩ := HW.out
        go_wp2_with fail
        clear hw1 hw2
        refine (wclimb_any A5 B4 n5 c5 k4 d4 _ j (pathI (j : Int) L) w4 HS5.out (by omega) l5 m5 HPF.out (by omega) hd4 hm4 (short_big HPS.out) (HK.out.below hbw4 hw0)).mono ?_
        rw [HP2.out]
        rintro e w5 ⟨B5, k5, d5, rfl, hk5, hd5, hm5', hS5, hb5⟩
        have HS5' := Lib.hid hS5
        have HR5 := Lib.hid (HR4.out.up hb5)
        have hkk : k5 = k3 := by rw [← hS5.1, HR4.out.1]
        rw [hkk] at HS5' ⊢
        have hbr5 := hbr4.trans (hb5.mono hbr4.size)
        have hz5 := hbr5.size
        clear hS5 hb5 hkk
        go_wp2_with fail
        refine (same_self B5 B3 k3 d5 d3 R w5 HS5'.out HR5.out (by omega)).mono ?_
        rintro e w6 ⟨rfl, hb6⟩
        have hbr6 := hbr5.trans (hb6.mono hz5)
        clear hb6
        go_wp2_with fail
        go_roundw
        case measure => simp [intOf]; omega
        case rel => exact ⟨j + 1, by omega, by go_num, hbr6⟩
      · have hdj : decide ((j : Int) < N) = false := by simp; omega
        go_wp2_with fail
        go_ret
        exact ⟨rfl, hbw⟩
end Go.Proofs.YtkcbbgmilaafeaaDoor
