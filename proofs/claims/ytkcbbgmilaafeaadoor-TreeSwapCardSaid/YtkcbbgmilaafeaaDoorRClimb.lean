/-
  The reference's way of a leaf.
-/
import Derived.Test.YtkcbbgmilaafeaaDoorRRoot
namespace Go.Proofs.YtkcbbgmilaafeaaDoor
open Go.RowKit

set_option maxRecDepth 100000 in
set_option maxHeartbeats 4000000 in
theorem rclimb_any (A A2 : Option Addr) (n c n2 c2 : Nat) (leaf : List Int) (i : Int) (p : List (List Int)) (w : World) (ht : Seg w w.heap.size .u8 A n leaf) (hn : n ≤ 1048576) (hs : Fields w w.heap.size A2 n2 p) (hsh : ∀ x ∈ p, x.length ≤ 1048576) :
    Calls Tryd.prog 19 #[.slice A n c, .int .i64 i, .slice A2 n2 c2] w fun e w' => ∃ v k, e = .returned v ∧ k ≤ 1048576 ∧ Row w' w.heap.size 5 .u8 v k (climbI leaf i p) ∧ Below w.heap.size w w' := by
  have HS := Lib.hid hs
  have HL := Lib.hid hs.1
  have HSH := Lib.hid hsh
  have HT := Lib.hid ht
  clear hs hsh ht
  by_cases hbig : 3 < n2
  · have HR : Hid (climbI leaf i p = []) := by show _ = _; unfold climbI; rw [if_pos (by rw [HL.out]; omega)]
    have hd : decide ((3 : Int) < n2) = true := by simp; omega
    go_enter Tryd.func19, Tryd.ntmps19
    go_wp2_with fail
    go_ret
    rw [HR.out]
    exact ⟨_, 0, rfl, by omega, nil_row _ _ _ _, Below.refl _ _⟩
  have hd : decide ((3 : Int) < n2) = false := by simp; omega
  by_cases hneg : i < 0
  · have HR : Hid (climbI leaf i p = []) := by show _ = _; unfold climbI; rw [if_pos (by omega)]
    have hd2 : decide (i < 0) = true := by simpa using hneg
    go_enter Tryd.func19, Tryd.ntmps19
    go_wp2_with fail
    go_ret
    rw [HR.out]
    exact ⟨_, 0, rfl, by omega, nil_row _ _ _ _, Below.refl _ _⟩
  obtain ⟨I, rfl⟩ : ∃ I : Nat, i = I := ⟨i.toNat, by omega⟩
  have hd2 : decide ((I : Int) < 0) = false := by simp
  obtain ⟨N, hN⟩ : ∃ N : Nat, Hid (2 ^ n2 = N) := ⟨_, rfl⟩
  have hN8 : N ≤ 8 := by rw [← hN.out]; exact two_three (by omega)
  have hcast : (2 : Int) ^ n2 = (N : Int) := by rw [← hN.out]; simp
  have hw1 : RowKit.wrap64 ((2 : Int) ^ n2) = (N : Int) := by rw [hcast]; unfold RowKit.wrap64; omega
  have hw2 : IntKind.i64.wrap ((2 : Int) ^ n2) = (N : Int) := by rw [hcast]; exact IntWalk.i64_in _ (by omega)
  clear hcast
  by_cases hge : N ≤ I
  · have HR : Hid (climbI leaf I p = []) := by show _ = _; unfold climbI; rw [if_pos (by rw [HL.out, hN.out]; omega)]
    have hd3 : decide ((N : Int) ≤ (I : Int)) = true := by simpa using hge
    have hd4 : decide (N ≤ I) = true := by simpa using hge
    go_enter Tryd.func19, Tryd.ntmps19
    go_wp2_with fail
    go_ret
    rw [HR.out]
    exact ⟨_, rfl, 0, by omega, nil_row _ _ _ _, Below.refl _ _⟩
  have hd3 : decide ((N : Int) ≤ (I : Int)) = false := by simpa using hge
  have hd4 : decide (N ≤ I) = false := by simpa using hge
  obtain ⟨R, HR⟩ : ∃ R, Hid (climbI leaf I p = R) := ⟨_, rfl⟩
  have HC : Hid (climbF 0 leaf I p = R) := by show _ = _; rw [← HR.out, climbI_two (by rw [HL.out]; omega) I (by rw [HL.out, hN.out]; omega)]
  have hI8 : I < 8 := by omega
  clear hge
  go_enter Tryd.func19, Tryd.ntmps19
  go_wp2_with fail
  refine (copy_any A n c leaf w HT.out (by omega)).mono ?_
  rintro e w1 ⟨v1, rfl, hR1, hb1⟩
  obtain ⟨A1, c1, rfl, _, _⟩ := hR1.cut
  have HR1 := Lib.hid hR1
  clear hR1
  go_wp2_with fail
  go_loopw [1, 7, 8] (fun i x h wr => ∃ (I j : Nat) (A' : Option Addr) (n' c' : Nat) (X : List Int), i = .int .i64 I ∧ h = .int .i64 j ∧ x = .slice A' n' c' ∧ j ≤ n2 ∧ I < 8 ∧ n' ≤ 1048576 ∧ Hid (Row wr w.heap.size 5 .u8 (.slice A' n' c') n' X) ∧ Hid (climbF j X I (p.drop j) = R) ∧ Below w.heap.size w wr) (fun _ _ h _ => n2 - (intOf h).toNat)
  case atStart => exact ⟨I, 0, A1, n, c1, leaf, rfl, rfl, rfl, by omega, hI8, hn, HR1.out, HC.out, hb1⟩
  case round =>
    clear hI8 HR1 hb1
    obtain ⟨I, j, A', n', c', X, rfl, rfl, rfl, hj, hI8, hn', hX, hCl, hb⟩ := hrel
    have hz := hb.size
    by_cases hlt : j < n2
    · have hdj : decide ((j : Int) < n2) = true := by simp; omega
      obtain ⟨b, off, rfl, hbl, hcl⟩ := HS.out.2 (by omega)
      obtain ⟨A2, m2, k2, e2, s2, l2, x2⟩ := hcl j hlt
      have hcy := (hb.cell (p := ⟨b, off + j, none⟩) hbl).trans e2
      have HY := Lib.hid ((s2.below hb (Nat.le_refl _)).more hz)
      have hm2 : m2 ≤ 1048576 := by rw [← s2.1]; exact get_short HSH.out j
      obtain ⟨Y, hY⟩ : ∃ Y, Hid (p.getD j [] = Y) := ⟨_, rfl⟩
      rw [hY.out] at HY
      have hcap := hX.out.caps
      obtain ⟨hcap1, hcap2⟩ := hcap
      obtain ⟨I2, hI2⟩ : ∃ I2, Hid (I / 2 = I2) := ⟨_, rfl⟩
      have hI28 : I2 < 8 := by have := hI2.out; omega
      have hquo : IntKind.i64.wrap ((I : Int).tdiv 2) = (I2 : Int) := by rw [IntWalk.i64_quo _ _ (by omega), ← hI2.out]; omega
      have hquo2 : RowKit.wrap64 ((I : Int) / 2) = (I2 : Int) := by unfold RowKit.wrap64; rw [← hI2.out]; omega
      have HQ : Hid ((I : Int) / 2 = (I2 : Int)) := by show _ = _; rw [← hI2.out]; omega
      have HD : Hid (climbF (j + 1) (hash16 3 (stepT j I X Y)) I2 (p.drop (j + 1)) = R) := by
        show _ = _
        have h := hCl.out
        have hd : p.drop j = Y :: p.drop (j + 1) := by
          rw [List.drop_eq_getElem_cons (by rw [HL.out]; exact hlt), ← hY.out]
          simp [List.getD, HL.out, hlt]
        rw [hd, climbF, hI2.out] at h
        exact h
      clear hcl e2 s2
      by_cases hev : I % 2 = 0
      focus
        have hr1 : (I : Int).tmod 2 = 0 := by rw [Int.tmod_eq_emod_of_nonneg (by omega)]; omega
        have hr2 : (I : Int) % 2 = 0 := by omega
        have hst : stepT j I X Y = nodeF j I2 X Y := by rw [stepT, if_pos hev, hI2.out]
        rw [hst] at HD
        clear hst hev
        go_wp2_with fail
        rw [HQ.out]
        refine (rjoin_any A' A2 n' c' m2 k2 j I2 X Y wr hX.out.seg hn' hcap1 hcap2 HY.out hm2 l2 x2).mono ?_
        rintro e w2 ⟨v2, rfl, hR2, hb2⟩
      rotate_left
      focus
        have hr1 : (I : Int).tmod 2 = 1 := by rw [Int.tmod_eq_emod_of_nonneg (by omega)]; omega
        have hr2 : (I : Int) % 2 = 1 := by omega
        have hst : stepT j I X Y = nodeF j I2 Y X := by rw [stepT, if_neg hev, hI2.out]
        rw [hst] at HD
        clear hst hev
        go_wp2_with fail
        rw [HQ.out]
        refine (rjoin_any A2 A' m2 k2 n' c' j I2 Y X wr HY.out hm2 l2 x2 hX.out.seg hn' hcap1 hcap2).mono ?_
        rintro e w2 ⟨v2, rfl, hR2, hb2⟩
      rotate_left
      all_goals
        obtain ⟨A3, c3, rfl, _, _⟩ := hR2.cut
        have HR2 := Lib.hid (Row.less hR2 hz)
        have hb3 := hb.trans (hb2.mono hz)
        clear hR2 hb2
        go_wp2_with fail
        go_roundw
        case measure => simp [intOf]; omega
        case rel => exact ⟨I2, j + 1, A3, 16, c3, _, by rw [HQ.out], by go_num, rfl, by omega, hI28, by omega, HR2.out, HD.out, hb3⟩
    · have hdj : decide ((j : Int) < n2) = false := by simp; omega
      have HE : Hid (X = R) := by
        show _ = _
        have h := hCl.out
        rw [List.drop_of_length_le (by rw [HL.out]; omega), climbF] at h
        exact h
      rw [HE.out] at hX
      go_wp2_with fail
      go_ret
      rw [HR.out]
      exact ⟨_, n', rfl, hn', hX.out, hb⟩
end Go.Proofs.YtkcbbgmilaafeaaDoor
