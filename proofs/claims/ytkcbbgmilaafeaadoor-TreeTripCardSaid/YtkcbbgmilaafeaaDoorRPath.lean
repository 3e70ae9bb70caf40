/-
  The reference's path of a leaf.
-/
import Derived.Test.YtkcbbgmilaafeaaDoorRRoot
namespace Go.Proofs.YtkcbbgmilaafeaaDoor
open Go.RowKit

theorem xor_one (I : Nat) (h : I < 8) : bits .xor .i64 (I : Int) 1 = (sibI I : Int) := by
  rcases (by omega : I = 0 ∨ I = 1 ∨ I = 2 ∨ I = 3 ∨ I = 4 ∨ I = 5 ∨ I = 6 ∨ I = 7) with rfl | rfl | rfl | rfl | rfl | rfl | rfl | rfl <;> decide +kernel
theorem sib_lt {I f : Nat} (h : I < 2 ^ (f + 1)) : sibI I < 2 ^ (f + 1) := by
  have := two_next f
  unfold sibI
  split <;> omega

set_option maxRecDepth 100000 in
set_option maxHeartbeats 4000000 in
theorem rpath_any (i : Int) (A : Option Addr) (n c : Nat) (fs : List (List Int)) (w : World) (hs : Fields w w.heap.size A n fs) (hsh : ∀ x ∈ fs, x.length ≤ 1048576) :
    Calls Tryd.prog 17 #[.int .i64 i, .slice A n c] w fun e w' => ∃ v k, e = .returned v ∧ k ≤ 3 ∧ FRow w' w.heap.size w.heap.size v k (pathI i fs) ∧ Below w.heap.size w w' := by
  have HS := Lib.hid hs
  have HL := Lib.hid hs.1
  have HSH := Lib.hid hsh
  clear hs hsh
  by_cases hfit : fitB n = false
  · have HR : Hid (pathI i fs = []) := by show _ = _; unfold pathI; rw [fitB_none (by rw [HL.out]; exact hfit)]
    go_enter Tryd.func17, Tryd.ntmps17
    go_wp2_with (go_at_call 24; refine (rfits_any n w).mono ?_; rintro e w1 ⟨rfl, rfl⟩; rw [hfit])
    go_ret
    rw [HR.out]
    exact ⟨_, 0, rfl, by omega, FRow.nil _ _ _, Below.refl _ _⟩
  have hfit2 : fitB n = true := by simpa using hfit
  obtain ⟨f, hf, hnf⟩ := fitB_some hfit2
  have HNF := Lib.hid hnf
  have hn8 : n ≤ 8 := by rw [hnf]; exact two_three hf
  by_cases hbad : i < 0 ∨ (n : Int) ≤ i
  · have HR : Hid (pathI i fs = []) := by show _ = _; unfold pathI; rw [HL.out, hnf, fitsT_two hf]; simp only; rw [if_pos (by rw [← hnf]; exact hbad)]
    rcases (by omega : i < 0 ∨ (0 ≤ i ∧ (n : Int) ≤ i)) with h1 | ⟨h1, h2⟩
    focus
      have hd : decide (i < 0) = true := by simpa using h1
    rotate_left
    focus
      have hd : decide (i < 0) = false := by simp; omega
      have hd2 : decide ((n : Int) ≤ i) = true := by simpa using h2
    rotate_left
    all_goals
      clear hbad hfit hnf
      go_enter Tryd.func17, Tryd.ntmps17
      go_wp2_with (go_at_call 24; refine (rfits_any n w).mono ?_; rintro e w1 ⟨rfl, rfl⟩; rw [hfit2])
      go_ret
      rw [HR.out]
      exact ⟨_, 0, rfl, by omega, FRow.nil _ _ _, Below.refl _ _⟩
  · obtain ⟨I, rfl⟩ : ∃ I : Nat, i = I := ⟨i.toNat, by omega⟩
    have hI : I < n := by omega
    have hd : decide ((I : Int) < 0) = false := by simp
    have hd2 : decide ((n : Int) ≤ (I : Int)) = false := by simp; omega
    have hd3 : decide (n ≤ I) = false := by simp; omega
    obtain ⟨P, HP⟩ : ∃ P, Hid (pathI I fs = P) := ⟨_, rfl⟩
    have HRF : Hid (pathF f 0 I fs = P) := by show _ = _; rw [← HP.out, pathI_two hf (by rw [HL.out]; exact hnf) I (by rw [← hnf]; exact hI)]
    have HI : Hid (I < 2 ^ f) := by show _ < _; rw [← hnf]; exact hI
    have HOFF : Hid (FOff w none A n fs) := HS.out.off (Nat.le_refl _) (fun g h => by cases h)
    clear hfit hnf hbad
    go_enter Tryd.func17, Tryd.ntmps17
    go_wp2_with (go_at_call 24; refine (rfits_any n w).mono ?_; rintro e w1 ⟨rfl, rfl⟩; rw [hfit2])
    go_loopw [0, 5, 6, 7] (fun i o l h wr => ∃ (I j f' : Nat) (A' : Option Addr) (n' c' : Nat) (cur pre : List (List Int)), i = .int .i64 I ∧ h = .int .i64 j ∧ l = .slice A' n' c' ∧ j + f' = f ∧ Hid (FOff wr o.ownBlock A' n' cur) ∧ Hid (n' = 2 ^ f') ∧ Hid (∀ x ∈ cur, x.length ≤ 1048576) ∧ Hid (FRow wr w.heap.size w.heap.size o j pre) ∧ Hid (pre ++ pathF f' j I cur = P) ∧ Hid (I < 2 ^ f') ∧ Below w.heap.size w wr) (fun _ _ _ h _ => f - (intOf h).toNat)
    case atStart => exact ⟨I, 0, f, A, n, c, fs, [], rfl, rfl, rfl, by omega, HOFF.out, HNF.out, HSH.out, FRow.nil _ _ _, by show [] ++ _ = _; rw [List.nil_append]; exact HRF.out, HI.out, Below.refl _ _⟩
    case round =>
      obtain ⟨I, j, f', A', n', c', cur, pre, rfl, rfl, rfl, hj, hF, hN, hC, hO, hP, hI2, hb⟩ := hrel
      have hz := hb.size
      rcases f' with _ | f'
      · have hn1 : n' = 1 := hN.out
        subst hn1
        have hjf : j = f := by omega
        have HE : Hid (pre = P) := by show _ = _; have h := hP.out; rw [pathF, List.append_nil] at h; exact h
        rw [HE.out, hjf] at hO
        clear hjf
        go_wp2_with fail
        go_ret
        rw [HP.out]
        exact ⟨_, rfl, f, hf, hO.out, hb⟩
      · have hp := two_pos f'
        have hn2 : n' = 2 * 2 ^ f' := by rw [hN.out, two_next]
        have hn8' : n' ≤ 8 := by rw [hN.out]; exact two_three (by omega)
        have hdd : decide ((1 : Int) < n') = true := by simp; omega
        have hIn : I < n' := by rw [hN.out]; exact hI2.out
        obtain ⟨S, hS⟩ : ∃ S, Hid (sibI I = S) := ⟨_, rfl⟩
        have hSn : S < n' := by rw [← hS.out, hN.out]; exact sib_lt hI2.out
        have hxor : bits .xor .i64 (I : Int) 1 = (S : Int) := by rw [xor_one I (by omega), hS.out]
        obtain ⟨I2, hI2'⟩ : ∃ I2, Hid (I / 2 = I2) := ⟨_, rfl⟩
        have hquo : IntKind.i64.wrap ((I : Int).tdiv 2) = (I2 : Int) := by rw [IntWalk.i64_quo _ _ (by omega), ← hI2'.out]; omega
        have hquo2 : RowKit.wrap64 ((I : Int) / 2) = (I2 : Int) := by unfold RowKit.wrap64; rw [← hI2'.out]; omega
        obtain ⟨b, off, rfl, hbl, _, hcl⟩ := hF.out.2 (by omega)
        obtain ⟨A1, n1, c1, e1, s1, l1, m1, a1⟩ := hcl S hSn
        have hn1 : n1 ≤ 1048576 := by rw [← s1.1]; exact get_short hC.out S
        have HS1 := Lib.hid s1
        have hS0 : (0 : Int) ≤ (S : Int) := by omega
        have hS1 : (S : Int) < n' := by omega
        have HLT := Lib.hid hO.out.lt
        have HN2 : Hid (n' / 2 = 2 ^ f') := by show _ = _; omega
        have HI3 : Hid (I2 < 2 ^ f') := by show _ < _; rw [← hI2'.out]; omega
        have HP2 : Hid ((pre ++ [cur.getD S []]) ++ pathF f' (j + 1) I2 (upT j cur) = P) := by show _ = _; have h := hP.out; rw [pathF, hS.out, hI2'.out] at h; rw [← h]; simp
        clear hcl s1 a1 hp hn2 hIn
        go_wp2_with fail
        refine (copy_any A1 n1 c1 _ wr HS1.out (by omega)).mono ?_
        rintro e w2 ⟨v2, rfl, hR2, hbx⟩
        obtain ⟨A3, c3, rfl, hcc3, hm3⟩ := hR2.cut
        have hb2 : Below w.heap.size w w2 := hb.trans (hbx.mono hz)
        have hbA : Below w2.heap.size w2 (w2.alloc (.cells #[.slice A3 n1 c3] 27)) := (Below.refl _ _).alloc (Nat.le_refl _) _
        have hb3 := hb2.trans (hbA.mono hb2.size)
        have HO3 := Lib.hid ((FRow.below hO.out hbx).below hbA)
        have HF3 := Lib.hid ((FOff.below hF.out hbx).below hbA)
        have hc3' := cell_made w2 #[.slice A3 n1 c3] 27 _ 0 _ rfl rfl
        have HS3 := Lib.hid ((hR2.seg.below hbA (Nat.le_refl _)).more hbA.size)
        have HAP := Lib.hid (hR2.apart (fun g hg => (HLT.out g hg).2))
        have HD3 := Lib.hid (fun h0 a ha => Nat.le_trans hz (hR2.from_ h0 a ha))
        clear hR2
        go_wp2_with (at_builtin; refine wpList_app1 rfl (.tmp 28) (.tmp 35) rfl w.heap.size w.heap.size w2.heap.size _ j pre rfl HO3.out 1 A3 n1 c3 (cur.getD S []) rfl hc3' HS3.out hcc3 hm3 HAP.out HD3.out (by omega) hb3.size ?_; intro v4 w4 hO4 hg4 hor4; have hb4 : Below w.heap.size w w4 := frow_below HO3.out hg4 hb3 hb3.size; have HF4 := Lib.hid (FOff.turn HF3.out hg4 hor4); have HO4 := Lib.hid hO4; clear hO4 hg4 hor4 hc3')
        refine (rup_any _ n' c' j cur w4 HF4.out.fields (by omega) hC.out).mono ?_
        rintro e w5 ⟨v5, rfl, hR5, hb5⟩
        obtain ⟨A5, c5, rfl, _, _⟩ := hR5.cut
        have HF5 := Lib.hid (hR5.off (r := v4.ownBlock) (fun g hg => ⟨(HO4.out.lt g hg).2, (HO4.out.lt g hg).2⟩))
        have HO5 := Lib.hid (HO4.out.below hb5)
        have hbw5 := hb4.trans (hb5.mono hb4.size)
        clear hR5
        go_wp2_with fail
        go_roundw
        case measure => simp [intOf]; omega
        case rel =>
          exact ⟨I2, j + 1, f', A5, n' / 2, c5, upT j cur, pre ++ [cur.getD S []], by rw [hquo2], by go_num, rfl, by omega, HF5.out, HN2.out, upTo_short _ _ _ _ (by omega), HO5.out, HP2.out, HI3.out, hbw5⟩
end Go.Proofs.YtkcbbgmilaafeaaDoor
