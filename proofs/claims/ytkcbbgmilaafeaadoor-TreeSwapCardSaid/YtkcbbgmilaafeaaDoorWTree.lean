/-
  The program's root of a tree, path of a leaf, and way of a leaf.
-/
import Derived.Test.YtkcbbgmilaafeaaDoorWNode
namespace Go.Proofs.YtkcbbgmilaafeaaDoor
open Go.RowKit

theorem and_one (J : Nat) (h : J < 8) : bits .and .i64 (J : Int) 1 = ((J % 2 : Nat) : Int) := by
  rcases (by omega : J = 0 ∨ J = 1 ∨ J = 2 ∨ J = 3 ∨ J = 4 ∨ J = 5 ∨ J = 6 ∨ J = 7) with rfl | rfl | rfl | rfl | rfl | rfl | rfl | rfl <;> decide +kernel

set_option maxRecDepth 100000 in
set_option maxHeartbeats 2000000 in
theorem wroot_row (A : Option Addr) (n c : Nat) (fs : List (List Int)) (w : World) (hs : Fields w w.heap.size A n fs) (hsh : ∀ x ∈ fs, x.length ≤ 1048576) (hK : Tab w 0 .u32 kay256) :
    Calls Tryd.prog 13 #[.slice A n c] w fun e w' => ∃ v k, e = .returned v ∧ k ≤ 1048576 ∧ Row w' w.heap.size 5 .u8 v k (rootI fs) ∧ Below w.heap.size w w' := by
  have HS := Lib.hid hs
  have HL := Lib.hid hs.1
  have HSH := Lib.hid hsh
  have HK := Lib.hid hK
  have hk0 := hK.lt
  clear hs hsh hK
  by_cases hfit : fitB n = false
  · have HR : Hid (rootI fs = []) := by show _ = _; unfold rootI; rw [fitB_none (by rw [HL.out]; exact hfit)]
    go_enter Tryd.func13, Tryd.ntmps13
    go_wp2_with (go_at_call 21; refine (wwidth_any n w).mono ?_; rintro e w1 ⟨rfl, rfl⟩; rw [hfit])
    go_ret
    rw [HR.out]
    exact ⟨_, 0, rfl, by omega, nil_row _ _ _ _, Below.refl _ _⟩
  · have hfit2 : fitB n = true := by simpa using hfit
    obtain ⟨f, hf, hnf⟩ := fitB_some hfit2
    have HNF := Lib.hid hnf
    obtain ⟨R, HR⟩ : ∃ R, Hid (rootI fs = R) := ⟨_, rfl⟩
    have HRF : Hid (rootF f 0 fs = R) := by show _ = _; rw [← HR.out, rootI_two hf (by rw [HL.out]; exact hnf)]
    clear hfit hnf
    go_enter Tryd.func13, Tryd.ntmps13
    go_wp2_with (go_at_call 21; refine (wwidth_any n w).mono ?_; rintro e w1 ⟨rfl, rfl⟩; rw [hfit2])
    go_loopw [3, 4] (fun l h wr => ∃ (j f' : Nat) (A' : Option Addr) (n' c' : Nat) (cur : List (List Int)), h = .int .i64 j ∧ l = .slice A' n' c' ∧ j + f' = f ∧ Hid (Fields wr wr.heap.size A' n' cur) ∧ Hid (n' = 2 ^ f') ∧ Hid (∀ x ∈ cur, x.length ≤ 1048576) ∧ Hid (rootF f' j cur = R) ∧ Below w.heap.size w wr) (fun _ h _ => f - (intOf h).toNat)
    case atStart => exact ⟨0, f, A, n, c, fs, rfl, rfl, by omega, HS.out, HNF.out, HSH.out, HRF.out, Below.refl _ _⟩
    case round =>
      obtain ⟨j, f', A', n', c', cur, rfl, rfl, hj, hF, hN, hC, hR, hb⟩ := hrel
      have hz := hb.size
      rcases f' with _ | f'
      · have hn1 : n' = 1 := hN.out
        subst hn1
        obtain ⟨b, off, rfl, hbl, hcl⟩ := hF.out.2 (by omega)
        obtain ⟨A1, n1, c1, e1, s1, l1, m1⟩ := hcl 0 (by omega)
        have hn1 : n1 ≤ 1048576 := by rw [← s1.1]; exact get_short hC.out 0
        have HE : Hid (cur.getD 0 [] = R) := hR.out
        have HS1 := Lib.hid s1
        rw [HE.out] at HS1
        have hc0 : wr.cell? ⟨b, off, none⟩ = some (.slice A1 n1 c1) := e1
        clear hcl e1 s1
        go_wp2_with (go_at_call 23; refine (bclone_any A1 n1 c1 R wr HS1.out (by omega)).mono ?_; rintro e w2 ⟨v2, rfl, hR2, hb2⟩)
        go_ret
        rw [HR.out]
        exact ⟨_, n1, rfl, hn1, Row.less hR2 hz, hb.trans (hb2.mono hz)⟩
      · have hp := two_pos f'
        have hn2 : n' = 2 * 2 ^ f' := by rw [hN.out, two_next]
        have hn8 : n' ≤ 8 := by rw [hN.out]; exact two_three (by omega)
        have hd : decide ((1 : Int) < n') = true := by simp; omega
        have HR2 : Hid (rootF f' (j + 1) (upT j cur) = R) := hR.out
        have HN2 : Hid (n' / 2 = 2 ^ f') := by show _ = _; omega
        have HKR := Lib.hid (HK.out.below hb hk0)
        clear hn2 hp
        go_wp2_with (go_at_call 22; refine (wabove_any A' n' c' j cur wr hF.out (by omega) hC.out HKR.out).mono ?_; rintro e w2 ⟨v2, rfl, hR2, hb2⟩; obtain ⟨A2, c2, rfl, _, _⟩ := hR2.cut; have HF2 := Lib.hid hR2.fields; clear hR2)
        go_roundw
        case measure => simp [intOf]; omega
        case rel => exact ⟨j + 1, f', A2, n' / 2, c2, upT j cur, by go_num, rfl, by omega, HF2, HN2, upTo_short _ _ _ _ (by omega), HR2, hb.trans (hb2.mono hz)⟩

theorem wroot_any (A : Option Addr) (n c : Nat) (fs : List (List Int)) (w : World) (hs : Fields w w.heap.size A n fs) (_ : n ≤ 1048576) (_ : n ≤ c) (_ : c ≤ 9223372036854775807) (hsh : ∀ x ∈ fs, x.length ≤ 1048576) (hK : Tab w 0 .u32 kay256) :
    Calls Tryd.prog 13 #[.slice A n c] w fun e w' => ∃ B k d, e = .returned (.slice B k d) ∧ k ≤ 1048576 ∧ k ≤ d ∧ d ≤ 9223372036854775807 ∧ Seg w' w'.heap.size .u8 B k (rootI fs) ∧ Below w.heap.size w w' := by
  refine (wroot_row A n c fs w hs hsh hK).mono ?_
  rintro e w' ⟨v, k, he, hk, hR, hb⟩
  obtain ⟨B, d, rfl, h1, h2⟩ := hR.cut
  exact ⟨B, k, d, he, hk, h1, by unfold maxLen at h2; omega, hR.seg, hb⟩

set_option maxRecDepth 100000 in
set_option maxHeartbeats 4000000 in
theorem wpath_row (i : Int) (A : Option Addr) (n c : Nat) (fs : List (List Int)) (w : World) (hs : Fields w w.heap.size A n fs) (hsh : ∀ x ∈ fs, x.length ≤ 1048576) (hK : Tab w 0 .u32 kay256) :
    Calls Tryd.prog 16 #[.int .i64 i, .slice A n c] w fun e w' => ∃ v k, e = .returned v ∧ k ≤ 3 ∧ FRow w' w.heap.size w.heap.size v k (pathI i fs) ∧ Below w.heap.size w w' := by
  have HS := Lib.hid hs
  have HL := Lib.hid hs.1
  have HSH := Lib.hid hsh
  have HK := Lib.hid hK
  have hk0 := hK.lt
  clear hs hsh hK
  by_cases hfit : fitB n = false
  · have HR : Hid (pathI i fs = []) := by show _ = _; unfold pathI; rw [fitB_none (by rw [HL.out]; exact hfit)]
    go_enter Tryd.func16, Tryd.ntmps16
    go_wp2_with (go_at_call 21; refine (wwidth_any n w).mono ?_; rintro e w1 ⟨rfl, rfl⟩; rw [hfit])
    go_ret
    rw [HR.out]
    exact ⟨_, 0, rfl, by omega, FRow.nil _ _ _, Below.refl _ _⟩
  have hfit2 : fitB n = true := by simpa using hfit
  obtain ⟨f, hf, hnf⟩ := fitB_some hfit2
  have HNF := Lib.hid hnf
  have hn8 : n ≤ 8 := by rw [hnf]; exact two_three hf
  by_cases hbad : i < 0 ∨ (n : Int) ≤ i
  · have HR : Hid (pathI i fs = []) := by show _ = _; unfold pathI; rw [HL.out, hnf, fitsT_two hf]; simp only; rw [if_pos (by rw [← hnf]; exact hbad)]
    rcases (by omega : i < 0 ∨ (0 ≤ i ∧ (n : Int) ≤ i)) with h1 | ⟨h1, h2⟩
    focus
      have hd : decide (i < 0) = true := by simpa using h1
    rotate_left
    focus
      have hd : decide (i < 0) = false := by simp; omega
      have hd2 : decide ((n : Int) ≤ i) = true := by simpa using h2
    rotate_left
    all_goals
      clear hbad hfit hnf
      go_enter Tryd.func16, Tryd.ntmps16
      go_wp2_with (go_at_call 21; refine (wwidth_any n w).mono ?_; rintro e w1 ⟨rfl, rfl⟩; rw [hfit2])
      go_ret
      rw [HR.out]
      exact ⟨_, 0, rfl, by omega, FRow.nil _ _ _, Below.refl _ _⟩
  · obtain ⟨I, rfl⟩ : ∃ I : Nat, i = I := ⟨i.toNat, by omega⟩
    have hI : I < n := by omega
    have hd : decide ((I : Int) < 0) = false := by simp
    have hd2 : decide ((n : Int) ≤ (I : Int)) = false := by simp; omega
    have hd3 : decide (n ≤ I) = false := by simp; omega
    obtain ⟨P, HP⟩ : ∃ P, Hid (pathI I fs = P) := ⟨_, rfl⟩
    have HRF : Hid (pathF f 0 I fs = P) := by show _ = _; rw [← HP.out, pathI_two hf (by rw [HL.out]; exact hnf) I (by rw [← hnf]; exact hI)]
    have HI : Hid (I < 2 ^ f) := by show _ < _; rw [← hnf]; exact hI
    have HOFF : Hid (FOff w none A n fs) := HS.out.off (Nat.le_refl _) (fun g h => by cases h)
    clear hfit hnf hbad
    go_enter Tryd.func16, Tryd.ntmps16
    go_wp2_with (first | (at_make; refine wpList_makeS rfl _ _ rfl w.heap.size w.heap.size .i64 .i64 3 _ _ rfl rfl rfl rfl (by omega) (Nat.le_refl _) ?_; intro w0 hR0 hb0) | (go_at_call 21; refine (wwidth_any n w).mono ?_; rintro e w1 ⟨rfl, rfl⟩; rw [hfit2]))
    have HR0 := Lib.hid hR0
    clear hR0
    go_loopw [5, 6, 7] (fun o l h wr => ∃ (J j f' : Nat) (A' : Option Addr) (n' c' : Nat) (cur pre : List (List Int)), h = .int .i64 j ∧ l = .slice A' n' c' ∧ j + f' = f ∧ Hid (FOff wr o.ownBlock A' n' cur) ∧ Hid (n' = 2 ^ f') ∧ Hid (∀ x ∈ cur, x.length ≤ 1048576) ∧ Hid (FRow wr w.heap.size w.heap.size o j pre) ∧ Hid (pre ++ pathF f' j J cur = P) ∧ Hid (J < 2 ^ f') ∧ Hid (I / 2 ^ j = J) ∧ Below w.heap.size w wr) (fun _ _ h _ => f - (intOf h).toNat)
    case atStart => exact ⟨I, 0, f, A, n, c, fs, [], rfl, rfl, by omega, ((Fields.off HS.out (Nat.le_refl _) (fun g h => by injection h with h; simp at h; omega)).below hb0), HNF.out, HSH.out, HR0.out, by show [] ++ _ = _; rw [List.nil_append]; exact HRF.out, HI.out, by show I / 1 = I; exact Nat.div_one I, hb0⟩
    case round =>
      clear HR0 hb0
      obtain ⟨J, j, f', A', n', c', cur, pre, rfl, rfl, hj, hF, hN, hC, hO, hP, hI2, hJ, hb⟩ := hrel
      have hz := hb.size
      rcases f' with _ | f'
      · have hn1 : n' = 1 := hN.out
        subst hn1
        have hjf : j = f := by omega
        have HE : Hid (pre = P) := by show _ = _; have h := hP.out; rw [pathF, List.append_nil] at h; exact h
        rw [HE.out, hjf] at hO
        clear hjf
        go_wp2_with fail
        go_ret
        rw [HP.out]
        exact ⟨_, rfl, f, hf, hO.out, hb⟩
      · have hp := two_pos f'
        have hn2 : n' = 2 * 2 ^ f' := by rw [hN.out, two_next]
        have hn8' : n' ≤ 8 := by rw [hN.out]; exact two_three (by omega)
        have hdd : decide ((1 : Int) < n') = true := by simp; omega
        have hJn : J < n' := by rw [hN.out]; exact hI2.out
        obtain ⟨S, hS⟩ : ∃ S, Hid (sibI J = S) := ⟨_, rfl⟩
        have hSn : S < n' := by rw [← hS.out, hN.out]; exact sib_lt hI2.out
        have hxor : bits .xor .i64 (J : Int) 1 = (S : Int) := by rw [xor_one J (by omega), hS.out]
        have hshr : (I : Int) / 2 ^ j = (J : Int) := by have h := hJ.out; rw [← h]; simp
        obtain ⟨J2, hJ2⟩ : ∃ J2, Hid (J / 2 = J2) := ⟨_, rfl⟩
        obtain ⟨b, off, rfl, hbl, _, hcl⟩ := hF.out.2 (by omega)
        obtain ⟨A1, n1, c1, e1, s1, l1, m1, a1⟩ := hcl S hSn
        have hn1 : n1 ≤ 1048576 := by rw [← s1.1]; exact get_short hC.out S
        have HS1 := Lib.hid s1
        have hS0 : (0 : Int) ≤ (S : Int) := by omega
        have hS1 : (S : Int) < n' := by omega
        have HLT := Lib.hid hO.out.lt
        have HN2 : Hid (n' / 2 = 2 ^ f') := by show _ = _; omega
        have HJ3 : Hid (J2 < 2 ^ f') := by show _ < _; rw [← hJ2.out]; omega
        have HJ4 : Hid (I / 2 ^ (j + 1) = J2) := by show _ = _; rw [← hJ2.out, ← hJ.out, Nat.pow_succ, Nat.div_div_eq_div_mul]
        have HP2 : Hid ((pre ++ [cur.getD S []]) ++ pathF f' (j + 1) J2 (upT j cur) = P) := by show _ = _; have h := hP.out; rw [pathF, hS.out, hJ2.out] at h; rw [← h]; simp
        clear hcl s1 a1 hp hn2 hJn
        go_wp2_with fail
        refine (bclone_any A1 n1 c1 _ wr HS1.out (by omega)).mono ?_
        rintro e w2 ⟨v2, rfl, hR2, hbx⟩
        obtain ⟨A3, c3, rfl, hcc3, hm3⟩ := hR2.cut
        have hb2 : Below w.heap.size w w2 := hb.trans (hbx.mono hz)
        have hbA : Below w2.heap.size w2 (w2.alloc (.cells #[.slice A3 n1 c3] 27)) := (Below.refl _ _).alloc (Nat.le_refl _) _
        have hb3 := hb2.trans (hbA.mono hb2.size)
        have HO3 := Lib.hid ((FRow.below hO.out hbx).below hbA)
        have HF3 := Lib.hid ((FOff.below hF.out hbx).below hbA)
        have hc3' := cell_made w2 #[.slice A3 n1 c3] 27 _ 0 _ rfl rfl
        have HS3 := Lib.hid ((hR2.seg.below hbA (Nat.le_refl _)).more hbA.size)
        have HAP := Lib.hid (hR2.apart (fun g hg => (HLT.out g hg).2))
        have HD3 := Lib.hid (fun h0 a ha => Nat.le_trans hz (hR2.from_ h0 a ha))
        clear hR2
        go_wp2_with (at_builtin; refine wpList_app1 rfl (.tmp 34) (.tmp 40) rfl w.heap.size w.heap.size w2.heap.size _ j pre rfl HO3.out 1 A3 n1 c3 (cur.getD S []) rfl hc3' HS3.out hcc3 hm3 HAP.out HD3.out (by omega) hb3.size ?_; intro v4 w4 hO4 hg4 hor4; have hb4 : Below w.heap.size w w4 := frow_below HO3.out hg4 hb3 hb3.size; have HF4 := Lib.hid (FOff.turn HF3.out hg4 hor4); have HO4 := Lib.hid hO4; clear hO4 hg4 hor4 hc3')
        refine (wabove_any _ n' c' j cur w4 HF4.out.fields (by omega) hC.out (HK.out.below hb4 hk0)).mono ?_
        rintro e w5 ⟨v5, rfl, hR5, hb5⟩
        obtain ⟨A5, c5, rfl, _, _⟩ := hR5.cut
        have HF5 := Lib.hid (hR5.off (r := v4.ownBlock) (fun g hg => ⟨(HO4.out.lt g hg).2, (HO4.out.lt g hg).2⟩))
        have HO5 := Lib.hid (HO4.out.below hb5)
        have hbw5 := hb4.trans (hb5.mono hb4.size)
        clear hR5
        go_wp2_with fail
        go_roundw
        case measure => simp [intOf]; omega
        case rel =>
          exact ⟨J2, j + 1, f', A5, n' / 2, c5, upT j cur, pre ++ [cur.getD S []], by go_num, rfl, by omega, HF5, HN2, upTo_short _ _ _ _ (by omega), HO5, HP2, HJ3, HJ4, hbw5⟩

theorem wpath_any (i : Int) (A : Option Addr) (n c : Nat) (fs : List (List Int)) (w : World) (hs : Fields w w.heap.size A n fs) (_ : n ≤ 1048576) (_ : n ≤ c) (_ : c ≤ 9223372036854775807) (hsh : ∀ x ∈ fs, x.length ≤ 1048576) (hK : Tab w 0 .u32 kay256) :
    Calls Tryd.prog 16 #[.int .i64 i, .slice A n c] w fun e w' => ∃ B k d, e = .returned (.slice B k d) ∧ k ≤ 3 ∧ k ≤ d ∧ d ≤ 9223372036854775807 ∧ Fields w' w'.heap.size B k (pathI i fs) ∧ Below w.heap.size w w' := by
  refine (wpath_row i A n c fs w hs hsh hK).mono ?_
  rintro e w' ⟨v, k, he, hk, hR, hb⟩
  obtain ⟨B, d, rfl, h1, h2⟩ := hR.cut
  exact ⟨B, k, d, he, hk, h1, by unfold maxLen at h2; omega, hR.fields, hb⟩

set_option maxRecDepth 100000 in
set_option maxHeartbeats 4000000 in
theorem wclimb_any (A A2 : Option Addr) (n c n2 c2 : Nat) (leaf : List Int) (i : Int) (p : List (List Int)) (w : World) (ht : Seg w w.heap.size .u8 A n leaf) (hn : n ≤ 1048576) (hc : n ≤ c) (hm : c ≤ 9223372036854775807) (hs : Fields w w.heap.size A2 n2 p) (_ : n2 ≤ 1048576) (_ : n2 ≤ c2) (_ : c2 ≤ 9223372036854775807) (hsh : ∀ x ∈ p, x.length ≤ 1048576) (hK : Tab w 0 .u32 kay256) :
    Calls Tryd.prog 18 #[.slice A n c, .int .i64 i, .slice A2 n2 c2] w fun e w' => ∃ B k d, e = .returned (.slice B k d) ∧ k ≤ 1048576 ∧ k ≤ d ∧ d ≤ 9223372036854775807 ∧ Seg w' w'.heap.size .u8 B k (climbI leaf i p) ∧ Below w.heap.size w w' := by
  have HS := Lib.hid hs
  have HL := Lib.hid hs.1
  have HSH := Lib.hid hsh
  have HT := Lib.hid ht
  have HK := Lib.hid hK
  have hk0 := hK.lt
  clear hs hsh ht hK
  by_cases hbig : 3 < n2
  · have HR : Hid (climbI leaf i p = []) := by show _ = _; unfold climbI; rw [if_pos (by rw [HL.out]; omega)]
    have hd : decide ((3 : Int) < n2) = true := by simp; omega
    go_enter Tryd.func18, Tryd.ntmps18
    go_wp2_with fail
    go_ret
    rw [HR.out]
    exact ⟨_, 0, _, rfl, by omega, by omega, by omega, Seg.nil _ _ _ _, Below.refl _ _⟩
  have hd : decide ((3 : Int) < n2) = false := by simp; omega
  by_cases hneg : i < 0
  · have HR : Hid (climbI leaf i p = []) := by show _ = _; unfold climbI; rw [if_pos (by omega)]
    have hd2 : decide (i < 0) = true := by simpa using hneg
    go_enter Tryd.func18, Tryd.ntmps18
    go_wp2_with fail
    go_ret
    rw [HR.out]
    exact ⟨_, 0, _, rfl, by omega, by omega, by omega, Seg.nil _ _ _ _, Below.refl _ _⟩
  obtain ⟨I, rfl⟩ : ∃ I : Nat, i = I := ⟨i.toNat, by omega⟩
  have hd2 : decide ((I : Int) < 0) = false := by simp
  obtain ⟨N, hN⟩ : ∃ N : Nat, Hid (2 ^ n2 = N) := ⟨_, rfl⟩
  have hN8 : N ≤ 8 := by rw [← hN.out]; exact two_three (by omega)
  have hcast : (2 : Int) ^ n2 = (N : Int) := by rw [← hN.out]; simp
  have hw1 : RowKit.wrap64 ((2 : Int) ^ n2) = (N : Int) := by rw [hcast]; unfold RowKit.wrap64; omega
  have hw2 : IntKind.i64.wrap ((2 : Int) ^ n2) = (N : Int) := by rw [hcast]; exact IntWalk.i64_in _ (by omega)
  clear hcast
  by_cases hge : N ≤ I
  · have HR : Hid (climbI leaf I p = []) := by show _ = _; unfold climbI; rw [if_pos (by rw [HL.out, hN.out]; omega)]
    have hd3 : decide ((N : Int) ≤ (I : Int)) = true := by simpa using hge
    have hd4 : decide (N ≤ I) = true := by simpa using hge
    go_enter Tryd.func18, Tryd.ntmps18
    go_wp2_with fail
    go_ret
    rw [HR.out]
    exact ⟨_, 0, _, rfl, by omega, by omega, by omega, Seg.nil _ _ _ _, Below.refl _ _⟩
  have hd3 : decide ((N : Int) ≤ (I : Int)) = false := by simpa using hge
  have hd4 : decide (N ≤ I) = false := by simpa using hge
  obtain ⟨R, HR⟩ : ∃ R, Hid (climbI leaf I p = R) := ⟨_, rfl⟩
  have HC : Hid (climbF 0 leaf I p = R) := by show _ = _; rw [← HR.out, climbI_two (by rw [HL.out]; omega) I (by rw [HL.out, hN.out]; omega)]
  have hI8 : I < 8 := by omega
  clear hge
  go_enter Tryd.func18, Tryd.ntmps18
  go_wp2_with fail
  go_loopw [7, 29] (fun x h wr => ∃ (j J : Nat) (A' : Option Addr) (n' c' : Nat) (X : List Int), h = .int .i64 j ∧ x = .slice A' n' c' ∧ j ≤ n2 ∧ n' ≤ 1048576 ∧ n' ≤ c' ∧ c' ≤ 9223372036854775807 ∧ Hid (Seg wr wr.heap.size .u8 A' n' X) ∧ Hid (I / 2 ^ j = J) ∧ Hid (climbF j X J (p.drop j) = R) ∧ Below w.heap.size w wr) (fun _ h _ => n2 - (intOf h).toNat)
  case atStart => exact ⟨0, I, A, n, c, leaf, rfl, rfl, by omega, hn, hc, hm, HT.out, by show I / 1 = I; exact Nat.div_one I, HC.out, Below.refl _ _⟩
  case round =>
    obtain ⟨j, J, A', n', c', X, rfl, rfl, hj, hn', hc', hm', hX, hJ, hCl, hb⟩ := hrel
    have hz := hb.size
    by_cases hlt : j < n2
    · have hdj : decide ((j : Int) < n2) = true := by simp; omega
      obtain ⟨b, off, rfl, hbl, hcl⟩ := HS.out.2 (by omega)
      obtain ⟨A2, m2, k2, e2, s2, l2, x2⟩ := hcl j hlt
      have hcy := (hb.cell (p := ⟨b, off + j, none⟩) hbl).trans e2
      have HY := Lib.hid ((s2.below hb (Nat.le_refl _)).more hz)
      have hm2 : m2 ≤ 1048576 := by rw [← s2.1]; exact get_short HSH.out j
      obtain ⟨Y, hY⟩ : ∃ Y, Hid (p.getD j [] = Y) := ⟨_, rfl⟩
      rw [hY.out] at HY
      have hshr : (I : Int) / 2 ^ j = (J : Int) := by have h := hJ.out; rw [← h]; simp
      obtain ⟨J2, hJ2⟩ : ∃ J2, Hid (J / 2 = J2) := ⟨_, rfl⟩
      have HJ4 : Hid (I / 2 ^ (j + 1) = J2) := by show _ = _; rw [← hJ2.out, ← hJ.out, Nat.pow_succ, Nat.div_div_eq_div_mul]
      have hshr2 : (I : Int) / 2 ^ (j + 1) = (J2 : Int) := by have h := HJ4.out; rw [← h]; simp
      have HKR := Lib.hid (HK.out.below hb hk0)
      have HD : Hid (climbF (j + 1) (hash16 3 (stepT j J X Y)) J2 (p.drop (j + 1)) = R) := by
        show _ = _
        have h := hCl.out
        have hd : p.drop j = Y :: p.drop (j + 1) := by
          rw [List.drop_eq_getElem_cons (by rw [HL.out]; exact hlt), ← hY.out]
          simp [List.getD, HL.out, hlt]
        rw [hd, climbF, hJ2.out] at h
        exact h
      clear hcl e2 s2
      have hJ8 : J < 8 := by rw [← hJ.out]; exact Nat.lt_of_le_of_lt (Nat.div_le_self _ _) hI8
      by_cases hev : J % 2 = 0
      focus
        have hbit : bits .and .i64 (J : Int) 1 = 0 := by rw [and_one J hJ8, hev]; rfl
        have hst : stepT j J X Y = nodeF j J2 X Y := by rw [stepT, if_pos hev, hJ2.out]
        rw [hst] at HD
        clear hst hev
        go_wp2_with fail
        refine (wparent_any A' A2 n' c' m2 k2 j J2 X Y wr hX.out hn' hc' (by unfold maxLen; omega) HY.out hm2 l2 x2 HKR.out).mono ?_
        rintro e w2 ⟨A3, c3, rfl, hcc3, hm3, hS3, hbx, _⟩
      rotate_left
      focus
        have hbit : bits .and .i64 (J : Int) 1 = 1 := by rw [and_one J hJ8, show J % 2 = 1 by omega]; rfl
        have hst : stepT j J X Y = nodeF j J2 Y X := by rw [stepT, if_neg hev, hJ2.out]
        rw [hst] at HD
        clear hst hev
        go_wp2_with fail
        refine (wparent_any A2 A' m2 k2 n' c' j J2 Y X wr HY.out hm2 l2 x2 hX.out hn' hc' (by unfold maxLen; omega) HKR.out).mono ?_
        rintro e w2 ⟨A3, c3, rfl, hcc3, hm3, hS3, hbx, _⟩
      rotate_left
      all_goals
        have HS3 := Lib.hid hS3
        have hb3 := hb.trans (hbx.mono hz)
        clear hS3 hbx
        unfold maxLen at hm3
        go_wp2_with fail
        go_roundw
        case measure => simp [intOf]; omega
        case rel => exact ⟨j + 1, J2, A3, 16, c3, _, by go_num, rfl, by omega, by omega, hcc3, by omega, HS3, HJ4, HD, hb3⟩
    · have hdj : decide ((j : Int) < n2) = false := by simp; omega
      have HE : Hid (X = R) := by
        show _ = _
        have h := hCl.out
        rw [List.drop_of_length_le (by rw [HL.out]; omega), climbF] at h
        exact h
      rw [HE.out] at hX
      go_wp2_with fail
      refine (bclone_any A' n' c' R wr hX.out (by omega)).mono ?_
      rintro e w2 ⟨v2, rfl, hR2, hb2⟩
      go_wp2_with fail
      go_ret
      rw [HR.out]
      obtain ⟨B, d, rfl, h1, h2⟩ := hR2.cut
      exact ⟨B, n', d, rfl, hn', h1, by unfold maxLen at h2; omega, hR2.seg, hb.trans (hb2.mono hz)⟩
end Go.Proofs.YtkcbbgmilaafeaaDoor
