/-
  The reference's copy of a byte string.
  The reference's root of a tree, path of a leaf, and way of a leaf.
  The reference's path of a leaf.
  The reference's signatures with several leaves: the seed of the leaves, their public values, the public key, a signature.
  The reference's public value out of a one-time signature.
  The reference's way of a leaf.
  The reference's verification of a signature with several leaves.
-/
import Derived.Test.YtljkkejjnimjcaaDoorBase4
import Derived.Test.YtljkkejjnimjcaaDoorBase8
import Derived.Deep.RegionHeld3
namespace Go.Proofs.YtljkkejjnimjcaaDoor
open Go.RowKit

set_option maxHeartbeats 1000000 in
theorem copy_any (A : Option Addr) (n c : Nat) (xs : List Int) (w : World) (hs : Seg w w.heap.size .u8 A n xs) (hn : n ≤ 1099511627776) :
    Calls Tryd.prog 18 #[.slice A n c] w fun e w' => ∃ v, e = .returned v ∧ Row w' w.heap.size 5 .u8 v n xs ∧ Below w.heap.size w w' := by
  obtain ⟨i0, hi, hz0, hz1, hz2⟩ := info_parts Tryd.infoU8
  have HL := Lib.hid hs.1
  have hown0 := own_empty w 5 .u8 w.heap.size (Nat.le_refl _)
  have hb0 : Below w.heap.size w (w.alloc (.cells #[] 5)) := (Below.refl _ _).alloc (Nat.le_refl _) _
  have HS0 := Lib.hid (hs.below hb0 (Nat.le_refl _))
  have HO := Lib.hid hown0
  have hz := hb0.size
  clear hs hown0
  go_enter Tryd.func18, Tryd.ntmps18
  go_wp2_with (at_builtin; refine wpList_app _ rfl (.tmp 3) (.tmp 4) 22 rfl w.heap.size 5 i0 (.int .u8 0) 1 Tryd.underlying22 hi hz0 hz1 hz2 rfl .u8 (.slice (some ⟨w.heap.size, 0, none⟩) 0 0) [] rfl HO.out w.heap.size A n c xs rfl HS0.out (by unfold maxLen; simp; omega) (by simp; omega) hz ?_; intro v2 w2 hown2 hg2 hor2; have hb2 := own_below (k := .u8) (xs := []) HO.out hg2 hb0 hz; clear hg2 hor2)
  go_ret
  exact ⟨_, rfl, Own.row hown2 HL.out, hb2⟩
end Go.Proofs.YtljkkejjnimjcaaDoor
namespace Go.Proofs.YtljkkejjnimjcaaDoor
open Go.RowKit

theorem fitB_none {l : List (List Int)} (h : fitB l.length = false) : fitsT l.length = none := by
  unfold fitB at h
  simp at h
  unfold fitsT
  rw [if_neg (by omega), if_neg (by omega), if_neg (by omega), if_neg (by omega)]
theorem fitB_some {n : Nat} (h : fitB n = true) : ∃ f, f ≤ 3 ∧ n = 2 ^ f := by
  unfold fitB at h
  simp at h
  rcases (by omega : n = 1 ∨ n = 2 ∨ n = 4 ∨ n = 8) with rfl | rfl | rfl | rfl
  · exact ⟨0, by omega, rfl⟩
  · exact ⟨1, by omega, rfl⟩
  · exact ⟨2, by omega, rfl⟩
  · exact ⟨3, by omega, rfl⟩
theorem two_pos (f : Nat) : 1 ≤ 2 ^ f := Nat.one_le_two_pow
theorem two_next (f : Nat) : 2 ^ (f + 1) = 2 * 2 ^ f := by rw [Nat.pow_succ]; omega
theorem two_three {f : Nat} (h : f ≤ 3) : 2 ^ f ≤ 8 := by
  rcases (by omega : f = 0 ∨ f = 1 ∨ f = 2 ∨ f = 3) with rfl | rfl | rfl | rfl <;> decide

theorem and_mask (h : Int) (m : Nat) (hm : m < 9223372036854775808) : 0 ≤ bits .and .i64 h m ∧ bits .and .i64 h m ≤ m := by
  have e : bits .and .i64 h m = IntKind.i64.wrap (((BitVec.ofInt 64 h &&& BitVec.ofInt 64 m).toNat : Nat) : Int) := rfl
  have h1 : (BitVec.ofInt 64 (m : Int)).toNat = m := by
    rw [BitVec.toNat_ofInt]
    omega
  have h2 : (BitVec.ofInt 64 h &&& BitVec.ofInt 64 m).toNat ≤ m := by
    rw [BitVec.toNat_and, h1]
    exact Nat.and_le_right
  rw [e, IntWalk.i64_in _ (by omega)]
  omega
theorem pow_wrap (f N : Nat) (hN : 2 ^ f = N) (h : N ≤ 8) : RowKit.wrap64 ((2 : Int) ^ f) = N ∧ IntKind.i64.wrap ((2 : Int) ^ f) = N := by
  have hcast : (2 : Int) ^ f = (N : Int) := by rw [← hN]; simp
  rw [hcast]
  clear hcast hN
  exact ⟨by unfold RowKit.wrap64; omega, IntWalk.i64_in _ (by omega)⟩

set_option maxRecDepth 100000 in
set_option maxHeartbeats 2000000 in
theorem rroot_any (A : Option Addr) (n c : Nat) (fs : List (List Int)) (w : World) (hs : Fields w w.heap.size A n fs) (hsh : ∀ x ∈ fs, x.length ≤ 1048576) :
    Calls Tryd.prog 23 #[.slice A n c] w fun e w' => ∃ v k, e = .returned v ∧ k ≤ 1048576 ∧ Row w' w.heap.size 5 .u8 v k (rootI fs) ∧ Below w.heap.size w w' := by
  have HS := Lib.hid hs
  have HL := Lib.hid hs.1
  have HSH := Lib.hid hsh
  clear hs hsh
  by_cases hfit : fitB n = false
  · have HR : Hid (rootI fs = []) := by show _ = _; unfold rootI; rw [fitB_none (by rw [HL.out]; exact hfit)]
    go_enter Tryd.func23, Tryd.ntmps23
    go_wp2_with (go_at_call 43; refine (rfits_any n w).mono ?_; rintro e w1 ⟨rfl, rfl⟩; rw [hfit])
    go_ret
    rw [HR.out]
    exact ⟨_, 0, rfl, by omega, nil_row _ _ _ _, Below.refl _ _⟩
  · have hfit2 : fitB n = true := by simpa using hfit
    obtain ⟨f, hf, hnf⟩ := fitB_some hfit2
    have HNF := Lib.hid hnf
    obtain ⟨R, HR⟩ : ∃ R, Hid (rootI fs = R) := ⟨_, rfl⟩
    have HRF : Hid (rootF f 0 fs = R) := by show _ = _; rw [← HR.out, rootI_two hf (by rw [HL.out]; exact hnf)]
    clear hfit hnf
    go_enter Tryd.func23, Tryd.ntmps23
    go_wp2_with (go_at_call 43; refine (rfits_any n w).mono ?_; rintro e w1 ⟨rfl, rfl⟩; rw [hfit2])
    go_loopw [3, 4] (fun l h wr => ∃ (j f' : Nat) (A' : Option Addr) (n' c' : Nat) (cur : List (List Int)), h = .int .i64 j ∧ l = .slice A' n' c' ∧ j + f' = f ∧ Hid (Fields wr wr.heap.size A' n' cur) ∧ Hid (n' = 2 ^ f') ∧ Hid (∀ x ∈ cur, x.length ≤ 1048576) ∧ Hid (rootF f' j cur = R) ∧ Below w.heap.size w wr) (fun _ h _ => f - (intOf h).toNat)
    case atStart => exact ⟨0, f, A, n, c, fs, rfl, rfl, by omega, HS.out, HNF.out, HSH.out, HRF.out, Below.refl _ _⟩
    case round =>
      obtain ⟨j, f', A', n', c', cur, rfl, rfl, hj, hF, hN, hC, hR, hb⟩ := hrel
      have hz := hb.size
      rcases f' with _ | f'
      · have hn1 : n' = 1 := hN.out
        subst hn1
        obtain ⟨b, off, rfl, hbl, hcl⟩ := hF.out.2 (by omega)
        obtain ⟨A1, n1, c1, e1, s1, l1, m1⟩ := hcl 0 (by omega)
        have hn1 : n1 ≤ 1048576 := by rw [← s1.1]; exact get_short hC.out 0
        have HE : Hid (cur.getD 0 [] = R) := hR.out
        have HS1 := Lib.hid s1
        rw [HE.out] at HS1
        have hc0 : wr.cell? ⟨b, off, none⟩ = some (.slice A1 n1 c1) := e1
        clear hcl e1 s1
        go_wp2_with (go_at_call 18; refine (copy_any A1 n1 c1 R wr HS1.out (by omega)).mono ?_; rintro e w2 ⟨v2, rfl, hR2, hb2⟩)
        go_ret
        rw [HR.out]
        exact ⟨_, n1, rfl, hn1, Row.less hR2 hz, hb.trans (hb2.mono hz)⟩
      · have hp := two_pos f'
        have hn2 : n' = 2 * 2 ^ f' := by rw [hN.out, two_next]
        have hn8 : n' ≤ 8 := by rw [hN.out]; exact two_three (by omega)
        have hd : decide ((1 : Int) < n') = true := by simp; omega
        have HR2 : Hid (rootF f' (j + 1) (upT j cur) = R) := hR.out
        have HN2 : Hid (n' / 2 = 2 ^ f') := by show _ = _; omega
        clear hn2 hp
        go_wp2_with (go_at_call 44; refine (rup_any A' n' c' j cur wr hF.out (by omega) hC.out).mono ?_; rintro e w2 ⟨v2, rfl, hR2, hb2⟩; obtain ⟨A2, c2, rfl, _, _⟩ := hR2.cut; have HF2 := Lib.hid hR2.fields; clear hR2)
        go_roundw
        case measure => simp [intOf]; omega
        case rel => exact ⟨j + 1, f', A2, n' / 2, c2, upT j cur, by go_num, rfl, by omega, HF2.out, HN2.out, upTo_short _ _ _ _ (by omega), HR2.out, hb.trans (hb2.mono hz)⟩
end Go.Proofs.YtljkkejjnimjcaaDoor
namespace Go.Proofs.YtljkkejjnimjcaaDoor
open Go.RowKit

theorem xor_one (I : Nat) (h : I < 8) : bits .xor .i64 (I : Int) 1 = (sibI I : Int) := by
  rcases (by omega : I = 0 ∨ I = 1 ∨ I = 2 ∨ I = 3 ∨ I = 4 ∨ I = 5 ∨ I = 6 ∨ I = 7) with rfl | rfl | rfl | rfl | rfl | rfl | rfl | rfl <;> decide +kernel
theorem sib_lt {I f : Nat} (h : I < 2 ^ (f + 1)) : sibI I < 2 ^ (f + 1) := by
  have := two_next f
  unfold sibI
  split <;> omega

set_option maxRecDepth 100000 in
set_option maxHeartbeats 4000000 in
theorem rpath_any (i : Int) (A : Option Addr) (n c : Nat) (fs : List (List Int)) (w : World) (hs : Fields w w.heap.size A n fs) (hsh : ∀ x ∈ fs, x.length ≤ 1048576) :
    Calls Tryd.prog 31 #[.int .i64 i, .slice A n c] w fun e w' => ∃ v k, e = .returned v ∧ k ≤ 3 ∧ FRow w' w.heap.size w.heap.size v k (pathI i fs) ∧ Below w.heap.size w w' := by
  have HS := Lib.hid hs
  have HL := Lib.hid hs.1
  have HSH := Lib.hid hsh
  clear hs hsh
  by_cases hfit : fitB n = false
  · have HR : Hid (pathI i fs = []) := by show _ = _; unfold pathI; rw [fitB_none (by rw [HL.out]; exact hfit)]
    go_enter Tryd.func31, Tryd.ntmps31
    go_wp2_with (go_at_call 43; refine (rfits_any n w).mono ?_; rintro e w1 ⟨rfl, rfl⟩; rw [hfit])
    go_ret
    rw [HR.out]
    exact ⟨_, 0, rfl, by omega, FRow.nil _ _ _, Below.refl _ _⟩
  have hfit2 : fitB n = true := by simpa using hfit
  obtain ⟨f, hf, hnf⟩ := fitB_some hfit2
  have HNF := Lib.hid hnf
  have hn8 : n ≤ 8 := by rw [hnf]; exact two_three hf
  by_cases hbad : i < 0 ∨ (n : Int) ≤ i
  · have HR : Hid (pathI i fs = []) := by show _ = _; unfold pathI; rw [HL.out, hnf, fitsT_two hf]; simp only; rw [if_pos (by rw [← hnf]; exact hbad)]
    rcases (by omega : i < 0 ∨ (0 ≤ i ∧ (n : Int) ≤ i)) with h1 | ⟨h1, h2⟩
    focus
      have hd : decide (i < 0) = true := by simpa using h1
    rotate_left
    focus
      have hd : decide (i < 0) = false := by simp; omega
      have hd2 : decide ((n : Int) ≤ i) = true := by simpa using h2
    rotate_left
    all_goals
      clear hbad hfit hnf
      go_enter Tryd.func31, Tryd.ntmps31
      go_wp2_with (go_at_call 43; refine (rfits_any n w).mono ?_; rintro e w1 ⟨rfl, rfl⟩; rw [hfit2])
      go_ret
      rw [HR.out]
      exact ⟨_, 0, rfl, by omega, FRow.nil _ _ _, Below.refl _ _⟩
  · obtain ⟨I, rfl⟩ : ∃ I : Nat, i = I := ⟨i.toNat, by omega⟩
    have hI : I < n := by omega
    have hd : decide ((I : Int) < 0) = false := by simp
    have hd2 : decide ((n : Int) ≤ (I : Int)) = false := by simp; omega
    have hd3 : decide (n ≤ I) = false := by simp; omega
    obtain ⟨P, HP⟩ : ∃ P, Hid (pathI I fs = P) := ⟨_, rfl⟩
    have HRF : Hid (pathF f 0 I fs = P) := by show _ = _; rw [← HP.out, pathI_two hf (by rw [HL.out]; exact hnf) I (by rw [← hnf]; exact hI)]
    have HI : Hid (I < 2 ^ f) := by show _ < _; rw [← hnf]; exact hI
    have HOFF : Hid (FOff w none A n fs) := HS.out.off (Nat.le_refl _) (fun g h => by cases h)
    clear hfit hnf hbad
    go_enter Tryd.func31, Tryd.ntmps31
    go_wp2_with (go_at_call 43; refine (rfits_any n w).mono ?_; rintro e w1 ⟨rfl, rfl⟩; rw [hfit2])
    go_loopw [0, 5, 6, 7] (fun i o l h wr => ∃ (I j f' : Nat) (A' : Option Addr) (n' c' : Nat) (cur pre : List (List Int)), i = .int .i64 I ∧ h = .int .i64 j ∧ l = .slice A' n' c' ∧ j + f' = f ∧ Hid (FOff wr o.ownBlock A' n' cur) ∧ Hid (n' = 2 ^ f') ∧ Hid (∀ x ∈ cur, x.length ≤ 1048576) ∧ Hid (FRow wr w.heap.size w.heap.size o j pre) ∧ Hid (pre ++ pathF f' j I cur = P) ∧ Hid (I < 2 ^ f') ∧ Below w.heap.size w wr) (fun _ _ _ h _ => f - (intOf h).toNat)
    case atStart => exact ⟨I, 0, f, A, n, c, fs, [], rfl, rfl, rfl, by omega, HOFF.out, HNF.out, HSH.out, FRow.nil _ _ _, by show [] ++ _ = _; rw [List.nil_append]; exact HRF.out, HI.out, Below.refl _ _⟩
    case round =>
      obtain ⟨I, j, f', A', n', c', cur, pre, rfl, rfl, rfl, hj, hF, hN, hC, hO, hP, hI2, hb⟩ := hrel
      have hz := hb.size
      rcases f' with _ | f'
      · have hn1 : n' = 1 := hN.out
        subst hn1
        have hjf : j = f := by omega
        have HE : Hid (pre = P) := by show _ = _; have h := hP.out; rw [pathF, List.append_nil] at h; exact h
        rw [HE.out, hjf] at hO
        clear hjf
        go_wp2_with fail
        go_ret
        rw [HP.out]
        exact ⟨_, rfl, f, hf, hO.out, hb⟩
      · have hp := two_pos f'
        have hn2 : n' = 2 * 2 ^ f' := by rw [hN.out, two_next]
        have hn8' : n' ≤ 8 := by rw [hN.out]; exact two_three (by omega)
        have hdd : decide ((1 : Int) < n') = true := by simp; omega
        have hIn : I < n' := by rw [hN.out]; exact hI2.out
        obtain ⟨S, hS⟩ : ∃ S, Hid (sibI I = S) := ⟨_, rfl⟩
        have hSn : S < n' := by rw [← hS.out, hN.out]; exact sib_lt hI2.out
        have hxor : bits .xor .i64 (I : Int) 1 = (S : Int) := by rw [xor_one I (by omega), hS.out]
        obtain ⟨I2, hI2'⟩ : ∃ I2, Hid (I / 2 = I2) := ⟨_, rfl⟩
        have hquo : IntKind.i64.wrap ((I : Int).tdiv 2) = (I2 : Int) := by rw [IntWalk.i64_quo _ _ (by omega), ← hI2'.out]; omega
        have hquo2 : RowKit.wrap64 ((I : Int) / 2) = (I2 : Int) := by unfold RowKit.wrap64; rw [← hI2'.out]; omega
        obtain ⟨b, off, rfl, hbl, _, hcl⟩ := hF.out.2 (by omega)
        obtain ⟨A1, n1, c1, e1, s1, l1, m1, a1⟩ := hcl S hSn
        have hn1 : n1 ≤ 1048576 := by rw [← s1.1]; exact get_short hC.out S
        have HS1 := Lib.hid s1
        have hS0 : (0 : Int) ≤ (S : Int) := by omega
        have hS1 : (S : Int) < n' := by omega
        have HLT := Lib.hid hO.out.lt
        have HN2 : Hid (n' / 2 = 2 ^ f') := by show _ = _; omega
        have HI3 : Hid (I2 < 2 ^ f') := by show _ < _; rw [← hI2'.out]; omega
        have HP2 : Hid ((pre ++ [cur.getD S []]) ++ pathF f' (j + 1) I2 (upT j cur) = P) := by show _ = _; have h := hP.out; rw [pathF, hS.out, hI2'.out] at h; rw [← h]; simp
        clear hcl s1 a1 hp hn2 hIn
        go_wp2_with fail
        refine (copy_any A1 n1 c1 _ wr HS1.out (by omega)).mono ?_
        rintro e w2 ⟨v2, rfl, hR2, hbx⟩
        obtain ⟨A3, c3, rfl, hcc3, hm3⟩ := hR2.cut
        have hb2 : Below w.heap.size w w2 := hb.trans (hbx.mono hz)
        have hbA : Below w2.heap.size w2 (w2.alloc (.cells #[.slice A3 n1 c3] 22)) := (Below.refl _ _).alloc (Nat.le_refl _) _
        have hb3 := hb2.trans (hbA.mono hb2.size)
        have HO3 := Lib.hid ((FRow.below hO.out hbx).below hbA)
        have HF3 := Lib.hid ((FOff.below hF.out hbx).below hbA)
        have hc3' := cell_made w2 #[.slice A3 n1 c3] 22 _ 0 _ rfl rfl
        have HS3 := Lib.hid ((hR2.seg.below hbA (Nat.le_refl _)).more hbA.size)
        have HAP := Lib.hid (hR2.apart (fun g hg => (HLT.out g hg).2))
        have HD3 := Lib.hid (fun h0 a ha => Nat.le_trans hz (hR2.from_ h0 a ha))
        clear hR2
        go_wp2_with (at_builtin; refine wpList_app1 rfl (.tmp 28) (.tmp 35) rfl w.heap.size w.heap.size w2.heap.size _ j pre rfl HO3.out 1 A3 n1 c3 (cur.getD S []) rfl hc3' HS3.out hcc3 hm3 HAP.out HD3.out (by omega) hb3.size ?_; intro v4 w4 hO4 hg4 hor4; have hb4 : Below w.heap.size w w4 := frow_below HO3.out hg4 hb3 hb3.size; have HF4 := Lib.hid (FOff.turn HF3.out hg4 hor4); have HO4 := Lib.hid hO4; clear hO4 hg4 hor4 hc3')
        refine (rup_any _ n' c' j cur w4 HF4.out.fields (by omega) hC.out).mono ?_
        rintro e w5 ⟨v5, rfl, hR5, hb5⟩
        obtain ⟨A5, c5, rfl, _, _⟩ := hR5.cut
        have HF5 := Lib.hid (hR5.off (r := v4.ownBlock) (fun g hg => ⟨(HO4.out.lt g hg).2, (HO4.out.lt g hg).2⟩))
        have HO5 := Lib.hid (HO4.out.below hb5)
        have hbw5 := hb4.trans (hb5.mono hb4.size)
        clear hR5
        go_wp2_with fail
        go_roundw
        case measure => simp [intOf]; omega
        case rel =>
          exact ⟨I2, j + 1, f', A5, n' / 2, c5, upT j cur, pre ++ [cur.getD S []], by rw [hquo2], by go_num, rfl, by omega, HF5.out, HN2.out, upTo_short _ _ _ _ (by omega), HO5.out, HP2.out, HI3.out, hbw5⟩
end Go.Proofs.YtljkkejjnimjcaaDoor
namespace Go.Proofs.YtljkkejjnimjcaaDoor
open Go.RowKit

set_option maxRecDepth 100000 in
set_option maxHeartbeats 1000000 in
theorem rleafSeed_any (A : Option Addr) (n c : Nat) (seed : List Int) (h : Int) (w : World) (hs : Seg w w.heap.size .u8 A n seed) (hn : n ≤ 1048576) :
    Calls Tryd.prog 30 #[.slice A n c, .int .i64 h] w fun e w' => Handed w w' 32 (leafSeed seed h) e := by
  have HS := Lib.hid hs
  clear hs
  go_enter Tryd.func30, Tryd.ntmps30
  go_wp2_with fail
  generalize hwq : World.alloc _ _ = wq
  have hb0 : Below w.heap.size w wq := by rw [← hwq]; exact (Below.refl _ _).alloc (Nat.le_refl _) _
  have hS : Seg wq wq.heap.size .u8 (some ⟨w.heap.size, 0, none⟩) 1 [h % 256] := by rw [← hwq]; exact Seg.of_blk (Blk.new w 5 .u8 [h % 256])
  have hz := hb0.size
  clear hwq
  refine (rderive_any A _ n c 1 1 seed [h % 256] labelS 32 wq ((HS.out.below hb0 (Nat.le_refl _)).more hz) hn hS (by omega) (show (6 : Nat) ≤ 1048576 by omega)).mono ?_
  rintro e w1 ⟨A', k', c', rfl, ⟨_, hkc, hkm⟩, hsD, hb1⟩
  have hk : k' = 32 := by
    rw [← hsD.1]
    have := deriveI_length seed (strI labelS) [h % 256] 32
    split at this <;> omega
  rw [hk] at hsD hkc ⊢
  have HD := Lib.hid hsD
  clear hsD hS hk
  go_wp2_with fail
  go_ret
  exact ⟨A', c', rfl, hkc, hkm, HD.out, hb0.trans (hb1.mono hz)⟩

set_option maxRecDepth 100000 in
set_option maxHeartbeats 2000000 in
theorem rleaves_any (A : Option Addr) (n c f : Nat) (seed : List Int) (w : World) (hs : Seg w w.heap.size .u8 A n seed) (hn : n ≤ 1048576) (hf : f ≤ 3) :
    Calls Tryd.prog 24 #[.slice A n c, .int .i64 f] w fun e w' => ∃ v, e = .returned v ∧ FRow w' w.heap.size w.heap.size v (2 ^ f) (leavesTo (leafSeed seed f) (2 ^ f)) ∧ Below w.heap.size w w' := by
  have HS := Lib.hid hs
  clear hs
  obtain ⟨N, hN⟩ : ∃ N : Nat, Hid (2 ^ f = N) := ⟨_, rfl⟩
  have hN8 : N ≤ 8 := by rw [← hN.out]; exact two_three hf
  obtain ⟨hw1, hw2⟩ := pow_wrap f N hN.out hN8
  have hf0 : (0 : Int) ≤ (f : Int) := by clear hw1 hw2; omega
  obtain ⟨K, hK⟩ : ∃ K, Hid (leafSeed seed f = K) := ⟨_, rfl⟩
  rw [hN.out, hK.out]
  go_enter Tryd.func24, Tryd.ntmps24
  go_wp2_with fail
  refine (rleafSeed_any A n c seed f w HS.out hn).mono ?_
  rw [hK.out]
  rintro e w1 ⟨A1, c1, rfl, hc1, hm1, hS1, hb1⟩
  have HS1 := Lib.hid hS1
  have hz1 := hb1.size
  clear hS1
  go_wp2_with fail
  go_loopw [5, 7] (fun v i wr => ∃ k : Nat, k ≤ N ∧ i = .int .i64 k ∧ Hid (FRow wr w1.heap.size w1.heap.size v k (leavesTo K k)) ∧ Below w1.heap.size w1 wr) (fun _ i _ => N - (intOf i).toNat)
  case atStart => exact ⟨0, Nat.zero_le _, rfl, FRow.nil _ _ _, Below.refl _ _⟩
  case round =>
    obtain ⟨k, hk, rfl, hR, hb⟩ := hrel
    have hz := hb.size
    have hbw := hb1.trans (hb.mono hz1)
    by_cases hlt : k < N
    · have hd : decide ((k : Int) < N) = true := by simpa using hlt
      have HLT := Lib.hid hR.out.lt
      have HE := Lib.hid (leavesTo_next K k)
      go_wp2_with fail
      clear hw1 hw2
      refine (rpublic_new A1 32 c1 K k wr ((HS1.out.below hb (Nat.le_refl _)).more hz) (by omega)).mono ?_
      rintro e w2 ⟨n2, hn2, A2, c2, rfl, hc2, hm2, hS2, hb2, hnew⟩
      have hl2 : n2 = 16 := by rw [← hS2.1]; exact public16 K k (by omega) (by omega)
      rw [hl2] at hS2 hc2 hnew ⊢
      have hbA : Below w2.heap.size w2 (w2.alloc (.cells #[.slice A2 16 c2] 22)) := (Below.refl _ _).alloc (Nat.le_refl _) _
      have hbr3 := hb2.trans (hbA.mono hb2.size)
      have hb13 := hb.trans (hbr3.mono hz)
      have HR3 := Lib.hid (FRow.below hR.out hbr3)
      have hc3' := cell_made w2 #[.slice A2 16 c2] 22 _ 0 _ rfl rfl
      have HS3 := Lib.hid ((hS2.below hbA (Nat.le_refl _)).more hbA.size)
      have HAP : Hid (Apart _ A2 16) := fun h0 a ha e => by have := hnew h0 a ha; have := (HLT.out _ e).2; omega
      have HD3 : Hid (0 < 16 → ∀ a, A2 = some a → w1.heap.size ≤ a.block) := fun h0 a ha => Nat.le_trans hz (hnew h0 a ha)
      have hk8 : k + 1 ≤ 1048576 := by omega
      clear hS2 hnew hl2 hb2
      go_wp2_with (at_builtin; refine wpList_app1 rfl (.tmp 18) (.tmp 22) rfl w1.heap.size w1.heap.size w2.heap.size _ k (leavesTo K k) rfl HR3.out 1 A2 16 c2 (publicI K k) rfl hc3' HS3.out hc2 hm2 HAP.out HD3.out hk8 hb13.size ?_; intro v4 w4 hF4 hg4 hor4; have hb14 : Below w1.heap.size w1 w4 := frow_below HR3.out hg4 hb13 hb13.size; have HF4 := Lib.hid hF4; clear hF4 hg4 hor4 hc3')
      rw [← HE.out] at HF4
      go_roundw
      case measure => simp [intOf]; omega
      case rel => exact ⟨k + 1, by omega, by go_num, HF4.out, hb14⟩
    · have hd : decide ((k : Int) < N) = false := by simpa using hlt
      have hkN : k = N := by clear hw1 hw2; omega
      rw [hkN] at hR
      clear hkN
      go_wp2_with fail
      go_ret
      exact ⟨_, rfl, (hR.out.less hz1).low hz1, hbw⟩

set_option maxRecDepth 100000 in
set_option maxHeartbeats 2000000 in
theorem rpub7_any (A : Option Addr) (n c : Nat) (seed : List Int) (h : Int) (w : World) (hs : Seg w w.heap.size .u8 A n seed) (hn : n ≤ 1048576) :
    Calls Tryd.prog 12 #[.slice A n c, .int .i64 h] w fun e w' => ∃ v k, e = .returned v ∧ k ≤ 17 ∧ Row w' w.heap.size 5 .u8 v k (pub7 seed h) ∧ Below w.heap.size w w' := by
  obtain ⟨i0, hi, hz0, hz1, hz2⟩ := info_parts Tryd.infoU8
  have HS := Lib.hid hs
  clear hs
  by_cases hbad : h < 0 ∨ 3 < h
  · have hP : Hid (pub7 seed h = []) := by show _ = _; rw [pub7, if_pos hbad]
    rcases (by omega : h < 0 ∨ (0 ≤ h ∧ 3 < h)) with h1 | ⟨h1, h2⟩
    focus
      have hd : decide (h < 0) = true := by simpa using h1
    rotate_left
    focus
      have hd : decide (h < 0) = false := by simp; omega
      have hd2 : decide (3 < h) = true := by simpa using h2
    rotate_left
    all_goals
      clear hbad
      go_enter Tryd.func12, Tryd.ntmps12
      go_wp2_with fail
      go_ret
      rw [hP.out]
      exact ⟨_, 0, rfl, by omega, nil_row _ _ _ _, Below.refl _ _⟩
  obtain ⟨f, rfl⟩ : ∃ f : Nat, h = f := ⟨h.toNat, by omega⟩
  have hf : f ≤ 3 := by omega
  have hd : decide ((f : Int) < 0) = false := by simp
  have hd2 : decide ((3 : Int) < f) = false := by simp; omega
  obtain ⟨V, P, hV, hP, hPl, hP16, hsig, hpub, hroot, hsgn, hget, hVl⟩ := sig_parts seed [] f 0 hf (two_pos f)
  have HPUB := Lib.hid hpub
  have HROOT := Lib.hid hroot
  have HV := Lib.hid hV
  have HVS : Hid (∀ x ∈ V, x.length ≤ 1048576) := fun x hx => by
    rw [hV] at hx
    have := leaves16 (leafSeed seed f) (2 ^ f) (by have := two_three hf; omega) x hx
    omega
  clear hV hP hPl hP16 hsig hpub hroot hsgn hget hVl hbad
  have hb0 : Below w.heap.size w (w.alloc (.cells #[.int .u8 ((f : Int) % 256)] 5)) := (Below.refl _ _).alloc (Nat.le_refl _) _
  have hown : Own (w.alloc (.cells #[.int .u8 ((f : Int) % 256)] 5)) w.heap.size 5 .u8 (.slice (some ⟨w.heap.size, 0, none⟩) 1 1) [(f : Int)] := by
    have h := Own.of_blk (B := w.heap.size) (Blk.new w 5 .u8 [(f : Int) % 256]) (Nat.le_refl _) (by unfold maxLen; simp)
    rw [show (f : Int) % 256 = f by omega] at h ⊢
    exact h
  have HOWN := Lib.hid (hown.row (n := 1) rfl)
  have hmod : IntKind.u8.wrap (f : Int) = (f : Int) % 256 := by simp [IntKind.wrap, IntKind.bits, IntKind.signed]
  go_enter Tryd.func12, Tryd.ntmps12
  go_wp2_with fail
  refine (rleaves_any A n c f seed _ ((HS.out.below hb0 (Nat.le_refl _)).more hb0.size) hn hf).mono ?_
  rintro e w1 ⟨v1, rfl, hR1, hb1⟩
  rw [← HV.out] at hR1
  obtain ⟨A1, c1, rfl, hc1, hm1⟩ := hR1.cut
  have HF1 := Lib.hid hR1.fields
  have hbw1 := hb0.trans (hb1.mono hb0.size)
  have hz1' := hbw1.size
  have HO1 := Lib.hid (HOWN.out.below hb1)
  clear hR1 hc1
  generalize 2 ^ f = N at HF1 ⊢
  go_wp2_with fail
  refine (rroot_any A1 N c1 V w1 HF1.out HVS.out).mono ?_
  rintro e w2 ⟨v2, k2, rfl, hk2, hR2, hb2⟩
  have hk16 : k2 = 16 := by rw [← hR2.length]; exact HROOT.out
  rw [hk16] at hR2
  obtain ⟨A2, c2, rfl, hc2, hm2⟩ := hR2.cut
  have HR2 := Lib.hid hR2.seg
  have HO2 := Lib.hid (HO1.out.below hb2)
  have hbw2 := hbw1.trans (hb2.mono hz1')
  have hz2' := hbw2.size
  clear hR2 hk16 hk2 hb1 hb2 HF1 HO1 hown
  go_wp2_with (at_builtin; refine wpList_app _ rfl (.tmp 13) (.tmp 17) 22 rfl w.heap.size 5 i0 (.int .u8 0) 1 Tryd.underlying22 hi hz0 hz1 hz2 rfl .u8 _ [(f : Int)] rfl HO2.out.own w2.heap.size A2 16 c2 (rootI V) rfl HR2.out (by unfold maxLen; simp) (by simp) hz2' ?_; intro v3 w3 hown3 hg3 hor3; have hb3 : Below w.heap.size w w3 := own_below HO2.out.own hg3 hbw2 hz2'; have HR3 := Lib.hid hown3; clear hown3 hg3 hor3)
  go_ret
  rw [HPUB.out]
  exact ⟨_, 17, rfl, by omega, HR3.out.row (by rw [List.length_append, HROOT.out]; rfl), hb3⟩

/-- How long the parts are that have been put together. -/
theorem flat_take (P : List (List Int)) (h : ∀ x ∈ P, x.length = 16) (k : Nat) (hk : k ≤ P.length) : (P.take k).flatten.length = 16 * k := by
  rw [(flat16 (P.take k) (fun x hx => h x (List.mem_of_mem_take hx))).1, List.length_take]
  omega
theorem flat_next (P : List (List Int)) (k : Nat) (hk : k < P.length) : (P.take (k + 1)).flatten = (P.take k).flatten ++ P.getD k [] := by
  rw [List.take_add_one, List.flatten_append, List.getElem?_eq_getElem hk]
  simp [List.getD, hk]

set_option maxRecDepth 100000 in
set_option maxHeartbeats 4000000 in
theorem rsig7_any (A A4 : Option Addr) (n c n4 c4 : Nat) (seed msg : List Int) (h leaf : Int) (w : World) (hs : Seg w w.heap.size .u8 A n seed) (hn : n ≤ 1048576) (ht : Seg w w.heap.size .u8 A4 n4 msg) (hn4 : n4 ≤ 1048576) (hc4 : n4 ≤ c4) (hm4 : c4 ≤ maxLen) :
    Calls Tryd.prog 15 #[.slice A n c, .int .i64 h, .int .i64 leaf, .slice A4 n4 c4] w fun e w' => ∃ v k, e = .returned v ∧ k ≤ 609 ∧ Row w' w.heap.size 5 .u8 v k (sig7 seed h leaf msg) ∧ Below w.heap.size w w' := by
  obtain ⟨i0, hi, hz0, hz1, hz2⟩ := info_parts Tryd.infoU8
  have HS := Lib.hid hs
  have HT := Lib.hid ht
  clear hs ht
  by_cases hbad : h < 0 ∨ 3 < h ∨ leaf < 0
  · have hP : Hid (sig7 seed h leaf msg = []) := by show _ = _; rw [sig7, if_pos (by omega)]
    rcases (by omega : h < 0 ∨ (0 ≤ h ∧ 3 < h) ∨ (0 ≤ h ∧ h ≤ 3 ∧ leaf < 0)) with h1 | ⟨h1, h2⟩ | ⟨h1, h2, h3⟩
    focus
      have hd : decide (h < 0) = true := by simpa using h1
    rotate_left
    focus
      have hd : decide (h < 0) = false := by simp; omega
      have hd2 : decide (3 < h) = true := by simpa using h2
    rotate_left
    focus
      have hd : decide (h < 0) = false := by simp; omega
      have hd2 : decide (3 < h) = false := by simp; omega
      have hd3 : decide (leaf < 0) = true := by simpa using h3
    rotate_left
    all_goals
      clear hbad
      go_enter Tryd.func15, Tryd.ntmps15
      go_wp2_with fail
      go_ret
      rw [hP.out]
      exact ⟨_, 0, rfl, by omega, nil_row _ _ _ _, Below.refl _ _⟩
  obtain ⟨f, rfl⟩ : ∃ f : Nat, h = f := ⟨h.toNat, by omega⟩
  obtain ⟨I, rfl⟩ : ∃ I : Nat, leaf = I := ⟨leaf.toNat, by omega⟩
  have hf : f ≤ 3 := by omega
  have hf0 : (0 : Int) ≤ (f : Int) := by omega
  have hd : decide ((f : Int) < 0) = false := by simp
  have hd2 : decide ((3 : Int) < f) = false := by simp; omega
  have hd3 : decide ((I : Int) < 0) = false := by simp
  obtain ⟨N, hN⟩ : ∃ N : Nat, Hid (2 ^ f = N) := ⟨_, rfl⟩
  have hN8 : N ≤ 8 := by rw [← hN.out]; exact two_three hf
  have HW := Lib.hid (pow_wrap f N hN.out hN8)
  by_cases hge : N ≤ I
  · have hP : Hid (sig7 seed f I msg = []) := by show _ = _; rw [sig7, if_pos (by rw [Int.toNat_natCast, hN.out]; omega)]
    have hd4 : decide ((N : Int) ≤ (I : Int)) = true := by simpa using hge
    have hd5 : decide (N ≤ I) = true := by simpa using hge
    obtain ⟨hw1, hw2⟩ := HW.out
    clear hbad
    go_enter Tryd.func15, Tryd.ntmps15
    go_wp2_with fail
    go_ret
    rw [hP.out]
    first
      | exact ⟨_, 0, rfl, by omega, nil_row _ _ _ _, Below.refl _ _⟩
      | exact ⟨_, rfl, 0, by omega, nil_row _ _ _ _, Below.refl _ _⟩
  have hIN : I < N := by omega
  have hd4 : decide ((N : Int) ≤ (I : Int)) = false := by simp; omega
  have hd5 : decide (N ≤ I) = false := by simp; omega
  obtain ⟨V, P, hV, hP, hPl, hP16, hsig, hpub, hroot, hsgn, hget, hVl⟩ := sig_parts seed msg f I hf (by rw [hN.out]; exact hIN)
  have HV := Lib.hid hV
  have HP := Lib.hid hP
  have HPL := Lib.hid hPl
  have HP16 := Lib.hid hP16
  have HSIG := Lib.hid hsig
  have HSGN := Lib.hid hsgn
  have HVS : Hid (∀ x ∈ V, x.length ≤ 1048576) := fun x hx => by
    rw [hV] at hx
    have := leaves16 (leafSeed seed f) (2 ^ f) (by rw [hN.out]; omega) x hx
    omega
  have hI8 : I < 8 := by omega
  obtain ⟨K, hK⟩ : ∃ K, Hid (leafSeed seed f = K) := ⟨_, rfl⟩
  rw [hK.out] at HSIG HSGN
  clear hV hP hPl hP16 hsig hpub hroot hsgn hget hVl hbad hge
  have hb0 : Below w.heap.size w (w.alloc (.cells #[.int .u8 ((I : Int) % 256)] 5)) := (Below.refl _ _).alloc (Nat.le_refl _) _
  have hown : Own (w.alloc (.cells #[.int .u8 ((I : Int) % 256)] 5)) w.heap.size 5 .u8 (.slice (some ⟨w.heap.size, 0, none⟩) 1 1) [(I : Int)] := by
    have h := Own.of_blk (B := w.heap.size) (Blk.new w 5 .u8 [(I : Int) % 256]) (Nat.le_refl _) (by unfold maxLen; simp)
    rw [show (I : Int) % 256 = I by omega] at h ⊢
    exact h
  have HOWN := Lib.hid (hown.row (n := 1) rfl)
  have hmod : IntKind.u8.wrap (I : Int) = (I : Int) % 256 := by simp [IntKind.wrap, IntKind.bits, IntKind.signed]
  obtain ⟨hw1, hw2⟩ := HW.out
  clear hown
  go_enter Tryd.func15, Tryd.ntmps15
  go_wp2_with fail
  clear hw1 hw2
  refine (rleafSeed_any A n c seed f _ ((HS.out.below hb0 (Nat.le_refl _)).more hb0.size) hn).mono ?_
  rw [hK.out]
  rintro e w1 ⟨A1, c1, rfl, hc1, hm1, hS1, hb1⟩
  have HS1 := Lib.hid hS1
  have hbw1 := hb0.trans (hb1.mono hb0.size)
  have hz1' := hbw1.size
  have HO1 := Lib.hid (HOWN.out.below hb1)
  clear hS1 hb1
  go_wp2_with fail
  refine (rsign_any A1 A4 32 c1 n4 c4 K msg I w1 HS1.out (by omega) ((HT.out.below hbw1 (Nat.le_refl _)).more hz1') hn4 hc4 hm4).mono ?_
  rintro e w2 ⟨v2, k2, rfl, hk2, hR2, hb2⟩
  have hk560 : k2 = 560 := by rw [← hR2.length]; exact HSGN.out
  rw [hk560] at hR2
  obtain ⟨A2, c2, rfl, hc2, hm2⟩ := hR2.cut
  obtain ⟨S, hS⟩ : ∃ S, Hid (signI K I msg = S) := ⟨_, rfl⟩
  rw [hS.out] at hR2 HSIG HSGN
  have HR2 := Lib.hid hR2.seg
  have HO2 := Lib.hid (HO1.out.below hb2)
  have hbw2 := hbw1.trans (hb2.mono hz1')
  have hz2' := hbw2.size
  clear hR2 hk560 hk2 hb2 HO1 HS1
  go_wp2_with (at_builtin; refine wpList_app _ rfl (.tmp 31) (.tmp 37) 22 rfl w.heap.size 5 i0 (.int .u8 0) 1 Tryd.underlying22 hi hz0 hz1 hz2 rfl .u8 _ [(I : Int)] rfl HO2.out.own w2.heap.size A2 560 c2 S rfl HR2.out (by unfold maxLen; simp) (by simp) hz2' ?_; intro v3 w3 hown3 hg3 hor3; have hb3 : Below w.heap.size w w3 := own_below HO2.out.own hg3 hbw2 hz2'; have HR3 := Lib.hid (hown3.row (n := 561) (by rw [List.length_append, HSGN.out]; rfl)); clear hown3 hg3 hor3)
  have hz3 := hb3.size
  have HLT3 : Hid (∀ g, v3.ownBlock = some g → g < w3.heap.size) := fun g hg => (World.ownsRow.lt HR3.out g hg).2
  refine (rleaves_any A n c f seed w3 ((HS.out.below hb3 (Nat.le_refl _)).more hz3) hn hf).mono ?_
  rintro e w4 ⟨v4, rfl, hR4, hb4⟩
  rw [← HV.out] at hR4
  obtain ⟨A5, c5, rfl, hc5, hm5⟩ := hR4.cut
  have HF4 := Lib.hid hR4.fields
  have HLT4 : Hid (∀ g, v3.ownBlock = some g → g < w4.heap.size) := fun g hg => Nat.lt_of_lt_of_le (HLT3.out g hg) hb4.size
  rw [hN.out] at HF4 ⊢
  have HO4 := Lib.hid (HR3.out.below hb4)
  have hbw4 := hb3.trans (hb4.mono hz3)
  have hz4 := hbw4.size
  clear hR4 hc5 hb4 HO2 HR2 HR3
  go_wp2_with fail
  refine (rpath_any I A5 N c5 V w4 HF4.out HVS.out).mono ?_
  rw [← HP.out]
  rintro e w5 ⟨v5, k5, rfl, hk5, hR5, hb5⟩
  have hkf : k5 = f := by rw [← hR5.length]; exact HPL.out
  rw [hkf] at hR5
  obtain ⟨A6, c6, rfl, _, _⟩ := hR5.cut
  have HF5 := Lib.hid (hR5.off (r := v3.ownBlock) (fun g hg => ⟨HLT4.out g hg, HLT4.out g hg⟩))
  have HO5 := Lib.hid (HO4.out.below hb5)
  have hbw5 := hbw4.trans (hb5.mono hz4)
  have hz5 := hbw5.size
  clear hR5 hkf hk5 hb5 HO4 HF4
  go_wp2_with fail
  go_loopw [9, 11] (fun o i wr => ∃ k : Nat, k ≤ f ∧ i = .int .i64 k ∧ Hid (Row wr w.heap.size 5 .u8 o (561 + 16 * k) ((I : Int) :: (S ++ (P.take k).flatten))) ∧ Hid (FOff wr o.ownBlock A6 f P) ∧ Below w.heap.size w wr) (fun _ i _ => f - (intOf i).toNat)
  case atStart =>
    refine ⟨0, by omega, rfl, ?_, HF5.out, hbw5⟩
    show Row _ _ _ _ _ _ _
    rw [List.take_zero, List.flatten_nil, List.append_nil]
    exact HO5.out
  case round =>
    clear HO5 HF5 hbw5 hz5 hbw4 hz4 hbw2 hz2' hbw1 hz1' hb0 HOWN
    obtain ⟨k, hk, rfl, hR, hF, hb⟩ := hrel
    have hz := hb.size
    by_cases hlt : k < f
    · have hdk : decide ((k : Int) < f) = true := by simpa using hlt
      obtain ⟨b, off, rfl, hbl, hrb, hcl⟩ := hF.out.2 (by omega)
      obtain ⟨A7, n7, c7, e7, s7, l7, m7, a7⟩ := hcl k hlt
      have hn7 : n7 = 16 := by rw [← s7.1]; exact get16 HP16.out k (by rw [HPL.out]; exact hlt)
      rw [hn7] at s7 e7
      have HS7 := Lib.hid s7
      have HRL := Lib.hid hR.out.length
      have HNX : Hid ((I : Int) :: (S ++ (P.take (k + 1)).flatten) = ((I : Int) :: (S ++ (P.take k).flatten)) ++ P.getD k []) := by
        show _ = _
        rw [flat_next P k (by rw [HPL.out]; exact hlt), List.cons_append, List.append_assoc]
      have hk0 : (0 : Int) ≤ (k : Int) := by omega
      have hk1 : (k : Int) < f := by omega
      clear hcl s7 hn7 a7 hrb
      go_wp2_with (at_builtin; refine wpList_app _ rfl (.tmp 50) (.tmp 54) 22 rfl w.heap.size 5 i0 (.int .u8 0) 1 Tryd.underlying22 hi hz0 hz1 hz2 rfl .u8 _ _ rfl hR.out.own wr.heap.size A7 16 c7 (P.getD k []) rfl HS7.out (by rw [HRL.out]; unfold maxLen; omega) (by rw [HRL.out]; omega) hz ?_; intro v6 w6 hown6 hg6 hor6; have hb6 : Below w.heap.size w w6 := own_below hR.out.own hg6 hb hz; have HF6 := Lib.hid (FOff.turn hF.out hg6 hor6); have HR6 := Lib.hid (hown6.row (n := 561 + 16 * (k + 1)) (by rw [List.length_append, HRL.out, HS7.out.1]; omega)); clear hown6 hg6 hor6)
      rw [← HNX.out] at HR6
      go_roundw
      case measure => simp [intOf]; omega
      case rel => exact ⟨k + 1, by omega, by go_num, HR6.out, HF6.out, hb6⟩
    · have hdk : decide ((k : Int) < f) = false := by simpa using hlt
      have hkf : k = f := by omega
      have HE : Hid ((I : Int) :: (S ++ (P.take f).flatten) = sig7 seed f I msg) := by show _ = _; rw [HSIG.out, List.take_of_length_le (by rw [HPL.out]; omega)]
      rw [hkf, HE.out] at hR
      clear hkf
      go_wp2_with fail
      go_ret
      first
        | exact ⟨_, 561 + 16 * f, rfl, by omega, hR.out, hb⟩
        | exact ⟨_, rfl, 561 + 16 * f, by omega, hR.out, hb⟩
end Go.Proofs.YtljkkejjnimjcaaDoor
namespace Go.Proofs.YtljkkejjnimjcaaDoor
open Go.RowKit

/-- What Recover hands back: bytes and a yes or no. -/
def Recovered (w w' : World) (x : List Int × Bool) (e : Ending) : Prop := ∃ A n c, e = .returned (.tuple #[.slice A n c, .bool x.2]) ∧ n ≤ 16 ∧ n ≤ c ∧ c ≤ maxLen ∧ Seg w' w'.heap.size .u8 A n x.1 ∧ Below w.heap.size w w'

set_option maxRecDepth 100000 in
set_option maxHeartbeats 4000000 in
theorem rrecover_any (A2 A3 : Option Addr) (n2 c2 n3 c3 : Nat) (msg sig : List Int) (leaf : Int) (w : World) (ht : Seg w w.heap.size .u8 A2 n2 msg) (hn2 : n2 ≤ 1048576) (hc2 : n2 ≤ c2) (hm2 : c2 ≤ maxLen) (hu : Seg w w.heap.size .u8 A3 n3 sig) (hc3 : n3 ≤ c3) (hm3 : c3 ≤ maxLen) (hm3' : c3 ≤ 9223372036854775807) :
    Calls Tryd.prog 36 #[.int .i64 leaf, .slice A2 n2 c2, .slice A3 n3 c3] w fun e w' => Recovered w w' (recoverI leaf msg sig) e := by
  obtain ⟨i0, hi, hz0, hz1, hz2⟩ := info_parts Tryd.infoU8
  have HU := Lib.hid hu
  have HT := Lib.hid ht
  have HUL := Lib.hid hu.1
  clear hu ht
  by_cases hbad : leaf < 0 ∨ 255 < leaf ∨ n3 ≠ 560
  · have hP : Hid (recoverI leaf msg sig = ([], false)) := by show _ = _; rw [recoverI, if_pos (by rw [HUL.out]; exact hbad)]
    rcases (by omega : leaf < 0 ∨ (0 ≤ leaf ∧ 255 < leaf) ∨ (0 ≤ leaf ∧ leaf ≤ 255 ∧ n3 ≠ 560)) with h1 | ⟨h1, h2⟩ | ⟨h1, h2, h3⟩
    focus
      have hd : decide (leaf < 0) = true := by simpa using h1
    rotate_left
    focus
      have hd : decide (leaf < 0) = false := by simp; omega
      have hd2 : decide (255 < leaf) = true := by simpa using h2
    rotate_left
    focus
      have hd : decide (leaf < 0) = false := by simp; omega
      have hd2 : decide (255 < leaf) = false := by simp; omega
      have hd3 : ((n3 : Int) != 560) = true := by rw [bne_iff_ne]; omega
      clear h3
    rotate_left
    all_goals
      clear hbad
      go_enter Tryd.func36, Tryd.ntmps36
      go_wp2_with fail
      go_ret2
      rw [hP.out]
      exact ⟨none, 0, 0, rfl, by omega, by omega, by unfold maxLen; omega, Seg.nil _ _ _ _, Below.refl _ _⟩
  · have hd : decide (leaf < 0) = false := by simp; omega
    have hd2 : decide (255 < leaf) = false := by simp; omega
    have h560 : n3 = 560 := by omega
    subst h560
    obtain ⟨D, HD⟩ : ∃ D, Hid (digitsI msg = D) := ⟨_, rfl⟩
    obtain ⟨F, HF⟩ : ∃ F : Nat → List Int, Hid (F = fun (k : Nat) => chainI leaf k (D.getD k 0) ((sig.drop (16 * k)).take 16) (15 - (D.getD k 0).toNat)) := ⟨_, rfl⟩
    have hP : Hid (recoverI leaf msg sig = (valueI leaf (catI F 35), true)) := by show _ = _; rw [recoverI, if_neg (by rw [HUL.out]; exact hbad), HF.out, HD.out]
    have HFL : Hid (∀ k, k < 35 → (F k).length = 16) := by
      intro k hk
      rw [HF.out]
      exact chainI_length _ _ _ _ (by rw [List.length_take, List.length_drop, HUL.out]; omega) _
    have HDB : Hid (∀ j, j < 35 → 0 ≤ D.getD j 0 ∧ D.getD j 0 ≤ 15) := by rw [← HD.out]; exact digits_get msg
    clear hbad
    go_enter Tryd.func36, Tryd.ntmps36
    go_wp2_with fail
    refine (rdigits_any A2 n2 c2 msg w HT.out hn2 hc2 hm2).mono ?_
    rintro e w1 ⟨v1, rfl, hR1, hb1⟩
    rw [HD.out] at hR1
    obtain ⟨A1, c1, rfl, _, _⟩ := hR1.cut
    have HSEG := Lib.hid hR1.seg
    have hzb1 := hb1.size
    clear hR1
    go_wp2_with fail
    go_loopw [9, 10] (fun v i wr => ∃ k : Nat, k ≤ 35 ∧ i = .int .i64 k ∧ Hid (Row wr w1.heap.size 5 .u8 v (16 * k) (catI F k)) ∧ Below w1.heap.size w1 wr) (fun _ i _ => 35 - (intOf i).toNat)
    case atStart => exact ⟨0, by omega, rfl, nil_row _ _ _ _, Below.refl _ _⟩
    case round =>
      obtain ⟨k, hk, rfl, hR, hb⟩ := hrel
      have hz := hb.size
      have hbw := hb1.trans (hb.mono hzb1)
      by_cases hlt : k < 35
      · have hdk : decide ((k : Int) < 35) = true := by simp; omega
        have HRL := Lib.hid hR.out.length
        obtain ⟨b, off, rfl, hbl, hcl⟩ := HSEG.out.2 (by omega)
        obtain ⟨x, hx⟩ : ∃ x, Hid (D.getD k 0 = x) := ⟨_, rfl⟩
        have hxb := HDB.out k hlt
        rw [hx.out] at hxb
        obtain ⟨hx0, hx1⟩ := hxb
        have hcx := (hb.cell (p := ⟨b, off + k, none⟩) hbl).trans (hcl k hlt)
        rw [hx.out] at hcx
        have HCC : Hid (∀ W, Below w1.heap.size w1 W → W.cell? ⟨b, off + k, none⟩ = some (.int .i64 x)) := fun W hW => by
          have h := (hW.cell (p := ⟨b, off + k, none⟩) hbl).trans (hcl k hlt)
          rw [hx.out] at h
          exact h
        have hki : (k : Int) < 35 := by omega
        have hk0 : (0 : Int) ≤ (k : Int) := by omega
        have hbd := hb.drew
        have hbwd := hbw.drew
        have HRD : Hid (Row wr.drew w1.heap.size 5 .u8 _ (16 * k) (catI F k)) := hR.out
        have HFK : Hid (F k = chainI leaf k x ((sig.drop (16 * k)).take 16) (15 - x).toNat) := by
          show _ = _
          rw [HF.out]
          show chainI leaf k (D.getD k 0) _ _ = _
          rw [hx.out, show (15 - x).toNat = 15 - x.toNat by omega]
        have hw1 : IntKind.i64.wrap (16 * (k : Int)) = 16 * (k : Int) := IntWalk.i64_in _ (by omega)
        have hw2 : IntKind.i64.wrap (16 * (k : Int) + 16) = 16 * (k : Int) + 16 := IntWalk.i64_in _ (by omega)
        obtain ⟨A5, hA5⟩ : ∃ A5, Hid ((if c3 = 16 * k then A3 else A3.map (·.add (16 * k))) = A5) := ⟨_, rfl⟩
        obtain ⟨c5, hc5'⟩ : ∃ c5, Hid (c3 - 16 * k = c5) := ⟨_, rfl⟩
        have hsl : ∀ W, (Instr.slice 22 (.slice A3 560 c3) (some (.int .i64 (16 * (k : Int)))) (some (.int .i64 (16 * (k : Int) + 16))) none).run Tryd.prog W = .ok (.slice A5 16 c5) W := fun W => by
          have h := slice_lh A3 560 c3 (16 * k) (16 * k + 16) (by omega) (by omega) W
          rw [hA5.out, hc5'.out, show 16 * k + 16 - 16 * k = 16 by omega] at h
          simpa using h
        have HSP : Hid (Seg wr.drew wr.drew.heap.size .u8 A5 16 ((sig.drop (16 * k)).take 16)) := by
          have h := (((HU.out.below hbw (Nat.le_refl _)).more hbw.size).drop (i := 16 * k) (cap := c3) (by omega) (by omega)).take (i := 16) (by omega)
          rw [hA5.out] at h
          exact h
        have hc5 : 16 ≤ c5 := by have := hc5'.out; omega
        have hm5 : c5 ≤ maxLen := by have := hc5'.out; omega
        clear hcl
        go_wp2_with fail
        go_region_held3 (fun W => W.cell? ⟨b, off + k, none⟩ = some (.int .i64 x))
          (first
            | go_keep
            | exact HCC.out _ hb4
            | exact HCC.out _ hb3
            | exact HCC.out _ hbd)
          ((first
            | (refine step_app _ (by rfl) (.tmp 28) (.tmp 42) 22 (by rfl) w1.heap.size 5 i0 (.int .u8 0) 1 Tryd.underlying22 hi hz0 hz1 hz2 (by rfl) .u8 _ (catI F k) (by rfl) HR3.out.own w3.heap.size A6 16 c6 (F k) (by rfl) HS3.out (by unfold maxLen; rw [HRL.out]; omega) (by rw [HRL.out]; omega) hb3.size ?_; intro v4 w4 hown4 hg4 hor4; have hb4 : Below w1.heap.size w1 w4 := own_below HR3.out.own hg4 hb3 hb3.size)
            | (go_at_call 51; refine (rsteps_any A5 16 c5 _ leaf k x 15 wr.drew HSP.out (by omega) hc5 hm5 hx0 (by omega) (by omega)).mono ?_; rintro e w3 ⟨n6, hn6, A6, c6, rfl, hc6, hm6, hs3, hbx⟩; have hb3 : Below w1.heap.size w1 w3 := hbd.trans (hbx.mono hz); have HR3 := Lib.hid (Row.below HRD.out hbx); obtain rfl : n6 = 16 := (by rw [← hs3.1, ← HFK.out]; exact HFL.out k hlt); have HS3 := Lib.hid hs3; rw [← HFK.out] at HS3; clear hs3)))
        have HR4 : Hid (Row w4 w1.heap.size 5 .u8 v4 (16 * (k + 1)) (catI F (k + 1))) := hown4.row (by rw [List.length_append, HRL.out, HFL.out k hlt]; omega)
        clear hg4 hor4 hown4
        go_wp2
        go_roundw
        case measure => simp [intOf]; omega
        case rel => exact ⟨k + 1, by omega, by go_num, HR4.out, hb4⟩
      · have hdk : decide ((k : Int) < 35) = false := by simp; omega
        have hk35 : k = 35 := by omega
        rw [hk35] at hR
        clear hk35
        obtain ⟨A7, c7, rfl, hc7, hm7⟩ := hR.out.cut
        go_wp2_with fail
        refine (rvalue_any A7 560 c7 (catI F 35) leaf wr hR.out.seg (by omega) hc7 hm7).mono ?_
        rintro e w3 ⟨A8, c8, rfl, hc8, hm8, hs8, hbx⟩
        have HS8 := Lib.hid hs8
        clear hs8
        go_wp2_with fail
        go_ret2
        rw [hP.out]
        exact ⟨A8, 16, c8, rfl, by omega, hc8, hm8, HS8.out, hbw.trans (hbx.mono hbw.size)⟩
end Go.Proofs.YtljkkejjnimjcaaDoor
namespace Go.Proofs.YtljkkejjnimjcaaDoor
open Go.RowKit

set_option maxRecDepth 100000 in
set_option maxHeartbeats 4000000 in
theorem rclimb_any (A A2 : Option Addr) (n c n2 c2 : Nat) (leaf : List Int) (i : Int) (p : List (List Int)) (w : World) (ht : Seg w w.heap.size .u8 A n leaf) (hn : n ≤ 1048576) (hs : Fields w w.heap.size A2 n2 p) (hsh : ∀ x ∈ p, x.length ≤ 1048576) :
    Calls Tryd.prog 37 #[.slice A n c, .int .i64 i, .slice A2 n2 c2] w fun e w' => ∃ v k, e = .returned v ∧ k ≤ 1048576 ∧ Row w' w.heap.size 5 .u8 v k (climbI leaf i p) ∧ Below w.heap.size w w' := by
  have HS := Lib.hid hs
  have HL := Lib.hid hs.1
  have HSH := Lib.hid hsh
  have HT := Lib.hid ht
  clear hs hsh ht
  by_cases hbig : 3 < n2
  · have HR : Hid (climbI leaf i p = []) := by show _ = _; unfold climbI; rw [if_pos (by rw [HL.out]; omega)]
    have hd : decide ((3 : Int) < n2) = true := by simp; omega
    go_enter Tryd.func37, Tryd.ntmps37
    go_wp2_with fail
    go_ret
    rw [HR.out]
    exact ⟨_, 0, rfl, by omega, nil_row _ _ _ _, Below.refl _ _⟩
  have hd : decide ((3 : Int) < n2) = false := by simp; omega
  by_cases hneg : i < 0
  · have HR : Hid (climbI leaf i p = []) := by show _ = _; unfold climbI; rw [if_pos (by omega)]
    have hd2 : decide (i < 0) = true := by simpa using hneg
    go_enter Tryd.func37, Tryd.ntmps37
    go_wp2_with fail
    go_ret
    rw [HR.out]
    exact ⟨_, 0, rfl, by omega, nil_row _ _ _ _, Below.refl _ _⟩
  obtain ⟨I, rfl⟩ : ∃ I : Nat, i = I := ⟨i.toNat, by omega⟩
  have hd2 : decide ((I : Int) < 0) = false := by simp
  obtain ⟨N, hN⟩ : ∃ N : Nat, Hid (2 ^ n2 = N) := ⟨_, rfl⟩
  have hN8 : N ≤ 8 := by rw [← hN.out]; exact two_three (by omega)
  have hcast : (2 : Int) ^ n2 = (N : Int) := by rw [← hN.out]; simp
  have hw1 : RowKit.wrap64 ((2 : Int) ^ n2) = (N : Int) := by rw [hcast]; unfold RowKit.wrap64; omega
  have hw2 : IntKind.i64.wrap ((2 : Int) ^ n2) = (N : Int) := by rw [hcast]; exact IntWalk.i64_in _ (by omega)
  clear hcast
  by_cases hge : N ≤ I
  · have HR : Hid (climbI leaf I p = []) := by show _ = _; unfold climbI; rw [if_pos (by rw [HL.out, hN.out]; omega)]
    have hd3 : decide ((N : Int) ≤ (I : Int)) = true := by simpa using hge
    have hd4 : decide (N ≤ I) = true := by simpa using hge
    go_enter Tryd.func37, Tryd.ntmps37
    go_wp2_with fail
    go_ret
    rw [HR.out]
    exact ⟨_, rfl, 0, by omega, nil_row _ _ _ _, Below.refl _ _⟩
  have hd3 : decide ((N : Int) ≤ (I : Int)) = false := by simpa using hge
  have hd4 : decide (N ≤ I) = false := by simpa using hge
  obtain ⟨R, HR⟩ : ∃ R, Hid (climbI leaf I p = R) := ⟨_, rfl⟩
  have HC : Hid (climbF 0 leaf I p = R) := by show _ = _; rw [← HR.out, climbI_two (by rw [HL.out]; omega) I (by rw [HL.out, hN.out]; omega)]
  have hI8 : I < 8 := by omega
  clear hge
  go_enter Tryd.func37, Tryd.ntmps37
  go_wp2_with fail
  refine (copy_any A n c leaf w HT.out (by omega)).mono ?_
  rintro e w1 ⟨v1, rfl, hR1, hb1⟩
  obtain ⟨A1, c1, rfl, _, _⟩ := hR1.cut
  have HR1 := Lib.hid hR1
  clear hR1
  go_wp2_with fail
  go_loopw [1, 7, 8] (fun i x h wr => ∃ (I j : Nat) (A' : Option Addr) (n' c' : Nat) (X : List Int), i = .int .i64 I ∧ h = .int .i64 j ∧ x = .slice A' n' c' ∧ j ≤ n2 ∧ I < 8 ∧ n' ≤ 1048576 ∧ Hid (Row wr w.heap.size 5 .u8 (.slice A' n' c') n' X) ∧ Hid (climbF j X I (p.drop j) = R) ∧ Below w.heap.size w wr) (fun _ _ h _ => n2 - (intOf h).toNat)
  case atStart => exact ⟨I, 0, A1, n, c1, leaf, rfl, rfl, rfl, by omega, hI8, hn, HR1.out, HC.out, hb1⟩
  case round =>
    clear hI8 HR1 hb1
    obtain ⟨I, j, A', n', c', X, rfl, rfl, rfl, hj, hI8, hn', hX, hCl, hb⟩ := hrel
    have hz := hb.size
    by_cases hlt : j < n2
    · have hdj : decide ((j : Int) < n2) = true := by simp; omega
      obtain ⟨b, off, rfl, hbl, hcl⟩ := HS.out.2 (by omega)
      obtain ⟨A2, m2, k2, e2, s2, l2, x2⟩ := hcl j hlt
      have hcy := (hb.cell (p := ⟨b, off + j, none⟩) hbl).trans e2
      have HY := Lib.hid ((s2.below hb (Nat.le_refl _)).more hz)
      have hm2 : m2 ≤ 1048576 := by rw [← s2.1]; exact get_short HSH.out j
      obtain ⟨Y, hY⟩ : ∃ Y, Hid (p.getD j [] = Y) := ⟨_, rfl⟩
      rw [hY.out] at HY
      have hcap := hX.out.caps
      obtain ⟨hcap1, hcap2⟩ := hcap
      obtain ⟨I2, hI2⟩ : ∃ I2, Hid (I / 2 = I2) := ⟨_, rfl⟩
      have hI28 : I2 < 8 := by have := hI2.out; omega
      have hquo : IntKind.i64.wrap ((I : Int).tdiv 2) = (I2 : Int) := by rw [IntWalk.i64_quo _ _ (by omega), ← hI2.out]; omega
      have hquo2 : RowKit.wrap64 ((I : Int) / 2) = (I2 : Int) := by unfold RowKit.wrap64; rw [← hI2.out]; omega
      have HQ : Hid ((I : Int) / 2 = (I2 : Int)) := by show _ = _; rw [← hI2.out]; omega
      have HD : Hid (climbF (j + 1) (hash16 3 (stepT j I X Y)) I2 (p.drop (j + 1)) = R) := by
        show _ = _
        have h := hCl.out
        have hd : p.drop j = Y :: p.drop (j + 1) := by
          rw [List.drop_eq_getElem_cons (by rw [HL.out]; exact hlt), ← hY.out]
          simp [List.getD, HL.out, hlt]
        rw [hd, climbF, hI2.out] at h
        exact h
      clear hcl e2 s2
      by_cases hev : I % 2 = 0
      focus
        have hr1 : (I : Int).tmod 2 = 0 := by rw [Int.tmod_eq_emod_of_nonneg (by omega)]; omega
        have hr2 : (I : Int) % 2 = 0 := by omega
        have hst : stepT j I X Y = nodeF j I2 X Y := by rw [stepT, if_pos hev, hI2.out]
        rw [hst] at HD
        clear hst hev
        go_wp2_with fail
        rw [HQ.out]
        refine (rjoin_any A' A2 n' c' m2 k2 j I2 X Y wr hX.out.seg hn' hcap1 hcap2 HY.out hm2 l2 x2).mono ?_
        rintro e w2 ⟨v2, rfl, hR2, hb2⟩
      rotate_left
      focus
        have hr1 : (I : Int).tmod 2 = 1 := by rw [Int.tmod_eq_emod_of_nonneg (by omega)]; omega
        have hr2 : (I : Int) % 2 = 1 := by omega
        have hst : stepT j I X Y = nodeF j I2 Y X := by rw [stepT, if_neg hev, hI2.out]
        rw [hst] at HD
        clear hst hev
        go_wp2_with fail
        rw [HQ.out]
        refine (rjoin_any A2 A' m2 k2 n' c' j I2 Y X wr HY.out hm2 l2 x2 hX.out.seg hn' hcap1 hcap2).mono ?_
        rintro e w2 ⟨v2, rfl, hR2, hb2⟩
      rotate_left
      all_goals
        obtain ⟨A3, c3, rfl, _, _⟩ := hR2.cut
        have HR2 := Lib.hid (Row.less hR2 hz)
        have hb3 := hb.trans (hb2.mono hz)
        clear hR2 hb2
        go_wp2_with fail
        go_roundw
        case measure => simp [intOf]; omega
        case rel => exact ⟨I2, j + 1, A3, 16, c3, _, by rw [HQ.out], by go_num, rfl, by omega, hI28, by omega, HR2.out, HD.out, hb3⟩
    · have hdj : decide ((j : Int) < n2) = false := by simp; omega
      have HE : Hid (X = R) := by
        show _ = _
        have h := hCl.out
        rw [List.drop_of_length_le (by rw [HL.out]; omega), climbF] at h
        exact h
      rw [HE.out] at hX
      go_wp2_with fail
      go_ret
      rw [HR.out]
      exact ⟨_, n', rfl, hn', hX.out, hb⟩
end Go.Proofs.YtljkkejjnimjcaaDoor
namespace Go.Proofs.YtljkkejjnimjcaaDoor
open Go.RowKit

theorem inB_at {xs : List Int} (h : InB xs) (j : Nat) (hj : j < xs.length) : 0 ≤ xs.getD j 0 ∧ xs.getD j 0 < 256 := by
  rw [List.getD_eq_getElem?_getD, List.getElem?_eq_getElem hj]
  exact h _ (List.getElem_mem hj)
theorem path7_next (sig : List Int) (k : Nat) : path7 sig (k + 1) = path7 sig k ++ [(sig.drop (561 + 16 * k)).take 16] := by simp [path7, List.range_succ]
theorem path7_length (sig : List Int) (k : Nat) : (path7 sig k).length = k := by simp [path7]
theorem path7_short (sig : List Int) (k : Nat) : ∀ x ∈ path7 sig k, x.length ≤ 16 := by
  intro x hx
  obtain ⟨i, _, rfl⟩ := List.mem_map.1 hx
  exact List.length_take_le _ _
/-- A part of a slice that lies somewhere. -/
theorem Seg.part {w : World} {B : Nat} {k : IntKind} {b off n : Nat} {xs : List Int} (h : Seg w B k (some ⟨b, off, none⟩) n xs) (l m : Nat) (hl : l + m ≤ n) : Seg w B k (some ⟨b, off + l, none⟩) m ((xs.drop l).take m) := by
  refine ⟨by rw [List.length_take, List.length_drop, h.1]; omega, fun hm => ?_⟩
  obtain ⟨b', off', e, hb, hc⟩ := h.2 (by omega)
  injection e with e
  injection e with e1 e2
  subst e1
  subst e2
  refine ⟨b, off + l, rfl, hb, fun j hj => ?_⟩
  rw [show off + l + j = off + (l + j) by omega, hc (l + j) (by omega)]
  simp [List.getD, hj]
theorem slice_part (b off n c l h : Nat) (h1 : l ≤ h) (h2 : h ≤ c) (h3 : l < c) (W : World) : (Instr.slice 22 (.slice (some ⟨b, off, none⟩) n c) (some (.int .i64 (l : Int))) (some (.int .i64 (h : Int))) none).run Tryd.prog W = .ok (.slice (some ⟨b, off + l, none⟩) (h - l) (c - l)) W := by
  rw [slice_lh _ _ _ _ _ h1 h2, if_neg (by omega)]
  simp [addr_add]

set_option maxRecDepth 100000 in
set_option maxHeartbeats 4000000 in
theorem rver7_any (A A2 A3 : Option Addr) (n c n2 c2 n3 c3 : Nat) (pub msg sig : List Int) (w : World) (hs : Seg w w.heap.size .u8 A n pub) (hc : n ≤ c) (hm : c ≤ maxLen) (hx : InB pub)
    (ht : Seg w w.heap.size .u8 A2 n2 msg) (hn2 : n2 ≤ 1048576) (hc2 : n2 ≤ c2) (hm2 : c2 ≤ maxLen) (hu : Seg w w.heap.size .u8 A3 n3 sig) (hn3 : n3 ≤ 1048576) (hc3 : n3 ≤ c3) (hm3 : c3 ≤ maxLen) (hy : InB sig) :
    Calls Tryd.prog 17 #[.slice A n c, .slice A2 n2 c2, .slice A3 n3 c3] w fun e w' => e = .returned (.tuple #[.int .i64 (ver7 pub msg sig).1, .bool (ver7 pub msg sig).2]) ∧ Below w.heap.size w w' := by
  have HS := Lib.hid hs
  have HT := Lib.hid ht
  have HU := Lib.hid hu
  have HX := Lib.hid hx
  have HY := Lib.hid hy
  have HLS := Lib.hid hs.1
  have HLU := Lib.hid hu.1
  unfold maxLen at hm hm2 hm3
  clear hs ht hu hx hy
  by_cases h17 : n = 17
  rotate_left
  · have HV : Hid (ver7 pub msg sig = (0, false)) := by show _ = _; rw [ver7, if_pos (by rw [HLS.out]; exact .inl h17)]
    have hd : ((n : Int) != 17) = true := by simp; omega
    clear h17
    go_enter Tryd.func17, Tryd.ntmps17
    go_wp2_with fail
    go_ret2
    rw [HV.out]
    exact ⟨rfl, Below.refl _ _⟩
  subst h17
  obtain ⟨b1, o1, rfl, hb1, hcl1⟩ := HS.out.2 (by omega)
  have hx0 := inB_at HX.out 0 (by rw [HLS.out]; omega)
  have hcx := hcl1 0 (by omega)
  obtain ⟨f, hf⟩ : ∃ f : Nat, pub.getD 0 0 = (f : Int) := ⟨(pub.getD 0 0).toNat, by omega⟩
  have HF := Lib.hid hf
  rw [hf] at hx0 hcx
  rw [Nat.add_zero] at hcx
  clear hcl1 hf
  have hf255 : f < 256 := by omega
  have hf0 : (0 : Int) ≤ (f : Int) := by omega
  have hwf : IntKind.i64.wrap (f : Int) = (f : Int) := IntWalk.i64_in _ (by omega)
  by_cases h3 : 3 < f
  · have HV : Hid (ver7 pub msg sig = (0, false)) := by show _ = _; rw [ver7, if_pos (by rw [HF.out]; omega)]
    have hd : decide ((3 : Int) < f) = true := by simp; omega
    clear hx0
    go_enter Tryd.func17, Tryd.ntmps17
    go_wp2_with fail
    go_ret2
    rw [HV.out]
    exact ⟨rfl, Below.refl _ _⟩
  have hd : decide ((3 : Int) < f) = false := by simp; omega
  have hf3 : f ≤ 3 := by omega
  obtain ⟨M, hM⟩ : ∃ M : Nat, Hid (561 + 16 * f = M) := ⟨_, rfl⟩
  have hM609 : M ≤ 609 := by rw [← hM.out]; omega
  have hM561 : 561 ≤ M := by rw [← hM.out]; omega
  obtain ⟨M0, hM0⟩ : ∃ M0 : Nat, Hid (16 * f = M0) := ⟨_, rfl⟩
  have hwm : IntKind.i64.wrap (16 * (f : Int)) = (M0 : Int) := by rw [IntWalk.i64_in _ (by omega), ← hM0.out]; omega
  have hwn : IntKind.i64.wrap (561 + (M0 : Int)) = (M : Int) := by have := hM.out; have := hM0.out; rw [IntWalk.i64_in _ (by omega)]; omega
  by_cases hlen : n3 = M
  rotate_left
  · have HV : Hid (ver7 pub msg sig = (0, false)) := by
      show _ = _
      rw [ver7, if_neg (by rw [HLS.out, HF.out]; omega), HF.out, Int.toNat_natCast, if_pos (by rw [HLU.out, hM.out]; exact .inl hlen)]
    have hd2 : ((n3 : Int) != (M : Int)) = true := by simp; omega
    have hd3 : (n3 != M) = true := by simpa using hlen
    clear hx0 hlen
    go_enter Tryd.func17, Tryd.ntmps17
    go_wp2_with fail
    go_ret2
    rw [HV.out]
    exact ⟨rfl, Below.refl _ _⟩
  subst hlen
  obtain ⟨N, hN⟩ : ∃ N : Nat, Hid (2 ^ f = N) := ⟨_, rfl⟩
  have hN8 : N ≤ 8 := by rw [← hN.out]; exact two_three hf3
  have HW := Lib.hid (pow_wrap f N hN.out hN8)
  obtain ⟨b3, o3, rfl, hb3, hcl3⟩ := HU.out.2 (by omega)
  have hy0 := inB_at HY.out 0 (by rw [HLU.out]; omega)
  have hcy := hcl3 0 (by omega)
  obtain ⟨I, hI⟩ : ∃ I : Nat, sig.getD 0 0 = (I : Int) := ⟨(sig.getD 0 0).toNat, by omega⟩
  have HI := Lib.hid hI
  rw [hI] at hy0 hcy
  rw [Nat.add_zero] at hcy
  have hI255 : I < 256 := by omega
  have hI0 : (0 : Int) ≤ (I : Int) := by omega
  have hwi : IntKind.i64.wrap (I : Int) = (I : Int) := IntWalk.i64_in _ (by omega)
  have hn30 : (0 : Int) < n3 := by omega
  clear hcl3 hI
  by_cases hge : N ≤ I
  · have HV : Hid (ver7 pub msg sig = (0, false)) := by
      show _ = _
      rw [ver7, if_neg (by rw [HLS.out, HF.out]; omega), HF.out, Int.toNat_natCast, if_pos (by rw [HI.out, hN.out]; omega)]
    have hd4 : decide ((N : Int) ≤ (I : Int)) = true := by simpa using hge
    have hd5 : decide (N ≤ I) = true := by simpa using hge
    obtain ⟨hw1, hw2⟩ := HW.out
    clear hx0 hy0
    go_enter Tryd.func17, Tryd.ntmps17
    go_wp2_with fail
    go_ret2
    rw [HV.out]
    exact ⟨rfl, Below.refl _ _⟩
  have hd4 : decide ((N : Int) ≤ (I : Int)) = false := by simp; omega
  have hd5 : decide (N ≤ I) = false := by simp; omega
  obtain ⟨S, hS⟩ : ∃ S, Hid ((sig.drop 1).take 560 = S) := ⟨_, rfl⟩
  obtain ⟨X, hX⟩ : ∃ X, Hid ((recoverI I msg S).1 = X) := ⟨_, rfl⟩
  obtain ⟨V, hV⟩ : ∃ V, Hid (sameB (climbI X I (path7 sig f)) (pub.drop 1) = V) := ⟨_, rfl⟩
  have HV : Hid (ver7 pub msg sig = if V = true then ((I : Int), true) else (0, false)) := by
    show _ = _
    rw [ver7, if_neg (by rw [HLS.out, HF.out]; omega), HF.out, Int.toNat_natCast, if_neg (by rw [HI.out, HLU.out, hN.out, hM.out]; omega), HI.out, hS.out, hX.out, hV.out]
  have hsl : ∀ W, (Instr.slice 22 (.slice (some ⟨b3, o3, none⟩) n3 c3) (some (.int .i64 1)) (some (.int .i64 561)) none).run Tryd.prog W = .ok (.slice (some ⟨b3, o3 + 1, none⟩) 560 (c3 - 1)) W := fun W => slice_part b3 o3 n3 c3 1 561 (by omega) (by omega) (by omega) W
  have HSL3 : Hid (∀ W, (Instr.slice 22 (.slice (some ⟨b1, o1, none⟩) 17 c) (some (.int .i64 1)) none none).run Tryd.prog W = .ok (.slice (some ⟨b1, o1 + 1, none⟩) 16 (c - 1)) W) := fun W => by
    have h := slice_from (some ⟨b1, o1, none⟩) 17 c 1 (by omega) W
    rw [if_neg (by omega)] at h
    simpa [addr_add] using h
  have HPUB := Lib.hid (HS.out.part 1 16 (by omega))
  have HSS := Lib.hid (HU.out.part 1 560 (by omega))
  rw [hS.out] at HSS
  obtain ⟨hw1, hw2⟩ := HW.out
  clear hx0 hy0 hge
  go_enter Tryd.func17, Tryd.ntmps17
  go_wp2_with fail
  clear hw1 hw2 hsl
  refine (rrecover_any A2 _ n2 c2 560 (c3 - 1) msg S I w HT.out hn2 hc2 (by unfold maxLen; omega) HSS.out (by omega) (by unfold maxLen; omega) (by omega)).mono ?_
  rintro e w1 ⟨A4, n4, c4, rfl, hn4, hc4, hm4, hS4, hbx1⟩
  rw [hX.out] at hS4
  have HX1 := Lib.hid hS4
  have hz1 := hbx1.size
  clear hS4
  go_wp2_with fail
  go_loopw [10, 13, 14] (fun a o i wr => ∃ k a' : Nat, k ≤ f ∧ i = .int .i64 k ∧ a = .int .i64 a' ∧ Hid (a' = 561 + 16 * k) ∧ Hid (FRow wr w1.heap.size 0 o k (path7 sig k)) ∧ Below w1.heap.size w1 wr) (fun _ _ i _ => f - (intOf i).toNat)
  case atStart => exact ⟨0, 561, by omega, rfl, rfl, rfl, FRow.nil _ _ _, Below.refl _ _⟩
  case round =>
    obtain ⟨k, a', hk, rfl, rfl, hA, hR, hb⟩ := hrel
    have hz := hb.size
    have hbw := hbx1.trans (hb.mono hz1)
    by_cases hlt : k < f
    · have hdk : decide ((k : Int) < f) = true := by simpa using hlt
      have ha' : a' + 16 ≤ n3 := by rw [hA.out, ← hM.out]; omega
      obtain ⟨a2, hA2⟩ : ∃ a2, Hid (a' + 16 = a2) := ⟨_, rfl⟩
      have ha2 : a2 ≤ n3 := by rw [← hA2.out]; exact ha'
      have haa : a' < a2 := by rw [← hA2.out]; omega
      have hwa : IntKind.i64.wrap ((a' : Int) + 16) = (a2 : Int) := by rw [IntWalk.i64_in _ (by omega), ← hA2.out]; omega
      have hsl2 : ∀ W, (Instr.slice 22 (.slice (some ⟨b3, o3, none⟩) n3 c3) (some (.int .i64 (a' : Int))) (some (.int .i64 (a2 : Int))) none).run Tryd.prog W = .ok (.slice (some ⟨b3, o3 + a', none⟩) 16 (c3 - a')) W := fun W => by
        have h := slice_part b3 o3 n3 c3 a' a2 (by omega) (by omega) (by omega) W
        rw [show a2 - a' = 16 by rw [← hA2.out]; omega] at h
        exact h
      have hpart := HU.out.part a' 16 ha'
      have hbA : Below wr.heap.size wr (wr.alloc (.cells #[.slice (some ⟨b3, o3 + a', none⟩) 16 (c3 - a')] 22)) := (Below.refl _ _).alloc (Nat.le_refl _) _
      have hb1A := hb.trans (hbA.mono hz)
      have hbwA := hbx1.trans (hb1A.mono hz1)
      have HRb := Lib.hid (FRow.below hR.out hbA)
      have hcb := cell_made wr #[.slice (some ⟨b3, o3 + a', none⟩) 16 (c3 - a')] 22 _ 0 _ rfl rfl
      have HSb := Lib.hid ((hpart.below hbwA (Nat.le_refl _)).more hbwA.size)
      have HAP := Lib.hid (Apart.old hpart (fun g hg => Nat.le_trans hz1 (hR.out.lt g hg).1))
      have hca : 16 ≤ c3 - a' := by omega
      have hca2 : c3 - a' ≤ maxLen := by unfold maxLen; omega
      have HNX : Hid (path7 sig (k + 1) = path7 sig k ++ [(sig.drop a').take 16]) := by show _ = _; rw [path7_next, hA.out]
      clear hpart hbwA
      go_wp2_with (at_builtin; refine wpList_app1 rfl (.tmp 63) (.tmp 69) rfl w1.heap.size 0 wr.heap.size _ k (path7 sig k) rfl HRb.out 1 (some ⟨b3, o3 + a', none⟩) 16 (c3 - a') ((sig.drop a').take 16) rfl hcb HSb.out hca hca2 HAP.out (fun _ _ _ => Nat.zero_le _) (by omega) hb1A.size ?_; intro v5 w5 hF5 hg5 hor5; have hb5 : Below w1.heap.size w1 w5 := frow_below HRb.out hg5 hb1A hb1A.size; have HF5 := Lib.hid hF5; clear hF5 hg5 hor5 hcb)
      rw [← HNX.out] at HF5
      go_roundw
      case measure => simp [intOf]; omega
      case rel => exact ⟨k + 1, a2, by omega, by go_num, rfl, by show _ = _; rw [← hA2.out, hA.out]; omega, HF5.out, hb5⟩
    · have hdk : decide ((k : Int) < f) = false := by simpa using hlt
      have hkf : k = f := by omega
      rw [hkf] at hR
      obtain ⟨A6, c6, rfl, hc6, hm6⟩ := hR.out.cut
      have HP := Lib.hid hR.out.fields
      have HXr := Lib.hid ((HX1.out.below hb (Nat.le_refl _)).more hz)
      have HPr := Lib.hid ((HPUB.out.below hbw (Nat.le_refl _)).more hbw.size)
      have hsl3 := HSL3.out
      have HVT : Hid (sameB (climbI X I (path7 sig f)) ((pub.drop 1).take 16) = V) := by show _ = _; rw [List.take_of_length_le (by rw [List.length_drop, HLS.out]; omega), hV.out]
      clear hkf hR
      go_wp2_with fail
      go_region_held3 (fun _ => True) (trivial)
        ((first
          | (go_at_call 10; refine (same_any A7 _ k7 c7 16 (c - 1) (climbI X I (path7 sig f)) ((pub.drop 1).take 16) w7 HR7.out ((HPr.out.below hbx7 (Nat.le_refl _)).more hbx7.size) (by omega)).mono ?_; rw [HVT.out]; rintro e w8 ⟨rfl, q8, hq8⟩; have hb8 : Below wr.heap.size wr w8 := (by rw [hq8]; exact below_drewN hbx7 q8); clear hq8)
          | (go_at_call 37; refine (rclimb_any A4 A6 n4 c4 f c6 X I (path7 sig f) wr.drew HXr.out (by omega) HP.out (fun x hx => by have := path7_short sig f x hx; omega)).mono ?_; rintro e w7 ⟨v7, k7, rfl, hk7, hR7, hbx7'⟩; obtain ⟨A7, c7, rfl, _, _⟩ := hR7.cut; have hbx7 : Below wr.heap.size wr w7 := (Below.refl _ _).drew.trans (hbx7'.mono (Nat.le_refl _)); have HR7 := Lib.hid hR7.seg; clear hR7)))
      have hbw8 := hbw.trans (hb8.mono hbw.size)
      clear HVT hV
      cases V
      · have HV2 : Hid (ver7 pub msg sig = (0, false)) := by show _ = _; rw [HV.out]; rfl
        go_wp2_with fail
        go_ret2
        rw [HV2.out]
        exact ⟨rfl, hbw8⟩
      · have HV2 : Hid (ver7 pub msg sig = ((I : Int), true)) := by show _ = _; rw [HV.out]; rfl
        go_wp2_with fail
        go_ret2
        rw [HV2.out]
        exact ⟨rfl, hbw8⟩
end Go.Proofs.YtljkkejjnimjcaaDoor
