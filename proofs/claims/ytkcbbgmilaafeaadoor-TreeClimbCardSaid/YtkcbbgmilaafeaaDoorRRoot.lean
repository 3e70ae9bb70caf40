/-
  The reference's root of a tree, path of a leaf, and way of a leaf.
-/
import Derived.Test.YtkcbbgmilaafeaaDoorRTree
import Derived.Test.YtkcbbgmilaafeaaDoorAlike
namespace Go.Proofs.YtkcbbgmilaafeaaDoor
open Go.RowKit

theorem fitB_none {l : List (List Int)} (h : fitB l.length = false) : fitsT l.length = none := by
  unfold fitB at h
  simp at h
  unfold fitsT
  rw [if_neg (by omega), if_neg (by omega), if_neg (by omega), if_neg (by omega)]
theorem fitB_some {n : Nat} (h : fitB n = true) : ∃ f, f ≤ 3 ∧ n = 2 ^ f := by
  unfold fitB at h
  simp at h
  rcases (by omega : n = 1 ∨ n = 2 ∨ n = 4 ∨ n = 8) with rfl | rfl | rfl | rfl
  · exact ⟨0, by omega, rfl⟩
  · exact ⟨1, by omega, rfl⟩
  · exact ⟨2, by omega, rfl⟩
  · exact ⟨3, by omega, rfl⟩
theorem two_pos (f : Nat) : 1 ≤ 2 ^ f := Nat.one_le_two_pow
theorem two_next (f : Nat) : 2 ^ (f + 1) = 2 * 2 ^ f := by rw [Nat.pow_succ]; omega
theorem two_three {f : Nat} (h : f ≤ 3) : 2 ^ f ≤ 8 := by
  rcases (by omega : f = 0 ∨ f = 1 ∨ f = 2 ∨ f = 3) with rfl | rfl | rfl | rfl <;> decide

theorem and_mask (h : Int) (m : Nat) (hm : m < 9223372036854775808) : 0 ≤ bits .and .i64 h m ∧ bits .and .i64 h m ≤ m := by
  have e : bits .and .i64 h m = IntKind.i64.wrap (((BitVec.ofInt 64 h &&& BitVec.ofInt 64 m).toNat : Nat) : Int) := rfl
  have h1 : (BitVec.ofInt 64 (m : Int)).toNat = m := by
    rw [BitVec.toNat_ofInt]
    omega
  have h2 : (BitVec.ofInt 64 h &&& BitVec.ofInt 64 m).toNat ≤ m := by
    rw [BitVec.toNat_and, h1]
    exact Nat.and_le_right
  rw [e, IntWalk.i64_in _ (by omega)]
  omega
theorem pow_wrap (f N : Nat) (hN : 2 ^ f = N) (h : N ≤ 8) : RowKit.wrap64 ((2 : Int) ^ f) = N ∧ IntKind.i64.wrap ((2 : Int) ^ f) = N := by
  have hcast : (2 : Int) ^ f = (N : Int) := by rw [← hN]; simp
  rw [hcast]
  clear hcast hN
  exact ⟨by unfold RowKit.wrap64; omega, IntWalk.i64_in _ (by omega)⟩

set_option maxRecDepth 100000 in
set_option maxHeartbeats 2000000 in
theorem rroot_any (A : Option Addr) (n c : Nat) (fs : List (List Int)) (w : World) (hs : Fields w w.heap.size A n fs) (hsh : ∀ x ∈ fs, x.length ≤ 1048576) :
    Calls Tryd.prog 14 #[.slice A n c] w fun e w' => ∃ v k, e = .returned v ∧ k ≤ 1048576 ∧ Row w' w.heap.size 5 .u8 v k (rootI fs) ∧ Below w.heap.size w w' := by
  have HS := Lib.hid hs
  have HL := Lib.hid hs.1
  have HSH := Lib.hid hsh
  clear hs hsh
  by_cases hfit : fitB n = false
  · have HR : Hid (rootI fs = []) := by show _ = _; unfold rootI; rw [fitB_none (by rw [HL.out]; exact hfit)]
    go_enter Tryd.func14, Tryd.ntmps14
    go_wp2_with (go_at_call 24; refine (rfits_any n w).mono ?_; rintro e w1 ⟨rfl, rfl⟩; rw [hfit])
    go_ret
    rw [HR.out]
    exact ⟨_, 0, rfl, by omega, nil_row _ _ _ _, Below.refl _ _⟩
  · have hfit2 : fitB n = true := by simpa using hfit
    obtain ⟨f, hf, hnf⟩ := fitB_some hfit2
    have HNF := Lib.hid hnf
    obtain ⟨R, HR⟩ : ∃ R, Hid (rootI fs = R) := ⟨_, rfl⟩
    have HRF : Hid (rootF f 0 fs = R) := by show _ = _; rw [← HR.out, rootI_two hf (by rw [HL.out]; exact hnf)]
    clear hfit hnf
    go_enter Tryd.func14, Tryd.ntmps14
    go_wp2_with (go_at_call 24; refine (rfits_any n w).mono ?_; rintro e w1 ⟨rfl, rfl⟩; rw [hfit2])
    go_loopw [3, 4] (fun l h wr => ∃ (j f' : Nat) (A' : Option Addr) (n' c' : Nat) (cur : List (List Int)), h = .int .i64 j ∧ l = .slice A' n' c' ∧ j + f' = f ∧ Hid (Fields wr wr.heap.size A' n' cur) ∧ Hid (n' = 2 ^ f') ∧ Hid (∀ x ∈ cur, x.length ≤ 1048576) ∧ Hid (rootF f' j cur = R) ∧ Below w.heap.size w wr) (fun _ h _ => f - (intOf h).toNat)
    case atStart => exact ⟨0, f, A, n, c, fs, rfl, rfl, by omega, HS.out, HNF.out, HSH.out, HRF.out, Below.refl _ _⟩
    case round =>
      obtain ⟨j, f', A', n', c', cur, rfl, rfl, hj, hF, hN, hC, hR, hb⟩ := hrel
      have hz := hb.size
      rcases f' with _ | f'
      · have hn1 : n' = 1 := hN.out
        subst hn1
        obtain ⟨b, off, rfl, hbl, hcl⟩ := hF.out.2 (by omega)
        obtain ⟨A1, n1, c1, e1, s1, l1, m1⟩ := hcl 0 (by omega)
        have hn1 : n1 ≤ 1048576 := by rw [← s1.1]; exact get_short hC.out 0
        have HE : Hid (cur.getD 0 [] = R) := hR.out
        have HS1 := Lib.hid s1
        rw [HE.out] at HS1
        have hc0 : wr.cell? ⟨b, off, none⟩ = some (.slice A1 n1 c1) := e1
        clear hcl e1 s1
        go_wp2_with (go_at_call 26; refine (copy_any A1 n1 c1 R wr HS1.out (by omega)).mono ?_; rintro e w2 ⟨v2, rfl, hR2, hb2⟩)
        go_ret
        rw [HR.out]
        exact ⟨_, n1, rfl, hn1, Row.less hR2 hz, hb.trans (hb2.mono hz)⟩
      · have hp := two_pos f'
        have hn2 : n' = 2 * 2 ^ f' := by rw [hN.out, two_next]
        have hn8 : n' ≤ 8 := by rw [hN.out]; exact two_three (by omega)
        have hd : decide ((1 : Int) < n') = true := by simp; omega
        have HR2 : Hid (rootF f' (j + 1) (upT j cur) = R) := hR.out
        have HN2 : Hid (n' / 2 = 2 ^ f') := by show _ = _; omega
        clear hn2 hp
        go_wp2_with (go_at_call 25; refine (rup_any A' n' c' j cur wr hF.out (by omega) hC.out).mono ?_; rintro e w2 ⟨v2, rfl, hR2, hb2⟩; obtain ⟨A2, c2, rfl, _, _⟩ := hR2.cut; have HF2 := Lib.hid hR2.fields; clear hR2)
        go_roundw
        case measure => simp [intOf]; omega
        case rel => exact ⟨j + 1, f', A2, n' / 2, c2, upT j cur, by go_num, rfl, by omega, HF2.out, HN2.out, upTo_short _ _ _ _ (by omega), HR2.out, hb.trans (hb2.mono hz)⟩
end Go.Proofs.YtkcbbgmilaafeaaDoor
