/-
  The program's digits of a message; the last positions of all chains.
  The program's climb: each chain from a position to another.
  What follows from chapter 5 on lists: the last three digits are the checksum of the others; each of two messages with different digits has a digit above that of the other.
-/
import Derived.Test.YtljkkejjnimjcaaDoorBase8
import Derived.Test.YtljkkejjnimjcaaDoorBase10
import Derived.IntWalk
namespace Go.Proofs.YtljkkejjnimjcaaDoor
open Go.RowKit

theorem made_ints (n : Nat) : madeCells #[.int .i64 0] n = (ints .i64 (List.replicate n 0)).toArray := by
  apply Array.ext'
  rw [toList_madeCells_one]
  simp [ints]

set_option maxRecDepth 100000 in
set_option maxHeartbeats 1000000 in
theorem wtops_any (w : World) :
    Calls Tryd.prog 55 #[] w fun e w' => ∃ v, e = .returned v ∧ Row w' w.heap.size 3 .i64 v 35 (List.replicate 35 15) ∧ Below w.heap.size w w' := by
  obtain ⟨i0, hi, hz0, hz1, hz2⟩ := info_parts Tryd.infoInt
  obtain ⟨X, HX⟩ : ∃ X : List Int, Hid (List.replicate 35 15 = X) := ⟨_, rfl⟩
  have HXL : Hid (X.length = 35) := by show _ = _; rw [← HX.out]; rfl
  have HXG : Hid (∀ j, j < 35 → X.getD j 0 = 15) := by intro j hj; rw [← HX.out, List.getD_eq_getElem?_getD, List.getElem?_replicate, if_pos hj]; rfl
  obtain ⟨g, HG⟩ : ∃ g, Hid (w.heap.size = g) := ⟨_, rfl⟩
  rw [HX.out]
  go_enter Tryd.func55, Tryd.ntmps55
  go_wp2_with (at_make; refine wpList_make_row _ rfl _ _ 52 rfl 3 i0 (.int .i64 0) Tryd.underlying52 hi hz0 hz1 rfl .i64 .i64 35 rfl rfl (by rw [hz2]; omega) (by omega) ?_)
  rw [made_ints]
  generalize hwq : World.alloc _ _ = wq
  have hb0 : Below w.heap.size w wq := by rw [← hwq]; exact (Below.refl _ _).alloc (Nat.le_refl _) _
  have hBq : Blk wq w.heap.size 3 .i64 (fillZ X 35 0) := by rw [← hwq, fillZ_zero]; exact Blk.new w _ .i64 _
  rw [HG.out] at hBq hb0 ⊢
  have HBQ := Lib.hid hBq
  clear hwq hBq
  go_wp2_with fail
  go_loopw [4] (fun i wr => ∃ j : Nat, j ≤ 35 ∧ i = .int .i64 j ∧ Hid (Blk wr g 3 .i64 (fillZ X 35 j)) ∧ Below g w wr) (fun i _ => 35 - (intOf i).toNat)
  case atStart => exact ⟨0, by omega, rfl, HBQ.out, hb0⟩
  case round =>
    obtain ⟨j, hj, rfl, hB, hb⟩ := hrel
    by_cases hlt : j < 35
    · have hd : decide ((j : Int) < 35) = true := by simp; omega
      have hcl := hB.out.cell j (by rw [fillZ_length X 35 j HXL.out hj]; exact hlt)
      have hfr := hB.out.frozen j
      have hji : (j : Int) < 35 := by omega
      have hj0 : (0 : Int) ≤ (j : Int) := by omega
      go_wp2_with fail
      go_roundw
      case measure => simp [intOf]; omega
      case rel =>
        refine ⟨j + 1, by omega, by go_num, ?_, hb.setCell (Nat.le_refl _) _⟩
        show Blk _ _ _ _ _
        rw [← fillZ_next X 35 j HXL.out hlt, HXG.out j hlt]
        exact hB.out.set_ j _
    · have hd : decide ((j : Int) < 35) = false := by simp; omega
      have hjk : j = 35 := by omega
      rw [hjk, fillZ_full X 35 HXL.out] at hB
      clear hjk
      go_wp2_with fail
      go_ret
      have h := Own.of_blk hB.out (Nat.le_refl g) (by unfold maxLen; rw [HXL.out]; omega)
      rw [HXL.out] at h
      rw [HG.out]
      exact ⟨_, rfl, h.row HXL.out, hb⟩

/-- What numbers lack of fifteen. -/
def lackH (l : List Int) : Int := (l.map fun x => 15 - x).sum
theorem lackH_halves (m : List Int) : lackH (halves m) = lacks m := by
  induction m with
  | nil => rfl
  | cons x m ih =>
    simp only [lackH, halves, lacks, List.map_cons, List.flatten_cons, List.map_append, List.sum_append, List.sum_cons, List.map_nil, List.sum_nil] at ih ⊢
    omega
theorem halves_len (m : List Int) : (halves m).length = 2 * m.length := by
  induction m with
  | nil => rfl
  | cons x m ih => simp [halves] at ih ⊢; omega
theorem halves_even (m : List Int) (q : Nat) (h : q < m.length) : (halves m).getD (2 * q) 0 = m.getD q 0 / 16 := by
  induction m generalizing q with
  | nil => simp at h
  | cons x m ih =>
    cases q with
    | zero => rfl
    | succ q =>
      have h2 := ih q (by simpa using h)
      simp only [halves, List.map_cons, List.flatten_cons] at h2 ⊢
      rw [show 2 * (q + 1) = 2 * q + 1 + 1 by omega]
      simpa using h2
theorem halves_odd (m : List Int) (q : Nat) (h : q < m.length) : (halves m).getD (2 * q + 1) 0 = m.getD q 0 % 16 := by
  induction m generalizing q with
  | nil => simp at h
  | cons x m ih =>
    cases q with
    | zero => rfl
    | succ q =>
      have h2 := ih q (by simpa using h)
      simp only [halves, List.map_cons, List.flatten_cons] at h2 ⊢
      rw [show 2 * (q + 1) + 1 = 2 * q + 1 + 1 + 1 by omega]
      simpa using h2
theorem takeH_next (l : List Int) (k : Nat) (h : k < l.length) : l.take (k + 1) = l.take k ++ [l.getD k 0] := by
  rw [List.take_add_one, List.getElem?_eq_getElem h]; simp [List.getD, h]
theorem lackH_next (l : List Int) (k : Nat) (h : k < l.length) : lackH (l.take (k + 1)) = lackH (l.take k) + (15 - l.getD k 0) := by
  rw [takeH_next l k h, lackH, List.map_append, List.sum_append]; simp [lackH]
theorem halves_mem (m : List Int) (hm : InB m) (k : Nat) (hk : k < 2 * m.length) : 0 ≤ (halves m).getD k 0 ∧ (halves m).getD k 0 ≤ 15 := by
  have hx : ∀ q, q < m.length → 0 ≤ m.getD q 0 ∧ m.getD q 0 < 256 := fun q hq => by
    refine hm _ ?_
    have : m[q]? = some (m.getD q 0) := by rw [List.getElem?_eq_getElem hq]; simp [List.getD, hq]
    exact List.mem_of_getElem? this
  rcases (by omega : k = 2 * (k / 2) ∨ k = 2 * (k / 2) + 1) with h | h
  · rw [h, halves_even m _ (by omega)]; have := hx (k / 2) (by omega); omega
  · rw [h, halves_odd m _ (by omega)]; have := hx (k / 2) (by omega); omega
theorem lackH_bound (m : List Int) (hm : InB m) (k : Nat) (hk : k ≤ 2 * m.length) : 0 ≤ lackH ((halves m).take k) ∧ lackH ((halves m).take k) ≤ 15 * k := by
  induction k with
  | zero => simp [lackH]
  | succ k ih =>
    have h1 := ih (by omega)
    have h2 := halves_mem m hm k (by omega)
    rw [lackH_next _ k (by rw [halves_len]; omega)]
    omega
theorem i64_and15 (x : Int) (h0 : 0 ≤ x) (h1 : x < 4611686018427387904) : bits .and .i64 x 15 = x % 16 :=
  bits_mask .i64 62 (by decide) (fun n h0 h1 => IntWalk.i64_in _ (by omega)) 4 (by decide) x h0 h1

set_option maxRecDepth 100000 in
set_option maxHeartbeats 4000000 in
theorem wdigits_row (A : Option Addr) (n c : Nat) (msg : List Int) (w : World) (hs : Seg w w.heap.size .u8 A n msg) (hn : n ≤ 1048576) (hc : n ≤ c) (hcm : c ≤ maxLen) (hK : Tab w 0 .u32 kay256) :
    Calls Tryd.prog 49 #[.slice A n c] w fun e w' => ∃ v, e = .returned v ∧ Row w' w.heap.size 3 .i64 v 35 (digitsI msg) ∧ Below w.heap.size w w' := by
  obtain ⟨i0, hi, hz0, hz1, hz2⟩ := info_parts Tryd.infoInt
  have HL := Lib.hid hs.1
  have HK := Lib.hid hK
  have hk0 := hK.lt
  have HF : Hid (∀ wq, wq = w.alloc (.cells #[.slice A n c] 22) → Fields wq wq.heap.size (some ⟨w.heap.size, 0, none⟩) 1 [msg] ∧ Below w.heap.size w wq) := by
    rintro wq rfl
    have hb0 : Below w.heap.size w (w.alloc (.cells #[.slice A n c] 22)) := (Below.refl _ _).alloc (Nat.le_refl _) _
    exact ⟨fields1 _ w.heap.size A n c msg (cell_made w _ _ _ 0 _ rfl rfl) ((hs.below hb0 (Nat.le_refl _)).more hb0.size) hc hcm, hb0⟩
  clear hs hK
  go_enter Tryd.func49, Tryd.ntmps49
  go_wp2_with fail
  generalize hwq : World.alloc _ _ = wq
  obtain ⟨hF1, hb0⟩ := HF.out wq hwq.symm
  have HF1 := Lib.hid hF1
  have hz := hb0.size
  clear hwq hF1
  refine (hash_any 4 _ 1 1 _ wq HF1.out (by omega) (by simp [tot]; rw [HL.out]; omega) (HK.out.below hb0 hk0)).mono ?_
  rintro e w1 ⟨v1, rfl, hown1, hb1⟩
  have hR1 : Row w1 wq.heap.size 5 .u8 v1 32 (sha256 (frameI 4 [msg])) := hown1.row (sha256_length _)
  obtain ⟨g1, c1, rfl, hg1⟩ := hR1.at_ (by omega)
  obtain ⟨hc1, hm1⟩ := hR1.caps
  obtain ⟨M, HM⟩ : ∃ M, Hid (hash16 4 [msg] = M) := ⟨_, rfl⟩
  have HSEG : Hid (∀ j, j < 16 → w1.cell? ⟨g1, j, none⟩ = some (.int .u8 (M.getD j 0))) := by
    intro j hj
    have h := hR1.cell j (by omega)
    rw [← HM.out, hash16]
    rw [h]
    congr 2
    simp [List.getD, hj]
  have HML : Hid (M.length = 16) := by show _ = _; rw [← HM.out]; exact hash16_length _ _
  have HMB : Hid (InB M) := by show InB M; rw [← HM.out]; exact inB_hash16 _ _
  have hbl : g1 < w1.heap.size := block_lt_of_cell (HSEG.out 0 (by omega))
  have hbw1 := hb0.trans (hb1.mono hz)
  have hzw1 := hbw1.size
  clear hown1 hR1
  go_wp2_with (at_make; refine wpList_make_own _ rfl _ _ 52 rfl w1.heap.size 3 i0 (.int .i64 0) 1 Tryd.underlying52 hi hz0 hz1 .i64 .i64 35 35 rfl rfl rfl (by rw [hz2]; omega) (by unfold maxLen; omega) (Nat.le_refl _) ?_; intro w2 hown2 hg2)
  have HR2 : Hid (Row w2 w1.heap.size 3 .i64 (.slice (some ⟨w1.heap.size, 0, none⟩) 0 35) 0 []) := hown2
  have hb2 : Below w1.heap.size w1 w2 := Below.grown (Below.refl _ _) hg2 (Nat.le_refl _) (fun r hr => by simp at hr)
  obtain ⟨H, HH⟩ : ∃ H, Hid (halves M = H) := ⟨_, rfl⟩
  have HHL : Hid (H.length = 32) := by show _ = _; rw [← HH.out, halves_len, HML.out]
  clear hown2 hg2
  go_wp2_with fail
  go_loopw [4, 5, 15] (fun v s i wr => ∃ k : Nat, k ≤ 32 ∧ i = .int .i64 k ∧ s = .int .i64 (lackH (H.take k)) ∧ Hid (Row wr w1.heap.size 3 .i64 v k (H.take k)) ∧ Below w1.heap.size w1 wr) (fun _ _ i _ => 32 - (intOf i).toNat)
  case atStart => exact ⟨0, by omega, rfl, rfl, HR2.out, hb2⟩
  case round =>
    obtain ⟨k, hk, rfl, rfl, hR, hb⟩ := hrel
    have hzr := hb.size
    have hlb := lackH_bound M HMB.out k (by rw [HML.out]; omega)
    rw [HH.out] at hlb
    obtain ⟨S, HS⟩ : ∃ S, Hid (lackH (H.take k) = S) := ⟨_, rfl⟩
    rw [HS.out] at hlb ⊢
    obtain ⟨hS0, hS1⟩ := hlb
    by_cases hlt : k < 32
    · have hd : decide ((k : Int) < 32) = true := by simp; omega
      have hq : k / 2 < 16 := by omega
      obtain ⟨x, hx⟩ : ∃ x, Hid (M.getD (k / 2) 0 = x) := ⟨_, rfl⟩
      have hxb : 0 ≤ M.getD (k / 2) 0 ∧ M.getD (k / 2) 0 < 256 := by
        refine HMB.out _ ?_
        have : M[k / 2]? = some (M.getD (k / 2) 0) := by rw [List.getElem?_eq_getElem (by rw [HML.out]; exact hq)]; simp [List.getD, show k / 2 < M.length by rw [HML.out]; exact hq]
        exact List.mem_of_getElem? this
      have hcx := (hb.cell (p := ⟨g1, k / 2, none⟩) hbl).trans (HSEG.out _ hq)
      rw [hx.out] at hcx hxb
      obtain ⟨hx0, hx1⟩ := hxb
      have hp : k = 2 * (k / 2) ∨ k = 2 * (k / 2) + 1 := by omega
      obtain ⟨y, HY⟩ : ∃ y, Hid (H.getD k 0 = y) := ⟨_, rfl⟩
      have hyb := halves_mem M HMB.out k (by rw [HML.out]; omega)
      rw [HH.out, HY.out] at hyb
      obtain ⟨hy0, hy1⟩ := hyb
      have HSN : Hid (lackH (H.take (k + 1)) = S + (15 - y)) := by show _ = _; rw [lackH_next H k (by rw [HHL.out]; exact hlt), HS.out, HY.out]
      have HHN : Hid (H.take (k + 1) = H.take k ++ [y]) := by show _ = _; rw [takeH_next H k (by rw [HHL.out]; exact hlt), HY.out]
      have hw1 : IntKind.i64.wrap (15 - y) = 15 - y := IntWalk.i64_in _ (by omega)
      have hw2 : IntKind.i64.wrap (S + (15 - y)) = S + (15 - y) := IntWalk.i64_in _ (by omega)
      have HRL := Lib.hid hR.out.length
      clear hq
      rcases hp with hp | hp
      · have HYX : Hid (y = x / 16) := by show _ = _; rw [← HY.out, hp, ← HH.out, halves_even M _ (by rw [HML.out]; omega), hx.out]
        have hd3 : ((k : Int) % 2 == 0) = true := by simp; omega
        have ha : bits .and .i64 (x / 16) 15 = x / 16 := by rw [i64_and15 _ (by omega) (by omega)]; omega
        have hw3 : IntKind.i64.wrap (15 - (x / 16)) = 15 - (x / 16) := IntWalk.i64_in _ (by omega)
        have hw4 : IntKind.i64.wrap (S + (15 - x / 16)) = S + (15 - x / 16) := IntWalk.i64_in _ (by omega)
        have HO := Lib.hid (World.ownsRow.alloc hR.out.own (.cells (ints .i64 [x / 16]).toArray 3))
        clear hp hy0 hy1 hw1 hw2
        go_wp2_with (at_builtin; refine wpList_app _ rfl (.tmp 31) (.tmp 33) 52 rfl w1.heap.size 3 i0 (.int .i64 0) 8 Tryd.underlying52 hi hz0 hz1 hz2 rfl .i64 _ (H.take k) rfl HO.out (wr.heap.size + 1) (some ⟨wr.heap.size, 0, none⟩) 1 1 [x / 16] rfl ((Seg.of_blk (Blk.new wr 3 .i64 [x / 16])).more (by simp)) (by unfold maxLen; rw [HRL.out]; omega) (by rw [HRL.out]; omega) (by simp; omega) ?_; intro v3 w3 hown3 hg3 hor3; have hb3 : Below w1.heap.size w1 w3 := own_below HO.out hg3 (hb.alloc hzr _) (by simp; omega); have HR3 : Hid (Row w3 w1.heap.size 3 .i64 v3 (k + 1) (H.take (k + 1))) := (by show Row _ _ _ _ _ _ _; rw [HHN.out, HYX.out]; exact hown3.row (by rw [List.length_append, HRL.out]; rfl)); clear hown3 hg3 hor3)
        go_roundw
        case measure => simp [intOf]; omega
        case rel => exact ⟨k + 1, by omega, by go_num, by rw [HSN.out, HYX.out], HR3.out, hb3⟩
      · have HYX : Hid (y = x % 16) := by show _ = _; rw [← HY.out, hp, ← HH.out, halves_odd M _ (by rw [HML.out]; omega), hx.out]
        have hd3 : ((k : Int) % 2 == 0) = false := by simp; omega
        have ha : bits .and .i64 x 15 = x % 16 := i64_and15 _ (by omega) (by omega)
        have hw3 : IntKind.i64.wrap (15 - (x % 16)) = 15 - (x % 16) := IntWalk.i64_in _ (by omega)
        have hw4 : IntKind.i64.wrap (S + (15 - x % 16)) = S + (15 - x % 16) := IntWalk.i64_in _ (by omega)
        have HO := Lib.hid (World.ownsRow.alloc hR.out.own (.cells (ints .i64 [x % 16]).toArray 3))
        clear hp hy0 hy1 hw1 hw2
        go_wp2_with (at_builtin; refine wpList_app _ rfl (.tmp 31) (.tmp 33) 52 rfl w1.heap.size 3 i0 (.int .i64 0) 8 Tryd.underlying52 hi hz0 hz1 hz2 rfl .i64 _ (H.take k) rfl HO.out (wr.heap.size + 1) (some ⟨wr.heap.size, 0, none⟩) 1 1 [x % 16] rfl ((Seg.of_blk (Blk.new wr 3 .i64 [x % 16])).more (by simp)) (by unfold maxLen; rw [HRL.out]; omega) (by rw [HRL.out]; omega) (by simp; omega) ?_; intro v3 w3 hown3 hg3 hor3; have hb3 : Below w1.heap.size w1 w3 := own_below HO.out hg3 (hb.alloc hzr _) (by simp; omega); have HR3 : Hid (Row w3 w1.heap.size 3 .i64 v3 (k + 1) (H.take (k + 1))) := (by show Row _ _ _ _ _ _ _; rw [HHN.out, HYX.out]; exact hown3.row (by rw [List.length_append, HRL.out]; rfl)); clear hown3 hg3 hor3)
        go_roundw
        case measure => simp [intOf]; omega
        case rel => exact ⟨k + 1, by omega, by go_num, by rw [HSN.out, HYX.out], HR3.out, hb3⟩
    · have hd : decide ((k : Int) < 32) = false := by simp; omega
      have hk32 : k = 32 := by omega
      rw [hk32, List.take_of_length_le (by rw [HHL.out]; omega)] at hR
      have HS2 : Hid (lacks M = S) := by
        show _ = _
        rw [← lackH_halves, HH.out, ← HS.out, hk32, List.take_of_length_le (by rw [HHL.out]; omega)]
      have hS480 : S ≤ 480 := by omega
      clear hk32 hS1
      go_wp2_with fail
      obtain ⟨T, HT⟩ : ∃ T, Hid ([S / 256, S / 16 % 16, S % 16] = T) := ⟨_, rfl⟩
      have HTL : Hid (T.length = 3) := by show _ = _; rw [← HT.out]; rfl
      have HRR : Hid (Row wr w1.heap.size 3 .i64 u4 32 (H ++ T.take 0)) := by show Row _ _ _ _ _ _ _; simpa using hR.out
      clear hR
      go_loopw [4, 40] (fun v i wv => ∃ k : Nat, k ≤ 3 ∧ i = .int .i64 k ∧ Hid (Row wv w1.heap.size 3 .i64 v (32 + k) (H ++ T.take k)) ∧ Below w1.heap.size w1 wv) (fun _ i _ => 3 - (intOf i).toNat)
      case atStart => exact ⟨0, by omega, rfl, HRR.out, hb⟩
      case round =>
        clear HRR
        obtain ⟨k, hk, rfl, hR2, hb2'⟩ := hrel
        have hzv := hb2'.size
        rcases (by omega : k = 0 ∨ k = 1 ∨ k = 2 ∨ k = 3) with rfl | rfl | rfl | rfl
        · have hd : decide ((0 : Int) < 3) = true := by decide
          have ha : bits .and .i64 (S / 256) 15 = S / 256 := by rw [i64_and15 _ (by omega) (by omega)]; omega
          have HO := Lib.hid (World.ownsRow.alloc hR2.out.own (.cells (ints .i64 [S / 256]).toArray 3))
          have HRL := Lib.hid hR2.out.length
          go_wp2_with (at_builtin; refine wpList_app _ rfl (.tmp 46) (.tmp 51) 52 rfl w1.heap.size 3 i0 (.int .i64 0) 8 Tryd.underlying52 hi hz0 hz1 hz2 rfl .i64 _ (H ++ T.take 0) rfl HO.out (wr.heap.size + 1) (some ⟨wr.heap.size, 0, none⟩) 1 1 [S / 256] rfl ((Seg.of_blk (Blk.new wr 3 .i64 [S / 256])).more (by simp)) (by unfold maxLen; rw [HRL.out]; omega) (by rw [HRL.out]; omega) (by simp; omega) ?_; intro v3 w3 hown3 hg3 hor3; have hb3 : Below w1.heap.size w1 w3 := own_below HO.out hg3 (hb2'.alloc hzv _) (by simp; omega); have HR3 : Hid (Row w3 w1.heap.size 3 .i64 v3 (32 + 0 + 1) (H ++ T.take (0 + 1))) := (by show Row _ _ _ _ _ _ _; rw [show T.take (0 + 1) = T.take 0 ++ [S / 256] by rw [← HT.out]; rfl, ← List.append_assoc]; exact hown3.row (by rw [List.length_append, HRL.out]; rfl)); clear hown3 hg3 hor3)
          go_roundw
          case measure => simp [intOf]
          case rel => exact ⟨0 + 1, by omega, rfl, HR3.out, hb3⟩
        · have hd : decide ((1 : Int) < 3) = true := by decide
          have ha : bits .and .i64 (S / 16) 15 = S / 16 % 16 := i64_and15 _ (by omega) (by omega)
          have HO := Lib.hid (World.ownsRow.alloc hR2.out.own (.cells (ints .i64 [S / 16 % 16]).toArray 3))
          have HRL := Lib.hid hR2.out.length
          go_wp2_with (at_builtin; refine wpList_app _ rfl (.tmp 46) (.tmp 51) 52 rfl w1.heap.size 3 i0 (.int .i64 0) 8 Tryd.underlying52 hi hz0 hz1 hz2 rfl .i64 _ (H ++ T.take 1) rfl HO.out (wr.heap.size + 1) (some ⟨wr.heap.size, 0, none⟩) 1 1 [S / 16 % 16] rfl ((Seg.of_blk (Blk.new wr 3 .i64 [S / 16 % 16])).more (by simp)) (by unfold maxLen; rw [HRL.out]; omega) (by rw [HRL.out]; omega) (by simp; omega) ?_; intro v3 w3 hown3 hg3 hor3; have hb3 : Below w1.heap.size w1 w3 := own_below HO.out hg3 (hb2'.alloc hzv _) (by simp; omega); have HR3 : Hid (Row w3 w1.heap.size 3 .i64 v3 (32 + 1 + 1) (H ++ T.take (1 + 1))) := (by show Row _ _ _ _ _ _ _; rw [show T.take (1 + 1) = T.take 1 ++ [S / 16 % 16] by rw [← HT.out]; rfl, ← List.append_assoc]; exact hown3.row (by rw [List.length_append, HRL.out]; rfl)); clear hown3 hg3 hor3)
          go_roundw
          case measure => simp [intOf]
          case rel => exact ⟨1 + 1, by omega, rfl, HR3.out, hb3⟩
        · have hd : decide ((2 : Int) < 3) = true := by decide
          have ha : bits .and .i64 S 15 = S % 16 := i64_and15 _ (by omega) (by omega)
          have HO := Lib.hid (World.ownsRow.alloc hR2.out.own (.cells (ints .i64 [S % 16]).toArray 3))
          have HRL := Lib.hid hR2.out.length
          go_wp2_with (at_builtin; refine wpList_app _ rfl (.tmp 46) (.tmp 51) 52 rfl w1.heap.size 3 i0 (.int .i64 0) 8 Tryd.underlying52 hi hz0 hz1 hz2 rfl .i64 _ (H ++ T.take 2) rfl HO.out (wr.heap.size + 1) (some ⟨wr.heap.size, 0, none⟩) 1 1 [S % 16] rfl ((Seg.of_blk (Blk.new wr 3 .i64 [S % 16])).more (by simp)) (by unfold maxLen; rw [HRL.out]; omega) (by rw [HRL.out]; omega) (by simp; omega) ?_; intro v3 w3 hown3 hg3 hor3; have hb3 : Below w1.heap.size w1 w3 := own_below HO.out hg3 (hb2'.alloc hzv _) (by simp; omega); have HR3 : Hid (Row w3 w1.heap.size 3 .i64 v3 (32 + 2 + 1) (H ++ T.take (2 + 1))) := (by show Row _ _ _ _ _ _ _; rw [show T.take (2 + 1) = T.take 2 ++ [S % 16] by rw [← HT.out]; rfl, ← List.append_assoc]; exact hown3.row (by rw [List.length_append, HRL.out]; rfl)); clear hown3 hg3 hor3)
          go_roundw
          case measure => simp [intOf]
          case rel => exact ⟨2 + 1, by omega, rfl, HR3.out, hb3⟩
        · have hd : decide ((3 : Int) < 3) = false := by decide
          go_wp2_with fail
          go_ret
          refine ⟨_, rfl, ?_, hbw1.trans (hb2'.mono hzw1)⟩
          have h := hR2.out.less hzw1
          rw [List.take_of_length_le (by rw [HTL.out]; exact Nat.le_refl _)] at h
          rw [digitsI, HM.out, digitsOf, HS2.out, HH.out, HT.out]
          exact h
end Go.Proofs.YtljkkejjnimjcaaDoor
namespace Go.Proofs.YtljkkejjnimjcaaDoor
open Go.RowKit

set_option maxRecDepth 100000 in
set_option maxHeartbeats 4000000 in
theorem wclimb5_any (A1 A2 A3 : Option Addr) (c1 c2 c3 : Nat) (xs fs ts : List Int) (leaf : Int) (w : World) (hs : Seg w w.heap.size .u8 A1 560 xs) (hc1 : 560 ≤ c1) (hm1 : c1 ≤ 9223372036854775807) (hm1' : c1 ≤ maxLen)
    (hu : Seg w w.heap.size .i64 A2 35 fs) (hv : Seg w w.heap.size .i64 A3 35 ts) (hfb : ∀ j, j < 35 → 0 ≤ fs.getD j 0 ∧ fs.getD j 0 ≤ 15) (htb : ∀ j, j < 35 → 0 ≤ ts.getD j 0 ∧ ts.getD j 0 ≤ 15) (hK : Tab w 0 .u32 kay256) :
    Calls Tryd.prog 47 #[.int .i64 leaf, .slice A1 560 c1, .slice A2 35 c2, .slice A3 35 c3] w
      fun e w' => ∃ v, e = .returned v ∧ Row w' w.heap.size 5 .u8 v 560 (catI (fun k => chainI leaf k (fs.getD k 0) ((xs.drop (16 * k)).take 16) (ts.getD k 0 - fs.getD k 0).toNat) 35) ∧ Below w.heap.size w w' := by
  obtain ⟨i0, hi, hz0, hz1, hz2⟩ := info_parts Tryd.infoU8
  have hmf : ∀ (fn : Fn) (first cap : Array Value) (w : World), (Instr.makeFunc fn first cap).run Tryd.prog w = .ok (.func fn first cap) w := fun _ _ _ _ => rfl
  obtain ⟨F, HF⟩ : ∃ F : Nat → List Int, Hid ((fun (k : Nat) => chainI leaf k (fs.getD k 0) ((xs.drop (16 * k)).take 16) (ts.getD k 0 - fs.getD k 0).toNat) = F) := ⟨_, rfl⟩
  have HXL := Lib.hid hs.1
  have HFL : Hid (∀ k, k < 35 → (F k).length = 16) := by
    intro k hk
    rw [← HF.out]
    exact chainI_length _ _ _ _ (by rw [List.length_take, List.length_drop, HXL.out]; omega) _
  rw [HF.out]
  obtain ⟨a2, o2, rfl, hlt2, hcl2⟩ := hu.2 (by omega)
  obtain ⟨a3, o3, rfl, hlt3, hcl3⟩ := hv.2 (by omega)
  have HS := Lib.hid hs
  have HC2 := Lib.hid hcl2
  have HC3 := Lib.hid hcl3
  have HFB := Lib.hid hfb
  have HTB := Lib.hid htb
  have HK := Lib.hid hK
  have hk0 := hK.lt
  have hba : Below w.heap.size w (w.alloc (.cells #[.int .i64 leaf] 3)) := (Below.refl _ _).alloc (Nat.le_refl _) _
  have HL0 := Lib.hid (Cel.new w 3 (.int .i64 leaf))
  clear hs hu hv hfb htb hcl2 hcl3 hK
  go_enter Tryd.func47, Tryd.ntmps47
  go_wp2_with (at_make; generalize hwa : World.alloc _ _ = wa at HL0 hba ⊢; refine wpList_make_cap rfl _ _ 22 rfl wa.heap.size 5 i0 .u8 Tryd.underlying22 hi hz0 hz1 hz2 .i64 .i64 0 560 _ _ rfl rfl rfl rfl (by omega) (by omega) (Nat.le_refl _) ?_; intro w0 hR0 hb0 hz0')
  have HR0 := Lib.hid hR0
  have hza := hba.size
  have hg0 := HL0.out.lt
  clear hR0 hz0' hwa
  go_wp2_with fail
  go_loopw [9, 15] (fun v i wr => ∃ k : Nat, k ≤ 35 ∧ i = .int .i64 k ∧ Hid (Row wr wa.heap.size 5 .u8 v (16 * k) (catI F k)) ∧ Below wa.heap.size wa wr) (fun _ i _ => 35 - (intOf i).toNat)
  case atStart => exact ⟨0, by omega, rfl, HR0.out, hb0⟩
  case round =>
    obtain ⟨k, hk, rfl, hR, hb⟩ := hrel
    have hz := hb.size
    have hbw := hba.trans (hb.mono hza)
    by_cases hlt : k < 35
    · have hdk : decide ((k : Int) < 35) = true := by simp; omega
      have hki : (k : Int) < 35 := by omega
      have hk0' : (0 : Int) ≤ (k : Int) := by omega
      go_wp2_with fail
      rw [show (k + 1) * 16 - k * 16 = 16 by omega]
      obtain ⟨A5, HA5⟩ : ∃ A5, Hid (Option.map (fun x => x.add (k * 16)) A1 = A5) := ⟨_, rfl⟩
      obtain ⟨c5, HC5⟩ : ∃ c5, Hid (c1 - k * 16 = c5) := ⟨_, rfl⟩
      rw [HA5.out, HC5.out]
      obtain ⟨wi, HWI⟩ : ∃ wi, Hid ((wr.alloc (.cells #[.int .i64 (k : Int)] 3)).alloc (.cells #[.slice A5 16 c5] 22) = wi) := ⟨_, rfl⟩
      rw [HWI.out]
      obtain ⟨wo, rfl⟩ : ∃ wo : World, wo = wr := ⟨_, rfl⟩
      obtain ⟨gc, HGC⟩ : ∃ g, Hid (wo.heap.size = g) := ⟨_, rfl⟩
      have hbi : Below gc wo wi := by rw [← HWI.out, ← HGC.out]; exact ((Below.refl _ _).alloc (Nat.le_refl _) _).alloc (by simp) _
      have HCI : Hid (Cel wi gc 3 (.int .i64 k)) := by show Cel _ _ _ _; rw [← HWI.out, ← HGC.out]; exact (Cel.new wo _ _).alloc _
      have HNI : Hid (Cel wi (gc + 1) 22 (.slice A5 16 c5)) := by show Cel _ _ _ _; rw [← HWI.out, ← HGC.out]; have h := Cel.new (wo.alloc (.cells #[.int .i64 (k : Int)] 3)) 22 (.slice A5 16 c5); rw [show (wo.alloc (.cells #[.int .i64 (k : Int)] 3)).heap.size = wo.heap.size + 1 by simp] at h; exact h
      rw [HGC.out] at hz ⊢
      obtain ⟨gn, HGN⟩ : ∃ g, Hid (gc + 1 = g) := ⟨_, rfl⟩
      have hgn : gc < gn := by have := HGN.out; omega
      rw [HGN.out] at HNI ⊢
      obtain ⟨X, HX⟩ : ∃ X, Hid ((xs.drop (16 * k)).take 16 = X) := ⟨_, rfl⟩
      have hcle : gc ≤ wi.heap.size := Nat.le_trans (by rw [← HGC.out]; exact Nat.le_refl _) (hbi.size)
      have HSI : Hid (Seg wi wi.heap.size .u8 A5 16 X) := by
        have h := (((HS.out.below hbw (Nat.le_refl _)).more hbw.size).drop (i := 16 * k) (cap := c1) (by omega) (by omega)).take (i := 16) (by omega)
        rw [if_neg (by omega), Nat.mul_comm 16 k, HA5.out, Nat.mul_comm k 16, HX.out] at h
        have hbi2 : Below wo.heap.size wo wi := by rw [HGC.out]; exact hbi
        exact (h.below hbi2 (Nat.le_refl _)).more hbi2.size
      obtain ⟨f, HFV⟩ : ∃ f, Hid (fs.getD k 0 = f) := ⟨_, rfl⟩
      obtain ⟨t, HTV⟩ : ∃ t, Hid (ts.getD k 0 = t) := ⟨_, rfl⟩
      have hfv := HFB.out k hlt
      have htv := HTB.out k hlt
      rw [HFV.out] at hfv
      rw [HTV.out] at htv
      obtain ⟨hf0, hf1⟩ := hfv
      obtain ⟨ht0, ht1⟩ := htv
      have hzw : w.heap.size ≤ gc := by rw [← HGC.out]; exact hbw.size
      have hg0c : w.heap.size < gc := Nat.lt_of_lt_of_le hg0 hz
      have HCF : Hid (∀ W, Below gc wo W → W.cell? ⟨a2, o2 + k, none⟩ = some (.int .i64 f)) := fun W hW => by
        have h := (hW.cell (p := ⟨a2, o2 + k, none⟩) (by show a2 < gc; omega)).trans ((hbw.cell (p := ⟨a2, o2 + k, none⟩) hlt2).trans (HC2.out k hlt))
        rw [HFV.out] at h
        exact h
      have HCT : Hid (∀ W, Below gc wo W → W.cell? ⟨a3, o3 + k, none⟩ = some (.int .i64 t)) := fun W hW => by
        have h := (hW.cell (p := ⟨a3, o3 + k, none⟩) (by show a3 < gc; omega)).trans ((hbw.cell (p := ⟨a3, o3 + k, none⟩) hlt3).trans (HC3.out k hlt))
        rw [HTV.out] at h
        exact h
      have HL1 : Hid (∀ W, Below gc wo W → Cel W w.heap.size 3 (.int .i64 leaf)) := fun W hW => (HL0.out.low hb hg0).low hW hg0c
      have HK1 : Hid (∀ W, Below gc wo W → Tab W 0 .u32 kay256) := fun W hW => (HK.out.below hbw hk0).below hW (by omega)
      have hcf := HCF.out wi hbi
      have hct := HCT.out wi hbi
      have hcc := HCI.out.cell
      have hwt : IntKind.i64.wrap (t - f) = t - f := IntWalk.i64_in _ (by omega)
      go_quiet (fail)
      go_wp2_with fail
      clear hcf hct hcc
      go_loopw [35] (fun i wr => ∃ (j : Nat) (A' : Option Addr) (c' : Nat), j ≤ (t - f).toNat ∧ i = .int .i64 j ∧ Hid (Cel wr gc 3 (.int .i64 k)) ∧ Hid (Cel wr gn 22 (.slice A' 16 c')) ∧ 16 ≤ c' ∧ Hid (c' ≤ maxLen) ∧ Hid (Seg wr wr.heap.size .u8 A' 16 (chainI leaf k f X j)) ∧ Below gc wo wr) (fun i _ => (t - f).toNat - (intOf i).toNat)
      case atStart => exact ⟨0, A5, c5, by omega, rfl, HCI.out, HNI.out, by have := HC5.out; omega, by have := HC5.out; show c5 ≤ maxLen; omega, HSI.out, below_drewN hbi _⟩
      case round =>
        clear hbi HCI HNI HSI
        obtain ⟨j, A', c', hj, rfl, hcc, hnn, hc16, hcm', hseg, hbo⟩ := hrel
        have hzo := hbo.size
        by_cases hlt3 : (j : Int) < t - f
        · have hd : decide ((j : Int) < t - f) = true := by simpa using hlt3
          have hcf := HCF.out wr hbo
          have hcx := hcc.out.cell
          have hwj : IntKind.i64.wrap (f + (j : Int)) = f + (j : Int) := IntWalk.i64_in _ (by omega)
          have HM := Lib.hid (wstep_any w.heap.size gc gn 16 c' A' (chainI leaf k f X j) leaf k (f + j) wr (HL1.out wr hbo) hcc.out hnn.out hseg.out (by omega) hc16 hcm'.out (HK1.out wr hbo))
          go_wp2_with fail
          refine HM.out.mono ?_
          rintro e w4 ⟨rfl, hbt, A6, c6, hn6, hc6, hm6, hs6⟩
          have hcc4 := Lib.hid (hcc.out.but hbt (by omega))
          have HN6 := Lib.hid hn6
          have HS6 : Hid (Seg w4 w4.heap.size .u8 A6 16 (chainI leaf k f X (j + 1))) := hs6
          have HM6 := Lib.hid hm6
          have hgw : gc ≤ wr.heap.size := Nat.le_trans (by rw [← HGC.out]; exact hzo) (Nat.le_refl _)
          have hbo4 : Below gc wo w4 := below_but hbo hbt (by omega) hgw
          clear hn6 hs6 hm6 HM hbt hcf hcx
          go_wp2_with fail
          go_roundw
          case measure => simp [intOf]; omega
          case rel => exact ⟨j + 1, A6, c6, by omega, by go_num, hcc4.out, HN6.out, hc6, HM6.out, HS6.out, hbo4⟩
        · have hd : decide ((j : Int) < t - f) = false := by simpa using hlt3
          have hjt : (t - f).toNat = j := by omega
          have hSX : Hid (chainI leaf k f X j = F k) := by
            show _ = _
            rw [← HF.out]
            show _ = chainI leaf k (fs.getD k 0) _ (ts.getD k 0 - fs.getD k 0).toNat
            rw [HFV.out, HTV.out, HX.out, hjt]
          rw [hSX.out] at hseg
          have hcn := hnn.out.cell
          have hbo2 : Below wo.heap.size wo wr := by rw [HGC.out]; exact hbo
          have HR3 := Lib.hid (hR.out.below hbo2)
          have HRL := Lib.hid hR.out.length
          have hbw3 : Below wa.heap.size wa wr := hb.trans (hbo2.mono hb.size)
          have hzw3 := hbw3.size
          clear hjt hbo2 hlt3 hj
          go_wp2_with (at_builtin; refine wpList_app _ rfl (.tmp 47) (.tmp 48) 22 rfl wa.heap.size 5 i0 (.int .u8 0) 1 Tryd.underlying22 hi hz0 hz1 hz2 rfl .u8 _ (catI F k) rfl HR3.out.own wr.heap.size A' 16 c' (F k) rfl hseg.out (by unfold maxLen; rw [HRL.out]; omega) (by rw [HRL.out]; omega) hzw3 ?_; intro v5 w5 hown5 hg5 hor5; have hb5 : Below wa.heap.size wa w5 := own_below HR3.out.own hg5 hbw3 hzw3; have HR5 : Hid (Row w5 wa.heap.size 5 .u8 v5 (16 * (k + 1)) (catI F (k + 1))) := hown5.row (by rw [List.length_append, HRL.out, HFL.out k hlt]; omega); clear hown5 hg5 hor5)
          go_roundw
          case measure => simp [intOf]; omega
          case rel => exact ⟨k + 1, by omega, by go_num, HR5.out, hb5⟩
    · have hdk : decide ((k : Int) < 35) = false := by simp; omega
      have hk35 : k = 35 := by omega
      rw [hk35] at hR
      clear hk35
      go_wp2_with fail
      go_ret
      exact ⟨_, rfl, hR.out.less hza, hbw⟩
end Go.Proofs.YtljkkejjnimjcaaDoor
namespace Go.Proofs.YtljkkejjnimjcaaDoor
open Go.RowKit

theorem halves_cons (x : Int) (m : List Int) : halves (x :: m) = x / 16 :: x % 16 :: halves m := by simp [halves]
theorem halves_get (m t : List Int) (k : Nat) (h : k < m.length) : (halves m ++ t).getD (2 * k) 0 = m.getD k 0 / 16 ∧ (halves m ++ t).getD (2 * k + 1) 0 = m.getD k 0 % 16 := by
  induction m generalizing k with
  | nil => simp at h
  | cons x m ih =>
    rw [halves_cons]
    cases k with
    | zero => exact ⟨rfl, rfl⟩
    | succ k =>
      have := ih k (by simpa using h)
      rw [show 2 * (k + 1) = 2 * k + 1 + 1 by omega]
      simpa [List.getD] using this
/-- How much the first k digits lack of fifteen each. -/
def sumTo (D : List Int) : Nat → Int
  | 0 => 0
  | k + 1 => sumTo D k + (15 - D.getD k 0)
theorem sumTo_halves (m t : List Int) (k : Nat) (h : k ≤ m.length) : sumTo (halves m ++ t) (2 * k) = lacks (m.take k) := by
  induction k with
  | zero => simp [sumTo, lacks]
  | succ k ih =>
    have hg := halves_get m t k (by omega)
    rw [show 2 * (k + 1) = 2 * k + 1 + 1 by omega, sumTo, sumTo, ih (by omega), hg.1, hg.2, lacks_take m k (by omega)]
    omega
theorem halves_length (m : List Int) : (halves m).length = 2 * m.length := by
  induction m with
  | nil => rfl
  | cons x m ih => rw [halves_cons]; simp; omega
/-- The checksum. -/
theorem digits_sum (msg : List Int) : sumTo (digitsI msg) 32 = 256 * (digitsI msg).getD 32 0 + 16 * (digitsI msg).getD 33 0 + (digitsI msg).getD 34 0 := by
  obtain ⟨M, HM⟩ : ∃ M, M = hash16 4 [msg] := ⟨_, rfl⟩
  have hB : InB M := by rw [HM]; exact inB_hash16 _ _
  have hL : M.length = 16 := by rw [HM]; exact hash16_length _ _
  have hb := lacks_bound M hB 16 (by omega)
  have hs := sumTo_halves M [lacks M / 256, lacks M / 16 % 16, lacks M % 16] 16 (by omega)
  rw [List.take_of_length_le (by omega)] at hb hs
  have hl := halves_length M
  have e : ∀ j, j < 3 → (digitsI msg).getD (32 + j) 0 = [lacks M / 256, lacks M / 16 % 16, lacks M % 16].getD j 0 := fun j hj => by
    rw [digitsI, ← HM, digitsOf, List.getD_eq_getElem?_getD, List.getElem?_append_right (by omega), List.getD_eq_getElem?_getD, hl, hL, show 32 + j - 2 * 16 = j by omega]
  have e0 := e 0 (by omega)
  have e1 := e 1 (by omega)
  have e2 := e 2 (by omega)
  rw [show 32 + 0 = 32 from rfl] at e0
  rw [e0, e1, e2]
  rw [digitsI, ← HM, digitsOf]
  rw [show (32 : Nat) = 2 * 16 from rfl, hs]
  show lacks M = 256 * (lacks M / 256) + 16 * (lacks M / 16 % 16) + lacks M % 16
  omega
theorem sumTo_le (D E : List Int) (k : Nat) (h : ∀ j, j < k → E.getD j 0 ≤ D.getD j 0) : sumTo D k ≤ sumTo E k := by
  induction k with
  | zero => simp [sumTo]
  | succ k ih =>
    have h1 := ih (fun j hj => h j (by omega))
    have h2 := h k (by omega)
    rw [sumTo, sumTo]; omega
theorem sumTo_lt (D E : List Int) (k : Nat) (h : ∀ j, j < k → E.getD j 0 ≤ D.getD j 0) (i : Nat) (hi : i < k) (hd : E.getD i 0 < D.getD i 0) : sumTo D k < sumTo E k := by
  induction k with
  | zero => omega
  | succ k ih =>
    have h2 := h k (by omega)
    rw [sumTo, sumTo]
    rcases Nat.lt_or_ge i k with h3 | h3
    · have := ih (fun j hj => h j (by omega)) h3
      omega
    · obtain rfl : i = k := by omega
      have := sumTo_le D E i (fun j hj => h j (by omega))
      omega
/-- If no digit of the first message is less than that of the second one, the digits are equal. -/
theorem digits_cross (a b : List Int) (h : ∀ j, j < 35 → (digitsI b).getD j 0 ≤ (digitsI a).getD j 0) : ∀ j, j < 35 → (digitsI a).getD j 0 = (digitsI b).getD j 0 := by
  have ha := digits_sum a
  have hb := digits_sum b
  have h32 := h 32 (by omega)
  have h33 := h 33 (by omega)
  have h34 := h 34 (by omega)
  have hle := sumTo_le (digitsI a) (digitsI b) 32 (fun j hj => h j (by omega))
  have hfirst : ∀ j, j < 32 → (digitsI a).getD j 0 = (digitsI b).getD j 0 := fun j hj => by
    have hj' := h j (by omega)
    rcases Int.lt_or_eq_of_le hj' with hlt | heq
    · have := sumTo_lt (digitsI a) (digitsI b) 32 (fun j hj => h j (by omega)) j hj hlt
      omega
    · exact heq.symm
  have heq : sumTo (digitsI a) 32 = sumTo (digitsI b) 32 := by
    have := sumTo_le (digitsI b) (digitsI a) 32 (fun j hj => Int.le_of_eq (hfirst j hj))
    omega
  intro j hj
  rcases (by omega : j < 32 ∨ j = 32 ∨ j = 33 ∨ j = 34) with h1 | rfl | rfl | rfl
  · exact hfirst j h1
  all_goals omega
end Go.Proofs.YtljkkejjnimjcaaDoor
