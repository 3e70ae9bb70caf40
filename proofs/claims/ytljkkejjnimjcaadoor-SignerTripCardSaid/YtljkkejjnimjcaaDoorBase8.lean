/-
  The reference's digits of a message.
  The reference's one-time signature of a message.
  What follows from chapter 5 on lists: a signature leads to the public value of its leaf; the checksum; two messages with different digits.
  Frames are equal only if their fields are, on lists.
  Hash trees as Lean functions on lists of integers, written after chapter 6 of the document; each leaf leads to the root; leaves that lead to one root collide.
  What the statements of layer 6 make of lists: short lists, leaves that fit; a leaf leads to the root; other leaves collide.
  Signatures with several leaves as Lean functions on lists of integers, written after chapter 7 of the document; a signature verifies, with its leaf.
  Keys and signatures of chapter 7 are numbers of bytes.
  Lists of byte strings whose slices a call itself has put into a row that grows.
  The reference's hash trees: which numbers of leaves fit, a node, the next level.
-/
import Derived.Test.YtljkkejjnimjcaaDoorBase7
import Derived.Laws.BitsLemmas
import Derived.IntWalk
import Derived.Test.YtljkkejjnimjcaaDoorBase1
import Derived.Test.YtljkkejjnimjcaaDoorBase4
namespace Go.Proofs.YtljkkejjnimjcaaDoor
open Go.RowKit

theorem inB_sha (xs : List Int) : InB (sha256 xs) := by
  intro x hx
  simp only [sha256, bytesI, List.mem_flatten, List.mem_map] at hx
  obtain ⟨_, ⟨y, _, rfl⟩, hy⟩ := hx
  simp only [be4, List.mem_cons, List.not_mem_nil, or_false] at hy
  omega
theorem inB_hash16 (tag : Int) (fs : List (List Int)) : InB (hash16 tag fs) := (inB_sha _).take 16
theorem halves_take (m : List Int) (k : Nat) (h : k < m.length) : halves (m.take (k + 1)) = halves (m.take k) ++ [m.getD k 0 / 16, m.getD k 0 % 16] := by
  have e : m.take (k + 1) = m.take k ++ [m.getD k 0] := by rw [List.take_add_one, List.getElem?_eq_getElem h]; simp [List.getD, h]
  rw [e]; simp [halves]
theorem lacks_take (m : List Int) (k : Nat) (h : k < m.length) : lacks (m.take (k + 1)) = lacks (m.take k) + (30 - m.getD k 0 / 16 - m.getD k 0 % 16) := by
  have e : m.take (k + 1) = m.take k ++ [m.getD k 0] := by rw [List.take_add_one, List.getElem?_eq_getElem h]; simp [List.getD, h]
  rw [e]; simp [lacks]
theorem lacks_bound (m : List Int) (hm : InB m) (k : Nat) (hk : k ≤ m.length) : 0 ≤ lacks (m.take k) ∧ lacks (m.take k) ≤ 30 * k := by
  induction k with
  | zero => simp [lacks]
  | succ k ih =>
    have h1 := ih (by omega)
    have h2 : 0 ≤ m.getD k 0 ∧ m.getD k 0 < 256 := by
      refine hm _ ?_
      have : m[k]? = some (m.getD k 0) := by rw [List.getElem?_eq_getElem (by omega)]; simp [List.getD, show k < m.length by omega]
      exact List.mem_of_getElem? this
    rw [lacks_take m k (by omega)]
    omega
theorem Tryd.infoInt : (Tryd.prog.info? 3).map (fun i => (i.zero, i.size, i.bytes)) = some (some (.int .i64 0), 1, 8) := by kernel_rfl

set_option maxRecDepth 100000 in
set_option maxHeartbeats 4000000 in
theorem rdigits_any (A : Option Addr) (n c : Nat) (msg : List Int) (w : World) (hs : Seg w w.heap.size .u8 A n msg) (hn : n ≤ 1048576) (hc : n ≤ c) (hcm : c ≤ maxLen) :
    Calls Tryd.prog 50 #[.slice A n c] w fun e w' => ∃ v, e = .returned v ∧ Row w' w.heap.size 3 .i64 v 35 (digitsI msg) ∧ Below w.heap.size w w' := by
  obtain ⟨i0, hi, hz0, hz1, hz2⟩ := info_parts Tryd.infoInt
  have HL := Lib.hid hs.1
  have HF : Hid (∀ wq, wq = w.alloc (.cells #[.slice A n c] 22) → Fields wq wq.heap.size (some ⟨w.heap.size, 0, none⟩) 1 [msg] ∧ Below w.heap.size w wq) := by
    rintro wq rfl
    have hb0 : Below w.heap.size w (w.alloc (.cells #[.slice A n c] 22)) := (Below.refl _ _).alloc (Nat.le_refl _) _
    exact ⟨fields1 _ w.heap.size A n c msg (cell_made w _ _ _ 0 _ rfl rfl) ((hs.below hb0 (Nat.le_refl _)).more hb0.size) hc hcm, hb0⟩
  clear hs
  go_enter Tryd.func50, Tryd.ntmps50
  go_wp2_with fail
  generalize hwq : World.alloc _ _ = wq
  obtain ⟨hF1, hb0⟩ := HF.out wq hwq.symm
  have HF1 := Lib.hid hF1
  have hz := hb0.size
  clear hwq hF1
  refine (rhash_any 4 _ 1 1 _ wq HF1.out (by omega) (by simp [tot]; rw [HL.out]; omega)).mono ?_
  rintro e w1 ⟨v1, rfl, hR1, hb1⟩
  obtain ⟨A1, c1, rfl, h32, hm1, hseg⟩ := hash_head hR1
  obtain ⟨M, HM⟩ : ∃ M, Hid (hash16 4 [msg] = M) := ⟨_, rfl⟩
  rw [HM.out] at hseg
  have HSEG := Lib.hid hseg
  have HML : Hid (M.length = 16) := hseg.1
  have HMB : Hid (InB M) := by show InB M; rw [← HM.out]; exact inB_hash16 _ _
  have h16 : 16 ≤ c1 := by omega
  have hbw1 := hb0.trans (hb1.mono hz)
  have hzw1 := hbw1.size
  clear hseg hR1
  go_wp2_with fail
  go_loopw [4, 5, 6] (fun v s i wr => ∃ k : Nat, k ≤ 16 ∧ i = .int .i64 k ∧ s = .int .i64 (lacks (M.take k)) ∧ Hid (Row wr w1.heap.size 3 .i64 v (2 * k) (halves (M.take k))) ∧ Below w1.heap.size w1 wr) (fun _ _ i _ => 16 - (intOf i).toNat)
  case atStart => exact ⟨0, by omega, rfl, rfl, nil_row _ _ _ _, Below.refl _ _⟩
  case round =>
    obtain ⟨k, hk, rfl, rfl, hR, hbr⟩ := hrel
    have hzr := hbr.size
    have hlb := lacks_bound M HMB.out k (by rw [HML.out]; exact hk)
    obtain ⟨S, HS⟩ : ∃ S, Hid (lacks (M.take k) = S) := ⟨_, rfl⟩
    rw [HS.out] at hlb ⊢
    obtain ⟨hS0, hS1⟩ := hlb
    by_cases hlt : k < 16
    · have hd : decide ((k : Int) < 16) = true := by simp; omega
      obtain ⟨b, off, rfl, hbl, hcl⟩ := HSEG.out.2 (by omega)
      have hcx := (hbr.cell (p := ⟨b, off + k, none⟩) hbl).trans (hcl k hlt)
      have hxb : 0 ≤ M.getD k 0 ∧ M.getD k 0 < 256 := by
        refine HMB.out _ ?_
        have : M[k]? = some (M.getD k 0) := by rw [List.getElem?_eq_getElem (by rw [HML.out]; exact hlt)]; simp [List.getD, show k < M.length by rw [HML.out]; exact hlt]
        exact List.mem_of_getElem? this
      obtain ⟨x, hx⟩ : ∃ x, Hid (M.getD k 0 = x) := ⟨_, rfl⟩
      rw [hx.out] at hcx hxb
      obtain ⟨hx0, hx1⟩ := hxb
      have hki : (k : Int) < 16 := by omega
      have hk0 : (0 : Int) ≤ (k : Int) := by omega
      have ha := u8_and15 x hx0 hx1
      have hw1 : IntKind.i64.wrap (x / 16) = x / 16 := IntWalk.i64_in _ (by omega)
      have hw2 : IntKind.i64.wrap (x % 16) = x % 16 := IntWalk.i64_in _ (by omega)
      have HRL := Lib.hid hR.out.length
      have HO := Lib.hid (World.ownsRow.drew (World.ownsRow.alloc hR.out.own (.cells (ints .i64 [x / 16, x % 16]).toArray 3)))
      have HCC : Hid (∀ W, Below w1.heap.size w1 W → W.cell? ⟨b, off + k, none⟩ = some (.int .u8 x)) := fun W hW => by
        have h := (hW.cell (p := ⟨b, off + k, none⟩) hbl).trans (hcl k hlt)
        rw [hx.out] at h
        exact h
      clear hcl
      go_wp2_with fail
      go_region_held3 (fun W => W.cell? ⟨b, off + k, none⟩ = some (.int .u8 x))
        (first
          | go_keep
          | exact HCC.out _ hb3)
        ((refine step_app _ (by rfl) (.tmp 15) (.tmp 28) 52 (by rfl) w1.heap.size 3 i0 (.int .i64 0) 8 Tryd.underlying52 hi hz0 hz1 hz2 (by rfl) .i64 _ (halves (M.take k)) (by rfl) HO.out (wr.heap.size + 1) (some ⟨wr.heap.size, 0, none⟩) 2 2 [x / 16, x % 16] (by rfl) ((Seg.of_blk (Blk.new wr 3 .i64 [x / 16, x % 16])).more (by simp)) (by unfold maxLen; rw [HRL.out]; omega) (by rw [HRL.out]; omega) (by simp; omega) ?_; intro v3 w3 hown3 hg3 hor3; have hb3 : Below w1.heap.size w1 w3 := own_below HO.out hg3 ((hbr.alloc hzr _).drew) (by simp; omega)))
      have HR3 : Hid (Row w3 w1.heap.size 3 .i64 v3 (2 * (k + 1)) (halves (M.take (k + 1)))) := by
        show Row _ _ _ _ _ _ _
        rw [halves_take M k (by rw [HML.out]; exact hlt), hx.out]
        exact hown3.row (by rw [List.length_append, HRL.out]; simp; omega)
      have hcx3 := HCC.out _ hb3
      have hw3 : IntKind.i64.wrap (30 - x / 16) = 30 - x / 16 := IntWalk.i64_in _ (by omega)
      have hw4 : IntKind.i64.wrap (30 - x / 16 - x % 16) = 30 - x / 16 - x % 16 := IntWalk.i64_in _ (by omega)
      have hw5 : IntKind.i64.wrap (S + (30 - x / 16 - x % 16)) = S + (30 - x / 16 - x % 16) := IntWalk.i64_in _ (by omega)
      clear hcx hg3 hor3 hown3
      go_wp2_with fail
      go_quiet (fail)
      go_wp2_with fail
      go_roundw
      case measure => simp [intOf]; omega
      case rel =>
        refine ⟨k + 1, by omega, by go_num, ?_, HR3.out.drewN _, below_drewN hb3 _⟩
        rw [lacks_take M k (by rw [HML.out]; exact hlt), HS.out, hx.out]
    · have hd : decide ((k : Int) < 16) = false := by simp; omega
      have hk16 : k = 16 := by omega
      rw [hk16] at hR
      rw [List.take_of_length_le (by rw [HML.out]; omega)] at hR
      have HS2 : Hid (lacks M = S) := by
        show _ = _
        rw [← HS.out, List.take_of_length_le (by rw [HML.out]; omega)]
      have HO := Lib.hid (World.ownsRow.alloc hR.out.own (.cells (ints .i64 [S / 256, S / 16 % 16, S % 16]).toArray 3))
      have HRL := Lib.hid hR.out.length
      clear hk16
      go_wp2_with (at_builtin; refine wpList_app _ rfl (.tmp 46) (.tmp 54) 52 rfl w1.heap.size 3 i0 (.int .i64 0) 8 Tryd.underlying52 hi hz0 hz1 hz2 rfl .i64 _ (halves M) rfl HO.out (wr.heap.size + 1) (some ⟨wr.heap.size, 0, none⟩) 3 3 [S / 256, S / 16 % 16, S % 16] rfl ((Seg.of_blk (Blk.new wr 3 .i64 [S / 256, S / 16 % 16, S % 16])).more (by simp)) (by unfold maxLen; rw [HRL.out]; omega) (by rw [HRL.out]; omega) (by simp; omega) ?_; intro v3 w3 hown3 hg3 hor3; have hb3 : Below w1.heap.size w1 w3 := own_below HO.out hg3 (hbr.alloc hzr _) (by simp; omega); have HR3 := Lib.hid hown3; clear hown3 hg3 hor3)
      go_ret
      refine ⟨_, rfl, ?_, hbw1.trans (hb3.mono hzw1)⟩
      rw [digitsI, HM.out, digitsOf, HS2.out]
      exact (Own.less HR3.out hzw1).row (by rw [List.length_append, HRL.out]; rfl)
end Go.Proofs.YtljkkejjnimjcaaDoor
namespace Go.Proofs.YtljkkejjnimjcaaDoor
open Go.RowKit

theorem digits_mem (msg : List Int) : ∀ y ∈ digitsI msg, 0 ≤ y ∧ y ≤ 15 := by
  obtain ⟨M, HM⟩ : ∃ M, M = hash16 4 [msg] := ⟨_, rfl⟩
  have hB : InB M := by rw [HM]; exact inB_hash16 _ _
  have hL : M.length = 16 := by rw [HM]; exact hash16_length _ _
  have hb := lacks_bound M hB 16 (by omega)
  rw [List.take_of_length_le (by omega)] at hb
  intro y hy
  rw [digitsI, ← HM, digitsOf] at hy
  rcases List.mem_append.1 hy with h | h
  · simp only [halves, List.mem_flatten, List.mem_map] at h
    obtain ⟨_, ⟨x, hx, rfl⟩, hy2⟩ := h
    have := hB x hx
    simp only [List.mem_cons, List.not_mem_nil, or_false] at hy2
    omega
  · simp only [List.mem_cons, List.not_mem_nil, or_false] at h
    omega
theorem digits_get (msg : List Int) (j : Nat) (h : j < 35) : 0 ≤ (digitsI msg).getD j 0 ∧ (digitsI msg).getD j 0 ≤ 15 := by
  refine digits_mem msg _ ?_
  have hl := digitsI_length msg
  have : (digitsI msg)[j]? = some ((digitsI msg).getD j 0) := by rw [List.getElem?_eq_getElem (by omega)]; simp [List.getD, show j < (digitsI msg).length by omega]
  exact List.mem_of_getElem? this

set_option maxRecDepth 100000 in
set_option maxHeartbeats 4000000 in
theorem rsign_any (A A2 : Option Addr) (n c n2 c2 : Nat) (seed msg : List Int) (leaf : Int) (w : World) (hs : Seg w w.heap.size .u8 A n seed) (hn : n ≤ 1048576) (ht : Seg w w.heap.size .u8 A2 n2 msg) (hn2 : n2 ≤ 1048576) (hc2 : n2 ≤ c2) (hm2 : c2 ≤ maxLen) :
    Calls Tryd.prog 29 #[.slice A n c, .int .i64 leaf, .slice A2 n2 c2] w fun e w' => ∃ v k, e = .returned v ∧ k ≤ 560 ∧ Row w' w.heap.size 5 .u8 v k (signI seed leaf msg) ∧ Below w.heap.size w w' := by
  obtain ⟨i0, hi, hz0, hz1, hz2⟩ := info_parts Tryd.infoU8
  have HS := Lib.hid hs
  have HT := Lib.hid ht
  clear hs ht
  by_cases hbad : leaf < 0 ∨ 255 < leaf
  · have hP : Hid (signI seed leaf msg = []) := by show _ = _; rw [signI, if_pos hbad]
    rcases (by omega : leaf < 0 ∨ (0 ≤ leaf ∧ 255 < leaf)) with h1 | ⟨h1, h2⟩
    focus
      have hd : decide (leaf < 0) = true := by simpa using h1
    rotate_left
    focus
      have hd : decide (leaf < 0) = false := by simp; omega
      have hd2 : decide (255 < leaf) = true := by simpa using h2
    rotate_left
    all_goals
      clear hbad
      go_enter Tryd.func29, Tryd.ntmps29
      go_wp2_with fail
      go_ret
      rw [hP.out]
      exact ⟨_, 0, rfl, by omega, nil_row _ _ _ _, Below.refl _ _⟩
  · have hd : decide (leaf < 0) = false := by simp; omega
    have hd2 : decide (255 < leaf) = false := by simp; omega
    obtain ⟨D, HD⟩ : ∃ D, Hid (digitsI msg = D) := ⟨_, rfl⟩
    obtain ⟨F, HF⟩ : ∃ F : Nat → List Int, Hid (F = fun (k : Nat) => chainI leaf k 0 (startI seed leaf k) (D.getD k 0).toNat) := ⟨_, rfl⟩
    have hP : Hid (signI seed leaf msg = catI F 35) := by show _ = _; rw [signI, if_neg hbad, HF.out, HD.out]
    have HFL : Hid (∀ k, (F k).length = 16) := by
      intro k
      rw [HF.out]
      exact chainI_length _ _ _ _ (startI_length _ _ _) _
    have HDB : Hid (∀ j, j < 35 → 0 ≤ D.getD j 0 ∧ D.getD j 0 ≤ 15) := by rw [← HD.out]; exact digits_get msg
    clear hbad
    go_enter Tryd.func29, Tryd.ntmps29
    go_wp2_with fail
    refine (rdigits_any A2 n2 c2 msg w HT.out hn2 hc2 hm2).mono ?_
    rintro e w1 ⟨v1, rfl, hR1, hb1⟩
    rw [HD.out] at hR1
    obtain ⟨A1, c1, rfl, _, _⟩ := hR1.cut
    have HSEG := Lib.hid hR1.seg
    have hzb1 := hb1.size
    clear hR1
    go_wp2_with fail
    go_loopw [8, 9] (fun v i wr => ∃ k : Nat, k ≤ 35 ∧ i = .int .i64 k ∧ Hid (Row wr w1.heap.size 5 .u8 v (16 * k) (catI F k)) ∧ Below w1.heap.size w1 wr) (fun _ i _ => 35 - (intOf i).toNat)
    case atStart => exact ⟨0, by omega, rfl, nil_row _ _ _ _, Below.refl _ _⟩
    case round =>
      obtain ⟨k, hk, rfl, hR, hb⟩ := hrel
      have hz := hb.size
      have hbw := hb1.trans (hb.mono hzb1)
      by_cases hlt : k < 35
      · have hdk : decide ((k : Int) < 35) = true := by simp; omega
        have HSr := Lib.hid ((HS.out.below hbw (Nat.le_refl _)).more hbw.size)
        have HRL := Lib.hid hR.out.length
        obtain ⟨b, off, rfl, hbl, hcl⟩ := HSEG.out.2 (by omega)
        obtain ⟨x, hx⟩ : ∃ x, Hid (D.getD k 0 = x) := ⟨_, rfl⟩
        have hxb := HDB.out k hlt
        rw [hx.out] at hxb
        obtain ⟨hx0, hx1⟩ := hxb
        have hcx := (hb.cell (p := ⟨b, off + k, none⟩) hbl).trans (hcl k hlt)
        rw [hx.out] at hcx
        have HCC : Hid (∀ W, Below w1.heap.size w1 W → W.cell? ⟨b, off + k, none⟩ = some (.int .i64 x)) := fun W hW => by
          have h := (hW.cell (p := ⟨b, off + k, none⟩) hbl).trans (hcl k hlt)
          rw [hx.out] at h
          exact h
        have hki : (k : Int) < 35 := by omega
        have hk0 : (0 : Int) ≤ (k : Int) := by omega
        have hbd := hb.drew
        have HRD : Hid (Row wr.drew w1.heap.size 5 .u8 _ (16 * k) (catI F k)) := hR.out
        have HFK : Hid (F k = chainI leaf k 0 (startI seed leaf k) (x - 0).toNat) := by show _ = _; rw [HF.out, ← hx.out, Int.sub_zero]
        clear hcl
        go_wp2_with fail
        go_region_held3 (fun W => W.cell? ⟨b, off + k, none⟩ = some (.int .i64 x))
          (first
            | go_keep
            | exact HCC.out _ hb4
            | exact HCC.out _ hb3
            | exact HCC.out _ hb2
            | exact HCC.out _ hbd)
          ((first
            | (refine step_app _ (by rfl) (.tmp 22) (.tmp 33) 22 (by rfl) w1.heap.size 5 i0 (.int .u8 0) 1 Tryd.underlying22 hi hz0 hz1 hz2 (by rfl) .u8 _ (catI F k) (by rfl) HR3.out.own w3.heap.size A3 16 c3 (F k) (by rfl) HS3.out (by unfold maxLen; rw [HRL.out]; omega) (by rw [HRL.out]; omega) hb3.size ?_; intro v4 w4 hown4 hg4 hor4; have hb4 : Below w1.heap.size w1 w4 := own_below HR3.out.own hg4 hb3 hb3.size)
            | (go_at_call 51; refine (rsteps_any A4 16 c4 _ leaf k 0 x w2 HS2.out (by omega) hc4 hm4 (by omega) (by omega) (by omega)).mono ?_; rintro e w3 ⟨n3, hn3, A3, c3, rfl, hc3, hm3, hs3, hbx⟩; have hb3 : Below w1.heap.size w1 w3 := hb2.trans (hbx.mono hb2.size); have HR3 := Lib.hid (HR2.out.below hbx); obtain rfl : n3 = 16 := (by rw [← hs3.1, ← HFK.out]; exact HFL.out k); have HS3 := Lib.hid hs3; rw [← HFK.out] at HS3; clear hs3)
            | (go_at_call 52; refine (rstart_any A n c seed leaf k wr.drew HSr.out hn).mono ?_; rintro e w2 ⟨A4, c4, rfl, hc4, hm4, hs2, hbx⟩; have hb2 : Below w1.heap.size w1 w2 := hbd.trans (hbx.mono hz); have HR2 := Lib.hid (Row.below HRD.out hbx); have HS2 := Lib.hid hs2; clear hs2)))
        have HR4 : Hid (Row w4 w1.heap.size 5 .u8 v4 (16 * (k + 1)) (catI F (k + 1))) := hown4.row (by rw [List.length_append, HRL.out, HFL.out k]; omega)
        clear hg4 hor4 hown4
        go_wp2
        go_roundw
        case measure => simp [intOf]; omega
        case rel => exact ⟨k + 1, by omega, by go_num, HR4.out, hb4⟩
      · have hdk : decide ((k : Int) < 35) = false := by simp; omega
        have hk35 : k = 35 := by omega
        rw [hk35] at hR
        clear hk35
        go_wp2_with fail
        go_ret
        rw [hP.out]
        exact ⟨_, 560, rfl, by omega, (Own.less hR.out.own hzb1).row hR.out.length, hbw⟩
end Go.Proofs.YtljkkejjnimjcaaDoor
namespace Go.Proofs.YtljkkejjnimjcaaDoor
open Go.RowKit

theorem catI_get (F : Nat → List Int) (n k : Nat) (hF : ∀ c, c < n → (F c).length = 16) (hk : k < n) : ((catI F n).drop (16 * k)).take 16 = F k := by
  induction n with
  | zero => omega
  | succ n ih =>
    have hl := catI_length F n (fun c hc => hF c (by omega))
    rcases Nat.lt_or_ge k n with h | h
    · rw [catI, List.drop_append_of_le_length (by omega), List.take_append_of_le_length (by rw [List.length_drop]; omega)]
      exact ih (fun c hc => hF c (by omega)) h
    · obtain rfl : k = n := by omega
      rw [catI, List.drop_append, List.drop_of_length_le (by omega), List.nil_append, hl, Nat.sub_self, List.drop_zero, List.take_of_length_le (by rw [hF k (by omega)]; omega)]
theorem catI_congr (F G : Nat → List Int) (n : Nat) (h : ∀ c, c < n → F c = G c) : catI F n = catI G n := by
  induction n with
  | zero => rfl
  | succ n ih => rw [catI, catI, ih (fun c hc => h c (by omega)), h n (by omega)]

/-- A signature leads to the public value of its leaf. -/
theorem recover_sign (seed msg : List Int) (leaf : Int) (h0 : 0 ≤ leaf) (h1 : leaf ≤ 255) : recoverI leaf msg (signI seed leaf msg) = (publicI seed leaf, true) := by
  have hb : ¬ (leaf < 0 ∨ 255 < leaf) := by omega
  obtain ⟨F, HF⟩ : ∃ F : Nat → List Int, F = fun (k : Nat) => chainI leaf k 0 (startI seed leaf k) ((digitsI msg).getD k 0).toNat := ⟨_, rfl⟩
  have hS : signI seed leaf msg = catI F 35 := by rw [signI, if_neg hb, HF]
  have hFL : ∀ c, c < 35 → (F c).length = 16 := fun c _ => by rw [HF]; exact chainI_length _ _ _ _ (startI_length _ _ _) _
  have hl : (signI seed leaf msg).length = 560 := by rw [hS, catI_length F 35 hFL]
  have e : catI (fun c => chainI leaf c ((digitsI msg).getD c 0) (((signI seed leaf msg).drop (16 * c)).take 16) (15 - ((digitsI msg).getD c 0).toNat)) 35 = catI (fun c => chainI leaf c 0 (startI seed leaf c) 15) 35 := by
    refine catI_congr _ _ _ fun c hc => ?_
    have hd := digits_get msg c hc
    obtain ⟨x, hx⟩ : ∃ x, x = (digitsI msg).getD c 0 := ⟨_, rfl⟩
    have hFc : F c = chainI leaf c 0 (startI seed leaf c) x.toNat := by rw [HF, hx]
    have hg := catI_get F 35 c hFL hc
    rw [← hx] at hd ⊢
    rw [hS, hg, hFc]
    have h := chainI_add leaf c 0 (startI seed leaf c) x.toNat (15 - x.toNat)
    rw [show (0 : Int) + (x.toNat : Int) = x by omega, show x.toNat + (15 - x.toNat) = 15 by omega] at h
    exact h
  have hr : recoverI leaf msg (signI seed leaf msg) = (valueI leaf (catI (fun c => chainI leaf c ((digitsI msg).getD c 0) (((signI seed leaf msg).drop (16 * c)).take 16) (15 - ((digitsI msg).getD c 0).toNat)) 35), true) := by
    rw [recoverI, if_neg (by rw [hl]; omega)]
  have hp : publicI seed leaf = valueI leaf (catI (fun c => chainI leaf c 0 (startI seed leaf c) 15) 35) := by rw [publicI, if_neg hb]
  rw [hr, hp, e]
end Go.Proofs.YtljkkejjnimjcaaDoor
namespace Go.Proofs.YtljkkejjnimjcaaDoor
open Go.RowKit

theorem be4_same {x y : Int} (hx0 : 0 ≤ x) (hx : x < 4294967296) (hy0 : 0 ≤ y) (hy : y < 4294967296) (h : be4 x = be4 y) : x = y := by
  simp only [be4, List.cons.injEq, and_true] at h
  omega
def flatF (fs : List (List Int)) : List Int := (fs.map fun f => be4 ((f.length : Int) % 4294967296) ++ f).flatten
theorem flatF_inj : ∀ (fs gs : List (List Int)), (∀ f ∈ fs, f.length < 4294967296) → (∀ g ∈ gs, g.length < 4294967296) → flatF fs = flatF gs → fs = gs
  | [], [], _, _, _ => rfl
  | [], g :: gs, _, _, h => by simp [flatF, be4] at h
  | f :: fs, [], _, _, h => by simp [flatF, be4] at h
  | f :: fs, g :: gs, hf, hg, h => by
    have h1 : be4 ((f.length : Int) % 4294967296) ++ (f ++ flatF fs) = be4 ((g.length : Int) % 4294967296) ++ (g ++ flatF gs) := by simpa [flatF] using h
    obtain ⟨h2, h3⟩ := List.append_inj h1 rfl
    have hfl := hf f (by simp)
    have hgl := hg g (by simp)
    have h4 := be4_same (by omega) (by omega) (by omega) (by omega) h2
    have hl : f.length = g.length := by omega
    obtain ⟨rfl, h5⟩ := List.append_inj h3 hl
    rw [flatF_inj fs gs (fun x hx => hf x (by simp [hx])) (fun x hx => hg x (by simp [hx])) h5]
theorem frameI_inj (t : Int) (fs gs : List (List Int)) (hf : ∀ f ∈ fs, f.length < 4294967296) (hg : ∀ g ∈ gs, g.length < 4294967296) (h : frameI t fs = frameI t gs) : fs = gs := by
  injection h with _ h2
  exact flatF_inj fs gs hf hg h2
end Go.Proofs.YtljkkejjnimjcaaDoor
namespace Go.Proofs.YtljkkejjnimjcaaDoor
open Go.RowKit

/-- Node i of level h + 1. -/
def nodeF (h i : Nat) (x y : List Int) : List (List Int) := [[(h : Int) % 256, (i : Int) % 256], x, y]
def nodeT (h i : Nat) (x y : List Int) : List Int := hash16 3 (nodeF h i x y)
theorem nodeT_length (h i : Nat) (x y : List Int) : (nodeT h i x y).length = 16 := hash16_length _ _
/-- The first k nodes of the next level; the next level. -/
def upTo (h : Nat) (l : List (List Int)) (k : Nat) : List (List Int) := (List.range k).map fun i => nodeT h i (l.getD (2 * i) []) (l.getD (2 * i + 1) [])
def upT (h : Nat) (l : List (List Int)) : List (List Int) := upTo h l (l.length / 2)
theorem upTo_next (h : Nat) (l : List (List Int)) (k : Nat) : upTo h l (k + 1) = upTo h l k ++ [nodeT h k (l.getD (2 * k) []) (l.getD (2 * k + 1) [])] := by
  simp [upTo, List.range_succ]
theorem upTo_length (h : Nat) (l : List (List Int)) (k : Nat) : (upTo h l k).length = k := by simp [upTo]
theorem upT_length (h : Nat) (l : List (List Int)) : (upT h l).length = l.length / 2 := upTo_length _ _ _
theorem upT_get (h : Nat) (l : List (List Int)) (i : Nat) (hi : i < l.length / 2) : (upT h l).getD i [] = nodeT h i (l.getD (2 * i) []) (l.getD (2 * i + 1) []) := by
  rw [upT, upTo, List.getD_eq_getElem?_getD, List.getElem?_map, List.getElem?_range hi]
  rfl
/-- The root of a level of 2 to the f nodes. -/
def rootF : Nat → Nat → List (List Int) → List Int
  | 0, _, l => l.getD 0 []
  | f + 1, h, l => rootF f (h + 1) (upT h l)
/-- The other one of a pair. -/
def sibI (i : Nat) : Nat := if i % 2 = 0 then i + 1 else i - 1
def pathF : Nat → Nat → Nat → List (List Int) → List (List Int)
  | 0, _, _, _ => []
  | f + 1, h, i, l => l.getD (sibI i) [] :: pathF f (h + 1) (i / 2) (upT h l)
def stepT (h i : Nat) (x y : List Int) : List (List Int) := if i % 2 = 0 then nodeF h (i / 2) x y else nodeF h (i / 2) y x
def climbF : Nat → List Int → Nat → List (List Int) → List Int
  | _, x, _, [] => x
  | h, x, i, y :: p => climbF (h + 1) (hash16 3 (stepT h i x y)) (i / 2) p
def fitsT (n : Nat) : Option Nat := if n = 1 then some 0 else if n = 2 then some 1 else if n = 4 then some 2 else if n = 8 then some 3 else none
def rootI (l : List (List Int)) : List Int := match fitsT l.length with | none => [] | some f => rootF f 0 l
def pathI (i : Int) (l : List (List Int)) : List (List Int) := match fitsT l.length with | none => [] | some f => if i < 0 ∨ (l.length : Int) ≤ i then [] else pathF f 0 i.toNat l
def climbI (leaf : List Int) (i : Int) (p : List (List Int)) : List Int := if 3 < p.length ∨ i < 0 ∨ (2 ^ p.length : Nat) ≤ i then [] else climbF 0 leaf i.toNat p

theorem fitsT_pow {n f : Nat} (h : fitsT n = some f) : n = 2 ^ f := by
  unfold fitsT at h
  split at h <;> (try split at h) <;> (try split at h) <;> (try split at h) <;> simp_all <;> (subst h; rfl)
theorem pathF_length : ∀ (f h i : Nat) (l : List (List Int)), (pathF f h i l).length = f
  | 0, _, _, _ => rfl
  | f + 1, h, i, l => by rw [pathF, List.length_cons, pathF_length f]
/-- Each leaf leads to the root by its path. -/
theorem climb_path : ∀ (f h i : Nat) (l : List (List Int)), l.length = 2 ^ f → i < 2 ^ f → climbF h (l.getD i []) i (pathF f h i l) = rootF f h l
  | 0, h, i, l, hl, hi => by
    have : i = 0 := by simpa using hi
    rw [this]; rfl
  | f + 1, h, i, l, hl, hi => by
    have h2 : 2 ^ (f + 1) = 2 * 2 ^ f := by rw [Nat.pow_succ]; omega
    rw [h2] at hl hi
    have hu : (upT h l).length = 2 ^ f := by rw [upT_length]; omega
    have e : hash16 3 (stepT h i (l.getD i []) (l.getD (sibI i) [])) = (upT h l).getD (i / 2) [] := by
      rw [upT_get _ _ _ (by omega), nodeT, stepT, sibI]
      split
      · rw [show 2 * (i / 2) = i by omega]
      · rw [show 2 * (i / 2) = i - 1 by omega, show i - 1 + 1 = i by omega]
    rw [pathF, climbF, rootF, e]
    exact climb_path f (h + 1) (i / 2) (upT h l) hu (by omega)
/-- Do two ways have, on one level, different frames whose hashes begin with the same bytes? -/
def crashF : Nat → List Int → List Int → Nat → List (List Int) → List (List Int) → Bool
  | _, _, _, _, [], _ => false
  | _, _, _, _, _ :: _, [] => false
  | h, x, y, i, a :: p, b :: q =>
    (!decide (frameI 3 (stepT h i x a) = frameI 3 (stepT h i y b)) && decide (hash16 3 (stepT h i x a) = hash16 3 (stepT h i y b))) || crashF (h + 1) (hash16 3 (stepT h i x a)) (hash16 3 (stepT h i y b)) (i / 2) p q
theorem step_short (h i : Nat) (x y : List Int) (hx : x.length < 4294967296) (hy : y.length < 4294967296) : ∀ f ∈ stepT h i x y, f.length < 4294967296 := by
  intro f hf
  unfold stepT nodeF at hf
  have h2 : ([(h : Int) % 256, ((i / 2 : Nat) : Int) % 256]).length < 4294967296 := by show 2 < 4294967296; omega
  split at hf
  all_goals
    simp only [List.mem_cons, List.not_mem_nil, or_false] at hf
    rcases hf with rfl | rfl | rfl
    all_goals assumption
/-- Different leaves that lead to one root collide on their ways. -/
theorem climb_bind : ∀ (p q : List (List Int)) (h i : Nat) (x y : List Int), p.length = q.length → x ≠ y → x.length < 4294967296 → y.length < 4294967296 → (∀ a ∈ p, a.length < 4294967296) → (∀ b ∈ q, b.length < 4294967296) →
    climbF h x i p = climbF h y i q → crashF h x y i p q = true
  | [], [], h, i, x, y, _, hne, _, _, _, _, he => absurd he hne
  | [], _ :: _, _, _, _, _, hl, _, _, _, _, _, _ => by simp at hl
  | _ :: _, [], _, _, _, _, hl, _, _, _, _, _, _ => by simp at hl
  | a :: p, b :: q, h, i, x, y, hl, hne, hx, hy, hp, hq, he => by
    rw [climbF, climbF] at he
    rw [crashF, Bool.or_eq_true]
    by_cases hs : hash16 3 (stepT h i x a) = hash16 3 (stepT h i y b)
    · left
      have ha := hp a (by simp)
      have hb := hq b (by simp)
      have hf : frameI 3 (stepT h i x a) ≠ frameI 3 (stepT h i y b) := by
        intro e
        have := frameI_inj 3 _ _ (step_short h i x a hx ha) (step_short h i y b hy hb) e
        unfold stepT nodeF at this
        split at this
        · exact hne (by simpa using (List.cons.inj (List.cons.inj this).2).1)
        · exact hne (List.cons.inj (List.cons.inj (List.cons.inj this).2).2).1
      simp [hf, hs]
    · right
      exact climb_bind p q (h + 1) (i / 2) _ _ (by simpa using hl) hs (by rw [hash16_length]; omega) (by rw [hash16_length]; omega) (fun c hc => hp c (by simp [hc])) (fun c hc => hq c (by simp [hc])) he
end Go.Proofs.YtljkkejjnimjcaaDoor
namespace Go.Proofs.YtljkkejjnimjcaaDoor
open Go.RowKit

/-- The leaves of a tree: the given ones, and others. -/
def fitTo (l : List (List Int)) (k : Nat) : List (List Int) := (List.range k).map fun i => if i < l.length then l.getD i [] else [(i : Int) % 256]
theorem fitTo_next (l : List (List Int)) (k : Nat) : fitTo l (k + 1) = fitTo l k ++ [if k < l.length then l.getD k [] else [(k : Int) % 256]] := by simp [fitTo, List.range_succ]
theorem fitTo_length (l : List (List Int)) (k : Nat) : (fitTo l k).length = k := by simp [fitTo]
theorem fitTo_short (l : List (List Int)) (k : Nat) (h : ∀ x ∈ l, x.length ≤ 60) : ∀ x ∈ fitTo l k, x.length ≤ 60 := by
  intro x hx
  obtain ⟨i, _, rfl⟩ := List.mem_map.1 hx
  split
  · rename_i hi
    rw [List.getD_eq_getElem?_getD, List.getElem?_eq_getElem hi]
    exact h _ (List.getElem_mem hi)
  · simp
def fewT (l : List (List Int)) : Bool := decide (l.length < 20 ∧ ∀ x ∈ l, x.length ≤ 60)
theorem tot_short (m : Nat) : ∀ (l : List (List Int)), (∀ x ∈ l, x.length ≤ m) → tot l ≤ m * l.length
  | [], _ => by simp [tot]
  | x :: l, h => by
    have h1 := tot_short m l (fun y hy => h y (by simp [hy]))
    have h2 := h x (by simp)
    have e : tot (x :: l) = x.length + tot l := by simp [tot]
    rw [e, List.length_cons, Nat.mul_add]
    omega

theorem fitsT_two {f : Nat} (h : f ≤ 3) : fitsT (2 ^ f) = some f := by
  rcases (by omega : f = 0 ∨ f = 1 ∨ f = 2 ∨ f = 3) with rfl | rfl | rfl | rfl <;> rfl
theorem rootI_two {l : List (List Int)} {f : Nat} (hf : f ≤ 3) (hl : l.length = 2 ^ f) : rootI l = rootF f 0 l := by unfold rootI; rw [hl, fitsT_two hf]
theorem pathI_two {l : List (List Int)} {f : Nat} (hf : f ≤ 3) (hl : l.length = 2 ^ f) (i : Nat) (hi : i < 2 ^ f) : pathI i l = pathF f 0 i l := by
  unfold pathI
  rw [hl, fitsT_two hf]
  simp only
  rw [if_neg (by omega), Int.toNat_natCast]
theorem climbI_two {leaf : List Int} {p : List (List Int)} (hp : p.length ≤ 3) (i : Nat) (hi : i < 2 ^ p.length) : climbI leaf i p = climbF 0 leaf i p := by
  unfold climbI
  rw [if_neg (by omega), Int.toNat_natCast]
theorem climb_trip {l : List (List Int)} {f : Nat} (hf : f ≤ 3) (hl : l.length = 2 ^ f) (i : Nat) (hi : i < 2 ^ f) : (pathI i l).length = f ∧ climbI (l.getD i []) i (pathI i l) = rootI l := by
  rw [pathI_two hf hl i hi, rootI_two hf hl]
  have h := pathF_length f 0 i l
  refine ⟨h, ?_⟩
  rw [climbI_two (by rw [h]; exact hf) i (by rw [h]; exact hi)]
  exact climb_path f 0 i l hl hi
theorem rootF_length : ∀ (f h : Nat) (l : List (List Int)), l.length = 2 ^ (f + 1) → (rootF (f + 1) h l).length = 16
  | 0, h, l, hl => by
    rw [rootF, rootF, upT_get _ _ _ (by omega)]
    exact nodeT_length _ _ _ _
  | f + 1, h, l, hl => by
    rw [rootF]
    refine rootF_length f (h + 1) (upT h l) ?_
    rw [upT_length, hl]
    have : 2 ^ (f + 1 + 1) = 2 * 2 ^ (f + 1) := by rw [Nat.pow_succ]; omega
    omega
/-- An element of a list for which all elements are short. -/
theorem get_short {l : List (List Int)} {m : Nat} (h : ∀ x ∈ l, x.length ≤ m) (i : Nat) : (l.getD i []).length ≤ m := by
  rw [List.getD_eq_getElem?_getD]
  rcases hx : l[i]? with _ | x
  · simp
  · exact h x (List.mem_of_getElem? hx)
theorem upTo_short (h : Nat) (l : List (List Int)) (k m : Nat) (hm : 16 ≤ m) : ∀ x ∈ upTo h l k, x.length ≤ m := by
  intro x hx
  obtain ⟨i, _, rfl⟩ := List.mem_map.1 hx
  rw [nodeT_length]
  exact hm
theorem pathF_short (m : Nat) (hm : 16 ≤ m) : ∀ (f h i : Nat) (l : List (List Int)), (∀ x ∈ l, x.length ≤ m) → ∀ x ∈ pathF f h i l, x.length ≤ m
  | 0, _, _, _, _ => by intro x hx; cases hx
  | f + 1, h, i, l, hl => by
    intro x hx
    rw [pathF, List.mem_cons] at hx
    rcases hx with rfl | hx
    · exact get_short hl _
    · exact pathF_short m hm f (h + 1) (i / 2) (upT h l) (upTo_short _ _ _ _ hm) x hx
theorem pathI_short (m : Nat) (hm : 16 ≤ m) (i : Int) (l : List (List Int)) (hl : ∀ x ∈ l, x.length ≤ m) : ∀ x ∈ pathI i l, x.length ≤ m := by
  unfold pathI
  split
  · intro x hx; cases hx
  · split
    · intro x hx; cases hx
    · exact pathF_short m hm _ _ _ _ hl
theorem climb_crash {a b : List Int} {p q : List (List Int)} (hl : p.length = q.length) (hp3 : p.length ≤ 3) (i : Nat) (hi : i < 2 ^ p.length) (hne : a ≠ b) (ha : a.length ≤ 1048576) (hb : b.length ≤ 1048576) (hp : ∀ x ∈ p, x.length ≤ 1048576) (hq : ∀ x ∈ q, x.length ≤ 1048576)
    (he : climbI a i p = climbI b i q) : crashF 0 a b i p q = true := by
  rw [climbI_two hp3 i hi, climbI_two (by omega) i (by rw [← hl]; exact hi)] at he
  exact climb_bind p q 0 i a b hl hne (by omega) (by omega) (fun x hx => by have := hp x hx; omega) (fun x hx => by have := hq x hx; omega) he
/-- Two elements exchanged. -/
def swapL (l : List (List Int)) (i j : Nat) : List (List Int) := (l.set i (l.getD j [])).set j (l.getD i [])
theorem swapL_length (l : List (List Int)) (i j : Nat) : (swapL l i j).length = l.length := by simp [swapL]
theorem swapL_get (l : List (List Int)) (i j : Nat) (hi : i < l.length) : (swapL l i j).getD i [] = l.getD j [] := by
  unfold swapL
  rw [List.getD_eq_getElem?_getD, List.getElem?_set]
  split
  · rename_i h
    subst h
    simp [hi]
  · rw [List.getElem?_set]
    simp [hi]
theorem swapL_same (l : List (List Int)) (i j : Nat) (hi : i < l.length) (hj : j < l.length) (h : l.getD i [] = l.getD j []) : swapL l i j = l := by
  apply List.ext_getElem?
  intro k
  unfold swapL
  rw [List.getElem?_set, List.getElem?_set]
  have e : ∀ k, k < l.length → l[k]? = some (l.getD k []) := fun k hk => by rw [List.getD_eq_getElem?_getD, List.getElem?_eq_getElem hk]; rfl
  split
  · rename_i h1
    subst h1
    rw [e _ hj, h]
    simp [hj]
  · split
    · rename_i h2
      subst h2
      rw [e _ hi, ← h]
    · rfl
theorem swapL_short {l : List (List Int)} {m : Nat} (h : ∀ x ∈ l, x.length ≤ m) (i j : Nat) : ∀ x ∈ swapL l i j, x.length ≤ m := by
  intro x hx
  unfold swapL at hx
  rcases List.mem_or_eq_of_mem_set hx with h1 | rfl
  · rcases List.mem_or_eq_of_mem_set h1 with h2 | rfl
    · exact h x h2
    · exact get_short h _
  · exact get_short h _
theorem swap_crash {l : List (List Int)} {f : Nat} (hf : f ≤ 3) (hl : l.length = 2 ^ f) (i j : Nat) (hi : i < 2 ^ f) (hj : j < 2 ^ f) (hs : ∀ x ∈ l, x.length ≤ 1048576) (hne : l ≠ swapL l i j) (he : rootI l = rootI (swapL l i j)) :
    crashF 0 (l.getD i []) ((swapL l i j).getD i []) i (pathI i l) (pathI i (swapL l i j)) = true := by
  have hl2 : (swapL l i j).length = 2 ^ f := by rw [swapL_length, hl]
  obtain ⟨h1, h2⟩ := climb_trip hf hl i hi
  obtain ⟨h3, h4⟩ := climb_trip hf hl2 i hi
  refine climb_crash (by rw [h1, h3]) (by omega) i (by rw [h1]; exact hi) ?_ (get_short hs i) (get_short (swapL_short hs i j) i) (pathI_short _ (by omega) _ _ hs) (pathI_short _ (by omega) _ _ (swapL_short hs i j)) (by rw [h2, h4]; exact he)
  intro e
  refine hne (swapL_same l i j (by rw [hl]; exact hi) (by rw [hl]; exact hj) ?_).symm
  rw [e, swapL_get l i j (by rw [hl]; exact hi)]
end Go.Proofs.YtljkkejjnimjcaaDoor
namespace Go.Proofs.YtljkkejjnimjcaaDoor
open Go.RowKit

def labelS : ByteArray := { data := #[115, 105, 103, 110, 101, 114] }
/-- The seed of the one-time keys; their first m public values. -/
def leafSeed (seed : List Int) (h : Int) : List Int := deriveI seed (strI labelS) [h % 256] 32
def leavesTo (k : List Int) (m : Nat) : List (List Int) := (List.range m).map fun (i : Nat) => publicI k (i : Int)
theorem leavesTo_next (k : List Int) (m : Nat) : leavesTo k (m + 1) = leavesTo k m ++ [publicI k m] := by simp [leavesTo, List.range_succ]
theorem leavesTo_length (k : List Int) (m : Nat) : (leavesTo k m).length = m := by simp [leavesTo]
theorem leavesTo_get (k : List Int) (m i : Nat) (hi : i < m) : (leavesTo k m).getD i [] = publicI k i := by simp [leavesTo, List.getD, hi]
def pub7 (seed : List Int) (h : Int) : List Int := if h < 0 ∨ 3 < h then [] else (h % 256) :: rootI (leavesTo (leafSeed seed h) (2 ^ h.toNat))
def sig7 (seed : List Int) (h leaf : Int) (msg : List Int) : List Int :=
  if h < 0 ∨ 3 < h ∨ leaf < 0 ∨ ((2 ^ h.toNat : Nat) : Int) ≤ leaf then []
  else (leaf % 256) :: (signI (leafSeed seed h) leaf msg ++ (pathI leaf (leavesTo (leafSeed seed h) (2 ^ h.toNat))).flatten)
/-- The parts of a signature behind the one-time signature. -/
def path7 (sig : List Int) (h : Nat) : List (List Int) := (List.range h).map fun i => (sig.drop (561 + 16 * i)).take 16
def ver7 (pub msg sig : List Int) : Int × Bool :=
  if pub.length ≠ 17 ∨ 3 < pub.getD 0 0 then (0, false)
  else if sig.length ≠ 561 + 16 * (pub.getD 0 0).toNat ∨ ((2 ^ (pub.getD 0 0).toNat : Nat) : Int) ≤ sig.getD 0 0 then (0, false)
  else if sameB (climbI (recoverI (sig.getD 0 0) msg ((sig.drop 1).take 560)).1 (sig.getD 0 0) (path7 sig (pub.getD 0 0).toNat)) (pub.drop 1) = true then (sig.getD 0 0, true) else (0, false)

theorem public16 (k : List Int) (leaf : Int) (h0 : 0 ≤ leaf) (h1 : leaf ≤ 255) : (publicI k leaf).length = 16 := by rw [publicI, if_neg (by omega), valueI, hash16_length]
theorem sign560 (k msg : List Int) (leaf : Int) (h0 : 0 ≤ leaf) (h1 : leaf ≤ 255) : (signI k leaf msg).length = 560 := by
  rw [signI, if_neg (by omega), catI_length _ _ (fun c _ => chainI_length _ _ _ _ (startI_length _ _ _) _)]
theorem leaves16 (k : List Int) (m : Nat) (hm : m ≤ 256) : ∀ x ∈ leavesTo k m, x.length = 16 := by
  intro x hx
  obtain ⟨i, hi, rfl⟩ := List.mem_map.1 hx
  have := List.mem_range.1 hi
  exact public16 k i (by omega) (by omega)
theorem get16 {l : List (List Int)} (h : ∀ x ∈ l, x.length = 16) (i : Nat) (hi : i < l.length) : (l.getD i []).length = 16 := by
  rw [List.getD_eq_getElem?_getD, List.getElem?_eq_getElem hi]
  exact h _ (List.getElem_mem hi)
theorem upT16 (h : Nat) (l : List (List Int)) : ∀ x ∈ upT h l, x.length = 16 := by
  intro x hx
  obtain ⟨i, _, rfl⟩ := List.mem_map.1 hx
  exact nodeT_length _ _ _ _
theorem sib_in {I f : Nat} (h : I < 2 ^ (f + 1)) : sibI I < 2 ^ (f + 1) := by
  have : 2 ^ (f + 1) = 2 * 2 ^ f := by rw [Nat.pow_succ]; omega
  unfold sibI
  split <;> omega
theorem path16 : ∀ (f h i : Nat) (l : List (List Int)), l.length = 2 ^ f → i < 2 ^ f → (∀ x ∈ l, x.length = 16) → ∀ x ∈ pathF f h i l, x.length = 16
  | 0, _, _, _, _, _, _ => by intro x hx; cases hx
  | f + 1, h, i, l, hl, hi, h16 => by
    intro x hx
    have h2 : 2 ^ (f + 1) = 2 * 2 ^ f := by rw [Nat.pow_succ]; omega
    rw [pathF, List.mem_cons] at hx
    rcases hx with rfl | hx
    · exact get16 h16 _ (by rw [hl]; exact sib_in hi)
    · exact path16 f (h + 1) (i / 2) (upT h l) (by rw [upT_length, hl]; omega) (by omega) (upT16 h l) x hx
theorem root16 {f : Nat} (hf : f ≤ 3) {l : List (List Int)} (hl : l.length = 2 ^ f) (h16 : ∀ x ∈ l, x.length = 16) : (rootI l).length = 16 := by
  rw [rootI_two hf hl]
  rcases f with _ | f
  · exact get16 h16 0 (by rw [hl]; decide)
  · exact rootF_length f 0 l hl
theorem flat16 : ∀ (p : List (List Int)), (∀ x ∈ p, x.length = 16) → p.flatten.length = 16 * p.length ∧ ∀ i, i < p.length → (p.flatten.drop (16 * i)).take 16 = p.getD i []
  | [], _ => ⟨rfl, fun i hi => absurd hi (by simp)⟩
  | x :: p, h => by
    have hx := h x (by simp)
    obtain ⟨h1, h2⟩ := flat16 p (fun y hy => h y (by simp [hy]))
    refine ⟨by rw [List.flatten_cons, List.length_append, hx, h1, List.length_cons]; omega, fun i hi => ?_⟩
    rcases i with _ | i
    · rw [List.flatten_cons, Nat.mul_zero, List.drop_zero, List.take_append_of_le_length (by omega), List.take_of_length_le (by omega)]
      rfl
    · rw [List.flatten_cons, List.drop_append, List.drop_of_length_le (by omega), List.nil_append, hx, show 16 * (i + 1) - 16 = 16 * i by omega, h2 i (by simpa using hi)]
      rfl

/-- What the parts of a signature are. -/
theorem sig_parts (seed msg : List Int) (f I : Nat) (hf : f ≤ 3) (hI : I < 2 ^ f) : ∃ V P, V = leavesTo (leafSeed seed f) (2 ^ f) ∧ P = pathI (I : Int) V ∧ P.length = f ∧ (∀ x ∈ P, x.length = 16) ∧
    sig7 seed f I msg = (I : Int) :: (signI (leafSeed seed f) I msg ++ P.flatten) ∧ pub7 seed f = (f : Int) :: rootI V ∧ (rootI V).length = 16 ∧ (signI (leafSeed seed f) I msg).length = 560 ∧ V.getD I [] = publicI (leafSeed seed f) I ∧ V.length = 2 ^ f := by
  have h8 : 2 ^ f ≤ 8 := by
    rcases (by omega : f = 0 ∨ f = 1 ∨ f = 2 ∨ f = 3) with rfl | rfl | rfl | rfl <;> decide
  have hV := leavesTo_length (leafSeed seed f) (2 ^ f)
  have h16 := leaves16 (leafSeed seed f) (2 ^ f) (by omega)
  refine ⟨_, _, rfl, rfl, (climb_trip hf hV I hI).1, ?_, ?_, ?_, root16 hf hV h16, sign560 _ _ _ (by omega) (by omega), leavesTo_get _ _ _ hI, hV⟩
  · rw [pathI_two hf hV I hI]
    exact path16 f 0 I _ hV hI h16
  · rw [sig7, if_neg (by rw [Int.toNat_natCast]; omega), Int.toNat_natCast, show (I : Int) % 256 = I by omega]
  · rw [pub7, if_neg (by omega), Int.toNat_natCast, show (f : Int) % 256 = f by omega]
theorem trip7 (seed msg : List Int) (f I : Nat) (hf : f ≤ 3) (hI : I < 2 ^ f) : ver7 (pub7 seed f) msg (sig7 seed f I msg) = ((I : Int), true) ∧ (sig7 seed f I msg).length = 561 + 16 * f ∧ (pub7 seed f).length = 17 := by
  obtain ⟨V, P, hV, hP, hPl, hP16, hsig, hpub, hroot, hsgn, hget, hVl⟩ := sig_parts seed msg f I hf hI
  have h8 : 2 ^ f ≤ 8 := by
    rcases (by omega : f = 0 ∨ f = 1 ∨ f = 2 ∨ f = 3) with rfl | rfl | rfl | rfl <;> decide
  obtain ⟨hfl, hfg⟩ := flat16 P hP16
  rw [hsig, hpub]
  have hsl : ((I : Int) :: (signI (leafSeed seed f) I msg ++ P.flatten)).length = 561 + 16 * f := by rw [List.length_cons, List.length_append, hsgn, hfl, hPl]; omega
  have hpl : ((f : Int) :: rootI V).length = 17 := by rw [List.length_cons, hroot]
  refine ⟨?_, hsl, hpl⟩
  have e0 : ((f : Int) :: rootI V).getD 0 0 = f := rfl
  have e1 : ((I : Int) :: (signI (leafSeed seed f) I msg ++ P.flatten)).getD 0 0 = I := rfl
  have e2 : ((f : Int) :: rootI V).drop 1 = rootI V := rfl
  have e3 : (((I : Int) :: (signI (leafSeed seed f) I msg ++ P.flatten)).drop 1).take 560 = signI (leafSeed seed f) I msg := by
    rw [List.drop_succ_cons, List.drop_zero, List.take_append_of_le_length (by omega), List.take_of_length_le (by omega)]
  have e4 : path7 ((I : Int) :: (signI (leafSeed seed f) I msg ++ P.flatten)) f = P := by
    apply List.ext_getElem?
    intro i
    unfold path7
    rcases Nat.lt_or_ge i f with hi | hi
    · rw [List.getElem?_map, List.getElem?_range hi]
      show some (List.take 16 (List.drop (561 + 16 * i) _)) = _
      rw [show 561 + 16 * i = (560 + 16 * i) + 1 by omega, List.drop_succ_cons, List.drop_append, List.drop_of_length_le (by omega), List.nil_append, hsgn, show 560 + 16 * i - 560 = 16 * i by omega, hfg i (by omega), List.getD_eq_getElem?_getD,
        List.getElem?_eq_getElem (by omega)]
      rfl
    · rw [List.getElem?_eq_none (by simpa using hi), List.getElem?_eq_none (by omega)]
  have hrec := recover_sign (leafSeed seed f) msg I (by omega) (by omega)
  have hclimb := (climb_trip hf hVl I hI).2
  rw [ver7, if_neg (by rw [e0, hpl]; omega), e0, Int.toNat_natCast, if_neg (by rw [e1, hsl]; omega), e1, e2, e3, e4, hrec]
  rw [← hP, hget] at hclimb
  rw [hclimb, sameB_self, if_pos rfl]
end Go.Proofs.YtljkkejjnimjcaaDoor
namespace Go.Proofs.YtljkkejjnimjcaaDoor
open Go.RowKit

theorem inB_cat (F : Nat → List Int) (n : Nat) (h : ∀ c, InB (F c)) : InB (catI F n) := by
  induction n with
  | zero => intro x hx; cases hx
  | succ n ih => exact inB_append ih (h n)
theorem inB_parts5 (key label ctx : List Int) (n : Int) (j : Nat) : InB (partsI key label ctx n j) := by
  induction j with
  | zero => intro x hx; cases hx
  | succ j ih => exact inB_append ih (inB_sha _)
theorem inB_derive5 (key label ctx : List Int) (n : Int) : InB (deriveI key label ctx n) := by
  unfold deriveI
  split
  · intro x hx; cases hx
  · exact (inB_parts5 _ _ _ _ _).take _
theorem inB_chain (leaf c p : Int) (x : List Int) (h : InB x) (j : Nat) : InB (chainI leaf c p x j) := by
  cases j with
  | zero => exact h
  | succ j => exact inB_hash16 _ _
theorem inB_sign5 (k msg : List Int) (leaf : Int) : InB (signI k leaf msg) := by
  unfold signI
  split
  · intro x hx; cases hx
  · exact inB_cat _ _ fun c => inB_chain _ _ _ _ (inB_derive5 _ _ _ _) _
theorem inB_public5 (k : List Int) (leaf : Int) : InB (publicI k leaf) := by
  unfold publicI
  split
  · intro x hx; cases hx
  · exact inB_hash16 _ _
theorem inB_get {l : List (List Int)} (h : ∀ x ∈ l, InB x) (i : Nat) : InB (l.getD i []) := by
  rw [List.getD_eq_getElem?_getD]
  rcases hx : l[i]? with _ | x
  · intro y hy; cases hy
  · exact h x (List.mem_of_getElem? hx)
theorem inB_up (h : Nat) (l : List (List Int)) : ∀ x ∈ upT h l, InB x := by
  intro x hx
  obtain ⟨i, _, rfl⟩ := List.mem_map.1 hx
  exact inB_hash16 _ _
theorem inB_rootF : ∀ (f h : Nat) (l : List (List Int)), (∀ x ∈ l, InB x) → InB (rootF f h l)
  | 0, _, _, h => inB_get h 0
  | f + 1, h, l, _ => inB_rootF f (h + 1) (upT h l) (inB_up h l)
theorem inB_pathF : ∀ (f h i : Nat) (l : List (List Int)), (∀ x ∈ l, InB x) → ∀ x ∈ pathF f h i l, InB x
  | 0, _, _, _, _ => by intro x hx; cases hx
  | f + 1, h, i, l, hl => by
    intro x hx
    rw [pathF, List.mem_cons] at hx
    rcases hx with rfl | hx
    · exact inB_get hl _
    · exact inB_pathF f (h + 1) (i / 2) (upT h l) (inB_up h l) x hx
theorem inB_root (l : List (List Int)) (h : ∀ x ∈ l, InB x) : InB (rootI l) := by
  unfold rootI
  split
  · intro x hx; cases hx
  · exact inB_rootF _ _ _ h
theorem inB_path (i : Int) (l : List (List Int)) (h : ∀ x ∈ l, InB x) : ∀ x ∈ pathI i l, InB x := by
  unfold pathI
  split
  · intro x hx; cases hx
  · split
    · intro x hx; cases hx
    · exact inB_pathF _ _ _ _ h
theorem inB_leaves (k : List Int) (m : Nat) : ∀ x ∈ leavesTo k m, InB x := by
  intro x hx
  obtain ⟨i, _, rfl⟩ := List.mem_map.1 hx
  exact inB_public5 _ _
theorem inB_flat (p : List (List Int)) (h : ∀ x ∈ p, InB x) : InB p.flatten := by
  intro y hy
  obtain ⟨x, hx, hy⟩ := List.mem_flatten.1 hy
  exact h x hx y hy
theorem inB_cons {x : Int} {xs : List Int} (hx : 0 ≤ x ∧ x < 256) (h : InB xs) : InB (x :: xs) := by
  intro y hy
  rcases List.mem_cons.1 hy with rfl | hy
  · exact hx
  · exact h y hy
theorem inB_pub7 (seed : List Int) (h : Int) : InB (pub7 seed h) := by
  unfold pub7
  split
  · intro x hx; cases hx
  · exact inB_cons (by omega) (inB_root _ (inB_leaves _ _))
theorem inB_sig7 (seed msg : List Int) (h leaf : Int) : InB (sig7 seed h leaf msg) := by
  unfold sig7
  split
  · intro x hx; cases hx
  · exact inB_cons (by omega) (inB_append (inB_sign5 _ _ _) (inB_flat _ (inB_path _ _ (inB_leaves _ _))))
end Go.Proofs.YtljkkejjnimjcaaDoor
namespace Go.Proofs.YtljkkejjnimjcaaDoor
open Go.RowKit

theorem infoS_parts : ∃ i, Tryd.prog.info? 22 = some i ∧ i.zero = some (.slice none 0 0) ∧ i.size = 1 ∧ i.bytes = 24 := by
  have h : (Tryd.prog.info? 22).map (fun i => (i.zero, i.size, i.bytes)) = some (some (.slice none 0 0), 1, 24) := by kernel_rfl
  obtain ⟨i, hi, he⟩ := Option.map_eq_some_iff.1 h
  injection he with h1 h2
  injection h2 with h2 h3
  exact ⟨i, hi, h1, h2, h3⟩

/-- The slice over A lies in another block than the row v. -/
def Apart (v : Value) (A : Option Addr) (n : Nat) : Prop := 0 < n → ∀ a, A = some a → v.ownBlock ≠ some a.block
theorem Seg.keep {w w' : World} {r : Option Nat} {k : IntKind} {A : Option Addr} {n : Nat} {xs : List Int} (h : Seg w w.heap.size k A n xs) (hg : w.grownBy w' r) (hne : 0 < n → ∀ a, A = some a → r ≠ some a.block) : Seg w' w'.heap.size k A n xs :=
  ⟨h.1, fun hn => by
    obtain ⟨b, off, e, hlt, hc⟩ := h.2 hn
    refine ⟨b, off, e, Nat.lt_of_lt_of_le hlt hg.size, fun j hj => ?_⟩
    exact hg.cell (hc j hj) (fun e2 => hne hn _ e e2.symm)⟩
theorem Apart.old {w : World} {B : Nat} {v : Value} {k : IntKind} {A : Option Addr} {n : Nat} {xs : List Int} (h : Seg w B k A n xs) (hv : ∀ g, v.ownBlock = some g → B ≤ g) : Apart v A n := fun hn a ha e => by
  obtain ⟨b, off, e2, hlt, _⟩ := h.2 hn
  rw [ha] at e2
  injection e2 with e2
  subst e2
  have := hv _ e
  simp at this
  omega

/-- A row of slices that the call itself has made; what they lie over are blocks from D on. -/
def FRow (w : World) (B D : Nat) (v : Value) (n : Nat) (fs : List (List Int)) : Prop :=
  fs.length = n ∧ ∃ vs, w.ownsRow B 22 1 v n vs ∧ ∀ j, j < n → ∃ A n' c', vs[j]? = some (.slice A n' c') ∧ Seg w w.heap.size .u8 A n' (fs.getD j []) ∧ n' ≤ c' ∧ c' ≤ maxLen ∧ Apart v A n' ∧ (0 < n' → ∀ a, A = some a → D ≤ a.block)
section
variable {w w' : World} {B D n : Nat} {v : Value} {fs : List (List Int)}
theorem FRow.nil (w : World) (B D : Nat) : FRow w B D (.slice none 0 0) 0 [] := ⟨rfl, [], World.ownsRow_nil _ _ _ _, fun _ hj => absurd hj (by omega)⟩
theorem FRow.empty (w : World) (B D : Nat) (hB : B ≤ w.heap.size) : FRow (w.alloc (.cells #[] 22)) B D (.slice (some ⟨w.heap.size, 0, none⟩) 0 0) 0 [] :=
  ⟨rfl, [], ⟨rfl, .inr ⟨w.heap.size, 0, #[], rfl, hB, heap_alloc_new w _, Nat.le_refl _, by unfold maxLen; omega, rfl, rfl⟩⟩, fun _ hj => absurd hj (by omega)⟩
theorem FRow.length (h : FRow w B D v n fs) : fs.length = n := h.1
theorem FRow.lt (h : FRow w B D v n fs) : ∀ g, v.ownBlock = some g → B ≤ g ∧ g < w.heap.size := by
  obtain ⟨_, vs, h1, _⟩ := h
  exact h1.lt
theorem FRow.cut (h : FRow w B D v n fs) : ∃ A c, v = .slice A n c ∧ n ≤ c ∧ c ≤ maxLen := by
  obtain ⟨_, vs, h1, _⟩ := h
  rcases h1.2 with ⟨rfl, rfl⟩ | ⟨g, cap, cur, rfl, _, _, h1, h2, _⟩
  · exact ⟨none, 0, rfl, Nat.le_refl _, by unfold maxLen; omega⟩
  · exact ⟨_, cap, rfl, h1, h2⟩
theorem FRow.fields {A : Option Addr} {c : Nat} (h : FRow w B D (.slice A n c) n fs) : Fields w w.heap.size A n fs := by
  obtain ⟨hl, vs, h1, h2⟩ := h
  refine ⟨hl, fun hn => ?_⟩
  rcases h1.2 with ⟨_, h0⟩ | ⟨g, cap, cur, hv, _, hh, _⟩
  · omega
  · injection hv with hA _ hcap
    subst hA
    subst hcap
    refine ⟨g, 0, rfl, (Array.getElem?_eq_some_iff.1 hh).1, fun j hj => ?_⟩
    obtain ⟨A', n', c', e, hs, h3, h4, _⟩ := h2 j hj
    refine ⟨A', n', c', ?_, hs, h3, h4⟩
    rw [Nat.zero_add, World.ownsRow.cellAt h1 j (by omega), e]
theorem FRow.below (h : FRow w B D v n fs) (hb : Below w.heap.size w w') : FRow w' B D v n fs := by
  obtain ⟨hl, vs, h1, h2⟩ := h
  refine ⟨hl, vs, ?_, fun j hj => ?_⟩
  · refine ⟨h1.1, ?_⟩
    rcases h1.2 with h' | ⟨g, cap, cur, hv, hg, hh, a1, a2, a3, a4⟩
    · exact .inl h'
    · exact .inr ⟨g, cap, cur, hv, hg, (hb.block g (Array.getElem?_eq_some_iff.1 hh).1).trans hh, a1, a2, a3, a4⟩
  · obtain ⟨A', n', c', e, hs', h3, h4, h5⟩ := h2 j hj
    exact ⟨A', n', c', e, (hs'.below hb (Nat.le_refl _)).more hb.size, h3, h4, h5⟩
theorem FRow.drewN (h : FRow w B D v n fs) (q : Nat) : FRow (w.drewN q) B D v n fs := h
theorem FRow.less {B' : Nat} (h : FRow w B' D v n fs) (hB : B ≤ B') : FRow w B D v n fs := by
  obtain ⟨hl, vs, h1, h2⟩ := h
  exact ⟨hl, vs, ⟨h1.1, h1.2.imp id fun ⟨g, cap, cur, hv, hg, r⟩ => ⟨g, cap, cur, hv, Nat.le_trans hB hg, r⟩⟩, h2⟩
theorem FRow.low {D' : Nat} (h : FRow w B D v n fs) (hD : D' ≤ D) : FRow w B D' v n fs := by
  obtain ⟨hl, vs, h1, h2⟩ := h
  refine ⟨hl, vs, h1, fun j hj => ?_⟩
  obtain ⟨A', n', c', e, s1, s2, s3, s4, s5⟩ := h2 j hj
  exact ⟨A', n', c', e, s1, s2, s3, s4, fun hn a ha => Nat.le_trans hD (s5 hn a ha)⟩
theorem frow_below (h : FRow w B D v n fs) (hg : w.grownBy w' v.ownBlock) {W : World} (hb : Below B W w) (hB : B ≤ w.heap.size) : Below B W w' := hb.grown hg hB fun r hr => (h.lt r hr).1
end

section
variable {w : World} {B n c : Nat} {e : TypeId} {k : IntKind} {A : Option Addr} {xs : List Int}
theorem Row.apart {v : Value} (h : Row w B e k (.slice A n c) n xs) (hv : ∀ g, v.ownBlock = some g → g < B) : Apart v A n := fun hn a ha e => by
  have := h.from_ hn a ha
  have := hv _ e
  omega
end

/-- A list of byte strings in memory that lies apart from block r. -/
def FOff (w : World) (r : Option Nat) (A : Option Addr) (n : Nat) (fs : List (List Int)) : Prop :=
  fs.length = n ∧ (0 < n → ∃ b off, A = some ⟨b, off, none⟩ ∧ b < w.heap.size ∧ r ≠ some b ∧ ∀ j, j < n → ∃ A' n' c', w.cell? ⟨b, off + j, none⟩ = some (.slice A' n' c') ∧ Seg w w.heap.size .u8 A' n' (fs.getD j []) ∧ n' ≤ c' ∧ c' ≤ maxLen ∧ (0 < n' → ∀ a, A' = some a → r ≠ some a.block))
section
variable {w w' : World} {r r' : Option Nat} {A : Option Addr} {n B : Nat} {v : Value} {fs : List (List Int)}
theorem FOff.fields (h : FOff w r A n fs) : Fields w w.heap.size A n fs :=
  ⟨h.1, fun hn => by
    obtain ⟨b, off, e, hlt, _, hc⟩ := h.2 hn
    refine ⟨b, off, e, hlt, fun j hj => ?_⟩
    obtain ⟨A', n', c', h1, h2, h3, h4, _⟩ := hc j hj
    exact ⟨A', n', c', h1, h2, h3, h4⟩⟩
theorem FOff.keep (h : FOff w r A n fs) (hg : w.grownBy w' r) : FOff w' r A n fs :=
  ⟨h.1, fun hn => by
    obtain ⟨b, off, e, hlt, hr, hc⟩ := h.2 hn
    refine ⟨b, off, e, Nat.lt_of_lt_of_le hlt hg.size, hr, fun j hj => ?_⟩
    obtain ⟨A', n', c', h1, h2, h3, h4, h5⟩ := hc j hj
    exact ⟨A', n', c', hg.cell h1 (fun e2 => hr e2.symm), h2.keep hg h5, h3, h4, h5⟩⟩
theorem FOff.below (h : FOff w r A n fs) (hb : Below w.heap.size w w') : FOff w' r A n fs :=
  ⟨h.1, fun hn => by
    obtain ⟨b, off, e, hlt, hr, hc⟩ := h.2 hn
    refine ⟨b, off, e, Nat.lt_of_lt_of_le hlt hb.size, hr, fun j hj => ?_⟩
    obtain ⟨A', n', c', h1, h2, h3, h4, h5⟩ := hc j hj
    exact ⟨A', n', c', (hb.cell (p := ⟨b, off + j, none⟩) hlt).trans h1, (h2.below hb (Nat.le_refl _)).more hb.size, h3, h4, h5⟩⟩
/-- Apart from a block that is not there yet. -/
theorem Fields.off (h : Fields w B A n fs) (hB : B ≤ w.heap.size) (hr : ∀ g, r = some g → B ≤ g) : FOff w r A n fs :=
  ⟨h.1, fun hn => by
    obtain ⟨b, off, e, hlt, hc⟩ := h.2 hn
    refine ⟨b, off, e, by omega, fun e2 => by have := hr _ e2; omega, fun j hj => ?_⟩
    obtain ⟨A', n', c', h1, h2, h3, h4⟩ := hc j hj
    refine ⟨A', n', c', h1, h2.more hB, h3, h4, fun hn' a ha e2 => ?_⟩
    obtain ⟨b2, off2, e3, hlt2, _⟩ := h2.2 hn'
    rw [ha] at e3
    injection e3 with e3
    rw [e3] at e2
    have := hr _ e2
    simp at this
    omega⟩
theorem FOff.turn (h : FOff w r A n fs) (hg : w.grownBy w' r) (hr : r' = r ∨ r' = some w.heap.size) : FOff w' r' A n fs := by
  rcases hr with rfl | hr
  · exact h.keep hg
  · have h2 := h.keep hg
    have hf := h.fields
    refine ⟨h.1, fun hn => ?_⟩
    obtain ⟨b, off, e, hlt, _, hc⟩ := h.2 hn
    refine ⟨b, off, e, Nat.lt_of_lt_of_le hlt hg.size, fun e2 => by rw [hr] at e2; injection e2 with e2; omega, fun j hj => ?_⟩
    obtain ⟨b2, off2, e2, _, _, hc2⟩ := h2.2 hn
    rw [e] at e2
    injection e2 with e2
    injection e2 with e2 e3
    subst e2
    subst e3
    obtain ⟨A', n', c', h1, h3, h4, h5, _⟩ := hc2 j hj
    obtain ⟨A2, n2, c2, k1, k2, _, _, k5⟩ := hc j hj
    have hsame : A2 = A' ∧ n2 = n' ∧ c2 = c' := by
      have := (hg.cell k1 (fun e4 => by obtain ⟨b3, off3, e5, _, h6, _⟩ := h.2 hn; rw [e] at e5; injection e5 with e5; injection e5 with e5 _; subst e5; exact h6 e4.symm)).symm.trans h1
      injection this with this
      injection this with a1 a2 a3
      exact ⟨a1, a2, a3⟩
    obtain ⟨rfl, rfl, rfl⟩ := hsame
    refine ⟨A2, n2, c2, h1, h3, h4, h5, fun hn' a ha e4 => ?_⟩
    obtain ⟨b3, off3, e5, hlt3, _⟩ := k2.2 hn'
    rw [ha] at e5
    injection e5 with e5
    rw [hr, e5] at e4
    injection e4 with e4
    simp at e4
    omega
/-- A row of the call's own, apart from what was there before. -/
theorem FRow.off {D c : Nat} (h : FRow w B D (.slice A n c) n fs) (hr : ∀ g, r = some g → g < B ∧ g < D) : FOff w r A n fs := by
  obtain ⟨hl, vs, h1, h2⟩ := h
  refine ⟨hl, fun hn => ?_⟩
  rcases h1.2 with ⟨_, h0⟩ | ⟨g, cap, cur, hv, hgB, hh, _⟩
  · omega
  · injection hv with hA _ hcap
    subst hA
    subst hcap
    refine ⟨g, 0, rfl, (Array.getElem?_eq_some_iff.1 hh).1, fun e => by have := hr _ e; omega, fun j hj => ?_⟩
    obtain ⟨A', n', c', e, hs, h3, h4, _, h5⟩ := h2 j hj
    refine ⟨A', n', c', ?_, hs, h3, h4, fun hn' a ha e2 => ?_⟩
    · rw [Nat.zero_add, World.ownsRow.cellAt h1 j (by omega), e]
    · have := h5 hn' a ha
      have := hr _ e2
      omega
end

section
variable {w : World} {ops : Array Oper} {rest : List Oper} {o : Oper} {a : Act} {K : Act → World → Prop} {Q : Exit → Act → World → Prop}
set_option maxRecDepth 100000 in
/-- append(s, x) where s is the call's own and x any slice of bytes that lies apart from it. -/
theorem wp_app1 (s x : Operand) (ho : o.op = .call { callee := .builtin .append, args := #[s, x], argTypes := #[37, 37] })
    (base D g2 : Nat) (v : Value) (n : Nat) (fs : List (List Int)) (hs : a.eval s = v) (hown : FRow w base D v n fs) (cc : Nat)
    (A' : Option Addr) (n' c' : Nat) (xs : List Int) (hx : a.eval x = .slice (some ⟨g2, 0, none⟩) 1 cc) (hc : w.cell? ⟨g2, 0, none⟩ = some (.slice A' n' c')) (hseg : Seg w w.heap.size .u8 A' n' xs) (hn' : n' ≤ c') (hm' : c' ≤ maxLen) (hap : Apart v A' n') (hD : 0 < n' → ∀ a, A' = some a → D ≤ a.block)
    (hn : n + 1 ≤ 1048576) (hbase : base ≤ w.heap.size)
    (h : ∀ v' w', FRow w' base D v' (n + 1) (fs ++ [xs]) → w.grownBy w' v.ownBlock → (v'.ownBlock = v.ownBlock ∨ v'.ownBlock = some w.heap.size) → K (a.put o.dst v') w') : o.wp Tryd.prog a w K Q := by
  obtain ⟨i, hi, hz, hsz, hby⟩ := infoS_parts
  obtain ⟨hl, vs, h1, h2⟩ := hown
  have hvl : vs.length = n := by have := h1.1; omega
  obtain ⟨v', w', hrun, r2, r3, _, r5⟩ := run_append_own_at (P := Tryd.prog) w base 37 o.type 22 i (.slice none 0 0) 1 24 Tryd.underlying37 hi hz hsz hby rfl (by omega) v n vs h1 ⟨g2, 0, none⟩ 1 cc [.slice A' n' c']
    rfl (fun j u hu => by
      rcases j with _ | j
      · injection hu with hu
        subst hu
        rw [addr_add]
        exact hc
      · cases hu) (by intro u hu; simp only [List.mem_singleton] at hu; subst hu; rfl) (by unfold maxLen; omega) (by omega) hbase
  unfold Oper.wp execOp
  simp only [ho, resolve, invoke, builtin, Sem.run_bind, Sem.run_pure, Result.andThen_ok, List.map_toArray, List.map_cons, List.map_nil, hs, hx, hrun]
  refine h v' w' ⟨by rw [List.length_append, hl]; rfl, vs ++ [.slice A' n' c'], r2, fun j hj => ?_⟩ r3 r5
  have hnew : ∀ (A : Option Addr) (m : Nat) (ys : List Int), Seg w w.heap.size .u8 A m ys → Apart v A m → Apart v' A m := fun A m ys hS hA hm0 ad had e => by
    rcases r5 with r5 | r5
    · exact hA hm0 ad had (r5.symm.trans e)
    · obtain ⟨b, off, e2, hlt, _⟩ := hS.2 hm0
      rw [had] at e2
      injection e2 with e2
      rw [r5] at e
      injection e with e
      rw [e2] at e
      simp at e
      omega
  by_cases hjn : j < n
  · obtain ⟨A2, n2, c2, e, s1, s2, s3, s4, s5⟩ := h2 j hjn
    refine ⟨A2, n2, c2, ?_, ?_, s2, s3, hnew A2 n2 _ s1 s4, s5⟩
    · rw [List.getElem?_append_left (by omega)]; exact e
    · have e2 : (fs ++ [xs]).getD j [] = fs.getD j [] := by rw [List.getD_eq_getElem?_getD, List.getElem?_append_left (by omega), ← List.getD_eq_getElem?_getD]
      rw [e2]
      exact s1.keep r3 s4
  · have hj2 : j = n := by omega
    subst hj2
    refine ⟨A', n', c', ?_, ?_, hn', hm', hnew A' n' xs hseg hap, hD⟩
    · rw [List.getElem?_append_right (by omega), hvl, Nat.sub_self]; rfl
    · have e2 : (fs ++ [xs]).getD j [] = xs := by rw [List.getD_eq_getElem?_getD, List.getElem?_append_right (by omega), hl, Nat.sub_self]; rfl
      rw [e2]
      exact hseg.keep r3 hap
theorem wpList_app1 (hgd : o.guard = none) (s x : Operand) (ho : o.op = .call { callee := .builtin .append, args := #[s, x], argTypes := #[37, 37] })
    (base D g2 : Nat) (v : Value) (n : Nat) (fs : List (List Int)) (hs : a.eval s = v) (hown : FRow w base D v n fs) (cc : Nat)
    (A' : Option Addr) (n' c' : Nat) (xs : List Int) (hx : a.eval x = .slice (some ⟨g2, 0, none⟩) 1 cc) (hc : w.cell? ⟨g2, 0, none⟩ = some (.slice A' n' c')) (hseg : Seg w w.heap.size .u8 A' n' xs) (hn' : n' ≤ c') (hm' : c' ≤ maxLen) (hap : Apart v A' n') (hD : 0 < n' → ∀ a, A' = some a → D ≤ a.block)
    (hn : n + 1 ≤ 1048576) (hbase : base ≤ w.heap.size)
    (h : ∀ v' w', FRow w' base D v' (n + 1) (fs ++ [xs]) → w.grownBy w' v.ownBlock → (v'.ownBlock = v.ownBlock ∨ v'.ownBlock = some w.heap.size) → wpList Tryd.prog ops Q rest (a.put o.dst v') w') : wpList Tryd.prog ops Q (o :: rest) a w :=
  wpList_plain hgd fun _ hK => wp_app1 s x ho base D g2 v n fs hs hown cc A' n' c' xs hx hc hseg hn' hm' hap hD hn hbase fun v' w' h2 h3 h4 => hK _ _ (h v' w' h2 h3 h4)
/-- The same as one step of a region that draws its order. -/
theorem step_app1 {E : Prop} (hgd : o.guard = none) (s x : Operand) (ho : o.op = .call { callee := .builtin .append, args := #[s, x], argTypes := #[37, 37] })
    (base D g2 : Nat) (v : Value) (n : Nat) (fs : List (List Int)) (hs : a.eval s = v) (hown : FRow w base D v n fs) (cc : Nat)
    (A' : Option Addr) (n' c' : Nat) (xs : List Int) (hx : a.eval x = .slice (some ⟨g2, 0, none⟩) 1 cc) (hc : w.cell? ⟨g2, 0, none⟩ = some (.slice A' n' c')) (hseg : Seg w w.heap.size .u8 A' n' xs) (hn' : n' ≤ c') (hm' : c' ≤ maxLen) (hap : Apart v A' n') (hD : 0 < n' → ∀ a, A' = some a → D ≤ a.block)
    (hn : n + 1 ≤ 1048576) (hbase : base ≤ w.heap.size)
    (h : ∀ v' w', FRow w' base D v' (n + 1) (fs ++ [xs]) → w.grownBy w' v.ownBlock → (v'.ownBlock = v.ownBlock ∨ v'.ownBlock = some w.heap.size) → K (a.put o.dst v') w') :
    if Region.wanted o (yielded ops a.tmps) = true then Oper.wp Tryd.prog o a w K Q else E := by
  have hw : Region.wanted o (yielded ops a.tmps) = true := by simp [Region.wanted, hgd]
  rw [if_pos hw]
  exact wp_app1 s x ho base D g2 v n fs hs hown cc A' n' c' xs hx hc hseg hn' hm' hap hD hn hbase h
end
end Go.Proofs.YtljkkejjnimjcaaDoor
namespace Go.Proofs.YtljkkejjnimjcaaDoor
open Go.RowKit

def fitB (n : Int) : Bool := decide (n = 1 ∨ n = 2 ∨ n = 4 ∨ n = 8)

set_option maxRecDepth 100000 in
set_option maxHeartbeats 1000000 in
theorem rfits_any (n : Int) (w : World) : Calls Tryd.prog 43 #[.int .i64 n] w fun e w' => e = .returned (.bool (fitB n)) ∧ w = w' := by
  by_cases h1 : n = 1
  · subst h1
    go_enter Tryd.func43, Tryd.ntmps43
    go_wp2_with fail
    go_ret
    exact ⟨rfl, rfl⟩
  by_cases h2 : n = 2
  · subst h2
    go_enter Tryd.func43, Tryd.ntmps43
    go_wp2_with fail
    go_ret
    exact ⟨rfl, rfl⟩
  by_cases h4 : n = 4
  · subst h4
    go_enter Tryd.func43, Tryd.ntmps43
    go_wp2_with fail
    go_ret
    exact ⟨rfl, rfl⟩
  by_cases h8 : n = 8
  · subst h8
    go_enter Tryd.func43, Tryd.ntmps43
    go_wp2_with fail
    go_ret
    exact ⟨rfl, rfl⟩
  have hd1 : (n == 1) = false := by simpa using h1
  have hd2 : (n == 2) = false := by simpa using h2
  have hd4 : (n == 4) = false := by simpa using h4
  have hd8 : (n == 8) = false := by simpa using h8
  have HF : Hid (fitB n = false) := by show _ = _; unfold fitB; simp; omega
  clear h1 h2 h4 h8
  go_enter Tryd.func43, Tryd.ntmps43
  go_wp2_with fail
  go_ret
  exact ⟨by rw [HF.out]; rfl, rfl⟩

set_option maxRecDepth 100000 in
set_option maxHeartbeats 2000000 in
theorem rjoin_any (A A2 : Option Addr) (n c n2 c2 h i : Nat) (x y : List Int) (w : World) (hs : Seg w w.heap.size .u8 A n x) (hn : n ≤ 1048576) (hc : n ≤ c) (hm : c ≤ maxLen) (ht : Seg w w.heap.size .u8 A2 n2 y) (hn2 : n2 ≤ 1048576) (hc2 : n2 ≤ c2) (hm2 : c2 ≤ maxLen) :
    Calls Tryd.prog 59 #[.int .i64 h, .int .i64 i, .slice A n c, .slice A2 n2 c2] w fun e w' => ∃ v, e = .returned v ∧ Row w' w.heap.size 5 .u8 v 16 (nodeT h i x y) ∧ Below w.heap.size w w' := by
  have HL := Lib.hid hs.1
  have HL2 := Lib.hid ht.1
  have HF := Lib.hid (laid_three w [(h : Int) % 256, (i : Int) % 256] A A2 n c n2 c2 x y 5 22 hs hc hm ht hc2 hm2 (by simp))
  clear hs ht
  go_enter Tryd.func59, Tryd.ntmps59
  go_wp2_with fail
  obtain ⟨wq, HWQ⟩ : ∃ wq, Hid ((w.alloc (.cells (ints .u8 [(h : Int) % 256, (i : Int) % 256]).toArray 5)).alloc (.cells #[.slice (some ⟨w.heap.size, 0, none⟩) 2 2, .slice A n c, .slice A2 n2 c2] 22) = wq) := ⟨_, rfl⟩
  have HF1 : Hid (Fields wq wq.heap.size (some ⟨w.heap.size + 1, 0, none⟩) 3 [[(h : Int) % 256, (i : Int) % 256], x, y]) := by show Fields _ _ _ _ _; rw [← HWQ.out]; exact HF.out.1
  have hb0 : Below w.heap.size w wq := by rw [← HWQ.out]; exact HF.out.2
  have hz := hb0.size
  show Calls Tryd.prog 66 _ ((w.alloc (.cells (ints .u8 [(h : Int) % 256, (i : Int) % 256]).toArray 5)).alloc (.cells #[.slice (some ⟨w.heap.size, 0, none⟩) 2 2, .slice A n c, .slice A2 n2 c2] 22)) _
  rw [HWQ.out]
  refine (rhash_any 3 _ 3 3 _ wq HF1.out (by omega) (by simp [tot]; rw [HL.out, HL2.out]; omega)).mono ?_
  rintro e w1 ⟨v1, rfl, hR1, hb1⟩
  obtain ⟨g1, c1, rfl, hg1⟩ := hR1.at_ (by omega)
  obtain ⟨h32, hm1⟩ := hR1.caps
  have HR2 := Lib.hid (hR1.cutTo (m := 16) (by omega) (by simp))
  clear hR1
  go_wp2_with fail
  go_ret
  exact ⟨_, rfl, Row.less HR2.out hz, hb0.trans (hb1.mono hz)⟩

set_option maxRecDepth 100000 in
set_option maxHeartbeats 2000000 in
theorem rup_any (A : Option Addr) (n c h : Nat) (fs : List (List Int)) (w : World) (hs : Fields w w.heap.size A n fs) (hn : n ≤ 1048576) (hsh : ∀ x ∈ fs, x.length ≤ 1048576) :
    Calls Tryd.prog 44 #[.int .i64 h, .slice A n c] w fun e w' => ∃ v, e = .returned v ∧ FRow w' w.heap.size w.heap.size v (n / 2) (upT h fs) ∧ Below w.heap.size w w' := by
  have HS := Lib.hid hs
  have HL := Lib.hid hs.1
  have HSH := Lib.hid hsh
  clear hs hsh
  go_enter Tryd.func44, Tryd.ntmps44
  go_wp2_with fail
  go_loopw [5, 6] (fun v i wr => ∃ k : Nat, k ≤ n / 2 ∧ i = .int .i64 k ∧ Hid (FRow wr w.heap.size w.heap.size v k (upTo h fs k)) ∧ Below w.heap.size w wr) (fun _ i _ => n / 2 - (intOf i).toNat)
  case atStart => exact ⟨0, by omega, rfl, FRow.nil _ _ _, Below.refl _ _⟩
  case round =>
    obtain ⟨k, hk, rfl, hR, hb⟩ := hrel
    have hz := hb.size
    obtain ⟨k2, hk2⟩ : ∃ k2 : Nat, Hid (2 * k = k2) := ⟨_, rfl⟩
    obtain ⟨k3, hk3⟩ : ∃ k3 : Nat, Hid (k2 + 1 = k3) := ⟨_, rfl⟩
    have hw1 : IntKind.i64.wrap (2 * (k : Int)) = (k2 : Int) := by have := hk2.out; rw [IntWalk.i64_in _ (by omega)]; omega
    have hw2 : IntKind.i64.wrap ((k2 : Int) + 1) = (k3 : Int) := by have := hk3.out; have := hk2.out; rw [IntWalk.i64_in _ (by omega)]; omega
    by_cases hlt : k3 < n
    · have hd : decide ((k3 : Int) < n) = true := by simpa using hlt
      obtain ⟨b, off, rfl, hbl, hcl⟩ := HS.out.2 (by omega)
      obtain ⟨A1, n1, c1, e1, s1, l1, m1⟩ := hcl k2 (by have := hk3.out; omega)
      obtain ⟨A2, n2, c2, e2, s2, l2, m2⟩ := hcl k3 hlt
      have hcx := (hb.cell (p := ⟨b, off + k2, none⟩) hbl).trans e1
      have hcy := (hb.cell (p := ⟨b, off + k3, none⟩) hbl).trans e2
      have hi0 : (0 : Int) ≤ (k2 : Int) := by omega
      have hi1 : (k2 : Int) < n := by have := hk3.out; omega
      have hi2 : (0 : Int) ≤ (k3 : Int) := by omega
      have hi3 : (k3 : Int) < n := by omega
      have HX1 := Lib.hid ((s1.below hb (Nat.le_refl _)).more hz)
      have HX2 := Lib.hid ((s2.below hb (Nat.le_refl _)).more hz)
      have hn1 : n1 ≤ 1048576 := by rw [← s1.1]; exact get_short HSH.out k2
      have hn2 : n2 ≤ 1048576 := by rw [← s2.1]; exact get_short HSH.out k3
      have HLT := Lib.hid hR.out.lt
      have hbd := hb.drew
      have HRD : Hid (FRow wr.drew w.heap.size w.heap.size _ k (upTo h fs k)) := hR.out
      have HCC : Hid (∀ W, Below w.heap.size w W → W.cell? ⟨b, off + k2, none⟩ = some (.slice A1 n1 c1) ∧ W.cell? ⟨b, off + k3, none⟩ = some (.slice A2 n2 c2)) := fun W hW => ⟨(hW.cell (p := ⟨b, off + k2, none⟩) hbl).trans e1, (hW.cell (p := ⟨b, off + k3, none⟩) hbl).trans e2⟩
      have HN : Hid (upTo h fs (k + 1) = upTo h fs k ++ [nodeT h k (fs.getD k2 []) (fs.getD k3 [])]) := by show _ = _; rw [upTo_next, hk2.out, hk3.out]
      clear hcl s1 s2 e1 e2
      go_wp2_with fail
      go_region_held3 (fun W => W.cell? ⟨b, off + k2, none⟩ = some (.slice A1 n1 c1) ∧ W.cell? ⟨b, off + k3, none⟩ = some (.slice A2 n2 c2))
        (first
          | go_keep
          | exact HCC.out _ hb4
          | exact HCC.out _ hb3
          | exact HCC.out _ hb2
          | exact HCC.out _ hbd)
        ((first
          | (refine step_app1 (by rfl) (.tmp 15) (.tmp 30) (by rfl) w.heap.size w.heap.size w2.heap.size _ k (upTo h fs k) (by rfl) HR3.out 1 A3 16 c3 (nodeT h k (fs.getD k2 []) (fs.getD k3 [])) (by rfl) hc3' HS3.out hcc3 hm3 HAP.out HD3.out (by omega) hb3.size ?_; intro v4 w4 hF4 hg4 hor4; have hb4 : Below w.heap.size w w4 := frow_below HR3.out hg4 hb3 hb3.size)
          | (go_at_call 59; refine (rjoin_any A1 A2 n1 c1 n2 c2 h k _ _ wr.drew HX1.out hn1 l1 m1 HX2.out hn2 l2 m2).mono ?_; rintro e w2 ⟨v2, rfl, hR2, hbx⟩; obtain ⟨A3, c3, rfl, hcc3, hm3⟩ := hR2.cut; have hb2 : Below w.heap.size w w2 := hbd.trans (hbx.mono hz); have hbA : Below w2.heap.size w2 (w2.alloc (.cells #[.slice A3 16 c3] 22)) := (Below.refl _ _).alloc (Nat.le_refl _) _; have hb3 := hb2.trans (hbA.mono hb2.size); have HR3 := Lib.hid ((FRow.below HRD.out hbx).below hbA); have hc3' := cell_made w2 #[.slice A3 16 c3] 22 _ 0 _ rfl rfl; have HS3 := Lib.hid ((hR2.seg.below hbA (Nat.le_refl _)).more hbA.size); have HAP := Lib.hid (hR2.apart (fun g hg => (HLT.out g hg).2)); have HD3 := Lib.hid (fun h0 a ha => Nat.le_trans hz (hR2.from_ h0 a ha)); clear hR2)))
      have HF4 : Hid (FRow w4 w.heap.size w.heap.size v4 (k + 1) (upTo h fs (k + 1))) := by show FRow _ _ _ _ _ _; rw [HN.out]; exact hF4
      have hkn : k + 1 ≤ n / 2 := by have := hk2.out; have := hk3.out; omega
      clear hF4 hg4 hor4
      go_wp2
      go_roundw
      case measure => simp [intOf]; omega
      case rel => exact ⟨k + 1, hkn, by go_num, HF4.out, hb4⟩
    · have hd : decide ((k3 : Int) < n) = false := by simpa using hlt
      have hkn : k = n / 2 := by have := hk2.out; have := hk3.out; omega
      rw [hkn] at hR
      clear hkn
      go_wp2_with fail
      go_ret
      rw [show upT h fs = upTo h fs (n / 2) by rw [upT, HL.out]]
      exact ⟨_, rfl, hR.out, hb⟩
end Go.Proofs.YtljkkejjnimjcaaDoor
