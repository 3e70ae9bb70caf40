/-
  The rounds of a block: the program's compress1.
-/
import Derived.Test.YtkcbbgmilaafeaaDoorComp
import Derived.Test.YtkcbbgmilaafeaaDoorExpandB
namespace Go.Proofs.YtkcbbgmilaafeaaDoor
open Go.RowKit

theorem five {s : List Int} (h : s.length = 5) : ∃ a b c d e, s = [a, b, c, d, e] := by
  match s, h with
  | [a, b, c, d, e], _ => exact ⟨a, b, c, d, e, rfl⟩
theorem round1I_of (t : Nat) (w a b c d e : Int) : round1I t w [a, b, c, d, e] = [(rotlI a 5 + f1I t b c d + e + k1I t + w) % 4294967296, a, rotlI b 30, c, d] := by
  rw [sum5]
  rfl

set_option maxRecDepth 100000 in
set_option maxHeartbeats 2000000 in
theorem compress1_any (S W : List Int) (w : World) (hS : S.length = 5) (hW : W.length = 80) :
    Calls Tryd.prog 46 #[.agg (ints .u32 S).toArray, .agg (ints .u32 W).toArray] w fun e w' => e = .returned (.agg (ints .u32 (comp1 W S)).toArray) ∧ Below w.heap.size w w' := by
  obtain ⟨s0, s1, s2, s3, s4, rfl⟩ := five hS
  have HW := Lib.hid hW
  have hz80 := Tryd.zero80
  clear hW hS
  go_enter Tryd.func46, Tryd.ntmps46
  go_wp2_with fail
  generalize hw1 : World.alloc _ _ = w1
  have hb : Below w.heap.size w w1 := by rw [← hw1]; exact (((Below.refl _ _).alloc (Nat.le_refl _) _).alloc (by simp) _).alloc (by simp; omega) _
  have hS : Blk w1 w.heap.size 57 .u32 [s0, s1, s2, s3, s4] := by rw [← hw1]; exact ((Blk.new w _ _ _).alloc _).alloc _
  have hWb : Blk w1 (w.heap.size + 1) 60 .u32 W := by rw [← hw1]; exact (Blk.new' _ _ _ _ _ (size_alloc1 _ _)).alloc _
  have hR : Blk w1 (w.heap.size + 1 + 1) 57 .u32 [0, 0, 0, 0, 0] := by
    rw [← hw1]
    exact Blk.new' _ _ .u32 [0, 0, 0, 0, 0] _ (size_alloc2 _ _ _)
  clear hw1
  have c0 := hS.cell 0 (by simp)
  have c1 := hS.cell 1 (by simp)
  have c2 := hS.cell 2 (by simp)
  have c3 := hS.cell 3 (by simp)
  have c4 := hS.cell 4 (by simp)
  simp only [List.getD_cons_zero, List.getD_cons_succ] at c0 c1 c2 c3 c4
  go_quiet (fail)
  generalize hwq : World.drewN _ _ = w2
  replace hb : Below w.heap.size w w2 := by rw [← hwq]; exact below_drewN hb nq
  replace hS : Blk w2 w.heap.size 57 .u32 [s0, s1, s2, s3, s4] := by rw [← hwq]; exact hS.drewN nq
  replace hWb : Blk w2 (w.heap.size + 1) 60 .u32 W := by rw [← hwq]; exact hWb.drewN nq
  replace hR : Blk w2 (w.heap.size + 1 + 1) 57 .u32 [0, 0, 0, 0, 0] := by rw [← hwq]; exact hR.drewN nq
  clear c0 c1 c2 c3 c4 hwq
  go_wp2_with (with_reducible refine wpList_loadInts rfl 60 (.tmp 3) rfl (w.heap.size + 1) rfl 60 .u32 _ hWb 80 48 Tryd.underlying60 Tryd.size80 HW.out ?_)
  go_loop [5, 6, 7, 8, 9, 28] (fun a b c d e i => ∃ (k : Nat) (v0 v1 v2 v3 v4 : Int), k ≤ 80 ∧ i = .int .i64 k ∧ Hid (rounds1 W [s0, s1, s2, s3, s4] k = [v0, v1, v2, v3, v4]) ∧
      a = .int .u32 v0 ∧ b = .int .u32 v1 ∧ c = .int .u32 v2 ∧ d = .int .u32 v3 ∧ e = .int .u32 v4)
    (fun _ _ _ _ _ i => 80 - (intOf i).toNat)
  case atStart => exact ⟨0, _, _, _, _, _, by omega, rfl, rfl, rfl, rfl, rfl, rfl, rfl⟩
  case round =>
    obtain ⟨k, v0, v1, v2, v3, v4, hk, rfl, hv, rfl, rfl, rfl, rfl, rfl⟩ := hrel
    by_cases hlt : k < 80
    · obtain ⟨wk, hwk⟩ : ∃ wk, Hid (W.getD k 0 = wk) := ⟨_, rfl⟩
      have hidx := fun w => run_index_ints (P := Tryd.prog) 60 48 80 .u32 W k Tryd.underlying60 Tryd.underlying48 (by kernel_rfl) hlt HW.out w
      rw [hwk.out] at hidx
      have hd : decide ((k : Int) < 80) = true := by simp; omega
      go_wp2_with (first
        | (go_at_call 53; refine (round1_any k _ _ _ _).mono ?_; rintro e w' ⟨rfl, rfl⟩)
        | (go_at_call 54; refine (rotl_any _ _ _ (by omega) (by omega)).mono ?_; rintro e w' ⟨rfl, rfl⟩))
      go_round
      case measure => simp [intOf]; omega
      case rel =>
        refine ⟨k + 1, _, v0, _, v2, v3, by omega, by go_num, ?_, rfl, rfl, rfl, rfl, rfl⟩
        show round1I k (W.getD k 0) (rounds1 W [s0, s1, s2, s3, s4] k) = _
        rw [hv.out, hwk.out]
        exact round1I_of _ _ _ _ _ _ _
    · have hd : decide ((k : Int) < 80) = false := by simp; omega
      have hv80 : Hid (rounds1 W [s0, s1, s2, s3, s4] 80 = [v0, v1, v2, v3, v4]) := by
        have e80 : k = 80 := by omega
        rw [e80] at hv
        exact hv
      clear hv hWb
      go_wp2_with fail
      go_loopw [63] (fun i wr => ∃ j : Nat, j ≤ 5 ∧ i = .int .i64 j ∧ Blk wr w.heap.size 57 .u32 (addTo [s0, s1, s2, s3, s4] [v0, v1, v2, v3, v4] j) ∧
          Blk wr (w.heap.size + 1 + 1) 57 .u32 [0, 0, 0, 0, 0] ∧ Below w.heap.size w wr)
        (fun i _ => 5 - (intOf i).toNat)
      case atStart => exact ⟨0, by omega, rfl, by rw [addTo_zero]; exact hS, hR, hb⟩
      case round =>
        clear hS hR hb hd
        obtain ⟨j, hj, rfl, hS, hR, hb⟩ := hrel
        by_cases hjt : j < 5
        · have hd : decide ((j : Int) < 5) = true := by simp; omega
          have hlen := addTo_length [s0, s1, s2, s3, s4] [v0, v1, v2, v3, v4] j rfl (by simpa using hj)
          have hc := hS.cell j (by rw [hlen]; simpa using hjt)
          have hf := hS.frozen j
          have hSV : [s0, s1, s2, s3, s4].length = [v0, v1, v2, v3, v4].length := rfl
          rw [addTo_get _ _ _ hSV (by simpa using hjt)] at hc
          have hset := fun x => addTo_set [s0, s1, s2, s3, s4] [v0, v1, v2, v3, v4] j x rfl (by simpa using hjt)
          obtain ⟨x, hx⟩ : ∃ x, Hid ([s0, s1, s2, s3, s4].getD j 0 = x) := ⟨_, rfl⟩
          obtain ⟨y, hy⟩ : ∃ y, Hid ([v0, v1, v2, v3, v4].getD j 0 = y) := ⟨_, rfl⟩
          rw [hx.out] at hc
          rw [hx.out, hy.out] at hset
          have HS := Lib.hid hset
          have hidx : ∀ w, (Instr.index 57 (.agg #[.int .u32 v0, .int .u32 v1, .int .u32 v2, .int .u32 v3, .int .u32 v4]) (.int .i64 (j : Int))).run Tryd.prog w = .ok (.int .u32 y) w := fun w => by
            have h := run_index_ints (P := Tryd.prog) 57 48 5 .u32 [v0, v1, v2, v3, v4] j Tryd.underlying57 Tryd.underlying48 (by kernel_rfl) hjt rfl w
            rw [hy.out] at h
            exact h
          clear hset hlen
          go_wp2_with fail
          go_roundw
          case measure => simp [intOf]; omega
          case rel =>
            refine ⟨j + 1, by omega, by go_num, ?_, hR.far (by simp; omega) _, hb.setCell (by simp) _⟩
            rw [← HS.out _ rfl]
            exact hS.set_ j _
        · have hd : decide ((j : Int) < 5) = false := by simp; omega
          have hS5 : Blk wr w.heap.size 57 .u32 (comp1 W [s0, s1, s2, s3, s4]) := by
            have e5 : j = 5 := by omega
            have hSV : [s0, s1, s2, s3, s4].length = [v0, v1, v2, v3, v4].length := rfl
            rw [e5, addTo_full _ _ 5 hSV rfl, ← hv80.out] at hS
            exact hS
          obtain ⟨R, HR⟩ : ∃ R, Hid (comp1 W [s0, s1, s2, s3, s4] = R) := ⟨_, rfl⟩
          have hlR : Hid (R.length = 5) := by
            rw [← HR.out]
            show (comp1 W _).length = 5
            simp [comp1, rounds1_length]
          rw [HR.out] at hS5
          clear hS
          go_wp2_with (first
            | (with_reducible refine wpList_loadInts rfl 57 (.tmp 2) rfl w.heap.size rfl 57 .u32 _ hS5 5 48 Tryd.underlying57 Tryd.size5 hlR.out ?_)
            | (with_reducible refine wpList_storeInts rfl 57 (.tmp 4) (.tmp 74) rfl (w.heap.size + 1 + 1) rfl 57 .u32 _ R rfl hR 5 Tryd.size5 (by simp) hlR.out ?_))
          refine bodyPost_ret ((hR.setRow R).result rfl _ rfl 5 48 Tryd.underlying57 Tryd.size5 hlR.out) rfl ⟨?_, below_setRow' hb (by omega) _⟩
          rw [← HR.out]
end Go.Proofs.YtkcbbgmilaafeaaDoor
