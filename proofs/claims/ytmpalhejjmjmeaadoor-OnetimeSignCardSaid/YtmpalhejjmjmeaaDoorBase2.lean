/-
  The schedule of a block: the program's expand1.
  The rounds of a block: the program's compress1.
  What the closures of sum256 and sum1 do with a block.
  The end of a message (pad) and the bytes of words (join).
  What the closure of sum1 does with a block.
-/
import Derived.Test.YtmpalhejjmjmeaaDoorBase1
import Derived.StillTailTactics
import Derived.Deep.RegionHeld3
namespace Go.Proofs.YtmpalhejjmjmeaaDoor
open Go.RowKit

set_option maxRecDepth 100000 in
set_option maxHeartbeats 1000000 in
theorem expand1_any (b off cap : Nat) (xs : List Int) (w : World) (hcap : 64 ≤ cap) (hcm : cap ≤ 9223372036854775807) (hb : b < w.heap.size)
    (hx : ∀ j, j < 64 → w.cell? ⟨b, off + j, none⟩ = some (.int .u8 (xs.getD j 0))) :
    Calls Tryd.prog 56 #[.slice (some ⟨b, off, none⟩) 64 cap] w fun e w' => e = .returned (.agg (ints .u32 (sch (wordAtI xs) next1 80)).toArray) ∧ Below w.heap.size w w' := by
  have hz80 := Tryd.zero80
  have HX := Lib.hid hx
  clear hx
  go_enter Tryd.func56, Tryd.ntmps56
  go_wp2_with fail
  go_loopw [6] (fun i wr => ∃ k : Nat, k ≤ 16 ∧ i = .int .i64 k ∧ Blk wr (w.heap.size + 1) 65 .u32 (fillW 80 (sch (wordAtI xs) next1 k)) ∧ Blk wr w.heap.size 65 .u32 (List.replicate 80 0) ∧ Below w.heap.size w wr)
    (fun i _ => 16 - (intOf i).toNat)
  case atStart => exact ⟨0, by omega, rfl, Blk.new' (w.alloc _) 65 .u32 (List.replicate 80 0) _ (by simp), (Blk.new w 65 .u32 (List.replicate 80 0)).alloc _, ((Below.refl _ _).alloc (Nat.le_refl _) _).alloc (by simp) _⟩
  case round =>
    obtain ⟨k, hk, rfl, hW, hR, hbel⟩ := hrel
    by_cases hlt : k < 16
    · have hxk : ∀ j, j < 4 → wr.cell? ⟨b, off + 4 * k + j, none⟩ = some (.int .u8 (xs.getD (4 * k + j) 0)) := fun j hj => by
        rw [Nat.add_assoc]
        exact (hbel.cell (p := ⟨b, _, none⟩) hb).trans (HX.out (4 * k + j) (by omega))
      have C : Hid (Calls Tryd.prog 66 #[.slice (some ⟨b, off + 4 * k, none⟩) (64 - 4 * k) (cap - 4 * k)] wr fun e w' => e = .returned (.int .u32 (wordAtI xs k)) ∧ ∃ n, w' = wr.drewN n) :=
        Lib.hid (wordAt_any b (off + 4 * k) (64 - 4 * k) (cap - 4 * k) _ _ _ _ wr (by omega) (by omega) (hxk 0 (by omega)) (hxk 1 (by omega)) (hxk 2 (by omega)) (hxk 3 (by omega)))
      clear hxk
      have hcW := hW.cell k (by rw [fillW_length _ _ (by rw [sch_length]; omega)]; omega)
      have hfW := hW.frozen k
      have hd : decide ((k : Int) < 16) = true := by simp; omega
      go_wp2_with (go_at_call 66; refine C.out.mono ?_; rintro e w' ⟨rfl, n, rfl⟩)
      go_roundw
      case measure => simp [intOf]; omega
      case rel =>
        exact ⟨k + 1, by omega, by go_num, by rw [sch_low _ _ _ hlt, fillW_next 80 k _ _ (sch_length _ _ _) (by omega)]; exact (hW.drewN n).set_ k _,
          (hR.drewN n).far (by simp) _, (below_drewN hbel n).setCell (by simp) _⟩
    · have hd : decide ((k : Int) < 16) = false := by simp; omega
      have e16 : k = 16 := by omega
      rw [e16] at hW
      clear e16
      go_wp2_with fail
      go_loopw [5] (fun i wr => ∃ k : Nat, 16 ≤ k ∧ k ≤ 80 ∧ i = .int .i64 k ∧ Blk wr (w.heap.size + 1) 65 .u32 (fillW 80 (sch (wordAtI xs) next1 k)) ∧ Blk wr w.heap.size 65 .u32 (List.replicate 80 0) ∧ Below w.heap.size w wr)
        (fun i _ => 80 - (intOf i).toNat)
      case atStart => exact ⟨16, by omega, by omega, rfl, hW, hR, hbel⟩
      case round =>
        clear hW hR hbel hd
        obtain ⟨k, hk0, hk, rfl, hW, hR, hbel⟩ := hrel
        by_cases hlt : k < 80
        · have hll := sch_length (wordAtI xs) next1 k
          have hcW := hW.cell k (by rw [fillW_length _ _ (by omega)]; omega)
          have hfW := hW.frozen k
          have hget : ∀ i, 2 ≤ i → i ≤ 16 → ∃ x, x = (sch (wordAtI xs) next1 k).getD (k - i) 0 ∧ wr.cell? ⟨w.heap.size + 1, k - i, none⟩ = some (.int .u32 x) := fun i h2 h16 =>
            ⟨_, rfl, by rw [hW.cell (k - i) (by rw [fillW_length _ _ (by omega)]; omega), fillW_get _ _ _ (by omega)]⟩
          obtain ⟨x3, e3, c3⟩ := hget 3 (by omega) (by omega)
          obtain ⟨x8, e8, c8⟩ := hget 8 (by omega) (by omega)
          obtain ⟨x14, e14, c14⟩ := hget 14 (by omega) (by omega)
          obtain ⟨x16, e16, c16⟩ := hget 16 (by omega) (by omega)
          have HN := Lib.hid (next1_of _ k x3 x8 x14 x16 hll e3 e8 e14 e16)
          clear hget e3 e8 e14 e16 hll
          have hd : decide ((k : Int) < 80) = true := by simp; omega
          go_wp2_with fail
          have w3 : IntKind.i64.wrap ((k : Int) - 3) = (k : Int) - 3 := IntWalk.i64_in _ (by omega)
          have w8 : IntKind.i64.wrap ((k : Int) - 8) = (k : Int) - 8 := IntWalk.i64_in _ (by omega)
          have w14 : IntKind.i64.wrap ((k : Int) - 14) = (k : Int) - 14 := IntWalk.i64_in _ (by omega)
          have w16 : IntKind.i64.wrap ((k : Int) - 16) = (k : Int) - 16 := IntWalk.i64_in _ (by omega)
          have n3 : ((k : Int) - 3).toNat = k - 3 := by omega
          have n8 : ((k : Int) - 8).toNat = k - 8 := by omega
          have n14 : ((k : Int) - 14).toNat = k - 14 := by omega
          have n16 : ((k : Int) - 16).toNat = k - 16 := by omega
          have p3 : (3 : Int) ≤ (k : Int) := by omega
          have p8 : (8 : Int) ≤ (k : Int) := by omega
          have p14 : (14 : Int) ≤ (k : Int) := by omega
          have p16 : (16 : Int) ≤ (k : Int) := by omega
          have q3 : (k : Int) - 3 < 80 := by omega
          have q8 : (k : Int) - 8 < 80 := by omega
          have q14 : (k : Int) - 14 < 80 := by omega
          have q16 : (k : Int) - 16 < 80 := by omega
          have q0 : (k : Int) < 80 := by omega
          have hrl := Lib.hid (fun (x : Int) (W : World) => ((rotl_any x 1 W (by omega) (by omega)).mono fun _ _ h => ⟨h.1, h.2.symm⟩ : Calls Tryd.prog 65 #[.int .u32 x, .int .u64 1] W fun e w' => e = .returned (.int .u32 (rotlI x 1)) ∧ w' = W))
          refine wp_region_still_tail 22 (by kernel_rfl) (by kernel_rfl) ?_
          simp only [List.take_succ_cons, List.take_zero, List.drop_succ_cons, List.drop_zero]
          iterate 20 still_step
          still_call (hrl.out _ _)
          still_step
          refine wpStill_nil ?_
          clear w3 w8 w14 w16 n3 n8 n14 n16 p3 p8 p14 p16 q3 q8 q14 q16 q0
          change wpList _ _ _ _ _ wr.drew
          go_wp2
          go_roundw
          case measure => simp [intOf]; omega
          case rel =>
            refine ⟨k + 1, by omega, by omega, by go_num, ?_, (hR.drewN _).far (by simp) _, (below_drewN hbel _).setCell (by simp) _⟩
            rw [sch_high _ _ _ hk0, fillW_next 80 k _ _ (sch_length _ _ _) (by omega), HN.out]
            exact (hW.drewN _).set_ k _
        · have hd : decide ((k : Int) < 80) = false := by simp; omega
          have e64 : k = 80 := by omega
          rw [e64] at hW
          clear e64
          have hll := fillW_length 80 (sch (wordAtI xs) next1 80) (by rw [sch_length]; omega)
          obtain ⟨W, HW⟩ : ∃ W, Hid (fillW 80 (sch (wordAtI xs) next1 80) = W) := ⟨_, rfl⟩
          rw [HW.out] at hW hll
          have HL := Lib.hid hll
          clear hll
          go_wp2_with (first
            | (with_reducible refine wpList_loadInts rfl 65 (.tmp 3) rfl (w.heap.size + 1) rfl 65 .u32 _ hW 80 52 Tryd.underlying65 Tryd.size80 HL.out ?_)
            | (with_reducible refine wpList_storeInts rfl 65 (.tmp 2) (.tmp 43) rfl w.heap.size rfl 65 .u32 _ W rfl hR 80 Tryd.size80 (by simp) HL.out ?_))
          refine bodyPost_ret ((hR.setRow W).result rfl _ rfl 80 52 Tryd.underlying65 Tryd.size80 HL.out) rfl ⟨?_, below_setRow' hbel (Nat.le_refl _) _⟩
          rw [← HW.out, fillW_full _ _ (sch_length _ _ _)]
end Go.Proofs.YtmpalhejjmjmeaaDoor
namespace Go.Proofs.YtmpalhejjmjmeaaDoor
open Go.RowKit

theorem five {s : List Int} (h : s.length = 5) : ∃ a b c d e, s = [a, b, c, d, e] := by
  match s, h with
  | [a, b, c, d, e], _ => exact ⟨a, b, c, d, e, rfl⟩
theorem round1I_of (t : Nat) (w a b c d e : Int) : round1I t w [a, b, c, d, e] = [(rotlI a 5 + f1I t b c d + e + k1I t + w) % 4294967296, a, rotlI b 30, c, d] := by
  rw [sum5]
  rfl

set_option maxRecDepth 100000 in
set_option maxHeartbeats 2000000 in
theorem compress1_any (S W : List Int) (w : World) (hS : S.length = 5) (hW : W.length = 80) :
    Calls Tryd.prog 55 #[.agg (ints .u32 S).toArray, .agg (ints .u32 W).toArray] w fun e w' => e = .returned (.agg (ints .u32 (comp1 W S)).toArray) ∧ Below w.heap.size w w' := by
  obtain ⟨s0, s1, s2, s3, s4, rfl⟩ := five hS
  have HW := Lib.hid hW
  have hz80 := Tryd.zero80
  clear hW hS
  go_enter Tryd.func55, Tryd.ntmps55
  go_wp2_with fail
  generalize hw1 : World.alloc _ _ = w1
  have hb : Below w.heap.size w w1 := by rw [← hw1]; exact (((Below.refl _ _).alloc (Nat.le_refl _) _).alloc (by simp) _).alloc (by simp; omega) _
  have hS : Blk w1 w.heap.size 62 .u32 [s0, s1, s2, s3, s4] := by rw [← hw1]; exact ((Blk.new w _ _ _).alloc _).alloc _
  have hWb : Blk w1 (w.heap.size + 1) 65 .u32 W := by rw [← hw1]; exact (Blk.new' _ _ _ _ _ (size_alloc1 _ _)).alloc _
  have hR : Blk w1 (w.heap.size + 1 + 1) 62 .u32 [0, 0, 0, 0, 0] := by
    rw [← hw1]
    exact Blk.new' _ _ .u32 [0, 0, 0, 0, 0] _ (size_alloc2 _ _ _)
  clear hw1
  have c0 := hS.cell 0 (by simp)
  have c1 := hS.cell 1 (by simp)
  have c2 := hS.cell 2 (by simp)
  have c3 := hS.cell 3 (by simp)
  have c4 := hS.cell 4 (by simp)
  simp only [List.getD_cons_zero, List.getD_cons_succ] at c0 c1 c2 c3 c4
  go_quiet (fail)
  generalize hwq : World.drewN _ _ = w2
  replace hb : Below w.heap.size w w2 := by rw [← hwq]; exact below_drewN hb nq
  replace hS : Blk w2 w.heap.size 62 .u32 [s0, s1, s2, s3, s4] := by rw [← hwq]; exact hS.drewN nq
  replace hWb : Blk w2 (w.heap.size + 1) 65 .u32 W := by rw [← hwq]; exact hWb.drewN nq
  replace hR : Blk w2 (w.heap.size + 1 + 1) 62 .u32 [0, 0, 0, 0, 0] := by rw [← hwq]; exact hR.drewN nq
  clear c0 c1 c2 c3 c4 hwq
  go_wp2_with (with_reducible refine wpList_loadInts rfl 65 (.tmp 3) rfl (w.heap.size + 1) rfl 65 .u32 _ hWb 80 52 Tryd.underlying65 Tryd.size80 HW.out ?_)
  go_loop [5, 6, 7, 8, 9, 28] (fun a b c d e i => ∃ (k : Nat) (v0 v1 v2 v3 v4 : Int), k ≤ 80 ∧ i = .int .i64 k ∧ Hid (rounds1 W [s0, s1, s2, s3, s4] k = [v0, v1, v2, v3, v4]) ∧
      a = .int .u32 v0 ∧ b = .int .u32 v1 ∧ c = .int .u32 v2 ∧ d = .int .u32 v3 ∧ e = .int .u32 v4)
    (fun _ _ _ _ _ i => 80 - (intOf i).toNat)
  case atStart => exact ⟨0, _, _, _, _, _, by omega, rfl, rfl, rfl, rfl, rfl, rfl, rfl⟩
  case round =>
    obtain ⟨k, v0, v1, v2, v3, v4, hk, rfl, hv, rfl, rfl, rfl, rfl, rfl⟩ := hrel
    by_cases hlt : k < 80
    · obtain ⟨wk, hwk⟩ : ∃ wk, Hid (W.getD k 0 = wk) := ⟨_, rfl⟩
      have hidx := fun w => run_index_ints (P := Tryd.prog) 65 52 80 .u32 W k Tryd.underlying65 Tryd.underlying52 (by kernel_rfl) hlt HW.out w
      rw [hwk.out] at hidx
      have hd : decide ((k : Int) < 80) = true := by simp; omega
      go_wp2_with (first
        | (go_at_call 64; refine (round1_any k _ _ _ _).mono ?_; rintro e w' ⟨rfl, rfl⟩)
        | (go_at_call 65; refine (rotl_any _ _ _ (by omega) (by omega)).mono ?_; rintro e w' ⟨rfl, rfl⟩))
      go_round
      case measure => simp [intOf]; omega
      case rel =>
        refine ⟨k + 1, _, v0, _, v2, v3, by omega, by go_num, ?_, rfl, rfl, rfl, rfl, rfl⟩
        show round1I k (W.getD k 0) (rounds1 W [s0, s1, s2, s3, s4] k) = _
        rw [hv.out, hwk.out]
        exact round1I_of _ _ _ _ _ _ _
    · have hd : decide ((k : Int) < 80) = false := by simp; omega
      have hv80 : Hid (rounds1 W [s0, s1, s2, s3, s4] 80 = [v0, v1, v2, v3, v4]) := by
        have e80 : k = 80 := by omega
        rw [e80] at hv
        exact hv
      clear hv hWb
      go_wp2_with fail
      go_loopw [63] (fun i wr => ∃ j : Nat, j ≤ 5 ∧ i = .int .i64 j ∧ Blk wr w.heap.size 62 .u32 (addTo [s0, s1, s2, s3, s4] [v0, v1, v2, v3, v4] j) ∧
          Blk wr (w.heap.size + 1 + 1) 62 .u32 [0, 0, 0, 0, 0] ∧ Below w.heap.size w wr)
        (fun i _ => 5 - (intOf i).toNat)
      case atStart => exact ⟨0, by omega, rfl, by rw [addTo_zero]; exact hS, hR, hb⟩
      case round =>
        clear hS hR hb hd
        obtain ⟨j, hj, rfl, hS, hR, hb⟩ := hrel
        by_cases hjt : j < 5
        · have hd : decide ((j : Int) < 5) = true := by simp; omega
          have hlen := addTo_length [s0, s1, s2, s3, s4] [v0, v1, v2, v3, v4] j rfl (by simpa using hj)
          have hc := hS.cell j (by rw [hlen]; simpa using hjt)
          have hf := hS.frozen j
          have hSV : [s0, s1, s2, s3, s4].length = [v0, v1, v2, v3, v4].length := rfl
          rw [addTo_get _ _ _ hSV (by simpa using hjt)] at hc
          have hset := fun x => addTo_set [s0, s1, s2, s3, s4] [v0, v1, v2, v3, v4] j x rfl (by simpa using hjt)
          obtain ⟨x, hx⟩ : ∃ x, Hid ([s0, s1, s2, s3, s4].getD j 0 = x) := ⟨_, rfl⟩
          obtain ⟨y, hy⟩ : ∃ y, Hid ([v0, v1, v2, v3, v4].getD j 0 = y) := ⟨_, rfl⟩
          rw [hx.out] at hc
          rw [hx.out, hy.out] at hset
          have HS := Lib.hid hset
          have hidx : ∀ w, (Instr.index 62 (.agg #[.int .u32 v0, .int .u32 v1, .int .u32 v2, .int .u32 v3, .int .u32 v4]) (.int .i64 (j : Int))).run Tryd.prog w = .ok (.int .u32 y) w := fun w => by
            have h := run_index_ints (P := Tryd.prog) 62 52 5 .u32 [v0, v1, v2, v3, v4] j Tryd.underlying62 Tryd.underlying52 (by kernel_rfl) hjt rfl w
            rw [hy.out] at h
            exact h
          clear hset hlen
          go_wp2_with fail
          go_roundw
          case measure => simp [intOf]; omega
          case rel =>
            refine ⟨j + 1, by omega, by go_num, ?_, hR.far (by simp; omega) _, hb.setCell (by simp) _⟩
            rw [← HS.out _ rfl]
            exact hS.set_ j _
        · have hd : decide ((j : Int) < 5) = false := by simp; omega
          have hS5 : Blk wr w.heap.size 62 .u32 (comp1 W [s0, s1, s2, s3, s4]) := by
            have e5 : j = 5 := by omega
            have hSV : [s0, s1, s2, s3, s4].length = [v0, v1, v2, v3, v4].length := rfl
            rw [e5, addTo_full _ _ 5 hSV rfl, ← hv80.out] at hS
            exact hS
          obtain ⟨R, HR⟩ : ∃ R, Hid (comp1 W [s0, s1, s2, s3, s4] = R) := ⟨_, rfl⟩
          have hlR : Hid (R.length = 5) := by
            rw [← HR.out]
            show (comp1 W _).length = 5
            simp [comp1, rounds1_length]
          rw [HR.out] at hS5
          clear hS
          go_wp2_with (first
            | (with_reducible refine wpList_loadInts rfl 62 (.tmp 2) rfl w.heap.size rfl 62 .u32 _ hS5 5 52 Tryd.underlying62 Tryd.size5 hlR.out ?_)
            | (with_reducible refine wpList_storeInts rfl 62 (.tmp 4) (.tmp 74) rfl (w.heap.size + 1 + 1) rfl 62 .u32 _ R rfl hR 5 Tryd.size5 (by simp) hlR.out ?_))
          refine bodyPost_ret ((hR.setRow R).result rfl _ rfl 5 52 Tryd.underlying62 Tryd.size5 hlR.out) rfl ⟨?_, below_setRow' hb (by omega) _⟩
          rw [← HR.out]
end Go.Proofs.YtmpalhejjmjmeaaDoor
namespace Go.Proofs.YtmpalhejjmjmeaaDoor
open Go.RowKit

set_option maxRecDepth 100000 in
set_option maxHeartbeats 2000000 in
theorem block256_any (b off cap g : Nat) (xs S : List Int) (w : World) (hcap : 64 ≤ cap) (hcm : cap ≤ 9223372036854775807) (hb : b < w.heap.size)
    (hx : ∀ j, j < 64 → w.cell? ⟨b, off + j, none⟩ = some (.int .u8 (xs.getD j 0))) (hS : S.length = 8) (hg : Blk w g 69 .u32 S) (hK : Tab w 0 .u32 kay256) :
    Calls Tryd.prog 58 #[.slice (some ⟨b, off, none⟩) 64 cap, .pointer (some ⟨g, 0, none⟩)] w fun e w' => e = .returned (.tuple #[]) ∧ Blk w' g 69 .u32 (step256 S xs) ∧ But w w' g := by
  obtain ⟨s0, s1, s2, s3, s4, s5, s6, s7, rfl⟩ := eight hS
  have HE := Lib.hid (fun (W : World) (h : Below w.heap.size w W) => expand256_any b off cap xs W hcap hcm (Nat.lt_of_lt_of_le hb h.size) (fun j hj => (h.cell (p := ⟨b, off + j, none⟩) hb).trans (hx j hj)))
  have HC := Lib.hid (fun (W : World) (h : Below w.heap.size w W) => compress256_any [s0, s1, s2, s3, s4, s5, s6, s7] (sch (wordAtI xs) next256 64) W rfl (sch_length _ _ _) (hK.below h hK.lt))
  have hgl := hg.lt
  have HG := Lib.hid hg
  have HX := Lib.hid hx
  have HKK := Lib.hid hK
  clear hx hK hg hS
  obtain ⟨W64, HW⟩ : ∃ l, Hid (sch (wordAtI xs) next256 64 = l) := ⟨_, rfl⟩
  rw [HW.out] at HE HC
  have hcells : ∀ W, Below w.heap.size w W → W.cell? ⟨g, 0, none⟩ = some (.int .u32 s0) ∧ W.cell? ⟨g, 1, none⟩ = some (.int .u32 s1) ∧ W.cell? ⟨g, 2, none⟩ = some (.int .u32 s2) ∧ W.cell? ⟨g, 3, none⟩ = some (.int .u32 s3) ∧
      W.cell? ⟨g, 4, none⟩ = some (.int .u32 s4) ∧ W.cell? ⟨g, 5, none⟩ = some (.int .u32 s5) ∧ W.cell? ⟨g, 6, none⟩ = some (.int .u32 s6) ∧ W.cell? ⟨g, 7, none⟩ = some (.int .u32 s7) := fun W h => by
    have hb := HG.out.below h hgl
    exact ⟨hb.cell 0 (by simp), hb.cell 1 (by simp), hb.cell 2 (by simp), hb.cell 3 (by simp), hb.cell 4 (by simp), hb.cell 5 (by simp), hb.cell 6 (by simp), hb.cell 7 (by simp)⟩
  have HCL := Lib.hid hcells
  have HFR := Lib.hid (fun (W : World) (h : Below w.heap.size w W) (i : Nat) => (HG.out.below h hgl).frozen i)
  obtain ⟨c0, c1, c2, c3, c4, c5, c6, c7⟩ := hcells w (Below.refl _ _)
  clear hcells
  obtain ⟨r0, r1, r2, r3, r4, r5, r6, r7, hR⟩ := eight (s := comp256 W64 [s0, s1, s2, s3, s4, s5, s6, s7]) (by simp [comp256, rounds256_length])
  have HR := Lib.hid hR
  have HC2 : Hid (∀ W, Below w.heap.size w W → Calls Tryd.prog 59 #[.agg #[.int .u32 s0, .int .u32 s1, .int .u32 s2, .int .u32 s3, .int .u32 s4, .int .u32 s5, .int .u32 s6, .int .u32 s7], .agg (ints .u32 W64).toArray] W fun e w' =>
      e = .returned (.agg #[.int .u32 r0, .int .u32 r1, .int .u32 r2, .int .u32 r3, .int .u32 r4, .int .u32 r5, .int .u32 r6, .int .u32 r7]) ∧ Below W.heap.size W w') := fun W h => by
    have := HC.out W h
    rw [hR] at this
    exact this
  clear hR HC
  go_enter Tryd.func58, Tryd.ntmps58
  go_wp2_with fail
  go_region_with (first
    | (go_at_call 60; refine (HE.out _ ?_).mono ?_; exact (Below.refl _ _).drew; rintro e w1 ⟨rfl, hb1⟩; have hbw1 : Below w.heap.size w w1 := (Below.refl _ _).drew.trans hb1; obtain ⟨d0, d1, d2, d3, d4, d5, d6, d7⟩ := HCL.out w1 hbw1; clear hb1)
    | (go_at_call 59; refine (HC2.out _ ?_).mono ?_; assumption; rintro e w2 ⟨rfl, hb2⟩; have hbw2 : Below w.heap.size w w2 := hbw1.trans (hb2.mono hbw1.size); obtain ⟨e0, e1, e2, e3, e4, e5, e6, e7⟩ := HCL.out w2 hbw2; have ef := HFR.out w2 hbw2; clear hb2))
  all_goals
    go_wp2
    go_end0
    refine ⟨rfl, ?_, ?_⟩
    · have hB := ((((((((HG.out.below hbw2 hgl).set_ 0 r0).set_ 1 r1).set_ 2 r2).set_ 3 r3).set_ 4 r4).set_ 5 r5).set_ 6 r6).set_ 7 r7
      show Blk _ g 69 .u32 (comp256 (sch (wordAtI xs) next256 64) [s0, s1, s2, s3, s4, s5, s6, s7])
      rw [HW.out, HR.out]
      exact hB
    · exact ((((((((but_of_below hbw2 g).set_ 0 _).set_ 1 _).set_ 2 _).set_ 3 _).set_ 4 _).set_ 5 _).set_ 6 _).set_ 7 _
end Go.Proofs.YtmpalhejjmjmeaaDoor
namespace Go.Proofs.YtmpalhejjmjmeaaDoor
open Go.RowKit

theorem bytesI_take (ws : List Int) (k : Nat) (h : k < ws.length) : bytesI (ws.take (k + 1)) = bytesI (ws.take k) ++ be4 (ws.getD k 0) := by
  have : ws.take (k + 1) = ws.take k ++ [ws.getD k 0] := by rw [List.take_add_one, List.getElem?_eq_getElem h]; simp [List.getD, h]
  rw [this]
  simp [bytesI]
set_option maxRecDepth 100000 in
set_option maxHeartbeats 1000000 in
theorem join_any (A : Option Addr) (n c : Nat) (ws : List Int) (w : World) (hs : Seg w w.heap.size .u32 A n ws) (hn : n ≤ 1024) :
    Calls Tryd.prog 57 #[.slice A n c] w fun e w' => ∃ v, e = .returned v ∧ Own w' w.heap.size 5 .u8 v (bytesI ws) ∧ Below w.heap.size w w' := by
  obtain ⟨i0, hi, hz0, hz1, hz2⟩ := info_parts Tryd.infoU8
  have HS := Lib.hid hs
  clear hs
  go_enter Tryd.func57, Tryd.ntmps57
  go_wp2_with (at_make; refine wpList_make_own _ rfl _ _ 22 rfl w.heap.size 5 i0 (.int .u8 0) 1 Tryd.underlying22 hi hz0 hz1 .i64 .i64 _ (4 * n) rfl rfl (by omega) (by rw [hz2]; omega) (by unfold maxLen; omega) (Nat.le_refl _) ?_; intro w1 hown hg)
  have hb1 : Below w.heap.size w w1 := (Below.refl _ _).grown hg (Nat.le_refl _) (fun r hr => by cases hr)
  go_wp2_with fail
  go_loopw [3, 12] (fun v i wr => ∃ k : Nat, k ≤ n ∧ i = .int .i64 k ∧ Own wr w.heap.size 5 .u8 v (bytesI (ws.take k)) ∧ Below w.heap.size w wr)
    (fun _ i _ => n - (intOf i).toNat)
  case atStart => exact ⟨0, by omega, rfl, by rw [List.take_zero]; exact hown, hb1⟩
  case round =>
    clear hown hg hb1
    obtain ⟨k, hk, rfl, hown, hb⟩ := hrel
    by_cases hlt : k < n
    · have hd : decide ((k : Int) < n) = true := by simp; omega
      obtain ⟨b, off, rfl, hbl, hcell⟩ := HS.out.2 (by omega)
      obtain ⟨x, hx⟩ : ∃ x, Hid (ws.getD k 0 = x) := ⟨_, rfl⟩
      have hc1 := (hb.cell (p := ⟨b, off + k, none⟩) hbl).trans (hcell k hlt)
      rw [hx.out] at hc1
      clear hcell
      have hl : (bytesI (ws.take k)).length ≤ 4096 := by rw [bytesI_length, List.length_take]; omega
      have HA := Lib.hid (appendWord_any w.heap.size _ _ x wr hown (by omega) hb.size)
      clear hl
      go_wp2_with (go_at_call 41; refine HA.out.mono ?_; rintro e w2 ⟨v2, rfl, hown2, hg2⟩)
      go_roundw
      case measure => simp [intOf]; omega
      case rel =>
        refine ⟨k + 1, by omega, by go_num, ?_, own_below hown hg2 hb hb.size⟩
        rw [bytesI_take _ _ (by rw [HS.out.1]; exact hlt), hx.out]
        exact hown2
    · have hd : decide ((k : Int) < n) = false := by simp; omega
      have hw : ws.take k = ws := List.take_of_length_le (by rw [HS.out.1]; omega)
      rw [hw] at hown
      clear hw
      go_wp2_with fail
      go_ret
      exact ⟨_, rfl, hown, hb⟩

theorem tail8_length (n : Nat) : (tail8 n).length = 8 := rfl
set_option maxRecDepth 100000 in
set_option maxHeartbeats 2000000 in
theorem pad_any (A : Option Addr) (n c m : Nat) (xs : List Int) (w : World) (hs : Seg w w.heap.size .u8 A n xs) (hn : n < 64) (hm : m % 64 = n) (hm2 : m ≤ 1099511627776) :
    Calls Tryd.prog 63 #[.slice A n c, .int .i64 m] w fun e w' => ∃ v, e = .returned v ∧ Own w' w.heap.size 5 .u8 v (xs ++ tailI m) ∧ Below w.heap.size w w' := by
  obtain ⟨i0, hi, hz0, hz1, hz2⟩ := info_parts Tryd.infoU8
  have HS := Lib.hid hs
  have hxl : xs.length = n := hs.1
  clear hs
  go_enter Tryd.func63, Tryd.ntmps63
  go_wp2_with (first
    | (at_make; refine wpList_make_own _ rfl _ _ 22 rfl w.heap.size 5 i0 (.int .u8 0) 1 Tryd.underlying22 hi hz0 hz1 .i64 .i64 _ 128 rfl rfl (by omega) (by rw [hz2]; omega) (by unfold maxLen; omega) (Nat.le_refl _) ?_; intro w1 hown1 hg1; have hb1 : Below w.heap.size w w1 := (Below.refl _ _).grown hg1 (Nat.le_refl _) (fun r hr => by cases hr); have hs1 := HS.out.below hb1 (Nat.le_refl _); have hz1' := hb1.size)
    | (at_builtin; refine wpList_app _ rfl (.tmp 8) (.tmp 9) 22 rfl w.heap.size 5 i0 (.int .u8 0) 1 Tryd.underlying22 hi hz0 hz1 hz2 rfl .u8 _ [] rfl hown1 _ A n c xs rfl hs1 (by unfold maxLen; simp; omega) (by simp; omega) hz1' ?_; intro v2 w2 hown2 hg2 hor2; have hb2 := own_below (k := .u8) (xs := []) hown1 hg2 hb1 hz1'; have hz2' := hb2.size; clear hg2 hs1 hown1 hg1 hor2)
    | (at_builtin; refine wpList_app _ rfl (.tmp 11) (.tmp 12) 22 rfl w.heap.size 5 i0 (.int .u8 0) 1 Tryd.underlying22 hi hz0 hz1 hz2 rfl .u8 _ ([] ++ xs) rfl (hown2.alloc _) (w2.heap.size + 1) (some ⟨w2.heap.size, 0, none⟩) 1 1 [128] rfl ((Seg.of_blk (Blk.new w2 5 .u8 [128])).more (by simp)) (by unfold maxLen; simp; omega) (by simp; omega) (by simp; omega) ?_; intro v3 w3 hown3 hg3 hor3; have hb3 := own_below (hown2.alloc _) hg3 (hb2.alloc hz2' _) (by simp; omega); have hz3' := hb3.size; clear hg3 hown2 hor3))
  clear hb1 hz1' hb2 hz2'
  go_loopw [5] (fun v wr => ∃ (j : Nat) (A' : Option Addr) (c' : Nat), j ≤ (119 - n) % 64 ∧ v = .slice A' (n + 1 + j) c' ∧ Own wr w.heap.size 5 .u8 v (xs ++ 128 :: List.replicate j 0) ∧ Below w.heap.size w wr)
    (fun v _ => n + 1 + 64 - lenOf v)
  case atStart =>
    obtain ⟨A', c', hv, _, _⟩ := Own.cut hown3
    exact ⟨0, A', c', by omega, by rw [hv]; simp [hxl], by simpa using hown3, hb3⟩
  case round =>
    clear hown3 hb3 hz3'
    obtain ⟨j, A', c', hj, rfl, hown, hb⟩ := hrel
    have hz := hb.size
    have hln : (xs ++ 128 :: List.replicate j 0).length = n + 1 + j := by simp [hxl]; omega
    have HL := Lib.hid hln
    clear hln
    by_cases hlt : j < (119 - n) % 64
    · have hne : (((n : Int) + 1 + j) % 64 != 56) = true := by rw [bne_iff_ne]; omega
      have hl2 := HL.out
      go_wp2_with (at_builtin; refine wpList_app _ rfl (.tmp 18) (.tmp 19) 22 rfl w.heap.size 5 i0 (.int .u8 0) 1 Tryd.underlying22 hi hz0 hz1 hz2 rfl .u8 _ (xs ++ 128 :: List.replicate j 0) rfl (hown.alloc _) (wr.heap.size + 1) (some ⟨wr.heap.size, 0, none⟩) 1 1 [0] rfl ((Seg.of_blk (Blk.new wr 5 .u8 [0])).more (by simp)) (by unfold maxLen; rw [HL.out]; omega) (by rw [HL.out]; omega) (by simp; omega) ?_; intro v3 w3 hown3 hg3 hor3; have hb3 := own_below (hown.alloc _) hg3 (hb.alloc hz _) (by simp; omega); clear hg3 hor3)
      obtain ⟨A3, c3, hv3, _, _⟩ := Own.cut hown3
      have hl3 : (xs ++ 128 :: List.replicate j 0 ++ [0]).length = n + 1 + (j + 1) := by rw [List.length_append, hl2]; rfl
      rw [hl3] at hv3
      refine ⟨⟨j + 1, A3, c3, by omega, hv3, ?_, hb3⟩, by rw [hv3]; simp only [lenOf]; omega⟩
      have e : xs ++ 128 :: List.replicate (j + 1) 0 = xs ++ 128 :: List.replicate j 0 ++ [(0 : Int)] := by rw [List.replicate_succ']; simp
      rw [e]
      exact hown3
    · have hne : (((n : Int) + 1 + j) % 64 != 56) = false := by rw [bne_eq_false_iff_eq]; omega
      have hn8 : (m : Int) * 8 / 4294967296 % 4294967296 = (m : Int) * 8 / 4294967296 := by omega
      have HN8 := Lib.hid hn8
      have hjz : (119 - m % 64) % 64 = j := by omega
      have HJ := Lib.hid hjz
      have hjb : j < 64 := by omega
      clear hn8 hjz hj hlt
      go_wp2_with fail
      refine (appendWord_any w.heap.size _ _ _ _ hown (by rw [HL.out]; omega) hz).mono ?_
      rintro e1 w4 ⟨v4, rfl, hown4, hg4⟩
      have hb4 := own_below hown hg4 hb hz
      clear hg4 hown
      go_wp2_with fail
      refine (appendWord_any w.heap.size _ _ _ _ hown4 (by rw [List.length_append, HL.out]; simp [be4]; omega) hb4.size).mono ?_
      rintro e2 w5 ⟨v5, rfl, hown5, hg5⟩
      have hb5 := own_below hown4 hg5 hb4 hb4.size
      clear hg5 hown4
      go_wp2
      go_ret
      refine ⟨_, rfl, ?_, hb5⟩
      have e : xs ++ tailI m = xs ++ 128 :: List.replicate j 0 ++ be4 ((m : Int) * 8 / 4294967296) ++ be4 ((m : Int) * 8 % 4294967296) := by
        simp only [tailI, tail8, HJ.out, HN8.out]
        simp
      rw [e]
      exact hown5
end Go.Proofs.YtmpalhejjmjmeaaDoor
namespace Go.Proofs.YtmpalhejjmjmeaaDoor
open Go.RowKit

set_option maxRecDepth 100000 in
set_option maxHeartbeats 2000000 in
theorem block1_any (b off cap g : Nat) (xs S : List Int) (w : World) (hcap : 64 ≤ cap) (hcm : cap ≤ 9223372036854775807) (hb : b < w.heap.size)
    (hx : ∀ j, j < 64 → w.cell? ⟨b, off + j, none⟩ = some (.int .u8 (xs.getD j 0))) (hS : S.length = 5) (hg : Blk w g 62 .u32 S) :
    Calls Tryd.prog 54 #[.slice (some ⟨b, off, none⟩) 64 cap, .pointer (some ⟨g, 0, none⟩)] w fun e w' => e = .returned (.tuple #[]) ∧ Blk w' g 62 .u32 (step1 S xs) ∧ But w w' g := by
  obtain ⟨s0, s1, s2, s3, s4, rfl⟩ := five hS
  have HE := Lib.hid (fun (W : World) (h : Below w.heap.size w W) => expand1_any b off cap xs W hcap hcm (Nat.lt_of_lt_of_le hb h.size) (fun j hj => (h.cell (p := ⟨b, off + j, none⟩) hb).trans (hx j hj)))
  have HC := Lib.hid (fun (W : World) (_ : Below w.heap.size w W) => compress1_any [s0, s1, s2, s3, s4] (sch (wordAtI xs) next1 80) W rfl (sch_length _ _ _))
  have hgl := hg.lt
  have HG := Lib.hid hg
  have HX := Lib.hid hx
  clear hx hg hS
  obtain ⟨W64, HW⟩ : ∃ l, Hid (sch (wordAtI xs) next1 80 = l) := ⟨_, rfl⟩
  rw [HW.out] at HE HC
  have hcells : ∀ W, Below w.heap.size w W → W.cell? ⟨g, 0, none⟩ = some (.int .u32 s0) ∧ W.cell? ⟨g, 1, none⟩ = some (.int .u32 s1) ∧ W.cell? ⟨g, 2, none⟩ = some (.int .u32 s2) ∧ W.cell? ⟨g, 3, none⟩ = some (.int .u32 s3) ∧
      W.cell? ⟨g, 4, none⟩ = some (.int .u32 s4) := fun W h => by
    have hb := HG.out.below h hgl
    exact ⟨hb.cell 0 (by simp), hb.cell 1 (by simp), hb.cell 2 (by simp), hb.cell 3 (by simp), hb.cell 4 (by simp)⟩
  have HCL := Lib.hid hcells
  have HFR := Lib.hid (fun (W : World) (h : Below w.heap.size w W) (i : Nat) => (HG.out.below h hgl).frozen i)
  obtain ⟨c0, c1, c2, c3, c4⟩ := hcells w (Below.refl _ _)
  clear hcells
  obtain ⟨r0, r1, r2, r3, r4, hR⟩ := five (s := comp1 W64 [s0, s1, s2, s3, s4]) (by simp [comp1, rounds1_length])
  have HR := Lib.hid hR
  have HC2 : Hid (∀ W, Below w.heap.size w W → Calls Tryd.prog 55 #[.agg #[.int .u32 s0, .int .u32 s1, .int .u32 s2, .int .u32 s3, .int .u32 s4], .agg (ints .u32 W64).toArray] W fun e w' =>
      e = .returned (.agg #[.int .u32 r0, .int .u32 r1, .int .u32 r2, .int .u32 r3, .int .u32 r4]) ∧ Below W.heap.size W w') := fun W h => by
    have := HC.out W h
    rw [hR] at this
    exact this
  clear hR HC
  go_enter Tryd.func54, Tryd.ntmps54
  go_wp2_with fail
  go_region_with (first
    | (go_at_call 56; refine (HE.out _ ?_).mono ?_; exact (Below.refl _ _).drew; rintro e w1 ⟨rfl, hb1⟩; have hbw1 : Below w.heap.size w w1 := (Below.refl _ _).drew.trans hb1; obtain ⟨d0, d1, d2, d3, d4⟩ := HCL.out w1 hbw1; clear hb1)
    | (go_at_call 55; refine (HC2.out _ ?_).mono ?_; assumption; rintro e w2 ⟨rfl, hb2⟩; have hbw2 : Below w.heap.size w w2 := hbw1.trans (hb2.mono hbw1.size); obtain ⟨e0, e1, e2, e3, e4⟩ := HCL.out w2 hbw2; have ef := HFR.out w2 hbw2; clear hb2))
  all_goals
    go_wp2
    go_end0
    refine ⟨rfl, ?_, ?_⟩
    · have hB := (((((HG.out.below hbw2 hgl).set_ 0 r0).set_ 1 r1).set_ 2 r2).set_ 3 r3).set_ 4 r4
      show Blk _ g 62 .u32 (comp1 (sch (wordAtI xs) next1 80) [s0, s1, s2, s3, s4])
      rw [HW.out, HR.out]
      exact hB
    · exact (((((but_of_below hbw2 g).set_ 0 _).set_ 1 _).set_ 2 _).set_ 3 _).set_ 4 _
end Go.Proofs.YtmpalhejjmjmeaaDoor
