/-
  The schedule of a block: the program's expand1.
-/
import Derived.Test.YtkcbbgmilaafeaaDoorExpand
import Derived.StillTailTactics
namespace Go.Proofs.YtkcbbgmilaafeaaDoor
open Go.RowKit

set_option maxRecDepth 100000 in
set_option maxHeartbeats 1000000 in
theorem expand1_any (b off cap : Nat) (xs : List Int) (w : World) (hcap : 64 ≤ cap) (hcm : cap ≤ 9223372036854775807) (hb : b < w.heap.size)
    (hx : ∀ j, j < 64 → w.cell? ⟨b, off + j, none⟩ = some (.int .u8 (xs.getD j 0))) :
    Calls Tryd.prog 47 #[.slice (some ⟨b, off, none⟩) 64 cap] w fun e w' => e = .returned (.agg (ints .u32 (sch (wordAtI xs) next1 80)).toArray) ∧ Below w.heap.size w w' := by
  have hz80 := Tryd.zero80
  have HX := Lib.hid hx
  clear hx
  go_enter Tryd.func47, Tryd.ntmps47
  go_wp2_with fail
  go_loopw [6] (fun i wr => ∃ k : Nat, k ≤ 16 ∧ i = .int .i64 k ∧ Blk wr (w.heap.size + 1) 60 .u32 (fillW 80 (sch (wordAtI xs) next1 k)) ∧ Blk wr w.heap.size 60 .u32 (List.replicate 80 0) ∧ Below w.heap.size w wr)
    (fun i _ => 16 - (intOf i).toNat)
  case atStart => exact ⟨0, by omega, rfl, Blk.new' (w.alloc _) 60 .u32 (List.replicate 80 0) _ (by simp), (Blk.new w 60 .u32 (List.replicate 80 0)).alloc _, ((Below.refl _ _).alloc (Nat.le_refl _) _).alloc (by simp) _⟩
  case round =>
    obtain ⟨k, hk, rfl, hW, hR, hbel⟩ := hrel
    by_cases hlt : k < 16
    · have hxk : ∀ j, j < 4 → wr.cell? ⟨b, off + 4 * k + j, none⟩ = some (.int .u8 (xs.getD (4 * k + j) 0)) := fun j hj => by
        rw [Nat.add_assoc]
        exact (hbel.cell (p := ⟨b, _, none⟩) hb).trans (HX.out (4 * k + j) (by omega))
      have C : Hid (Calls Tryd.prog 55 #[.slice (some ⟨b, off + 4 * k, none⟩) (64 - 4 * k) (cap - 4 * k)] wr fun e w' => e = .returned (.int .u32 (wordAtI xs k)) ∧ ∃ n, w' = wr.drewN n) :=
        Lib.hid (wordAt_any b (off + 4 * k) (64 - 4 * k) (cap - 4 * k) _ _ _ _ wr (by omega) (by omega) (hxk 0 (by omega)) (hxk 1 (by omega)) (hxk 2 (by omega)) (hxk 3 (by omega)))
      clear hxk
      have hcW := hW.cell k (by rw [fillW_length _ _ (by rw [sch_length]; omega)]; omega)
      have hfW := hW.frozen k
      have hd : decide ((k : Int) < 16) = true := by simp; omega
      go_wp2_with (go_at_call 55; refine C.out.mono ?_; rintro e w' ⟨rfl, n, rfl⟩)
      go_roundw
      case measure => simp [intOf]; omega
      case rel =>
        exact ⟨k + 1, by omega, by go_num, by rw [sch_low _ _ _ hlt, fillW_next 80 k _ _ (sch_length _ _ _) (by omega)]; exact (hW.drewN n).set_ k _,
          (hR.drewN n).far (by simp) _, (below_drewN hbel n).setCell (by simp) _⟩
    · have hd : decide ((k : Int) < 16) = false := by simp; omega
      have e16 : k = 16 := by omega
      rw [e16] at hW
      clear e16
      go_wp2_with fail
      go_loopw [5] (fun i wr => ∃ k : Nat, 16 ≤ k ∧ k ≤ 80 ∧ i = .int .i64 k ∧ Blk wr (w.heap.size + 1) 60 .u32 (fillW 80 (sch (wordAtI xs) next1 k)) ∧ Blk wr w.heap.size 60 .u32 (List.replicate 80 0) ∧ Below w.heap.size w wr)
        (fun i _ => 80 - (intOf i).toNat)
      case atStart => exact ⟨16, by omega, by omega, rfl, hW, hR, hbel⟩
      case round =>
        clear hW hR hbel hd
        obtain ⟨k, hk0, hk, rfl, hW, hR, hbel⟩ := hrel
        by_cases hlt : k < 80
        · have hll := sch_length (wordAtI xs) next1 k
          have hcW := hW.cell k (by rw [fillW_length _ _ (by omega)]; omega)
          have hfW := hW.frozen k
          have hget : ∀ i, 2 ≤ i → i ≤ 16 → ∃ x, x = (sch (wordAtI xs) next1 k).getD (k - i) 0 ∧ wr.cell? ⟨w.heap.size + 1, k - i, none⟩ = some (.int .u32 x) := fun i h2 h16 =>
            ⟨_, rfl, by rw [hW.cell (k - i) (by rw [fillW_length _ _ (by omega)]; omega), fillW_get _ _ _ (by omega)]⟩
          obtain ⟨x3, e3, c3⟩ := hget 3 (by omega) (by omega)
          obtain ⟨x8, e8, c8⟩ := hget 8 (by omega) (by omega)
          obtain ⟨x14, e14, c14⟩ := hget 14 (by omega) (by omega)
          obtain ⟨x16, e16, c16⟩ := hget 16 (by omega) (by omega)
          have HN := Lib.hid (next1_of _ k x3 x8 x14 x16 hll e3 e8 e14 e16)
          clear hget e3 e8 e14 e16 hll
          have hd : decide ((k : Int) < 80) = true := by simp; omega
          go_wp2_with fail
          have w3 : IntKind.i64.wrap ((k : Int) - 3) = (k : Int) - 3 := IntWalk.i64_in _ (by omega)
          have w8 : IntKind.i64.wrap ((k : Int) - 8) = (k : Int) - 8 := IntWalk.i64_in _ (by omega)
          have w14 : IntKind.i64.wrap ((k : Int) - 14) = (k : Int) - 14 := IntWalk.i64_in _ (by omega)
          have w16 : IntKind.i64.wrap ((k : Int) - 16) = (k : Int) - 16 := IntWalk.i64_in _ (by omega)
          have n3 : ((k : Int) - 3).toNat = k - 3 := by omega
          have n8 : ((k : Int) - 8).toNat = k - 8 := by omega
          have n14 : ((k : Int) - 14).toNat = k - 14 := by omega
          have n16 : ((k : Int) - 16).toNat = k - 16 := by omega
          have p3 : (3 : Int) ≤ (k : Int) := by omega
          have p8 : (8 : Int) ≤ (k : Int) := by omega
          have p14 : (14 : Int) ≤ (k : Int) := by omega
          have p16 : (16 : Int) ≤ (k : Int) := by omega
          have q3 : (k : Int) - 3 < 80 := by omega
          have q8 : (k : Int) - 8 < 80 := by omega
          have q14 : (k : Int) - 14 < 80 := by omega
          have q16 : (k : Int) - 16 < 80 := by omega
          have q0 : (k : Int) < 80 := by omega
          have hrl := Lib.hid (fun (x : Int) (W : World) => ((rotl_any x 1 W (by omega) (by omega)).mono fun _ _ h => ⟨h.1, h.2.symm⟩ : Calls Tryd.prog 54 #[.int .u32 x, .int .u64 1] W fun e w' => e = .returned (.int .u32 (rotlI x 1)) ∧ w' = W))
          refine wp_region_still_tail 22 (by kernel_rfl) (by kernel_rfl) ?_
          simp only [List.take_succ_cons, List.take_zero, List.drop_succ_cons, List.drop_zero]
          iterate 20 still_step
          still_call (hrl.out _ _)
          still_step
          refine wpStill_nil ?_
          clear w3 w8 w14 w16 n3 n8 n14 n16 p3 p8 p14 p16 q3 q8 q14 q16 q0
          change wpList _ _ _ _ _ wr.drew
          go_wp2
          go_roundw
          case measure => simp [intOf]; omega
          case rel =>
            refine ⟨k + 1, by omega, by omega, by go_num, ?_, (hR.drewN _).far (by simp) _, (below_drewN hbel _).setCell (by simp) _⟩
            rw [sch_high _ _ _ hk0, fillW_next 80 k _ _ (sch_length _ _ _) (by omega), HN.out]
            exact (hW.drewN _).set_ k _
        · have hd : decide ((k : Int) < 80) = false := by simp; omega
          have e64 : k = 80 := by omega
          rw [e64] at hW
          clear e64
          have hll := fillW_length 80 (sch (wordAtI xs) next1 80) (by rw [sch_length]; omega)
          obtain ⟨W, HW⟩ : ∃ W, Hid (fillW 80 (sch (wordAtI xs) next1 80) = W) := ⟨_, rfl⟩
          rw [HW.out] at hW hll
          have HL := Lib.hid hll
          clear hll
          go_wp2_with (first
            | (with_reducible refine wpList_loadInts rfl 60 (.tmp 3) rfl (w.heap.size + 1) rfl 60 .u32 _ hW 80 48 Tryd.underlying60 Tryd.size80 HL.out ?_)
            | (with_reducible refine wpList_storeInts rfl 60 (.tmp 2) (.tmp 43) rfl w.heap.size rfl 60 .u32 _ W rfl hR 80 Tryd.size80 (by simp) HL.out ?_))
          refine bodyPost_ret ((hR.setRow W).result rfl _ rfl 80 48 Tryd.underlying60 Tryd.size80 HL.out) rfl ⟨?_, below_setRow' hbel (Nat.le_refl _) _⟩
          rw [← HW.out, fillW_full _ _ (sch_length _ _ _)]
end Go.Proofs.YtkcbbgmilaafeaaDoor
