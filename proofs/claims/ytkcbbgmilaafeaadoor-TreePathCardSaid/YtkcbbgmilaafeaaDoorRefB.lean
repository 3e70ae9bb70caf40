/-
  The reference's bytes of words and its table.
-/
import Derived.Test.YtkcbbgmilaafeaaDoorRefA
import Derived.Deep.RegionHeld3
import Derived.Great.BuildSlice
namespace Go.Proofs.YtkcbbgmilaafeaaDoor
open Go.RowKit

set_option maxRecDepth 100000 in
set_option maxHeartbeats 1000000 in
theorem rbytes_any (A : Option Addr) (n c : Nat) (ws : List Int) (w : World) (hs : Seg w w.heap.size .u32 A n ws) (hn : n ≤ 1024) :
    Calls Tryd.prog 40 #[.slice A n c] w fun e w' => ∃ v, e = .returned v ∧ Own w' w.heap.size 5 .u8 v (bytesI ws) ∧ Below w.heap.size w w' := by
  obtain ⟨i0, hi, hz0, hz1, hz2⟩ := info_parts Tryd.infoU8
  have HS := Lib.hid hs
  clear hs
  go_enter Tryd.func40, Tryd.ntmps40
  go_wp2_with fail
  go_loopw [3, 4] (fun v i wr => ∃ k : Nat, k ≤ n ∧ i = .int .i64 k ∧ Own wr w.heap.size 5 .u8 v (bytesI (ws.take k)) ∧ Below w.heap.size w wr)
    (fun _ i _ => n - (intOf i).toNat)
  case atStart => exact ⟨0, by omega, rfl, World.ownsRow_nil _ _ _ _, Below.refl _ _⟩
  case round =>
    obtain ⟨k, hk, rfl, hown, hb⟩ := hrel
    by_cases hlt : k < n
    · have hd : decide ((k : Int) < n) = true := by simp; omega
      obtain ⟨b, off, rfl, hbl, hcell⟩ := HS.out.2 (by omega)
      obtain ⟨x, hx⟩ : ∃ x, Hid (ws.getD k 0 = x) := ⟨_, rfl⟩
      have hcw := hcell k hlt
      have hc1 := (hb.cell (p := ⟨b, off + k, none⟩) hbl).trans hcw
      rw [hx.out] at hc1 hcw
      clear hcell
      have hl : (bytesI (ws.take k)).length ≤ 4096 := by rw [bytesI_length, List.length_take]; omega
      have hz := hb.size
      have hki : (k : Int) < n := by omega
      go_wp2_with fail
      have hk0 : (0 : Int) ≤ (k : Int) := Int.natCast_nonneg _
      go_region_held3 (fun w' => w'.cell? ⟨b, off + k, none⟩ = some (.int .u32 x))
        (first
          | go_keep
          | exact (hb3.cell (p := ⟨b, off + k, none⟩) hbl).trans hcw)
        ((refine step_app _ (by rfl) (.tmp 11) (.tmp 35) 27 (by rfl) w.heap.size 5 i0 (.int .u8 0) 1 Tryd.underlying27 hi hz0 hz1 hz2 (by rfl) .u8 u3 (bytesI (ws.take k)) (by rfl) ((hown.alloc _).drew) (wr.heap.size + 1) (some ⟨wr.heap.size, 0, none⟩) 4 4 (be4 x) (by rfl) ((Seg.of_blk (Blk.new wr 5 .u8 (be4 x))).more (by simp)) (by unfold maxLen; omega) (by omega) (by simp; omega) ?_; intro v3 w3 hown3 hg3 hor3; have hb3 := own_below ((hown.alloc _).drew) hg3 ((hb.alloc hz _).drew) (by simp; omega)))
      clear hg3 hor3
      go_wp2
      go_roundw
      case measure => simp [intOf]; omega
      case rel =>
        refine ⟨k + 1, by omega, by go_num, ?_, hb3⟩
        rw [bytesI_take _ _ (by rw [HS.out.1]; exact hlt), hx.out]
        exact hown3
    · have hd : decide ((k : Int) < n) = false := by simp; omega
      have hw : ws.take k = ws := List.take_of_length_le (by rw [HS.out.1]; omega)
      rw [hw] at hown
      clear hw
      go_wp2_with fail
      go_ret
      exact ⟨_, rfl, hown, hb⟩

theorem zeroElem64 : ((Tryd.prog.info? 49).bind (·.zero)).map (·.cells.size) = some kay256.length := by kernel_rfl
theorem size1elem : (Tryd.prog.info? 48).map (·.size) = some 1 := by kernel_rfl
set_option maxRecDepth 100000 in
set_option maxHeartbeats 1000000 in
theorem constants_any (w : World) :
    Calls Tryd.prog 36 #[] w fun e w' => e = .returned (.agg (ints .u32 kay256).toArray) ∧ Below w.heap.size w w' := by
  have hz64 := Tryd.zero64
  go_enter Tryd.func36, Tryd.ntmps36
  have hz64b := Blk.new w 49 .u32 (List.replicate 64 0)
  go_wp2_with (first
    | (with_reducible refine wpList_buildFlatArr rfl 49 48 64 _ rfl .u32 kay256 Tryd.underlying49 size1elem zeroElem64 (by kernel_rfl) ?_)
    | (refine wpList_storeInts rfl 49 (.tmp 0) (.tmp 1) rfl w.heap.size rfl 49 .u32 _ kay256 rfl hz64b 64 Tryd.size64 (by simp) rfl ?_))
  refine bodyPost_ret (((Blk.new w 49 .u32 (List.replicate 64 0)).setRow kay256).result rfl _ rfl 64 48 Tryd.underlying49 Tryd.size64 rfl) rfl ⟨rfl, below_setRow' ((Below.refl _ _).alloc (Nat.le_refl _) _) (Nat.le_refl _) _⟩
end Go.Proofs.YtkcbbgmilaafeaaDoor
