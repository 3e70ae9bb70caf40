/-
  The reference's bytes of words and its table.
-/
import Derived.Test.YtdgnolmkpfdcmaaDoorRefA
import Derived.Deep.RegionHeld3
import Derived.Great.BuildSlice
namespace Go.Proofs.YtdgnolmkpfdcmaaDoor
open Go.RowKit

/-- append as one step of a region that draws its order. -/
theorem step_app {P : Program} (w : World) {ops : Array Oper} {o : Oper} {a : Act} {K : Act → World → Prop} {Q : Exit → Act → World → Prop} {E : Prop} (hgd : o.guard = none) (s x : Operand) (t : TypeId)
    (ho : o.op = .call { callee := .builtin .append, args := #[s, x], argTypes := #[t, t] })
    (base : Nat) (e : TypeId) (i : TypeInfo) (z : Value) (bytes : Nat) (ht : P.underlying t = some (.slice e)) (hi : P.info? e = some i) (hz : i.zero = some z)
    (hsize : i.size = 1) (hby : i.bytes = bytes) (hzs : z.cells.size = 1) (k : IntKind)
    (v : Value) (xs : List Int) (hs : a.eval s = v) (hown : Own w base e k v xs)
    (B : Nat) (A : Option Addr) (m c : Nat) (ys : List Int) (hx : a.eval x = .slice A m c) (hr : Seg w B k A m ys)
    (h63 : xs.length + m ≤ maxLen) (hbytes : (xs.length + m) * bytes ≤ 140737488355328) (hbase : base ≤ w.heap.size)
    (h : ∀ v' w', Own w' base e k v' (xs ++ ys) → w.grownBy w' v.ownBlock → (v'.ownBlock = v.ownBlock ∨ v'.ownBlock = some w.heap.size) → K (a.put o.dst v') w') :
    if Region.wanted o (yielded ops a.tmps) = true then Oper.wp P o a w K Q else E := by
  have hw : Region.wanted o (yielded ops a.tmps) = true := by simp [Region.wanted, hgd]
  rw [if_pos hw]
  exact wp_app w s x t ho base e i z bytes ht hi hz hsize hby hzs k v xs hs hown B A m c ys hx hr h63 hbytes hbase h

set_option maxRecDepth 100000 in
set_option maxHeartbeats 1000000 in
theorem rbytes_any (A : Option Addr) (n c : Nat) (ws : List Int) (w : World) (hs : Seg w w.heap.size .u32 A n ws) (hn : n ≤ 1024) :
    Calls Tryd.prog 25 #[.slice A n c] w fun e w' => ∃ v, e = .returned v ∧ Own w' w.heap.size 5 .u8 v (bytesI ws) ∧ Below w.heap.size w w' := by
  obtain ⟨i0, hi, hz0, hz1, hz2⟩ := info_parts Tryd.infoU8
  have HS := Lib.hid hs
  clear hs
  go_enter Tryd.func25, Tryd.ntmps25
  go_wp2_with fail
  go_loopw [3, 4] (fun v i wr => ∃ k : Nat, k ≤ n ∧ i = .int .i64 k ∧ Own wr w.heap.size 5 .u8 v (bytesI (ws.take k)) ∧ Below w.heap.size w wr)
    (fun _ i _ => n - (intOf i).toNat)
  case atStart => exact ⟨0, by omega, rfl, World.ownsRow_nil _ _ _ _, Below.refl _ _⟩
  case round =>
    obtain ⟨k, hk, rfl, hown, hb⟩ := hrel
    by_cases hlt : k < n
    · have hd : decide ((k : Int) < n) = true := by simp; omega
      obtain ⟨b, off, rfl, hbl, hcell⟩ := HS.out.2 (by omega)
      obtain ⟨x, hx⟩ : ∃ x, Hid (ws.getD k 0 = x) := ⟨_, rfl⟩
      have hcw := hcell k hlt
      have hc1 := (hb.cell (p := ⟨b, off + k, none⟩) hbl).trans hcw
      rw [hx.out] at hc1 hcw
      clear hcell
      have hl : (bytesI (ws.take k)).length ≤ 4096 := by rw [bytesI_length, List.length_take]; omega
      have hz := hb.size
      have hki : (k : Int) < n := by omega
      go_wp2_with fail
      have hk0 : (0 : Int) ≤ (k : Int) := Int.natCast_nonneg _
      go_region_held3 (fun w' => w'.cell? ⟨b, off + k, none⟩ = some (.int .u32 x))
        (first
          | go_keep
          | exact (hb3.cell (p := ⟨b, off + k, none⟩) hbl).trans hcw)
        ((refine step_app _ (by rfl) (.tmp 11) (.tmp 35) 22 (by rfl) w.heap.size 5 i0 (.int .u8 0) 1 Tryd.underlying22 hi hz0 hz1 hz2 (by rfl) .u8 u3 (bytesI (ws.take k)) (by rfl) ((hown.alloc _).drew) (wr.heap.size + 1) (some ⟨wr.heap.size, 0, none⟩) 4 4 (be4 x) (by rfl) ((Seg.of_blk (Blk.new wr 5 .u8 (be4 x))).more (by simp)) (by unfold maxLen; omega) (by omega) (by simp; omega) ?_; intro v3 w3 hown3 hg3 hor3; have hb3 := own_below ((hown.alloc _).drew) hg3 ((hb.alloc hz _).drew) (by simp; omega)))
      clear hg3 hor3
      go_wp2
      go_roundw
      case measure => simp [intOf]; omega
      case rel =>
        refine ⟨k + 1, by omega, by go_num, ?_, hb3⟩
        rw [bytesI_take _ _ (by rw [HS.out.1]; exact hlt), hx.out]
        exact hown3
    · have hd : decide ((k : Int) < n) = false := by simp; omega
      have hw : ws.take k = ws := List.take_of_length_le (by rw [HS.out.1]; omega)
      rw [hw] at hown
      clear hw
      go_wp2_with fail
      go_ret
      exact ⟨_, rfl, hown, hb⟩

theorem zeroElem64 : ((Tryd.prog.info? 38).bind (·.zero)).map (·.cells.size) = some kay256.length := by kernel_rfl
theorem size1elem : (Tryd.prog.info? 37).map (·.size) = some 1 := by kernel_rfl
set_option maxRecDepth 100000 in
set_option maxHeartbeats 1000000 in
theorem constants_any (w : World) :
    Calls Tryd.prog 21 #[] w fun e w' => e = .returned (.agg (ints .u32 kay256).toArray) ∧ Below w.heap.size w w' := by
  have hz64 := Tryd.zero64
  go_enter Tryd.func21, Tryd.ntmps21
  have hz64b := Blk.new w 38 .u32 (List.replicate 64 0)
  go_wp2_with (first
    | (with_reducible refine wpList_buildFlatArr rfl 38 37 64 _ rfl .u32 kay256 Tryd.underlying38 size1elem zeroElem64 (by kernel_rfl) ?_)
    | (refine wpList_storeInts rfl 38 (.tmp 0) (.tmp 1) rfl w.heap.size rfl 38 .u32 _ kay256 rfl hz64b 64 Tryd.size64 (by simp) rfl ?_))
  refine bodyPost_ret (((Blk.new w 38 .u32 (List.replicate 64 0)).setRow kay256).result rfl _ rfl 64 37 Tryd.underlying38 Tryd.size64 rfl) rfl ⟨rfl, below_setRow' ((Below.refl _ _).alloc (Nat.le_refl _) _) (Nat.le_refl _) _⟩
end Go.Proofs.YtdgnolmkpfdcmaaDoor
