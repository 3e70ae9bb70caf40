/-
  Parts of slices (b[:i], b[i:]), cells of blocks that a call has just made, and a list of zero bytes.
-/
import Derived.Test.YtdgnolmkpfdcmaaDoorSame
import Derived.Laws.OwnMore
import Derived.Deep.OwnRows
import Derived.Deep.RegionHeld3
namespace Go.Proofs.YtdgnolmkpfdcmaaDoor
open Go.RowKit

theorem size5run (W : World) : (sizeOf (Tryd.prog.elem 22)).run Tryd.prog W = .ok 1 W := by kernel_rfl
theorem slice_to (A : Option Addr) (n c I : Nat) (h : I ≤ c) (W : World) : (Instr.slice 22 (.slice A n c) none (some (.int .i64 (I : Int))) none).run Tryd.prog W = .ok (.slice A I c) W := by
  rw [run_slice_h W 22 A n c (by kernel_rfl) .i64 (I : Int) (by omega) (by omega), size5run]
  have e : ∀ a : Addr, a.add 0 = a := fun a => by unfold Addr.add; simp
  cases A <;> simp [Result.andThen, sliced, e]
theorem slice_from (A : Option Addr) (n c I : Nat) (h : I ≤ n) (W : World) : (Instr.slice 22 (.slice A n c) (some (.int .i64 (I : Int))) none none).run Tryd.prog W = .ok (.slice (if c = I then A else A.map (·.add I)) (n - I) (c - I)) W := by
  rw [run_slice_l W 22 A n c (by kernel_rfl) .i64 (I : Int) (by omega) (by omega), size5run]
  simp [Result.andThen, sliced]

theorem cell_made (W : World) (cs : Array Value) (t : TypeId) (g i : Nat) (v : Value) (hg : g = W.heap.size) (hv : cs[i]? = some v) : (W.alloc (.cells cs t)).cell? ⟨g, i, none⟩ = some v := by
  rw [World.cell?_alloc_at cs t g i hg]
  exact hv
theorem cell_made_drew (W : World) (cs : Array Value) (t : TypeId) (g i : Nat) (v : Value) (hg : g = W.heap.size) (hv : cs[i]? = some v) : (W.alloc (.cells cs t)).drew.cell? ⟨g, i, none⟩ = some v := cell_made W cs t g i v hg hv
theorem cell_made_past (W : World) (cs : Array Value) (t : TypeId) (o : Obj) (g i : Nat) (v : Value) (hg : g = W.heap.size) (hv : cs[i]? = some v) : ((W.alloc (.cells cs t)).alloc o).drew.cell? ⟨g, i, none⟩ = some v := by
  have h := cell_made W cs t g i v hg hv
  exact (World.cell?_alloc_lt _ o ⟨g, i, none⟩ (by simp; omega)).trans h
theorem cell_in {W w2 : World} (hb : Below W.heap.size W w2) {g i : Nat} {v : Value} (h : W.cell? ⟨g, i, none⟩ = some v) : w2.cell? ⟨g, i, none⟩ = some v := (hb.cell (block_lt_of_cell h)).trans h

theorem made_zeros (n : Nat) : madeCells #[.int .u8 0] n = (ints .u8 (List.replicate n 0)).toArray := by
  apply Array.ext'
  rw [toList_madeCells_one]
  simp [ints]
end Go.Proofs.YtdgnolmkpfdcmaaDoor
