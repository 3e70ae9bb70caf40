/-
  Rows of bytes that a call itself has made; parts of slices; cells of blocks that a call has just made; lists of zero bytes.
-/
import Derived.Test.YtkcbbgmilaafeaaDoorMem
import Derived.Laws.OwnMore
import Derived.Laws.MakeOwn
import Derived.Deep.OwnRows
import Derived.Deep.RegionHeld3
namespace Go.Proofs.YtkcbbgmilaafeaaDoor
open Go.RowKit

theorem own_below {w w' : World} {B : Nat} {e : TypeId} {k : IntKind} {v : Value} {xs : List Int} (h : Own w B e k v xs) (hg : w.grownBy w' v.ownBlock) {W : World} (hb : Below B W w) (hB : B ≤ w.heap.size) : Below B W w' :=
  hb.grown hg hB fun r hr => (h.lt r hr).1

/-- The length of a slice. -/
def lenOf : Value → Nat
  | .slice _ n _ => n
  | _ => 0

theorem Own.less {w : World} {B B' : Nat} {e : TypeId} {k : IntKind} {v : Value} {xs : List Int} (h : Own w B' e k v xs) (hB : B ≤ B') : Own w B e k v xs :=
  ⟨h.1, h.2.imp id fun ⟨g, cap, cur, hv, hg, r⟩ => ⟨g, cap, cur, hv, Nat.le_trans hB hg, r⟩⟩
/-- A row that is not empty lies in a block. -/
theorem Own.at_ {w : World} {B : Nat} {e : TypeId} {k : IntKind} {v : Value} {xs : List Int} (h : Own w B e k v xs) (hx : 0 < xs.length) :
    ∃ g c, v = .slice (some ⟨g, 0, none⟩) xs.length c ∧ xs.length ≤ c ∧ c ≤ maxLen ∧ B ≤ g ∧ g < w.heap.size ∧ ∀ j, j < xs.length → w.cell? ⟨g, j, none⟩ = some (.int k (xs.getD j 0)) := by
  have h' := h
  rcases h.2 with ⟨_, h0⟩ | ⟨g, cap, cur, rfl, hg, hh, h1, h2, _⟩
  · omega
  · refine ⟨g, cap, rfl, h1, h2, hg, (Array.getElem?_eq_some_iff.1 hh).1, fun j hj => ?_⟩
    have := h'.cells (g := g) rfl j (.int k (xs.getD j 0)) (ints_at k xs j hj)
    rwa [addr_add, Nat.zero_add] at this

/-- Bytes that the call itself has made, their number given apart. -/
def Row (w : World) (B : Nat) (e : TypeId) (k : IntKind) (v : Value) (n : Nat) (xs : List Int) : Prop := w.ownsRow B e 1 v n (ints k xs)
section
variable {w w' : World} {B n c g : Nat} {e : TypeId} {k : IntKind} {v : Value} {xs : List Int}
theorem Row.length (h : Row w B e k v n xs) : xs.length = n := by have := h.1; simpa [ints] using this
theorem Row.own (h : Row w B e k v n xs) : Own w B e k v xs := by
  have hl := h.length
  show w.ownsRow B e 1 v xs.length (ints k xs)
  rw [hl]; exact h
theorem Own.row (h : Own w B e k v xs) (hl : xs.length = n) : Row w B e k v n xs := by subst hl; exact h
theorem Row.cell (h : Row w B e k (.slice (some ⟨g, 0, none⟩) n c) n xs) (j : Nat) (hj : j < n) : w.cell? ⟨g, j, none⟩ = some (.int k (xs.getD j 0)) := by
  rw [World.ownsRow.cellAt h j (by omega)]
  exact ints_at k xs j (by rw [h.length]; exact hj)
theorem Row.frozen (h : Row w B e k (.slice (some ⟨g, 0, none⟩) n c) n xs) (j : Nat) : w.frozen? ⟨g, j, none⟩ = false := World.ownsRow.frozenAt h j
theorem Row.set_ (h : Row w B e k (.slice (some ⟨g, 0, none⟩) n c) n xs) (j : Nat) (x : Int) : Row (w.setCell ⟨g, j, none⟩ (.int k x)) B e k (.slice (some ⟨g, 0, none⟩) n c) n (xs.set j x) := by
  have h2 := (World.ownsRow.stored h j (.int k x)).1
  have e : (ints k xs).set j (.int k x) = ints k (xs.set j x) := by simp [ints, List.map_set]
  rw [e] at h2
  exact h2
theorem Row.seg {A : Option Addr} (h : Row w B e k (.slice A n c) n xs) : Seg w w.heap.size k A n xs := Seg.of_own h
/-- The value of a row is a slice. -/
theorem Row.cut (h : Row w B e k v n xs) : ∃ A c, v = .slice A n c ∧ n ≤ c ∧ c ≤ maxLen := by
  obtain ⟨A, c, hv, h1, h2⟩ := Own.cut h.own
  rw [h.length] at hv h1
  exact ⟨A, c, hv, h1, h2⟩
theorem Row.drewN (h : Row w B e k v n xs) (q : Nat) : Row (w.drewN q) B e k v n xs := h
theorem Row.alloc (h : Row w B e k v n xs) (o : Obj) : Row (w.alloc o) B e k v n xs := World.ownsRow.alloc h o
end

section
variable {P : Program} {w : World} {ops : Array Oper} {rest : List Oper} {o : Oper} {a : Act} {Q : Exit → Act → World → Prop}
/-- make([]byte, n, c). -/
theorem wpList_make_cap (hg : o.guard = none) (l c : Operand) (t : TypeId) (hop : o.op = Op.makeSlice t l c) (base : Nat)
    (e : TypeId) (i : TypeInfo) (k : IntKind) (ht : P.underlying t = some (.slice e)) (hi : P.info? e = some i) (hz : i.zero = some (.int k 0)) (hsize : i.size = 1) (hby : i.bytes = 1)
    (kl kc : IntKind) (n m : Nat) (L C : Int) (hl : a.eval l = .int kl L) (hc : a.eval c = .int kc C) (hL : L = (n : Int)) (hC : C = (m : Int)) (hnm : n ≤ m) (h63 : m ≤ 140737488355328) (hB : base ≤ w.heap.size)
    (hK : ∀ w', Row w' base e k (.slice (some ⟨w.heap.size, 0, none⟩) n m) n (List.replicate n 0) → Below w.heap.size w w' → w'.heap.size = w.heap.size + 1 → wpList P ops Q rest (a.put o.dst (.slice (some ⟨w.heap.size, 0, none⟩) n m)) w') :
    wpList P ops Q (o :: rest) a w := by
  subst hL; subst hC
  refine wpList_plain hg fun K hK' => ?_
  have hrun := run_make (P := P) w t e i (.int k 0) ht hi hz kl kc n m (by omega) (by omega) (by rw [hby]; omega) (by omega)
  simp only [Int.toNat_natCast, hsize, Nat.mul_one, Value.cells] at hrun
  unfold Oper.wp
  simp [execOp, hop, hl, hc, hrun, Result.andThen]
  refine hK' _ _ (hK _ ⟨by simp [ints], .inr ⟨w.heap.size, m, _, rfl, hB, heap_alloc_new w _, hnm, by unfold maxLen; omega, by simp [madeCells], ?_⟩⟩ ((Below.refl _ _).alloc (Nat.le_refl _) _) (by simp))
  rw [toList_madeCells_one, Nat.mul_one, List.take_replicate, Nat.min_eq_left hnm]
  simp [ints]
end
/-- A block of the call's own, as a row. -/
theorem Own.of_blk {w : World} {B g : Nat} {e : TypeId} {k : IntKind} {xs : List Int} (h : Blk w g e k xs) (hB : B ≤ g) (hm : xs.length ≤ maxLen) : Own w B e k (.slice (some ⟨g, 0, none⟩) xs.length xs.length) xs :=
  ⟨by simp [ints], .inr ⟨g, xs.length, _, rfl, hB, h, Nat.le_refl _, hm, by simp [ints], List.take_of_length_le (by simp [ints])⟩⟩

theorem Row.below {w w' : World} {B : Nat} {e : TypeId} {k : IntKind} {v : Value} {n : Nat} {xs : List Int} (h : Row w B e k v n xs) (hb : Below w.heap.size w w') : Row w' B e k v n xs := by
  refine ⟨h.1, ?_⟩
  rcases h.2 with h' | ⟨g, cap, cur, hv, hg, hh, h1, h2, h3, h4⟩
  · exact .inl h'
  · exact .inr ⟨g, cap, cur, hv, hg, (hb.block g (Array.getElem?_eq_some_iff.1 hh).1).trans hh, h1, h2, h3, h4⟩

/-- The row behind an empty slice literal. -/
theorem own_empty (w : World) (e : TypeId) (k : IntKind) (B : Nat) (hB : B ≤ w.heap.size) : Own (w.alloc (.cells #[] e)) B e k (.slice (some ⟨w.heap.size, 0, none⟩) 0 0) [] :=
  ⟨rfl, .inr ⟨w.heap.size, 0, #[], rfl, hB, heap_alloc_new w _, Nat.le_refl _, by unfold maxLen; omega, rfl, rfl⟩⟩

/-- A block that the program lays for a constant text, as bytes. -/
theorem Seg.const (xs : List Int) (e : TypeId) (fr : Nat × Nat) (g : Nat) (w' : World) (h : w'.heap[g]? = some (.cells (ints .u8 xs).toArray e fr)) : Seg w' w'.heap.size .u8 (some ⟨g, 0, none⟩) xs.length xs :=
  ⟨rfl, fun _ => ⟨g, 0, rfl, (Array.getElem?_eq_some_iff.1 h).1, fun j hj => by
    rw [Nat.zero_add, cell_of_row w' g j _ _ _ h, List.getElem?_toArray]
    exact ints_at .u8 xs j hj⟩⟩

theorem nil_row (w : World) (B : Nat) (e : TypeId) (k : IntKind) : Row w B e k (.slice none 0 0) 0 [] := World.ownsRow_nil _ _ _ _

theorem Row.at_ {w : World} {B : Nat} {e : TypeId} {k : IntKind} {v : Value} {n : Nat} {xs : List Int} (h : Row w B e k v n xs) (hn : 0 < n) : ∃ g c, v = .slice (some ⟨g, 0, none⟩) n c ∧ B ≤ g := by
  obtain ⟨g, c, hv, _, _, hB, _, _⟩ := h.own.at_ (by rw [h.length]; exact hn)
  rw [h.length] at hv
  exact ⟨g, c, hv, hB⟩


section
variable {P : Program} {w : World} {ops : Array Oper} {rest : List Oper} {o : Oper} {a : Act} {Q : Exit → Act → World → Prop}
/-- append under a guard that holds. -/
theorem wpList_appG (w : World) (hw : Region.wanted o (yielded ops a.tmps) = true) (s x : Operand) (t : TypeId)
    (ho : o.op = .call { callee := .builtin .append, args := #[s, x], argTypes := #[t, t] })
    (base : Nat) (e : TypeId) (i : TypeInfo) (z : Value) (bytes : Nat) (ht : P.underlying t = some (.slice e)) (hi : P.info? e = some i) (hz : i.zero = some z)
    (hsize : i.size = 1) (hby : i.bytes = bytes) (hzs : z.cells.size = 1) (k : IntKind)
    (v : Value) (xs : List Int) (hs : a.eval s = v) (hown : Own w base e k v xs)
    (B : Nat) (A : Option Addr) (m c : Nat) (ys : List Int) (hx : a.eval x = .slice A m c) (hr : Seg w B k A m ys)
    (h63 : xs.length + m ≤ maxLen) (hbytes : (xs.length + m) * bytes ≤ 140737488355328) (hbase : base ≤ w.heap.size)
    (h : ∀ v' w', Own w' base e k v' (xs ++ ys) → w.grownBy w' v.ownBlock → (v'.ownBlock = v.ownBlock ∨ v'.ownBlock = some w.heap.size) → wpList P ops Q rest (a.put o.dst v') w') :
    wpList P ops Q (o :: rest) a w :=
  wpList_step fun K hK => by
    simp only [hw, if_true]
    exact wp_app w s x t ho base e i z bytes ht hi hz hsize hby hzs k v xs hs hown B A m c ys hx hr h63 hbytes hbase fun v' w' h2 h3 h4 => hK _ _ (h v' w' h2 h3 h4)
end

theorem size5run (W : World) : (sizeOf (Tryd.prog.elem 27)).run Tryd.prog W = .ok 1 W := by kernel_rfl
theorem slice_to (A : Option Addr) (n c I : Nat) (h : I ≤ c) (W : World) : (Instr.slice 27 (.slice A n c) none (some (.int .i64 (I : Int))) none).run Tryd.prog W = .ok (.slice A I c) W := by
  rw [run_slice_h W 27 A n c (by kernel_rfl) .i64 (I : Int) (by omega) (by omega), size5run]
  have e : ∀ a : Addr, a.add 0 = a := fun a => by unfold Addr.add; simp
  cases A <;> simp [Result.andThen, sliced, e]
theorem slice_from (A : Option Addr) (n c I : Nat) (h : I ≤ n) (W : World) : (Instr.slice 27 (.slice A n c) (some (.int .i64 (I : Int))) none none).run Tryd.prog W = .ok (.slice (if c = I then A else A.map (·.add I)) (n - I) (c - I)) W := by
  rw [run_slice_l W 27 A n c (by kernel_rfl) .i64 (I : Int) (by omega) (by omega), size5run]
  simp [Result.andThen, sliced]

theorem cell_made (W : World) (cs : Array Value) (t : TypeId) (g i : Nat) (v : Value) (hg : g = W.heap.size) (hv : cs[i]? = some v) : (W.alloc (.cells cs t)).cell? ⟨g, i, none⟩ = some v := by
  rw [World.cell?_alloc_at cs t g i hg]
  exact hv
theorem cell_made_drew (W : World) (cs : Array Value) (t : TypeId) (g i : Nat) (v : Value) (hg : g = W.heap.size) (hv : cs[i]? = some v) : (W.alloc (.cells cs t)).drew.cell? ⟨g, i, none⟩ = some v := cell_made W cs t g i v hg hv
theorem cell_made_past (W : World) (cs : Array Value) (t : TypeId) (o : Obj) (g i : Nat) (v : Value) (hg : g = W.heap.size) (hv : cs[i]? = some v) : ((W.alloc (.cells cs t)).alloc o).drew.cell? ⟨g, i, none⟩ = some v := by
  have h := cell_made W cs t g i v hg hv
  exact (World.cell?_alloc_lt _ o ⟨g, i, none⟩ (by simp; omega)).trans h
theorem cell_in {W w2 : World} (hb : Below W.heap.size W w2) {g i : Nat} {v : Value} (h : W.cell? ⟨g, i, none⟩ = some v) : w2.cell? ⟨g, i, none⟩ = some v := (hb.cell (block_lt_of_cell h)).trans h

theorem made_zeros (n : Nat) : madeCells #[.int .u8 0] n = (ints .u8 (List.replicate n 0)).toArray := by
  apply Array.ext'
  rw [toList_madeCells_one]
  simp [ints]
theorem slice_hm (A : Option Addr) (n c I : Nat) (h : I ≤ c) (W : World) : (Instr.slice 27 (.slice A n c) none (some (.int .i64 (I : Int))) (some (.int .i64 (I : Int)))).run Tryd.prog W = .ok (.slice A I I) W := by
  rw [run_slice_hm W 27 A n c (by kernel_rfl) .i64 .i64 (I : Int) (I : Int) (by omega) (by omega) (by omega), size5run]
  have e : ∀ a : Addr, a.add 0 = a := fun a => by unfold Addr.add; simp
  cases A <;> simp [Result.andThen, sliced, e]

/-- Four variables that a call has just boxed. -/
theorem four_boxes (w : World) (v0 v1 v2 v3 : Value) (t0 t1 t2 t3 : TypeId) :
    let w0 := (((w.alloc (.cells #[v0] t0)).alloc (.cells #[v1] t1)).alloc (.cells #[v2] t2)).alloc (.cells #[v3] t3)
    w0.cell? ⟨w.heap.size, 0, none⟩ = some v0 ∧ w0.cell? ⟨w.heap.size + 1, 0, none⟩ = some v1 ∧ w0.cell? ⟨w.heap.size + 1 + 1, 0, none⟩ = some v2 ∧ w0.cell? ⟨w.heap.size + 1 + 1 + 1, 0, none⟩ = some v3 := by
  intro w0
  refine ⟨?_, ?_, ?_, ?_⟩
  · refine (World.cell?_alloc_lt _ _ _ (by simp; try omega)).trans ((World.cell?_alloc_lt _ _ _ (by simp; try omega)).trans ((World.cell?_alloc_lt _ _ _ (by simp)).trans ?_))
    exact cell_made w #[v0] t0 _ 0 v0 rfl rfl
  · refine (World.cell?_alloc_lt _ _ _ (by simp; try omega)).trans ((World.cell?_alloc_lt _ _ _ (by simp; try omega)).trans ?_)
    exact cell_made _ #[v1] t1 _ 0 v1 (by simp) rfl
  · refine (World.cell?_alloc_lt _ _ _ (by simp; try omega)).trans ?_
    exact cell_made _ #[v2] t2 _ 0 v2 (by simp) rfl
  · exact cell_made _ #[v3] t3 _ 0 v3 (by simp) rfl

/-- Numbers of bytes. -/
def InB (xs : List Int) : Prop := ∀ x ∈ xs, 0 ≤ x ∧ x < 256
theorem InB.take {xs : List Int} (h : InB xs) (n : Nat) : InB (xs.take n) := fun x hx => h x (List.mem_of_mem_take hx)
theorem InB.set_ {xs : List Int} (h : InB xs) (k : Nat) {x : Int} (hx : 0 ≤ x ∧ x < 256) : InB (xs.set k x) := fun y hy => by
  rcases List.mem_or_eq_of_mem_set hy with h1 | rfl
  · exact h y h1
  · exact hx
theorem inB_append {xs ys : List Int} (h : InB xs) (h2 : InB ys) : InB (xs ++ ys) := fun y hy => by
  rcases List.mem_append.1 hy with h1 | h1
  · exact h y h1
  · exact h2 y h1

/-- Everything below the call's own blocks but block g is as it was. -/
abbrev But (w w' : World) (g : Nat) : Prop := w.grownBy w' (some g)
theorem but_of_below {w w' : World} (h : Below w.heap.size w w') (g : Nat) : But w w' g := ⟨h.os, h.tape, h.output, h.size, fun i hi _ => h.block i hi⟩
theorem But.set_ {w w' : World} {g : Nat} (h : But w w' g) (i : Nat) (u : Value) : But w (w'.setCell ⟨g, i, none⟩ u) g :=
  ⟨h.os, h.tape, h.output, by simpa [World.setCell] using h.size, fun j hj hne => (Below.heap_setCell w' ⟨g, i, none⟩ u j (fun e => hne (by rw [e]))).trans (h.block j hj hne)⟩
theorem But.trans {a b c : World} {g : Nat} (h : But a b g) (k : But b c g) : But a c g := World.grownBy.trans h k
theorem But.drew {w w' : World} {g : Nat} (h : But w w' g) : But w w'.drew g := ⟨h.os, h.tape, h.output, h.size, h.block⟩

/-- append as one step of a region that draws its order. -/
theorem step_app {P : Program} (w : World) {ops : Array Oper} {o : Oper} {a : Act} {K : Act → World → Prop} {Q : Exit → Act → World → Prop} {E : Prop} (hgd : o.guard = none) (s x : Operand) (t : TypeId)
    (ho : o.op = .call { callee := .builtin .append, args := #[s, x], argTypes := #[t, t] })
    (base : Nat) (e : TypeId) (i : TypeInfo) (z : Value) (bytes : Nat) (ht : P.underlying t = some (.slice e)) (hi : P.info? e = some i) (hz : i.zero = some z)
    (hsize : i.size = 1) (hby : i.bytes = bytes) (hzs : z.cells.size = 1) (k : IntKind)
    (v : Value) (xs : List Int) (hs : a.eval s = v) (hown : Own w base e k v xs)
    (B : Nat) (A : Option Addr) (m c : Nat) (ys : List Int) (hx : a.eval x = .slice A m c) (hr : Seg w B k A m ys)
    (h63 : xs.length + m ≤ maxLen) (hbytes : (xs.length + m) * bytes ≤ 140737488355328) (hbase : base ≤ w.heap.size)
    (h : ∀ v' w', Own w' base e k v' (xs ++ ys) → w.grownBy w' v.ownBlock → (v'.ownBlock = v.ownBlock ∨ v'.ownBlock = some w.heap.size) → K (a.put o.dst v') w') :
    if Region.wanted o (yielded ops a.tmps) = true then Oper.wp P o a w K Q else E := by
  have hw : Region.wanted o (yielded ops a.tmps) = true := by simp [Region.wanted, hgd]
  rw [if_pos hw]
  exact wp_app w s x t ho base e i z bytes ht hi hz hsize hby hzs k v xs hs hown B A m c ys hx hr h63 hbytes hbase h

section
variable {w w' : World} {g : Nat}
theorem Row.but {B : Nat} {e : TypeId} {k : IntKind} {v : Value} {m : Nat} {xs : List Int} (h : Row w B e k v m xs) (hb : But w w' g) (hg : g < B) : Row w' B e k v m xs :=
  World.ownsRow.kept h hb (by
    rcases hv : v.ownBlock with _ | r
    · exact .inl rfl
    · refine .inr fun e => ?_
      have h1 := (World.ownsRow.lt h r hv).1
      injection e with e
      omega)
theorem below_but {B : Nat} {w0 : World} (hb : Below B w0 w) (h : But w w' g) (hg : B ≤ g) (hB : B ≤ w.heap.size) : Below B w0 w' := hb.grown h hB (fun r hr => by injection hr with hr; omega)
theorem but_refl (w : World) (g : Nat) : But w w g := World.grownBy.refl _ _
theorem But.drewN (h : But w w' g) (q : Nat) : But w (w'.drewN q) g := ⟨h.os, h.tape, h.output, h.size, h.block⟩
end

theorem Seg.but {w w' : World} {g : Nat} {k : IntKind} {A : Option Addr} {n : Nat} {xs : List Int} (h : Seg w g k A n xs) (hb : But w w' g) : Seg w' g k A n xs :=
  ⟨h.1, fun hn => by
    obtain ⟨b, off, e, hlt, hc⟩ := h.2 hn
    refine ⟨b, off, e, hlt, fun j hj => ?_⟩
    have h1 := hc j hj
    exact (World.cell?_of_block (w := w) (w' := w') (a := ⟨b, off + j, none⟩) (hb.block b (block_lt_of_cell h1) (by intro e; injection e with e; omega))).trans h1⟩

/-- b[l:h] -/
theorem slice_lh (A : Option Addr) (n c l h : Nat) (h1 : l ≤ h) (h2 : h ≤ c) (W : World) : (Instr.slice 27 (.slice A n c) (some (.int .i64 (l : Int))) (some (.int .i64 (h : Int))) none).run Tryd.prog W = .ok (.slice (if c = l then A else A.map (·.add l)) (h - l) (c - l)) W := by
  rw [run_slice_lh W 27 A n c (by kernel_rfl) .i64 .i64 (l : Int) (h : Int) (by omega) (by omega) (by omega), size5run]
  simp [Result.andThen, sliced]
theorem Row.less {w : World} {B B' : Nat} {e : TypeId} {k : IntKind} {v : Value} {n : Nat} {xs : List Int} (h : Row w B e k v n xs) (hB : B' ≤ B) : Row w B' e k v n xs := by
  refine ⟨h.1, ?_⟩
  rcases h.2 with h' | ⟨g, cap, cur, hv, hg, hh⟩
  · exact .inl h'
  · exact .inr ⟨g, cap, cur, hv, by omega, hh⟩
/-- The beginning of a row. -/
theorem Row.cutTo {w : World} {B : Nat} {e : TypeId} {k : IntKind} {A : Option Addr} {n c : Nat} {xs : List Int} (h : Row w B e k (.slice A n c) n xs) {m : Nat} (hm : m ≤ n) (hA : A ≠ none) : Row w B e k (.slice A m c) m (xs.take m) := by
  have hl := h.length
  rcases h.2 with ⟨h1, _⟩ | ⟨g, cap, cur, hv, hg, hh, h1, h2, h3, h4⟩
  · injection h1 with h1; exact absurd h1 hA
  · injection hv with e1 e2 e3
    subst e1 e3
    refine ⟨by simp [ints]; omega, .inr ⟨g, c, cur, rfl, hg, hh, by omega, h2, h3, ?_⟩⟩
    have h5 : cur.toList.take n = ints k xs := by simpa using h4
    rw [Nat.mul_one, show m = min m n by omega, ← List.take_take, h5]
    simp [ints, List.map_take, show min m n = m by omega]
theorem Row.caps {w : World} {B : Nat} {e : TypeId} {k : IntKind} {A : Option Addr} {n c : Nat} {xs : List Int} (h : Row w B e k (.slice A n c) n xs) : n ≤ c ∧ c ≤ maxLen := by
  obtain ⟨_, _, hv, h1, h2⟩ := h.cut
  injection hv with _ _ hv
  subst hv
  exact ⟨h1, h2⟩
theorem Row.far {w w' : World} {B : Nat} {e : TypeId} {k : IntKind} {g n c : Nat} {xs : List Int} {r : Nat} (h : Row w B e k (.slice (some ⟨g, 0, none⟩) n c) n xs) (hb : But w w' r) (hne : g ≠ r) : Row w' B e k (.slice (some ⟨g, 0, none⟩) n c) n xs :=
  World.ownsRow.kept h hb (.inr (fun e => hne (Option.some.inj e)))
/-- A row lies in a block of the call's own. -/
theorem Row.from_ {w : World} {B n c : Nat} {e : TypeId} {k : IntKind} {A : Option Addr} {xs : List Int} (h : Row w B e k (.slice A n c) n xs) : 0 < n → ∀ a, A = some a → B ≤ a.block := fun hn a ha => by
  rcases h.2 with ⟨hv, h0⟩ | ⟨g, cap, cur, hv, hg, _⟩
  · omega
  · injection hv with hA _ _
    rw [hA] at ha
    injection ha with ha
    subst ha
    exact hg
end Go.Proofs.YtkcbbgmilaafeaaDoor
