/-
  Words for memory that the walks of this seat share: a block that is known whole, a slice that reads as a list of integers, a row of bytes that the call itself made.
-/
import Derived.Test.YtkcbbgmilaafeaaDoorRows
import Derived.WalkKit
import Derived.WalkSpells
import Derived.WalkLawsBesides
import Derived.Deep.QuietTactic
import Derived.BigQuiet
import Derived.Maps.AppendAt
import Derived.Deep.AppendLies
import Derived.Deep.RegionWith
import Derived.Laws.Rows
import Derived.Lib.Hide
namespace Go.Proofs.YtkcbbgmilaafeaaDoor
open Go.RowKit

theorem addr_add (b off j : Nat) : (⟨b, off, none⟩ : Addr).add j = ⟨b, off + j, none⟩ := by
  unfold Addr.add; split
  · simp_all
  · rfl

/-- Integers as cells. -/
def ints (k : IntKind) (xs : List Int) : List Value := xs.map (Value.int k)
theorem ints_length (k : IntKind) (xs : List Int) : (ints k xs).length = xs.length := by simp [ints]
theorem ints_at (k : IntKind) (xs : List Int) (i : Nat) (h : i < xs.length) : (ints k xs)[i]? = some (.int k (xs.getD i 0)) := by
  simp [ints, List.getD, h]
theorem ints_append (k : IntKind) (xs ys : List Int) : ints k xs ++ ints k ys = ints k (xs ++ ys) := by simp [ints]

/-- Block g holds just these integers. -/
def Blk (w : World) (g : Nat) (t : TypeId) (k : IntKind) (xs : List Int) : Prop := w.heap[g]? = some (.cells (ints k xs).toArray t (0, 0))
section
variable {w w' : World} {g : Nat} {t : TypeId} {k : IntKind} {xs : List Int}
theorem Blk.lt (h : Blk w g t k xs) : g < w.heap.size := by
  rcases Nat.lt_or_ge g w.heap.size with hlt | hge
  · exact hlt
  · unfold Blk at h; rw [Array.getElem?_eq_none hge] at h; cases h
theorem Blk.cell (h : Blk w g t k xs) (i : Nat) (hi : i < xs.length) : w.cell? ⟨g, i, none⟩ = some (.int k (xs.getD i 0)) := by
  rw [cell_of_row w g i _ t (0, 0) h, List.getElem?_toArray]
  exact ints_at k xs i hi
theorem Blk.frozen (h : Blk w g t k xs) (i : Nat) : w.frozen? ⟨g, i, none⟩ = false := frozen_of_row w g i _ t h
theorem Blk.new (w : World) (t : TypeId) (k : IntKind) (xs : List Int) : Blk (w.alloc (.cells (ints k xs).toArray t)) w.heap.size t k xs := heap_alloc_new w _
theorem Blk.new' (w : World) (t : TypeId) (k : IntKind) (xs : List Int) (g : Nat) (hg : g = w.heap.size) : Blk (w.alloc (.cells (ints k xs).toArray t)) g t k xs := by subst hg; exact Blk.new w t k xs
theorem Blk.drewN (h : Blk w g t k xs) (n : Nat) : Blk (w.drewN n) g t k xs := h
theorem Blk.drew (h : Blk w g t k xs) : Blk w.drew g t k xs := h
theorem Blk.alloc (h : Blk w g t k xs) (o : Obj) : Blk (w.alloc o) g t k xs := (Below.heap_alloc w o g h.lt).trans h
theorem Blk.below {B : Nat} (h : Blk w g t k xs) (hb : Below B w w') (hg : g < B) : Blk w' g t k xs := (hb.block g hg).trans h
theorem Blk.far (h : Blk w g t k xs) {p : Addr} (hp : g ≠ p.block) (u : Value) : Blk (w.setCell p u) g t k xs := (Below.heap_setCell w p u g hp).trans h
theorem Blk.set_ (h : Blk w g t k xs) (i : Nat) (x : Int) : Blk (w.setCell ⟨g, i, none⟩ (.int k x)) g t k (xs.set i x) := by
  unfold Blk at h ⊢
  rw [heap_setCell_same w g i _ t _ h]
  simp [ints, List.map_set]
theorem Blk.setRow {old : List Int} (h : Blk w g t k old) (xs : List Int) : Blk (w.setRow g (ints k xs).toArray) g t k xs := setRow_heap w g _ _ t _ h
theorem Blk.setRow_far (h : Blk w g t k xs) {g' : Nat} (hg : g ≠ g') (cs : Array Value) : Blk (w.setRow g' cs) g t k xs := (setRow_other w g' g cs hg).trans h
theorem below_setRow' {B g : Nat} {w0 w : World} (hb : Below B w0 w) (hBg : B ≤ g) (cs : Array Value) : Below B w0 (w.setRow g cs) :=
  hb.trans ⟨rfl, rfl, rfl, by simp [World.setRow], fun k hk => setRow_other w g k cs (by omega)⟩
theorem ints_all (k : IntKind) (xs : List Int) : (ints k xs).toArray.all (·.oneCell') = true := by
  rw [Array.all_eq_true_iff_forall_mem]
  intro v hv
  obtain ⟨x, _, rfl⟩ := List.mem_map.1 (by simpa [ints] using hv : v ∈ xs.map (Value.int k))
  rfl
end

section
variable {P : Program} {w : World} {ops : Array Oper} {rest : List Oper} {o : Oper} {a : Act} {Q : Exit → Act → World → Prop}
/-- A whole array read out of a block that is known. -/
theorem wpList_loadInts (hgd : o.guard = none) (ty : TypeId) (x : Operand) (ho : o.op = .load ty x) (g : Nat) (hx : a.eval x = .pointer (some ⟨g, 0, none⟩)) (t : TypeId) (k : IntKind) (xs : List Int)
    (h : Blk w g t k xs) (n : Nat) (e : TypeId) (hu : P.underlying ty = some (.array n e)) (hi : (P.info? ty).map (·.size) = some n) (hl : xs.length = n)
    (hK : wpList P ops Q rest (a.put o.dst (.agg (ints k xs).toArray)) w) : wpList P ops Q (o :: rest) a w :=
  wpList_load_row hgd ty x ho g hx t _ _ _ h hu rfl (by rw [hi, ← hl]; simp [ints]) hK
/-- A whole array stored into a block that is known. -/
theorem wpList_storeInts (hgd : o.guard = none) (ty : TypeId) (x y : Operand) (hop : o.op = .store ty x y) (g : Nat) (hx : a.eval x = .pointer (some ⟨g, 0, none⟩)) (t : TypeId) (k : IntKind) (old xs : List Int)
    (hy : a.eval y = .agg (ints k xs).toArray) (h : Blk w g t k old) (n : Nat) (hi : (P.info? ty).map (·.size) = some n) (ho : old.length = n) (hl : xs.length = n)
    (hK : wpList P ops Q rest (a.put o.dst undef) (w.setRow g (ints k xs).toArray)) : wpList P ops Q (o :: rest) a w :=
  wpList_store_row hgd ty x y hop g _ hx hy t _ h (by rw [hi, ← hl]; simp [ints]) (by simp [ints, hl, ho]) (ints_all k xs) hK
end

/-- A package-level table: block g holds just these integers. -/
def Tab (w : World) (g : Nat) (k : IntKind) (xs : List Int) : Prop := ∃ (t : TypeId) (fr : Nat × Nat), w.heap[g]? = some (.cells (ints k xs).toArray t fr)
section
variable {w w' : World} {g : Nat} {k : IntKind} {xs : List Int}
theorem Tab.lt (h : Tab w g k xs) : g < w.heap.size := by
  obtain ⟨t, fr, h⟩ := h
  exact (Array.getElem?_eq_some_iff.1 h).1
theorem Tab.drewN (h : Tab w g k xs) (n : Nat) : Tab (w.drewN n) g k xs := h
theorem Tab.below {B : Nat} (h : Tab w g k xs) (hb : Below B w w') (hg : g < B) : Tab w' g k xs := by
  obtain ⟨t, fr, h⟩ := h
  exact ⟨t, fr, (hb.block g hg).trans h⟩
theorem Tab.of_eq (h : Tab w g k xs) (e : w'.heap[g]? = w.heap[g]?) : Tab w' g k xs := by
  obtain ⟨t, fr, h⟩ := h
  exact ⟨t, fr, e.trans h⟩
end
section
variable {P : Program} {w : World} {ops : Array Oper} {rest : List Oper} {o : Oper} {a : Act} {Q : Exit → Act → World → Prop}
theorem wpList_loadTab (hgd : o.guard = none) (ty : TypeId) (x : Operand) (ho : o.op = .load ty x) (g : Nat) (hx : a.eval x = .pointer (some ⟨g, 0, none⟩)) (k : IntKind) (xs : List Int)
    (h : Tab w g k xs) (n : Nat) (e : TypeId) (hu : P.underlying ty = some (.array n e)) (hi : (P.info? ty).map (·.size) = some n) (hl : xs.length = n)
    (hK : wpList P ops Q rest (a.put o.dst (.agg (ints k xs).toArray)) w) : wpList P ops Q (o :: rest) a w := by
  obtain ⟨t, fr, h⟩ := h
  exact wpList_load_row hgd ty x ho g hx t _ fr _ h hu rfl (by rw [hi, ← hl]; simp [ints]) hK
end
section
variable {w w' : World} {g : Nat} {t : TypeId} {k : IntKind} {xs : List Int}
theorem Blk.result {P : Program} {fn : Func} {p : Tmp} {ty : TypeId} (hb : Blk w g t k xs) (h : fn.results = #[.cell p ty]) (tmps : Array Value) (hp : tmps.getD p undef = .pointer (some ⟨g, 0, none⟩))
    (n : Nat) (e : TypeId) (hu : P.underlying ty = some (.array n e)) (hi : (P.info? ty).map (·.size) = some n) (hl : xs.length = n) : (results fn tmps).run P w = .ok (.agg (ints k xs).toArray) w :=
  results_cell_row h tmps w g t _ _ _ hp hb hu rfl (by rw [hi, ← hl]; simp [ints])
end

/-- The slice over A of n elements reads as these integers, below block B. -/
def Seg (w : World) (B : Nat) (k : IntKind) (A : Option Addr) (n : Nat) (xs : List Int) : Prop :=
  xs.length = n ∧ (0 < n → ∃ b off, A = some ⟨b, off, none⟩ ∧ b < B ∧ ∀ j, j < n → w.cell? ⟨b, off + j, none⟩ = some (.int k (xs.getD j 0)))
section
variable {w w' : World} {B B' : Nat} {k : IntKind} {A : Option Addr} {n : Nat} {xs : List Int}
theorem Seg.nil (w : World) (B : Nat) (k : IntKind) (A : Option Addr) : Seg w B k A 0 [] := ⟨rfl, fun h => absurd h (by omega)⟩
theorem Seg.below (h : Seg w B k A n xs) (hb : Below B' w w') (hB : B ≤ B') : Seg w' B k A n xs :=
  ⟨h.1, fun hn => by
    obtain ⟨b, off, e, hlt, hc⟩ := h.2 hn
    exact ⟨b, off, e, hlt, fun j hj => (hb.cell (p := ⟨b, off + j, none⟩) (by show b < B'; omega)).trans (hc j hj)⟩⟩
theorem Seg.more (h : Seg w B k A n xs) (hB : B ≤ B') : Seg w B' k A n xs :=
  ⟨h.1, fun hn => by
    obtain ⟨b, off, e, hlt, hc⟩ := h.2 hn
    exact ⟨b, off, e, by omega, hc⟩⟩
theorem Seg.drewN (h : Seg w B k A n xs) (m : Nat) : Seg (w.drewN m) B k A n xs := h
theorem Seg.of_own {base : Nat} {e : TypeId} {c : Nat} (h : w.ownsRow base e 1 (.slice A n c) n (ints k xs)) : Seg w w.heap.size k A n xs := by
  have hl : xs.length = n := by have := h.1; simpa [ints] using this
  refine ⟨hl, fun hn => ?_⟩
  obtain ⟨g, cap, hv, _, hlt⟩ := h.form hn
  have hA : A = some ⟨g, 0, none⟩ := by injection hv
  subst hA
  refine ⟨g, 0, rfl, hlt, fun j hj => ?_⟩
  have := h.cells (g := g) rfl j (.int k (xs.getD j 0)) (ints_at k xs j (by omega))
  rwa [addr_add] at this
theorem Seg.of_blk {g : Nat} {t : TypeId} (h : Blk w g t k xs) : Seg w w.heap.size k (some ⟨g, 0, none⟩) xs.length xs :=
  ⟨rfl, fun _ => ⟨g, 0, rfl, h.lt, fun j hj => by rw [Nat.zero_add]; exact h.cell j hj⟩⟩
/-- s[i:] -/
theorem Seg.drop (h : Seg w B k A n xs) {i cap : Nat} (hi : i ≤ n) (hc : n ≤ cap) :
    Seg w B k (if cap = i then A else A.map (·.add i)) (n - i) (xs.drop i) := by
  refine ⟨by rw [List.length_drop, h.1], fun hn => ?_⟩
  obtain ⟨b, off, rfl, hb, hcell⟩ := h.2 (by omega)
  rw [if_neg (by omega)]
  refine ⟨b, off + i, by simp [addr_add], hb, fun j hj => ?_⟩
  rw [show off + i + j = off + (i + j) by omega, hcell _ (by omega)]
  simp [List.getD]
/-- s[:i] -/
theorem Seg.take (h : Seg w B k A n xs) {i : Nat} (hi : i ≤ n) : Seg w B k A i (xs.take i) := by
  refine ⟨by rw [List.length_take, h.1]; omega, fun hn => ?_⟩
  obtain ⟨b, off, rfl, hb, hcell⟩ := h.2 (by omega)
  refine ⟨b, off, rfl, hb, fun j hj => ?_⟩
  rw [hcell _ (by omega)]
  simp [List.getD, hj]
end

/-- The row that the call itself made holds these bytes (or the slice is nil and there are none). -/
abbrev Own (w : World) (B : Nat) (e : TypeId) (k : IntKind) (v : Value) (xs : List Int) : Prop := w.ownsRow B e 1 v xs.length (ints k xs)

/-- append(s, x..) where s is the call's own and x any slice. -/
theorem run_app {P : Program} (w : World) (base : Nat) (t ty e : TypeId) (i : TypeInfo) (z : Value) (bytes : Nat) (ht : P.underlying t = some (.slice e)) (hi : P.info? e = some i) (hz : i.zero = some z)
    (hsize : i.size = 1) (hby : i.bytes = bytes) (hzs : z.cells.size = 1) (k : IntKind) (v : Value) (xs : List Int) (hown : Own w base e k v xs)
    (B : Nat) (A : Option Addr) (m c : Nat) (ys : List Int) (hr : Seg w B k A m ys)
    (h63 : xs.length + m ≤ maxLen) (hbytes : (xs.length + m) * bytes ≤ 140737488355328) (hbase : base ≤ w.heap.size) :
    ∃ v' w', (Builtin.append_ #[t, t] ty #[v, .slice A m c]).run P w = .ok v' w' ∧ Own w' base e k v' (xs ++ ys) ∧ w.grownBy w' v.ownBlock ∧
      (v'.ownBlock = v.ownBlock ∨ v'.ownBlock = some w.heap.size) := by
  have hlen := hr.1
  rcases A with _ | ad
  · have hm : m = 0 := by
      rcases Nat.eq_zero_or_pos m with h0 | h0
      · exact h0
      · obtain ⟨_, _, h, _⟩ := hr.2 h0
        cases h
    subst hm
    have hn : ys = [] := List.eq_nil_of_length_eq_zero hlen
    subst hn
    refine ⟨v, w, ?_, by simpa using hown, World.grownBy.refl w _, .inl rfl⟩
    rcases hown.2 with ⟨rfl, _⟩ | ⟨g, cap, cur, rfl, _, _, hnc, _⟩
    · simp [Builtin.append_, run_underlying ht, sizeOf, typeInfo, hi, Builtin.lenOf, Builtin.firstCells]
    · simp [Builtin.append_, run_underlying ht, sizeOf, typeInfo, hi, Builtin.lenOf, Builtin.firstCells, hnc, storeCells]
  · have hcells : ∀ j u, (ints k ys)[j]? = some u → w.cell? (ad.add j) = some u := by
      intro j u hu
      have hj : j < ys.length := by
        rcases Nat.lt_or_ge j ys.length with h | h
        · exact h
        · rw [List.getElem?_eq_none (by rw [ints_length]; exact h)] at hu; cases hu
      rw [ints_at k ys j hj] at hu
      injection hu with hu
      subst hu
      obtain ⟨b, off, he, _, hc⟩ := hr.2 (by omega)
      injection he with he
      subst he
      rw [addr_add]
      exact hc j (by omega)
    obtain ⟨v', w', hrun, h2, h3, _, h5⟩ := run_append_own_at (P := P) w base t ty e i z 1 bytes ht hi hz hsize hby hzs (by omega) v xs.length (ints k xs) hown ad m c (ints k ys)
      (by rw [ints_length]; omega) hcells (ints_oneCell k ys) h63 hbytes hbase
    refine ⟨v', w', hrun, ?_, h3, h5⟩
    show w'.ownsRow base e 1 v' (xs ++ ys).length (ints k (xs ++ ys))
    rw [List.length_append, hlen, ← ints_append]
    exact h2

theorem wp_app {P : Program} (w : World) {o : Oper} {a : Act} {K : Act → World → Prop} {Q : Exit → Act → World → Prop} (s x : Operand) (t : TypeId)
    (ho : o.op = .call { callee := .builtin .append, args := #[s, x], argTypes := #[t, t] })
    (base : Nat) (e : TypeId) (i : TypeInfo) (z : Value) (bytes : Nat) (ht : P.underlying t = some (.slice e)) (hi : P.info? e = some i) (hz : i.zero = some z)
    (hsize : i.size = 1) (hby : i.bytes = bytes) (hzs : z.cells.size = 1) (k : IntKind)
    (v : Value) (xs : List Int) (hs : a.eval s = v) (hown : Own w base e k v xs)
    (B : Nat) (A : Option Addr) (m c : Nat) (ys : List Int) (hx : a.eval x = .slice A m c) (hr : Seg w B k A m ys)
    (h63 : xs.length + m ≤ maxLen) (hbytes : (xs.length + m) * bytes ≤ 140737488355328) (hbase : base ≤ w.heap.size)
    (h : ∀ v' w', Own w' base e k v' (xs ++ ys) → w.grownBy w' v.ownBlock → (v'.ownBlock = v.ownBlock ∨ v'.ownBlock = some w.heap.size) → K (a.put o.dst v') w') : o.wp P a w K Q := by
  obtain ⟨v', w', hrun, h2, h3, h4⟩ := run_app (P := P) w base t o.type e i z bytes ht hi hz hsize hby hzs k v xs hown B A m c ys hr h63 hbytes hbase
  unfold Oper.wp execOp
  simp only [ho, resolve, invoke, builtin, Sem.run_bind, Sem.run_pure, Result.andThen_ok, List.map_toArray, List.map_cons, List.map_nil, hs, hx, hrun]
  exact h v' w' h2 h3 h4

theorem wpList_app {P : Program} (w : World) {ops : Array Oper} {rest : List Oper} {o : Oper} {a : Act} {Q : Exit → Act → World → Prop} (hgd : o.guard = none) (s x : Operand) (t : TypeId)
    (ho : o.op = .call { callee := .builtin .append, args := #[s, x], argTypes := #[t, t] })
    (base : Nat) (e : TypeId) (i : TypeInfo) (z : Value) (bytes : Nat) (ht : P.underlying t = some (.slice e)) (hi : P.info? e = some i) (hz : i.zero = some z)
    (hsize : i.size = 1) (hby : i.bytes = bytes) (hzs : z.cells.size = 1) (k : IntKind)
    (v : Value) (xs : List Int) (hs : a.eval s = v) (hown : Own w base e k v xs)
    (B : Nat) (A : Option Addr) (m c : Nat) (ys : List Int) (hx : a.eval x = .slice A m c) (hr : Seg w B k A m ys)
    (h63 : xs.length + m ≤ maxLen) (hbytes : (xs.length + m) * bytes ≤ 140737488355328) (hbase : base ≤ w.heap.size)
    (h : ∀ v' w', Own w' base e k v' (xs ++ ys) → w.grownBy w' v.ownBlock → (v'.ownBlock = v.ownBlock ∨ v'.ownBlock = some w.heap.size) → wpList P ops Q rest (a.put o.dst v') w') :
    wpList P ops Q (o :: rest) a w :=
  wpList_plain hgd fun _ hK => wp_app w s x t ho base e i z bytes ht hi hz hsize hby hzs k v xs hs hown B A m c ys hx hr h63 hbytes hbase fun v' w' h2 h3 h4 => hK _ _ (h v' w' h2 h3 h4)

theorem Own.cut {w : World} {B : Nat} {e : TypeId} {k : IntKind} {v : Value} {xs : List Int} (h : Own w B e k v xs) : ∃ A c, v = .slice A xs.length c ∧ xs.length ≤ c ∧ c ≤ maxLen := by
  rcases h.2 with ⟨rfl, h0⟩ | ⟨g, cap, cur, rfl, _, _, h1, h2, _⟩
  · exact ⟨none, 0, by rw [h0], by omega, by unfold maxLen; omega⟩
  · exact ⟨_, cap, rfl, h1, h2⟩

/-- The row of bytes' own type in the table. -/
theorem Tryd.infoU8 : (Tryd.prog.info? 5).map (fun i => (i.zero, i.size, i.bytes)) = some (some (.int .u8 0), 1, 1) := by kernel_rfl
theorem u32_unsigned : IntKind.u32.signed = false := rfl
theorem u8_unsigned : IntKind.u8.signed = false := rfl
end Go.Proofs.YtkcbbgmilaafeaaDoor
