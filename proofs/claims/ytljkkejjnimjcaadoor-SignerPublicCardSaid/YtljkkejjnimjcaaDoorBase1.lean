/-
  Words for memory that the walks of this seat share: a block that is known whole, a slice that reads as a list of integers, a row of bytes that the call itself made.
  Rows of bytes that a call itself has made; parts of slices; cells of blocks that a call has just made; lists of zero bytes.
  append(s, make([]byte, n)...) and append(s, text...) onto a row of the call's own.
  The types of the hash functions, as the program lays them.
  The two hash functions and frames as Lean functions on lists of integers, written after chapter 1 of the document. No program is imported here but for the model's words on integers.
  Walks of the small functions on words: rotations, the word at a place, the bytes of a word, the function and constant of a round.
  The schedules of a block: the program's expand256 and expand1.
-/
import Derived.Test.YtljkkejjnimjcaaDoorRows
import Derived.WalkKit
import Derived.WalkSpells
import Derived.WalkLawsBesides
import Derived.Deep.QuietTactic
import Derived.BigQuiet
import Derived.Maps.AppendAt
import Derived.Deep.AppendLies
import Derived.Deep.RegionWith
import Derived.Laws.Rows
import Derived.Lib.Hide
import Derived.Laws.OwnMore
import Derived.Laws.MakeOwn
import Derived.Deep.OwnRows
import Derived.Deep.RegionHeld3
import Derived.Lib.AppendZerosOnto
import Derived.Lib.AppendStr
namespace Go.Proofs.YtljkkejjnimjcaaDoor
open Go.RowKit

theorem addr_add (b off j : Nat) : (⟨b, off, none⟩ : Addr).add j = ⟨b, off + j, none⟩ := by
  unfold Addr.add; split
  · simp_all
  · rfl

/-- Integers as cells. -/
def ints (k : IntKind) (xs : List Int) : List Value := xs.map (Value.int k)
theorem ints_length (k : IntKind) (xs : List Int) : (ints k xs).length = xs.length := by simp [ints]
theorem ints_at (k : IntKind) (xs : List Int) (i : Nat) (h : i < xs.length) : (ints k xs)[i]? = some (.int k (xs.getD i 0)) := by
  simp [ints, List.getD, h]
theorem ints_append (k : IntKind) (xs ys : List Int) : ints k xs ++ ints k ys = ints k (xs ++ ys) := by simp [ints]

/-- Block g holds just these integers. -/
def Blk (w : World) (g : Nat) (t : TypeId) (k : IntKind) (xs : List Int) : Prop := w.heap[g]? = some (.cells (ints k xs).toArray t (0, 0))
section
variable {w w' : World} {g : Nat} {t : TypeId} {k : IntKind} {xs : List Int}
theorem Blk.lt (h : Blk w g t k xs) : g < w.heap.size := by
  rcases Nat.lt_or_ge g w.heap.size with hlt | hge
  · exact hlt
  · unfold Blk at h; rw [Array.getElem?_eq_none hge] at h; cases h
theorem Blk.cell (h : Blk w g t k xs) (i : Nat) (hi : i < xs.length) : w.cell? ⟨g, i, none⟩ = some (.int k (xs.getD i 0)) := by
  rw [cell_of_row w g i _ t (0, 0) h, List.getElem?_toArray]
  exact ints_at k xs i hi
theorem Blk.frozen (h : Blk w g t k xs) (i : Nat) : w.frozen? ⟨g, i, none⟩ = false := frozen_of_row w g i _ t h
theorem Blk.new (w : World) (t : TypeId) (k : IntKind) (xs : List Int) : Blk (w.alloc (.cells (ints k xs).toArray t)) w.heap.size t k xs := heap_alloc_new w _
theorem Blk.new' (w : World) (t : TypeId) (k : IntKind) (xs : List Int) (g : Nat) (hg : g = w.heap.size) : Blk (w.alloc (.cells (ints k xs).toArray t)) g t k xs := by subst hg; exact Blk.new w t k xs
theorem Blk.drewN (h : Blk w g t k xs) (n : Nat) : Blk (w.drewN n) g t k xs := h
theorem Blk.drew (h : Blk w g t k xs) : Blk w.drew g t k xs := h
theorem Blk.alloc (h : Blk w g t k xs) (o : Obj) : Blk (w.alloc o) g t k xs := (Below.heap_alloc w o g h.lt).trans h
theorem Blk.below {B : Nat} (h : Blk w g t k xs) (hb : Below B w w') (hg : g < B) : Blk w' g t k xs := (hb.block g hg).trans h
theorem Blk.far (h : Blk w g t k xs) {p : Addr} (hp : g ≠ p.block) (u : Value) : Blk (w.setCell p u) g t k xs := (Below.heap_setCell w p u g hp).trans h
theorem Blk.set_ (h : Blk w g t k xs) (i : Nat) (x : Int) : Blk (w.setCell ⟨g, i, none⟩ (.int k x)) g t k (xs.set i x) := by
  unfold Blk at h ⊢
  rw [heap_setCell_same w g i _ t _ h]
  simp [ints, List.map_set]
theorem Blk.setRow {old : List Int} (h : Blk w g t k old) (xs : List Int) : Blk (w.setRow g (ints k xs).toArray) g t k xs := setRow_heap w g _ _ t _ h
theorem Blk.setRow_far (h : Blk w g t k xs) {g' : Nat} (hg : g ≠ g') (cs : Array Value) : Blk (w.setRow g' cs) g t k xs := (setRow_other w g' g cs hg).trans h
theorem below_setRow' {B g : Nat} {w0 w : World} (hb : Below B w0 w) (hBg : B ≤ g) (cs : Array Value) : Below B w0 (w.setRow g cs) :=
  hb.trans ⟨rfl, rfl, rfl, by simp [World.setRow], fun k hk => setRow_other w g k cs (by omega)⟩
theorem ints_all (k : IntKind) (xs : List Int) : (ints k xs).toArray.all (·.oneCell') = true := by
  rw [Array.all_eq_true_iff_forall_mem]
  intro v hv
  obtain ⟨x, _, rfl⟩ := List.mem_map.1 (by simpa [ints] using hv : v ∈ xs.map (Value.int k))
  rfl
end

section
variable {P : Program} {w : World} {ops : Array Oper} {rest : List Oper} {o : Oper} {a : Act} {Q : Exit → Act → World → Prop}
/-- A whole array read out of a block that is known. -/
theorem wpList_loadInts (hgd : o.guard = none) (ty : TypeId) (x : Operand) (ho : o.op = .load ty x) (g : Nat) (hx : a.eval x = .pointer (some ⟨g, 0, none⟩)) (t : TypeId) (k : IntKind) (xs : List Int)
    (h : Blk w g t k xs) (n : Nat) (e : TypeId) (hu : P.underlying ty = some (.array n e)) (hi : (P.info? ty).map (·.size) = some n) (hl : xs.length = n)
    (hK : wpList P ops Q rest (a.put o.dst (.agg (ints k xs).toArray)) w) : wpList P ops Q (o :: rest) a w :=
  wpList_load_row hgd ty x ho g hx t _ _ _ h hu rfl (by rw [hi, ← hl]; simp [ints]) hK
/-- A whole array stored into a block that is known. -/
theorem wpList_storeInts (hgd : o.guard = none) (ty : TypeId) (x y : Operand) (hop : o.op = .store ty x y) (g : Nat) (hx : a.eval x = .pointer (some ⟨g, 0, none⟩)) (t : TypeId) (k : IntKind) (old xs : List Int)
    (hy : a.eval y = .agg (ints k xs).toArray) (h : Blk w g t k old) (n : Nat) (hi : (P.info? ty).map (·.size) = some n) (ho : old.length = n) (hl : xs.length = n)
    (hK : wpList P ops Q rest (a.put o.dst undef) (w.setRow g (ints k xs).toArray)) : wpList P ops Q (o :: rest) a w :=
  wpList_store_row hgd ty x y hop g _ hx hy t _ h (by rw [hi, ← hl]; simp [ints]) (by simp [ints, hl, ho]) (ints_all k xs) hK
end

/-- A package-level table: block g holds just these integers. -/
def Tab (w : World) (g : Nat) (k : IntKind) (xs : List Int) : Prop := ∃ (t : TypeId) (fr : Nat × Nat), w.heap[g]? = some (.cells (ints k xs).toArray t fr)
section
variable {w w' : World} {g : Nat} {k : IntKind} {xs : List Int}
theorem Tab.lt (h : Tab w g k xs) : g < w.heap.size := by
  obtain ⟨t, fr, h⟩ := h
  exact (Array.getElem?_eq_some_iff.1 h).1
theorem Tab.drewN (h : Tab w g k xs) (n : Nat) : Tab (w.drewN n) g k xs := h
theorem Tab.below {B : Nat} (h : Tab w g k xs) (hb : Below B w w') (hg : g < B) : Tab w' g k xs := by
  obtain ⟨t, fr, h⟩ := h
  exact ⟨t, fr, (hb.block g hg).trans h⟩
theorem Tab.of_eq (h : Tab w g k xs) (e : w'.heap[g]? = w.heap[g]?) : Tab w' g k xs := by
  obtain ⟨t, fr, h⟩ := h
  exact ⟨t, fr, e.trans h⟩
end
section
variable {P : Program} {w : World} {ops : Array Oper} {rest : List Oper} {o : Oper} {a : Act} {Q : Exit → Act → World → Prop}
theorem wpList_loadTab (hgd : o.guard = none) (ty : TypeId) (x : Operand) (ho : o.op = .load ty x) (g : Nat) (hx : a.eval x = .pointer (some ⟨g, 0, none⟩)) (k : IntKind) (xs : List Int)
    (h : Tab w g k xs) (n : Nat) (e : TypeId) (hu : P.underlying ty = some (.array n e)) (hi : (P.info? ty).map (·.size) = some n) (hl : xs.length = n)
    (hK : wpList P ops Q rest (a.put o.dst (.agg (ints k xs).toArray)) w) : wpList P ops Q (o :: rest) a w := by
  obtain ⟨t, fr, h⟩ := h
  exact wpList_load_row hgd ty x ho g hx t _ fr _ h hu rfl (by rw [hi, ← hl]; simp [ints]) hK
end
section
variable {w w' : World} {g : Nat} {t : TypeId} {k : IntKind} {xs : List Int}
theorem Blk.result {P : Program} {fn : Func} {p : Tmp} {ty : TypeId} (hb : Blk w g t k xs) (h : fn.results = #[.cell p ty]) (tmps : Array Value) (hp : tmps.getD p undef = .pointer (some ⟨g, 0, none⟩))
    (n : Nat) (e : TypeId) (hu : P.underlying ty = some (.array n e)) (hi : (P.info? ty).map (·.size) = some n) (hl : xs.length = n) : (results fn tmps).run P w = .ok (.agg (ints k xs).toArray) w :=
  results_cell_row h tmps w g t _ _ _ hp hb hu rfl (by rw [hi, ← hl]; simp [ints])
end

/-- The slice over A of n elements reads as these integers, below block B. -/
def Seg (w : World) (B : Nat) (k : IntKind) (A : Option Addr) (n : Nat) (xs : List Int) : Prop :=
  xs.length = n ∧ (0 < n → ∃ b off, A = some ⟨b, off, none⟩ ∧ b < B ∧ ∀ j, j < n → w.cell? ⟨b, off + j, none⟩ = some (.int k (xs.getD j 0)))
section
variable {w w' : World} {B B' : Nat} {k : IntKind} {A : Option Addr} {n : Nat} {xs : List Int}
theorem Seg.nil (w : World) (B : Nat) (k : IntKind) (A : Option Addr) : Seg w B k A 0 [] := ⟨rfl, fun h => absurd h (by omega)⟩
theorem Seg.below (h : Seg w B k A n xs) (hb : Below B' w w') (hB : B ≤ B') : Seg w' B k A n xs :=
  ⟨h.1, fun hn => by
    obtain ⟨b, off, e, hlt, hc⟩ := h.2 hn
    exact ⟨b, off, e, hlt, fun j hj => (hb.cell (p := ⟨b, off + j, none⟩) (by show b < B'; omega)).trans (hc j hj)⟩⟩
theorem Seg.more (h : Seg w B k A n xs) (hB : B ≤ B') : Seg w B' k A n xs :=
  ⟨h.1, fun hn => by
    obtain ⟨b, off, e, hlt, hc⟩ := h.2 hn
    exact ⟨b, off, e, by omega, hc⟩⟩
theorem Seg.drewN (h : Seg w B k A n xs) (m : Nat) : Seg (w.drewN m) B k A n xs := h
theorem Seg.of_own {base : Nat} {e : TypeId} {c : Nat} (h : w.ownsRow base e 1 (.slice A n c) n (ints k xs)) : Seg w w.heap.size k A n xs := by
  have hl : xs.length = n := by have := h.1; simpa [ints] using this
  refine ⟨hl, fun hn => ?_⟩
  obtain ⟨g, cap, hv, _, hlt⟩ := h.form hn
  have hA : A = some ⟨g, 0, none⟩ := by injection hv
  subst hA
  refine ⟨g, 0, rfl, hlt, fun j hj => ?_⟩
  have := h.cells (g := g) rfl j (.int k (xs.getD j 0)) (ints_at k xs j (by omega))
  rwa [addr_add] at this
theorem Seg.of_blk {g : Nat} {t : TypeId} (h : Blk w g t k xs) : Seg w w.heap.size k (some ⟨g, 0, none⟩) xs.length xs :=
  ⟨rfl, fun _ => ⟨g, 0, rfl, h.lt, fun j hj => by rw [Nat.zero_add]; exact h.cell j hj⟩⟩
/-- s[i:] -/
theorem Seg.drop (h : Seg w B k A n xs) {i cap : Nat} (hi : i ≤ n) (hc : n ≤ cap) :
    Seg w B k (if cap = i then A else A.map (·.add i)) (n - i) (xs.drop i) := by
  refine ⟨by rw [List.length_drop, h.1], fun hn => ?_⟩
  obtain ⟨b, off, rfl, hb, hcell⟩ := h.2 (by omega)
  rw [if_neg (by omega)]
  refine ⟨b, off + i, by simp [addr_add], hb, fun j hj => ?_⟩
  rw [show off + i + j = off + (i + j) by omega, hcell _ (by omega)]
  simp [List.getD]
/-- s[:i] -/
theorem Seg.take (h : Seg w B k A n xs) {i : Nat} (hi : i ≤ n) : Seg w B k A i (xs.take i) := by
  refine ⟨by rw [List.length_take, h.1]; omega, fun hn => ?_⟩
  obtain ⟨b, off, rfl, hb, hcell⟩ := h.2 (by omega)
  refine ⟨b, off, rfl, hb, fun j hj => ?_⟩
  rw [hcell _ (by omega)]
  simp [List.getD, hj]
end

/-- The row that the call itself made holds these bytes (or the slice is nil and there are none). -/
abbrev Own (w : World) (B : Nat) (e : TypeId) (k : IntKind) (v : Value) (xs : List Int) : Prop := w.ownsRow B e 1 v xs.length (ints k xs)

/-- append(s, x..) where s is the call's own and x any slice. -/
theorem run_app {P : Program} (w : World) (base : Nat) (t ty e : TypeId) (i : TypeInfo) (z : Value) (bytes : Nat) (ht : P.underlying t = some (.slice e)) (hi : P.info? e = some i) (hz : i.zero = some z)
    (hsize : i.size = 1) (hby : i.bytes = bytes) (hzs : z.cells.size = 1) (k : IntKind) (v : Value) (xs : List Int) (hown : Own w base e k v xs)
    (B : Nat) (A : Option Addr) (m c : Nat) (ys : List Int) (hr : Seg w B k A m ys)
    (h63 : xs.length + m ≤ maxLen) (hbytes : (xs.length + m) * bytes ≤ 140737488355328) (hbase : base ≤ w.heap.size) :
    ∃ v' w', (Builtin.append_ #[t, t] ty #[v, .slice A m c]).run P w = .ok v' w' ∧ Own w' base e k v' (xs ++ ys) ∧ w.grownBy w' v.ownBlock ∧
      (v'.ownBlock = v.ownBlock ∨ v'.ownBlock = some w.heap.size) := by
  have hlen := hr.1
  rcases A with _ | ad
  · have hm : m = 0 := by
      rcases Nat.eq_zero_or_pos m with h0 | h0
      · exact h0
      · obtain ⟨_, _, h, _⟩ := hr.2 h0
        cases h
    subst hm
    have hn : ys = [] := List.eq_nil_of_length_eq_zero hlen
    subst hn
    refine ⟨v, w, ?_, by simpa using hown, World.grownBy.refl w _, .inl rfl⟩
    rcases hown.2 with ⟨rfl, _⟩ | ⟨g, cap, cur, rfl, _, _, hnc, _⟩
    · simp [Builtin.append_, run_underlying ht, sizeOf, typeInfo, hi, Builtin.lenOf, Builtin.firstCells]
    · simp [Builtin.append_, run_underlying ht, sizeOf, typeInfo, hi, Builtin.lenOf, Builtin.firstCells, hnc, storeCells]
  · have hcells : ∀ j u, (ints k ys)[j]? = some u → w.cell? (ad.add j) = some u := by
      intro j u hu
      have hj : j < ys.length := by
        rcases Nat.lt_or_ge j ys.length with h | h
        · exact h
        · rw [List.getElem?_eq_none (by rw [ints_length]; exact h)] at hu; cases hu
      rw [ints_at k ys j hj] at hu
      injection hu with hu
      subst hu
      obtain ⟨b, off, he, _, hc⟩ := hr.2 (by omega)
      injection he with he
      subst he
      rw [addr_add]
      exact hc j (by omega)
    obtain ⟨v', w', hrun, h2, h3, _, h5⟩ := run_append_own_at (P := P) w base t ty e i z 1 bytes ht hi hz hsize hby hzs (by omega) v xs.length (ints k xs) hown ad m c (ints k ys)
      (by rw [ints_length]; omega) hcells (ints_oneCell k ys) h63 hbytes hbase
    refine ⟨v', w', hrun, ?_, h3, h5⟩
    show w'.ownsRow base e 1 v' (xs ++ ys).length (ints k (xs ++ ys))
    rw [List.length_append, hlen, ← ints_append]
    exact h2

theorem wp_app {P : Program} (w : World) {o : Oper} {a : Act} {K : Act → World → Prop} {Q : Exit → Act → World → Prop} (s x : Operand) (t : TypeId)
    (ho : o.op = .call { callee := .builtin .append, args := #[s, x], argTypes := #[t, t] })
    (base : Nat) (e : TypeId) (i : TypeInfo) (z : Value) (bytes : Nat) (ht : P.underlying t = some (.slice e)) (hi : P.info? e = some i) (hz : i.zero = some z)
    (hsize : i.size = 1) (hby : i.bytes = bytes) (hzs : z.cells.size = 1) (k : IntKind)
    (v : Value) (xs : List Int) (hs : a.eval s = v) (hown : Own w base e k v xs)
    (B : Nat) (A : Option Addr) (m c : Nat) (ys : List Int) (hx : a.eval x = .slice A m c) (hr : Seg w B k A m ys)
    (h63 : xs.length + m ≤ maxLen) (hbytes : (xs.length + m) * bytes ≤ 140737488355328) (hbase : base ≤ w.heap.size)
    (h : ∀ v' w', Own w' base e k v' (xs ++ ys) → w.grownBy w' v.ownBlock → (v'.ownBlock = v.ownBlock ∨ v'.ownBlock = some w.heap.size) → K (a.put o.dst v') w') : o.wp P a w K Q := by
  obtain ⟨v', w', hrun, h2, h3, h4⟩ := run_app (P := P) w base t o.type e i z bytes ht hi hz hsize hby hzs k v xs hown B A m c ys hr h63 hbytes hbase
  unfold Oper.wp execOp
  simp only [ho, resolve, invoke, builtin, Sem.run_bind, Sem.run_pure, Result.andThen_ok, List.map_toArray, List.map_cons, List.map_nil, hs, hx, hrun]
  exact h v' w' h2 h3 h4

theorem wpList_app {P : Program} (w : World) {ops : Array Oper} {rest : List Oper} {o : Oper} {a : Act} {Q : Exit → Act → World → Prop} (hgd : o.guard = none) (s x : Operand) (t : TypeId)
    (ho : o.op = .call { callee := .builtin .append, args := #[s, x], argTypes := #[t, t] })
    (base : Nat) (e : TypeId) (i : TypeInfo) (z : Value) (bytes : Nat) (ht : P.underlying t = some (.slice e)) (hi : P.info? e = some i) (hz : i.zero = some z)
    (hsize : i.size = 1) (hby : i.bytes = bytes) (hzs : z.cells.size = 1) (k : IntKind)
    (v : Value) (xs : List Int) (hs : a.eval s = v) (hown : Own w base e k v xs)
    (B : Nat) (A : Option Addr) (m c : Nat) (ys : List Int) (hx : a.eval x = .slice A m c) (hr : Seg w B k A m ys)
    (h63 : xs.length + m ≤ maxLen) (hbytes : (xs.length + m) * bytes ≤ 140737488355328) (hbase : base ≤ w.heap.size)
    (h : ∀ v' w', Own w' base e k v' (xs ++ ys) → w.grownBy w' v.ownBlock → (v'.ownBlock = v.ownBlock ∨ v'.ownBlock = some w.heap.size) → wpList P ops Q rest (a.put o.dst v') w') :
    wpList P ops Q (o :: rest) a w :=
  wpList_plain hgd fun _ hK => wp_app w s x t ho base e i z bytes ht hi hz hsize hby hzs k v xs hs hown B A m c ys hx hr h63 hbytes hbase fun v' w' h2 h3 h4 => hK _ _ (h v' w' h2 h3 h4)

theorem Own.cut {w : World} {B : Nat} {e : TypeId} {k : IntKind} {v : Value} {xs : List Int} (h : Own w B e k v xs) : ∃ A c, v = .slice A xs.length c ∧ xs.length ≤ c ∧ c ≤ maxLen := by
  rcases h.2 with ⟨rfl, h0⟩ | ⟨g, cap, cur, rfl, _, _, h1, h2, _⟩
  · exact ⟨none, 0, by rw [h0], by omega, by unfold maxLen; omega⟩
  · exact ⟨_, cap, rfl, h1, h2⟩

/-- The row of bytes' own type in the table. -/
theorem Tryd.infoU8 : (Tryd.prog.info? 5).map (fun i => (i.zero, i.size, i.bytes)) = some (some (.int .u8 0), 1, 1) := by kernel_rfl
theorem u32_unsigned : IntKind.u32.signed = false := rfl
theorem u8_unsigned : IntKind.u8.signed = false := rfl
end Go.Proofs.YtljkkejjnimjcaaDoor
namespace Go.Proofs.YtljkkejjnimjcaaDoor
open Go.RowKit

theorem own_below {w w' : World} {B : Nat} {e : TypeId} {k : IntKind} {v : Value} {xs : List Int} (h : Own w B e k v xs) (hg : w.grownBy w' v.ownBlock) {W : World} (hb : Below B W w) (hB : B ≤ w.heap.size) : Below B W w' :=
  hb.grown hg hB fun r hr => (h.lt r hr).1

/-- The length of a slice. -/
def lenOf : Value → Nat
  | .slice _ n _ => n
  | _ => 0

theorem Own.less {w : World} {B B' : Nat} {e : TypeId} {k : IntKind} {v : Value} {xs : List Int} (h : Own w B' e k v xs) (hB : B ≤ B') : Own w B e k v xs :=
  ⟨h.1, h.2.imp id fun ⟨g, cap, cur, hv, hg, r⟩ => ⟨g, cap, cur, hv, Nat.le_trans hB hg, r⟩⟩
/-- A row that is not empty lies in a block. -/
theorem Own.at_ {w : World} {B : Nat} {e : TypeId} {k : IntKind} {v : Value} {xs : List Int} (h : Own w B e k v xs) (hx : 0 < xs.length) :
    ∃ g c, v = .slice (some ⟨g, 0, none⟩) xs.length c ∧ xs.length ≤ c ∧ c ≤ maxLen ∧ B ≤ g ∧ g < w.heap.size ∧ ∀ j, j < xs.length → w.cell? ⟨g, j, none⟩ = some (.int k (xs.getD j 0)) := by
  have h' := h
  rcases h.2 with ⟨_, h0⟩ | ⟨g, cap, cur, rfl, hg, hh, h1, h2, _⟩
  · omega
  · refine ⟨g, cap, rfl, h1, h2, hg, (Array.getElem?_eq_some_iff.1 hh).1, fun j hj => ?_⟩
    have := h'.cells (g := g) rfl j (.int k (xs.getD j 0)) (ints_at k xs j hj)
    rwa [addr_add, Nat.zero_add] at this

/-- Bytes that the call itself has made, their number given apart. -/
def Row (w : World) (B : Nat) (e : TypeId) (k : IntKind) (v : Value) (n : Nat) (xs : List Int) : Prop := w.ownsRow B e 1 v n (ints k xs)
section
variable {w w' : World} {B n c g : Nat} {e : TypeId} {k : IntKind} {v : Value} {xs : List Int}
theorem Row.length (h : Row w B e k v n xs) : xs.length = n := by have := h.1; simpa [ints] using this
theorem Row.own (h : Row w B e k v n xs) : Own w B e k v xs := by
  have hl := h.length
  show w.ownsRow B e 1 v xs.length (ints k xs)
  rw [hl]; exact h
theorem Own.row (h : Own w B e k v xs) (hl : xs.length = n) : Row w B e k v n xs := by subst hl; exact h
theorem Row.cell (h : Row w B e k (.slice (some ⟨g, 0, none⟩) n c) n xs) (j : Nat) (hj : j < n) : w.cell? ⟨g, j, none⟩ = some (.int k (xs.getD j 0)) := by
  rw [World.ownsRow.cellAt h j (by omega)]
  exact ints_at k xs j (by rw [h.length]; exact hj)
theorem Row.frozen (h : Row w B e k (.slice (some ⟨g, 0, none⟩) n c) n xs) (j : Nat) : w.frozen? ⟨g, j, none⟩ = false := World.ownsRow.frozenAt h j
theorem Row.set_ (h : Row w B e k (.slice (some ⟨g, 0, none⟩) n c) n xs) (j : Nat) (x : Int) : Row (w.setCell ⟨g, j, none⟩ (.int k x)) B e k (.slice (some ⟨g, 0, none⟩) n c) n (xs.set j x) := by
  have h2 := (World.ownsRow.stored h j (.int k x)).1
  have e : (ints k xs).set j (.int k x) = ints k (xs.set j x) := by simp [ints, List.map_set]
  rw [e] at h2
  exact h2
theorem Row.seg {A : Option Addr} (h : Row w B e k (.slice A n c) n xs) : Seg w w.heap.size k A n xs := Seg.of_own h
/-- The value of a row is a slice. -/
theorem Row.cut (h : Row w B e k v n xs) : ∃ A c, v = .slice A n c ∧ n ≤ c ∧ c ≤ maxLen := by
  obtain ⟨A, c, hv, h1, h2⟩ := Own.cut h.own
  rw [h.length] at hv h1
  exact ⟨A, c, hv, h1, h2⟩
theorem Row.drewN (h : Row w B e k v n xs) (q : Nat) : Row (w.drewN q) B e k v n xs := h
theorem Row.alloc (h : Row w B e k v n xs) (o : Obj) : Row (w.alloc o) B e k v n xs := World.ownsRow.alloc h o
end

section
variable {P : Program} {w : World} {ops : Array Oper} {rest : List Oper} {o : Oper} {a : Act} {Q : Exit → Act → World → Prop}
/-- make([]byte, n, c). -/
theorem wpList_make_cap (hg : o.guard = none) (l c : Operand) (t : TypeId) (hop : o.op = Op.makeSlice t l c) (base : Nat)
    (e : TypeId) (i : TypeInfo) (k : IntKind) (ht : P.underlying t = some (.slice e)) (hi : P.info? e = some i) (hz : i.zero = some (.int k 0)) (hsize : i.size = 1) (hby : i.bytes = 1)
    (kl kc : IntKind) (n m : Nat) (L C : Int) (hl : a.eval l = .int kl L) (hc : a.eval c = .int kc C) (hL : L = (n : Int)) (hC : C = (m : Int)) (hnm : n ≤ m) (h63 : m ≤ 140737488355328) (hB : base ≤ w.heap.size)
    (hK : ∀ w', Row w' base e k (.slice (some ⟨w.heap.size, 0, none⟩) n m) n (List.replicate n 0) → Below w.heap.size w w' → w'.heap.size = w.heap.size + 1 → wpList P ops Q rest (a.put o.dst (.slice (some ⟨w.heap.size, 0, none⟩) n m)) w') :
    wpList P ops Q (o :: rest) a w := by
  subst hL; subst hC
  refine wpList_plain hg fun K hK' => ?_
  have hrun := run_make (P := P) w t e i (.int k 0) ht hi hz kl kc n m (by omega) (by omega) (by rw [hby]; omega) (by omega)
  simp only [Int.toNat_natCast, hsize, Nat.mul_one, Value.cells] at hrun
  unfold Oper.wp
  simp [execOp, hop, hl, hc, hrun, Result.andThen]
  refine hK' _ _ (hK _ ⟨by simp [ints], .inr ⟨w.heap.size, m, _, rfl, hB, heap_alloc_new w _, hnm, by unfold maxLen; omega, by simp [madeCells], ?_⟩⟩ ((Below.refl _ _).alloc (Nat.le_refl _) _) (by simp))
  rw [toList_madeCells_one, Nat.mul_one, List.take_replicate, Nat.min_eq_left hnm]
  simp [ints]
end
/-- A block of the call's own, as a row. -/
theorem Own.of_blk {w : World} {B g : Nat} {e : TypeId} {k : IntKind} {xs : List Int} (h : Blk w g e k xs) (hB : B ≤ g) (hm : xs.length ≤ maxLen) : Own w B e k (.slice (some ⟨g, 0, none⟩) xs.length xs.length) xs :=
  ⟨by simp [ints], .inr ⟨g, xs.length, _, rfl, hB, h, Nat.le_refl _, hm, by simp [ints], List.take_of_length_le (by simp [ints])⟩⟩

theorem Row.below {w w' : World} {B : Nat} {e : TypeId} {k : IntKind} {v : Value} {n : Nat} {xs : List Int} (h : Row w B e k v n xs) (hb : Below w.heap.size w w') : Row w' B e k v n xs := by
  refine ⟨h.1, ?_⟩
  rcases h.2 with h' | ⟨g, cap, cur, hv, hg, hh, h1, h2, h3, h4⟩
  · exact .inl h'
  · exact .inr ⟨g, cap, cur, hv, hg, (hb.block g (Array.getElem?_eq_some_iff.1 hh).1).trans hh, h1, h2, h3, h4⟩

/-- The row behind an empty slice literal. -/
theorem own_empty (w : World) (e : TypeId) (k : IntKind) (B : Nat) (hB : B ≤ w.heap.size) : Own (w.alloc (.cells #[] e)) B e k (.slice (some ⟨w.heap.size, 0, none⟩) 0 0) [] :=
  ⟨rfl, .inr ⟨w.heap.size, 0, #[], rfl, hB, heap_alloc_new w _, Nat.le_refl _, by unfold maxLen; omega, rfl, rfl⟩⟩

/-- A block that the program lays for a constant text, as bytes. -/
theorem Seg.const (xs : List Int) (e : TypeId) (fr : Nat × Nat) (g : Nat) (w' : World) (h : w'.heap[g]? = some (.cells (ints .u8 xs).toArray e fr)) : Seg w' w'.heap.size .u8 (some ⟨g, 0, none⟩) xs.length xs :=
  ⟨rfl, fun _ => ⟨g, 0, rfl, (Array.getElem?_eq_some_iff.1 h).1, fun j hj => by
    rw [Nat.zero_add, cell_of_row w' g j _ _ _ h, List.getElem?_toArray]
    exact ints_at .u8 xs j hj⟩⟩

theorem nil_row (w : World) (B : Nat) (e : TypeId) (k : IntKind) : Row w B e k (.slice none 0 0) 0 [] := World.ownsRow_nil _ _ _ _

theorem Row.at_ {w : World} {B : Nat} {e : TypeId} {k : IntKind} {v : Value} {n : Nat} {xs : List Int} (h : Row w B e k v n xs) (hn : 0 < n) : ∃ g c, v = .slice (some ⟨g, 0, none⟩) n c ∧ B ≤ g := by
  obtain ⟨g, c, hv, _, _, hB, _, _⟩ := h.own.at_ (by rw [h.length]; exact hn)
  rw [h.length] at hv
  exact ⟨g, c, hv, hB⟩


section
variable {P : Program} {w : World} {ops : Array Oper} {rest : List Oper} {o : Oper} {a : Act} {Q : Exit → Act → World → Prop}
/-- append under a guard that holds. -/
theorem wpList_appG (w : World) (hw : Region.wanted o (yielded ops a.tmps) = true) (s x : Operand) (t : TypeId)
    (ho : o.op = .call { callee := .builtin .append, args := #[s, x], argTypes := #[t, t] })
    (base : Nat) (e : TypeId) (i : TypeInfo) (z : Value) (bytes : Nat) (ht : P.underlying t = some (.slice e)) (hi : P.info? e = some i) (hz : i.zero = some z)
    (hsize : i.size = 1) (hby : i.bytes = bytes) (hzs : z.cells.size = 1) (k : IntKind)
    (v : Value) (xs : List Int) (hs : a.eval s = v) (hown : Own w base e k v xs)
    (B : Nat) (A : Option Addr) (m c : Nat) (ys : List Int) (hx : a.eval x = .slice A m c) (hr : Seg w B k A m ys)
    (h63 : xs.length + m ≤ maxLen) (hbytes : (xs.length + m) * bytes ≤ 140737488355328) (hbase : base ≤ w.heap.size)
    (h : ∀ v' w', Own w' base e k v' (xs ++ ys) → w.grownBy w' v.ownBlock → (v'.ownBlock = v.ownBlock ∨ v'.ownBlock = some w.heap.size) → wpList P ops Q rest (a.put o.dst v') w') :
    wpList P ops Q (o :: rest) a w :=
  wpList_step fun K hK => by
    simp only [hw, if_true]
    exact wp_app w s x t ho base e i z bytes ht hi hz hsize hby hzs k v xs hs hown B A m c ys hx hr h63 hbytes hbase fun v' w' h2 h3 h4 => hK _ _ (h v' w' h2 h3 h4)
end

theorem size5run (W : World) : (sizeOf (Tryd.prog.elem 22)).run Tryd.prog W = .ok 1 W := by kernel_rfl
theorem slice_to (A : Option Addr) (n c I : Nat) (h : I ≤ c) (W : World) : (Instr.slice 22 (.slice A n c) none (some (.int .i64 (I : Int))) none).run Tryd.prog W = .ok (.slice A I c) W := by
  rw [run_slice_h W 22 A n c (by kernel_rfl) .i64 (I : Int) (by omega) (by omega), size5run]
  have e : ∀ a : Addr, a.add 0 = a := fun a => by unfold Addr.add; simp
  cases A <;> simp [Result.andThen, sliced, e]
theorem slice_from (A : Option Addr) (n c I : Nat) (h : I ≤ n) (W : World) : (Instr.slice 22 (.slice A n c) (some (.int .i64 (I : Int))) none none).run Tryd.prog W = .ok (.slice (if c = I then A else A.map (·.add I)) (n - I) (c - I)) W := by
  rw [run_slice_l W 22 A n c (by kernel_rfl) .i64 (I : Int) (by omega) (by omega), size5run]
  simp [Result.andThen, sliced]

theorem cell_made (W : World) (cs : Array Value) (t : TypeId) (g i : Nat) (v : Value) (hg : g = W.heap.size) (hv : cs[i]? = some v) : (W.alloc (.cells cs t)).cell? ⟨g, i, none⟩ = some v := by
  rw [World.cell?_alloc_at cs t g i hg]
  exact hv
theorem cell_made_drew (W : World) (cs : Array Value) (t : TypeId) (g i : Nat) (v : Value) (hg : g = W.heap.size) (hv : cs[i]? = some v) : (W.alloc (.cells cs t)).drew.cell? ⟨g, i, none⟩ = some v := cell_made W cs t g i v hg hv
theorem cell_made_past (W : World) (cs : Array Value) (t : TypeId) (o : Obj) (g i : Nat) (v : Value) (hg : g = W.heap.size) (hv : cs[i]? = some v) : ((W.alloc (.cells cs t)).alloc o).drew.cell? ⟨g, i, none⟩ = some v := by
  have h := cell_made W cs t g i v hg hv
  exact (World.cell?_alloc_lt _ o ⟨g, i, none⟩ (by simp; omega)).trans h
theorem cell_in {W w2 : World} (hb : Below W.heap.size W w2) {g i : Nat} {v : Value} (h : W.cell? ⟨g, i, none⟩ = some v) : w2.cell? ⟨g, i, none⟩ = some v := (hb.cell (block_lt_of_cell h)).trans h

theorem made_zeros (n : Nat) : madeCells #[.int .u8 0] n = (ints .u8 (List.replicate n 0)).toArray := by
  apply Array.ext'
  rw [toList_madeCells_one]
  simp [ints]
theorem slice_hm (A : Option Addr) (n c I : Nat) (h : I ≤ c) (W : World) : (Instr.slice 22 (.slice A n c) none (some (.int .i64 (I : Int))) (some (.int .i64 (I : Int)))).run Tryd.prog W = .ok (.slice A I I) W := by
  rw [run_slice_hm W 22 A n c (by kernel_rfl) .i64 .i64 (I : Int) (I : Int) (by omega) (by omega) (by omega), size5run]
  have e : ∀ a : Addr, a.add 0 = a := fun a => by unfold Addr.add; simp
  cases A <;> simp [Result.andThen, sliced, e]

/-- Four variables that a call has just boxed. -/
theorem four_boxes (w : World) (v0 v1 v2 v3 : Value) (t0 t1 t2 t3 : TypeId) :
    let w0 := (((w.alloc (.cells #[v0] t0)).alloc (.cells #[v1] t1)).alloc (.cells #[v2] t2)).alloc (.cells #[v3] t3)
    w0.cell? ⟨w.heap.size, 0, none⟩ = some v0 ∧ w0.cell? ⟨w.heap.size + 1, 0, none⟩ = some v1 ∧ w0.cell? ⟨w.heap.size + 1 + 1, 0, none⟩ = some v2 ∧ w0.cell? ⟨w.heap.size + 1 + 1 + 1, 0, none⟩ = some v3 := by
  intro w0
  refine ⟨?_, ?_, ?_, ?_⟩
  · refine (World.cell?_alloc_lt _ _ _ (by simp; try omega)).trans ((World.cell?_alloc_lt _ _ _ (by simp; try omega)).trans ((World.cell?_alloc_lt _ _ _ (by simp)).trans ?_))
    exact cell_made w #[v0] t0 _ 0 v0 rfl rfl
  · refine (World.cell?_alloc_lt _ _ _ (by simp; try omega)).trans ((World.cell?_alloc_lt _ _ _ (by simp; try omega)).trans ?_)
    exact cell_made _ #[v1] t1 _ 0 v1 (by simp) rfl
  · refine (World.cell?_alloc_lt _ _ _ (by simp; try omega)).trans ?_
    exact cell_made _ #[v2] t2 _ 0 v2 (by simp) rfl
  · exact cell_made _ #[v3] t3 _ 0 v3 (by simp) rfl

/-- Numbers of bytes. -/
def InB (xs : List Int) : Prop := ∀ x ∈ xs, 0 ≤ x ∧ x < 256
theorem InB.take {xs : List Int} (h : InB xs) (n : Nat) : InB (xs.take n) := fun x hx => h x (List.mem_of_mem_take hx)
theorem InB.set_ {xs : List Int} (h : InB xs) (k : Nat) {x : Int} (hx : 0 ≤ x ∧ x < 256) : InB (xs.set k x) := fun y hy => by
  rcases List.mem_or_eq_of_mem_set hy with h1 | rfl
  · exact h y h1
  · exact hx
theorem inB_append {xs ys : List Int} (h : InB xs) (h2 : InB ys) : InB (xs ++ ys) := fun y hy => by
  rcases List.mem_append.1 hy with h1 | h1
  · exact h y h1
  · exact h2 y h1

/-- Everything below the call's own blocks but block g is as it was. -/
abbrev But (w w' : World) (g : Nat) : Prop := w.grownBy w' (some g)
theorem but_of_below {w w' : World} (h : Below w.heap.size w w') (g : Nat) : But w w' g := ⟨h.os, h.tape, h.output, h.size, fun i hi _ => h.block i hi⟩
theorem But.set_ {w w' : World} {g : Nat} (h : But w w' g) (i : Nat) (u : Value) : But w (w'.setCell ⟨g, i, none⟩ u) g :=
  ⟨h.os, h.tape, h.output, by simpa [World.setCell] using h.size, fun j hj hne => (Below.heap_setCell w' ⟨g, i, none⟩ u j (fun e => hne (by rw [e]))).trans (h.block j hj hne)⟩
theorem But.trans {a b c : World} {g : Nat} (h : But a b g) (k : But b c g) : But a c g := World.grownBy.trans h k
theorem But.drew {w w' : World} {g : Nat} (h : But w w' g) : But w w'.drew g := ⟨h.os, h.tape, h.output, h.size, h.block⟩

/-- append as one step of a region that draws its order. -/
theorem step_app {P : Program} (w : World) {ops : Array Oper} {o : Oper} {a : Act} {K : Act → World → Prop} {Q : Exit → Act → World → Prop} {E : Prop} (hgd : o.guard = none) (s x : Operand) (t : TypeId)
    (ho : o.op = .call { callee := .builtin .append, args := #[s, x], argTypes := #[t, t] })
    (base : Nat) (e : TypeId) (i : TypeInfo) (z : Value) (bytes : Nat) (ht : P.underlying t = some (.slice e)) (hi : P.info? e = some i) (hz : i.zero = some z)
    (hsize : i.size = 1) (hby : i.bytes = bytes) (hzs : z.cells.size = 1) (k : IntKind)
    (v : Value) (xs : List Int) (hs : a.eval s = v) (hown : Own w base e k v xs)
    (B : Nat) (A : Option Addr) (m c : Nat) (ys : List Int) (hx : a.eval x = .slice A m c) (hr : Seg w B k A m ys)
    (h63 : xs.length + m ≤ maxLen) (hbytes : (xs.length + m) * bytes ≤ 140737488355328) (hbase : base ≤ w.heap.size)
    (h : ∀ v' w', Own w' base e k v' (xs ++ ys) → w.grownBy w' v.ownBlock → (v'.ownBlock = v.ownBlock ∨ v'.ownBlock = some w.heap.size) → K (a.put o.dst v') w') :
    if Region.wanted o (yielded ops a.tmps) = true then Oper.wp P o a w K Q else E := by
  have hw : Region.wanted o (yielded ops a.tmps) = true := by simp [Region.wanted, hgd]
  rw [if_pos hw]
  exact wp_app w s x t ho base e i z bytes ht hi hz hsize hby hzs k v xs hs hown B A m c ys hx hr h63 hbytes hbase h

section
variable {w w' : World} {g : Nat}
theorem Row.but {B : Nat} {e : TypeId} {k : IntKind} {v : Value} {m : Nat} {xs : List Int} (h : Row w B e k v m xs) (hb : But w w' g) (hg : g < B) : Row w' B e k v m xs :=
  World.ownsRow.kept h hb (by
    rcases hv : v.ownBlock with _ | r
    · exact .inl rfl
    · refine .inr fun e => ?_
      have h1 := (World.ownsRow.lt h r hv).1
      injection e with e
      omega)
theorem below_but {B : Nat} {w0 : World} (hb : Below B w0 w) (h : But w w' g) (hg : B ≤ g) (hB : B ≤ w.heap.size) : Below B w0 w' := hb.grown h hB (fun r hr => by injection hr with hr; omega)
theorem but_refl (w : World) (g : Nat) : But w w g := World.grownBy.refl _ _
theorem But.drewN (h : But w w' g) (q : Nat) : But w (w'.drewN q) g := ⟨h.os, h.tape, h.output, h.size, h.block⟩
end

theorem Seg.but {w w' : World} {g : Nat} {k : IntKind} {A : Option Addr} {n : Nat} {xs : List Int} (h : Seg w g k A n xs) (hb : But w w' g) : Seg w' g k A n xs :=
  ⟨h.1, fun hn => by
    obtain ⟨b, off, e, hlt, hc⟩ := h.2 hn
    refine ⟨b, off, e, hlt, fun j hj => ?_⟩
    have h1 := hc j hj
    exact (World.cell?_of_block (w := w) (w' := w') (a := ⟨b, off + j, none⟩) (hb.block b (block_lt_of_cell h1) (by intro e; injection e with e; omega))).trans h1⟩

/-- b[l:h] -/
theorem slice_lh (A : Option Addr) (n c l h : Nat) (h1 : l ≤ h) (h2 : h ≤ c) (W : World) : (Instr.slice 22 (.slice A n c) (some (.int .i64 (l : Int))) (some (.int .i64 (h : Int))) none).run Tryd.prog W = .ok (.slice (if c = l then A else A.map (·.add l)) (h - l) (c - l)) W := by
  rw [run_slice_lh W 22 A n c (by kernel_rfl) .i64 .i64 (l : Int) (h : Int) (by omega) (by omega) (by omega), size5run]
  simp [Result.andThen, sliced]
theorem Row.less {w : World} {B B' : Nat} {e : TypeId} {k : IntKind} {v : Value} {n : Nat} {xs : List Int} (h : Row w B e k v n xs) (hB : B' ≤ B) : Row w B' e k v n xs := by
  refine ⟨h.1, ?_⟩
  rcases h.2 with h' | ⟨g, cap, cur, hv, hg, hh⟩
  · exact .inl h'
  · exact .inr ⟨g, cap, cur, hv, by omega, hh⟩
/-- The beginning of a row. -/
theorem Row.cutTo {w : World} {B : Nat} {e : TypeId} {k : IntKind} {A : Option Addr} {n c : Nat} {xs : List Int} (h : Row w B e k (.slice A n c) n xs) {m : Nat} (hm : m ≤ n) (hA : A ≠ none) : Row w B e k (.slice A m c) m (xs.take m) := by
  have hl := h.length
  rcases h.2 with ⟨h1, _⟩ | ⟨g, cap, cur, hv, hg, hh, h1, h2, h3, h4⟩
  · injection h1 with h1; exact absurd h1 hA
  · injection hv with e1 e2 e3
    subst e1 e3
    refine ⟨by simp [ints]; omega, .inr ⟨g, c, cur, rfl, hg, hh, by omega, h2, h3, ?_⟩⟩
    have h5 : cur.toList.take n = ints k xs := by simpa using h4
    rw [Nat.mul_one, show m = min m n by omega, ← List.take_take, h5]
    simp [ints, List.map_take, show min m n = m by omega]
theorem Row.caps {w : World} {B : Nat} {e : TypeId} {k : IntKind} {A : Option Addr} {n c : Nat} {xs : List Int} (h : Row w B e k (.slice A n c) n xs) : n ≤ c ∧ c ≤ maxLen := by
  obtain ⟨_, _, hv, h1, h2⟩ := h.cut
  injection hv with _ _ hv
  subst hv
  exact ⟨h1, h2⟩
theorem Row.far {w w' : World} {B : Nat} {e : TypeId} {k : IntKind} {g n c : Nat} {xs : List Int} {r : Nat} (h : Row w B e k (.slice (some ⟨g, 0, none⟩) n c) n xs) (hb : But w w' r) (hne : g ≠ r) : Row w' B e k (.slice (some ⟨g, 0, none⟩) n c) n xs :=
  World.ownsRow.kept h hb (.inr (fun e => hne (Option.some.inj e)))
/-- A row lies in a block of the call's own. -/
theorem Row.from_ {w : World} {B n c : Nat} {e : TypeId} {k : IntKind} {A : Option Addr} {xs : List Int} (h : Row w B e k (.slice A n c) n xs) : 0 < n → ∀ a, A = some a → B ≤ a.block := fun hn a ha => by
  rcases h.2 with ⟨hv, h0⟩ | ⟨g, cap, cur, hv, hg, _⟩
  · omega
  · injection hv with hA _ _
    rw [hA] at ha
    injection ha with ha
    subst ha
    exact hg
end Go.Proofs.YtljkkejjnimjcaaDoor
namespace Go.Proofs.YtljkkejjnimjcaaDoor
open Go.RowKit

theorem zeros_ints (k : IntKind) (n : Nat) : Builtin.zeroCells (Value.int k 0).cells n = (ints k (List.replicate n 0)).toArray := by
  apply Array.ext'
  apply List.ext_getElem?
  intro j
  by_cases hj : j < n
  · simp [Builtin.zeroCells, ints, Value.cells, hj, Nat.mod_one]
  · simp [Builtin.zeroCells, ints, Value.cells, hj]

section
variable {P : Program} (w : World)
theorem run_room_zeros (t tn ty e : TypeId) (i : TypeInfo) (k kq kn : IntKind) (ht : P.underlying t = some (.slice e)) (htn : P.underlying tn = some (.int kn)) (hi : P.info? e = some i) (hz : i.zero = some (.int k 0)) (hsize : i.size = 1) (hby : i.bytes = 1)
    (g sLen sCap n : Nat) (cur : Array Value) (hg : w.heap[g]? = some (.cells cur e (0, 0))) (hn : n ≤ 140737488355328) (hroom : sLen + n ≤ sCap) (hfit : sLen + n ≤ cur.size) :
    (Builtin.append_ #[t, tn] ty #[.slice (some ⟨g, 0, none⟩) sLen sCap, .int kq (n : Int)]).run P w =
      .ok (.slice (some ⟨g, 0, none⟩) (sLen + n) sCap) (w.setRow g (cur.toList.take sLen ++ ints k (List.replicate n 0) ++ cur.toList.drop (sLen + n)).toArray) := by
  have hw : IntKind.i64.wrap (n : Int) = n := by rw [IntKind.wrap_i64]; omega
  have hneg : ¬ ((n : Int) < 0) := by omega
  have hl : (ints k (List.replicate n 0)).length = n := by simp [ints]
  have h48 : ¬ (281474976710656 < (n : Int) * (i.bytes : Int)) := by rw [hby]; omega
  have hst := run_storeCells_at P g sLen e (ints k (List.replicate n 0)) 0 cur w hg (by rw [hl]; simpa using hfit) (ints_oneCell k _)
  simp only [Nat.add_zero, hl] at hst
  by_cases h0 : n = 0
  · subst h0
    have h : ints k (List.replicate 0 0) = [] := rfl
    rw [h] at hst
    have h0 : IntKind.i64.wrap 0 = 0 := rfl
    have hroom' : sLen ≤ sCap := by omega
    have hst' : w.setRow g (cur.toList.take sLen ++ [] ++ cur.toList.drop (sLen + 0)).toArray = w := by
      have h1 : (storeCells ⟨g, sLen, none⟩ []).run P w = .ok () w := rfl
      rw [h1] at hst
      injection hst with _ h2
      simpa using h2.symm
    rw [h, hst']
    simp [Builtin.append_, run_underlying ht, run_underlying htn, sizeOf, typeInfo, hi, asInt, asIntOf, h0, hroom', storeCells]
  · simp [Builtin.append_, run_underlying ht, run_underlying htn, sizeOf, typeInfo, zeroValue, hi, hz, hsize, asInt, asIntOf, hw, hneg, h48, h0, hroom, Addr.add_lit, zeros_ints, hst]

theorem run_append_own_zeros (base : Nat) (t tn ty e : TypeId) (i : TypeInfo) (k kq kn : IntKind) (ht : P.underlying t = some (.slice e)) (htn : P.underlying tn = some (.int kn)) (hi : P.info? e = some i) (hz : i.zero = some (.int k 0)) (hsize : i.size = 1) (hby : i.bytes = 1)
    (v : Value) (m n : Nat) (xs : List Int) (hown : Row w base e k v m xs) (hbytes : m + n ≤ 140737488355328) (hbase : base ≤ w.heap.size) :
    ∃ v' w', (Builtin.append_ #[t, tn] ty #[v, .int kq (n : Int)]).run P w = .ok v' w' ∧ Row w' base e k v' (m + n) (xs ++ List.replicate n 0) ∧ w.grownBy w' v.ownBlock := by
  have hxl := hown.length
  have hil : (ints k xs).length = m := by rw [ints_length]; exact hxl
  have hlen : (ints k (xs ++ List.replicate n 0)).length = (m + n) * 1 := by simp [ints, hxl]
  have hz1 : (Value.int k 0).cells.size = 1 := rfl
  have grown : ∀ (old : Nat), old < m + n → ∀ (row : Option Nat),
      Row (w.drew.alloc (.cells ((ints k xs).toArray ++ Builtin.zeroCells (Value.int k 0).cells n ++ Builtin.zeroCells (Value.int k 0).cells (grownCap w (m + n) old e - (m + n))) e)) base e k
        (.slice (some ⟨w.heap.size, 0, none⟩) (m + n) (grownCap w (m + n) old e)) (m + n) (xs ++ List.replicate n 0) ∧
      w.grownBy (w.drew.alloc (.cells ((ints k xs).toArray ++ Builtin.zeroCells (Value.int k 0).cells n ++ Builtin.zeroCells (Value.int k 0).cells (grownCap w (m + n) old e - (m + n))) e)) row := by
    intro old ho row
    have hge := grownCap_ge w (m + n) old e
    have hcm : grownCap w (m + n) old e ≤ maxLen := grownCap_le_maxLen w (m + n) old e (by unfold maxLen; omega)
    refine ⟨⟨hlen, .inr ⟨w.heap.size, _, _, rfl, hbase, heap_alloc_new w.drew _, hge, hcm, ?_, ?_⟩⟩, ⟨rfl, rfl, rfl, by simp, fun j hj _ => heap_alloc_old w.drew _ hj⟩⟩
    · simp only [Array.size_append, List.size_toArray, size_zeroCells, hz1, hil]
      omega
    · rw [zeros_ints k n]
      simp only [Array.toList_append, List.append_assoc]
      rw [← List.append_assoc, ints_append, ← hlen]
      exact List.take_left
  rcases hown.2 with ⟨rfl, hm0⟩ | ⟨g, cap, cur, rfl, hbg, hg, hnc, hcm, hcs, htake⟩
  · have hx : xs = [] := List.eq_nil_of_length_eq_zero (by omega)
    subst hx
    subst hm0
    by_cases h0 : n = 0
    · subst h0
      refine ⟨.slice none 0 0, w, ?_, World.ownsRow_nil w base e 1, ⟨rfl, rfl, rfl, Nat.le_refl _, fun _ _ _ => rfl⟩⟩
      have hw : IntKind.i64.wrap 0 = 0 := rfl
      simp [Builtin.append_, run_underlying ht, run_underlying htn, sizeOf, typeInfo, hi, asInt, asIntOf, hw]
    · have hr := Lib.run_append_nil_zeros (P := P) w t tn ty e i (.int k 0) kq kn ht htn hi hz n (by omega) (by omega) (by omega) (by rw [hby]; omega)
      have hgr := grown 0 (by omega) (Value.ownBlock (.slice none 0 0))
      have e0 : (ints k []).toArray = #[] := rfl
      simp only [Nat.zero_add, List.nil_append, e0, Array.empty_append] at hgr ⊢
      exact ⟨_, _, hr, hgr.1, hgr.2⟩
  · by_cases hroom : m + n ≤ cap
    · have hcs' : cur.size = cap := by simpa using hcs
      have hr := run_room_zeros (P := P) w t tn ty e i k kq kn ht htn hi hz hsize hby g m cap n cur hg (by omega) hroom (by omega)
      refine ⟨_, _, hr, ⟨hlen, .inr ⟨g, cap, _, rfl, hbg, setRow_heap w g cur _ e _ hg, hroom, hcm, ?_, ?_⟩⟩, ⟨rfl, rfl, rfl, by simp, fun j _ hj => setRow_other w g j _ (fun e => hj (by simp [Value.ownBlock, e]))⟩⟩
      · simp only [List.size_toArray, List.length_append, List.length_take, List.length_drop, Array.length_toList, ints_length, List.length_replicate]
        omega
      · have ht' : cur.toList.take m = ints k xs := by simpa using htake
        rw [ht', ints_append, ← hlen]
        exact List.take_left
    · have holds : ∀ j u, (ints k xs)[j]? = some u → w.cell? ((⟨g, 0, none⟩ : Addr).add j) = some u := World.ownsRow.cells (g := g) hown rfl
      have hfo := run_firstCells_some (P := P) w.drew i.size m ⟨g, 0, none⟩ m cap (ints k xs) (by rw [hsize, hil]; omega) (by simpa using holds)
      have hr := Lib.run_append_grow_zeros (P := P) w t tn ty e i (.int k 0) kq kn ht htn hi hz (some ⟨g, 0, none⟩) m cap (ints k xs) hfo n (by omega) (by omega) (by omega) (by omega) (by rw [hby]; omega) (by rw [hby]; exact growslice_fits (by omega) (by omega))
      have hgr := grown cap (by omega) (Value.ownBlock (.slice (some ⟨g, 0, none⟩) m cap))
      exact ⟨_, _, hr, hgr.1, hgr.2⟩

theorem wpList_appz {ops : Array Oper} {rest : List Oper} {o : Oper} {a : Act} {Q : Exit → Act → World → Prop} (hgd : o.guard = none) (sl x : Operand) (t tn : TypeId)
    (ho : o.op = .call { callee := .builtin .append, args := #[sl, x], argTypes := #[t, tn] })
    (base : Nat) (e : TypeId) (i : TypeInfo) (k kq kn : IntKind) (ht : P.underlying t = some (.slice e)) (htn : P.underlying tn = some (.int kn)) (hi : P.info? e = some i) (hz : i.zero = some (.int k 0)) (hsize : i.size = 1) (hby : i.bytes = 1)
    (v : Value) (m n : Nat) (xs : List Int) (hs : a.eval sl = v) (hown : Row w base e k v m xs) (C : Int) (hx : a.eval x = .int kq C) (hC : C = (n : Int)) (hbytes : m + n ≤ 140737488355328) (hbase : base ≤ w.heap.size)
    (h : ∀ v' w', Row w' base e k v' (m + n) (xs ++ List.replicate n 0) → w.grownBy w' v.ownBlock → wpList P ops Q rest (a.put o.dst v') w') : wpList P ops Q (o :: rest) a w := by
  subst hC
  refine wpList_plain hgd fun K hK => ?_
  obtain ⟨v', w', hr, h2, h3⟩ := run_append_own_zeros (P := P) w base t tn o.type e i k kq kn ht htn hi hz hsize hby v m n xs hown hbytes hbase
  unfold Oper.wp execOp
  simp only [ho, resolve, invoke, builtin, Sem.run_bind, Sem.run_pure, Result.andThen_ok, List.map_toArray, List.map_cons, List.map_nil, hs, hx, hr]
  exact hK _ _ (h v' w' h2 h3)
end

/-- The bytes of a text, as numbers. -/
def strI (s : ByteArray) : List Int := s.data.toList.map fun b => (b.toNat : Int)
theorem strI_length (s : ByteArray) : (strI s).length = s.size := by
  rw [strI, List.length_map, Array.length_toList]
  rfl
theorem strI_cells (s : ByteArray) : Lib.strCells s = ints .u8 (strI s) := by simp [Lib.strCells, ints, strI]
section
variable {P : Program} (w : World)
theorem wpList_apps {ops : Array Oper} {rest : List Oper} {o : Oper} {a : Act} {Q : Exit → Act → World → Prop} (hgd : o.guard = none) (sl x : Operand) (t u : TypeId)
    (ho : o.op = .call { callee := .builtin .append, args := #[sl, x], argTypes := #[t, u] })
    (base : Nat) (e : TypeId) (i : TypeInfo) (ht : P.underlying t = some (.slice e)) (hu : P.underlying u = some .string) (hi : P.info? e = some i) (hz : i.zero = some (.int .u8 0))
    (hsize : i.size = 1) (hby : i.bytes = 1)
    (v : Value) (n : Nat) (xs : List Int) (hs : a.eval sl = v) (hown : Row w base e .u8 v n xs) (s : ByteArray) (hx : a.eval x = .string s)
    (hbytes : n + s.size ≤ 140737488355328) (hbase : base ≤ w.heap.size)
    (h : ∀ v' w', Row w' base e .u8 v' (n + s.size) (xs ++ strI s) → w.grownBy w' v.ownBlock → wpList P ops Q rest (a.put o.dst v') w') : wpList P ops Q (o :: rest) a w :=
  Lib.wpList_append_own_string (P := P) w hgd sl x t u ho base e i ht hu hi hz hsize hby v n (ints .u8 xs) hs hown s hx (by unfold maxLen; omega) hbytes hbase fun v' w' h1 h2 _ => by
    rw [strI_cells, ints_append] at h1
    exact h v' w' h1 h2
end
end Go.Proofs.YtljkkejjnimjcaaDoor
namespace Go.Proofs.YtljkkejjnimjcaaDoor
open Go.RowKit

theorem Tryd.infoU32 : (Tryd.prog.info? 60).map (fun i => (i.zero, i.size, i.bytes)) = some (some (.int .u32 0), 1, 4) := by kernel_rfl
theorem Tryd.size64 : (Tryd.prog.info? 69).map (·.size) = some 64 := by kernel_rfl
theorem Tryd.size80 : (Tryd.prog.info? 78).map (·.size) = some 80 := by kernel_rfl
theorem Tryd.size8 : (Tryd.prog.info? 82).map (·.size) = some 8 := by kernel_rfl
theorem Tryd.size5 : (Tryd.prog.info? 75).map (·.size) = some 5 := by kernel_rfl
theorem Tryd.zero80 (w : World) : (zeroValue 78).run Tryd.prog w = .ok (.agg (ints .u32 (List.replicate 80 0)).toArray) w := by kernel_rfl
theorem Tryd.zero64 (w : World) : (zeroValue 69).run Tryd.prog w = .ok (.agg (ints .u32 (List.replicate 64 0)).toArray) w := by kernel_rfl
end Go.Proofs.YtljkkejjnimjcaaDoor
namespace Go.Proofs.YtljkkejjnimjcaaDoor
open Go.RowKit

def rotrI (x n : Int) : Int := bits .or .u32 (x / 2 ^ n.toNat) (x * 2 ^ (32 - n).toNat % 4294967296)
def rotlI (x n : Int) : Int := bits .or .u32 (x * 2 ^ n.toNat % 4294967296) (x / 2 ^ (32 - n).toNat)
def xorI (a b : Int) : Int := bits .xor .u32 a b
def andI (a b : Int) : Int := bits .and .u32 a b
def notI (a : Int) : Int := bits .xor .u32 IntKind.u32.max a
def wordI (a b c d : Int) : Int :=
  bits .or .u32 (bits .or .u32 (bits .or .u32 (a % 4294967296 * 16777216 % 4294967296) (b % 4294967296 * 65536 % 4294967296)) (c % 4294967296 * 256 % 4294967296)) (d % 4294967296)
/-- The word number t of a block. -/
def wordAtI (xs : List Int) (t : Nat) : Int := wordI (xs.getD (4 * t) 0) (xs.getD (4 * t + 1) 0) (xs.getD (4 * t + 2) 0) (xs.getD (4 * t + 3) 0)
/-- The four bytes of a word. -/
def be4 (x : Int) : List Int := [x / 16777216 % 256, x / 65536 % 256, x / 256 % 256, x % 256]
def bytesI (ws : List Int) : List Int := (ws.map be4).flatten

/-- A schedule: the first t of its words; sixteen of the block, then each from those before it. -/
def sch (f : Nat → Int) (next : List Int → Int) : Nat → List Int
  | 0 => []
  | t + 1 => let l := sch f next t
    l ++ [if t < 16 then f t else next l]
theorem sch_length (f : Nat → Int) (next : List Int → Int) (t : Nat) : (sch f next t).length = t := by
  induction t with
  | zero => rfl
  | succ t ih => simp [sch, ih]
theorem sch_low (f : Nat → Int) (next : List Int → Int) (t : Nat) (h : t < 16) : sch f next (t + 1) = sch f next t ++ [f t] := by simp [sch, h]
theorem sch_high (f : Nat → Int) (next : List Int → Int) (t : Nat) (h : 16 ≤ t) : sch f next (t + 1) = sch f next t ++ [next (sch f next t)] := by
  simp [sch]; omega

def s0I (x : Int) : Int := xorI (xorI (rotrI x 7) (rotrI x 18)) (x / 8)
def s1I (x : Int) : Int := xorI (xorI (rotrI x 17) (rotrI x 19)) (x / 1024)
def S0I (x : Int) : Int := xorI (xorI (rotrI x 2) (rotrI x 13)) (rotrI x 22)
def S1I (x : Int) : Int := xorI (xorI (rotrI x 6) (rotrI x 11)) (rotrI x 25)
def addI (a b : Int) : Int := (a + b) % 4294967296
def next256 (l : List Int) : Int :=
  addI (addI (addI (s1I (l.getD (l.length - 2) 0)) (l.getD (l.length - 7) 0)) (s0I (l.getD (l.length - 15) 0))) (l.getD (l.length - 16) 0)
def next1 (l : List Int) : Int :=
  rotlI (xorI (xorI (xorI (l.getD (l.length - 3) 0) (l.getD (l.length - 8) 0)) (l.getD (l.length - 14) 0)) (l.getD (l.length - 16) 0)) 1

def kay256 : List Int := [1116352408, 1899447441, 3049323471, 3921009573, 961987163, 1508970993, 2453635748, 2870763221, 3624381080, 310598401, 607225278, 1426881987, 1925078388, 2162078206, 2614888103, 3248222580, 3835390401, 4022224774, 264347078, 604807628, 770255983, 1249150122, 1555081692, 1996064986, 2554220882, 2821834349, 2952996808, 3210313671, 3336571891, 3584528711, 113926993, 338241895, 666307205, 773529912, 1294757372, 1396182291, 1695183700, 1986661051, 2177026350, 2456956037, 2730485921, 2820302411, 3259730800, 3345764771, 3516065817, 3600352804, 4094571909, 275423344, 430227734, 506948616, 659060556, 883997877, 958139571, 1322822218, 1537002063, 1747873779, 1955562222, 2024104815, 2227730452, 2361852424, 2428436474, 2756734187, 3204031479, 3329325298]
def t1I (e f g h k w : Int) : Int := addI (addI (addI (addI h (S1I e)) (xorI (andI e f) (andI (notI e) g))) k) w
def t2I (a b c : Int) : Int := addI (S0I a) (xorI (xorI (andI a b) (andI a c)) (andI b c))
def round256 (k w : Int) : List Int → List Int
  | [a, b, c, d, e, f, g, h] => [addI (t1I e f g h k w) (t2I a b c), a, b, c, addI d (t1I e f g h k w), e, f, g]
  | l => l
def rounds256 (K W : List Int) (s : List Int) : Nat → List Int
  | 0 => s
  | t + 1 => round256 (K.getD t 0) (W.getD t 0) (rounds256 K W s t)
def comp256 (W s : List Int) : List Int := List.zipWith addI s (rounds256 kay256 W s 64)
def step256 (s xs : List Int) : List Int := comp256 (sch (wordAtI xs) next256 64) s

def f1I (t : Nat) (b c d : Int) : Int :=
  if t < 20 then xorI (andI b c) (andI (notI b) d) else if t < 40 then xorI (xorI b c) d else if t < 60 then xorI (xorI (andI b c) (andI b d)) (andI c d) else xorI (xorI b c) d
def k1I (t : Nat) : Int := if t < 20 then 1518500249 else if t < 40 then 1859775393 else if t < 60 then 2400959708 else 3395469782
def round1I (t : Nat) (w : Int) : List Int → List Int
  | [a, b, c, d, e] => [addI (addI (addI (addI (rotlI a 5) (f1I t b c d)) e) (k1I t)) w, a, rotlI b 30, c, d]
  | l => l
def rounds1 (W : List Int) (s : List Int) : Nat → List Int
  | 0 => s
  | t + 1 => round1I t (W.getD t 0) (rounds1 W s t)
def comp1 (W s : List Int) : List Int := List.zipWith addI s (rounds1 W s 80)
def step1 (s xs : List Int) : List Int := comp1 (sch (wordAtI xs) next1 80) s

/-- The state behind k blocks of xs. -/
def run (step : List Int → List Int → List Int) (s : List Int) (xs : List Int) : Nat → List Int
  | 0 => s
  | k + 1 => step (run step s xs k) ((xs.drop (64 * k)).take 64)

/-- What follows a message of n bytes. -/
def tail8 (n : Nat) : List Int := be4 ((n : Int) * 8 / 4294967296 % 4294967296) ++ be4 ((n : Int) * 8 % 4294967296)
def tailI (n : Nat) : List Int := 128 :: (List.replicate ((119 - n % 64) % 64) 0 ++ tail8 n)
def padded (xs : List Int) : List Int := xs ++ tailI xs.length

def init256 : List Int := [1779033703, 3144134277, 1013904242, 2773480762, 1359893119, 2600822924, 528734635, 1541459225]
def init1 : List Int := [1732584193, 4023233417, 2562383102, 271733878, 3285377520]
def state256 (xs : List Int) : List Int := run step256 init256 (padded xs) ((padded xs).length / 64)
def state1 (xs : List Int) : List Int := run step1 init1 (padded xs) ((padded xs).length / 64)
def sha256 (xs : List Int) : List Int := bytesI (state256 xs)
def sha1 (xs : List Int) : List Int := bytesI (state1 xs)

theorem run_length {step : List Int → List Int → List Int} {n : Nat} (hstep : ∀ s xs, s.length = n → (step s xs).length = n) (s xs : List Int) (hs : s.length = n) (k : Nat) : (run step s xs k).length = n := by
  induction k with
  | zero => exact hs
  | succ k ih => exact hstep _ _ ih
theorem round256_length (k w : Int) (s : List Int) (h : s.length = 8) : (round256 k w s).length = 8 := by
  match s, h with
  | [_, _, _, _, _, _, _, _], _ => rfl
theorem rounds256_length (K W s : List Int) (h : s.length = 8) (t : Nat) : (rounds256 K W s t).length = 8 := by
  induction t with
  | zero => exact h
  | succ t ih => exact round256_length _ _ _ ih
theorem step256_length (s xs : List Int) (h : s.length = 8) : (step256 s xs).length = 8 := by
  simp [step256, comp256, rounds256_length _ _ _ h, h]
theorem round1I_length (t : Nat) (w : Int) (s : List Int) (h : s.length = 5) : (round1I t w s).length = 5 := by
  match s, h with
  | [_, _, _, _, _], _ => rfl
theorem rounds1_length (W s : List Int) (h : s.length = 5) (t : Nat) : (rounds1 W s t).length = 5 := by
  induction t with
  | zero => exact h
  | succ t ih => exact round1I_length _ _ _ ih
theorem step1_length (s xs : List Int) (h : s.length = 5) : (step1 s xs).length = 5 := by
  simp [step1, comp1, rounds1_length _ _ h, h]
theorem state256_length (xs : List Int) : (state256 xs).length = 8 := run_length step256_length _ _ rfl _
theorem state1_length (xs : List Int) : (state1 xs).length = 5 := run_length step1_length _ _ rfl _
theorem bytesI_length (ws : List Int) : (bytesI ws).length = 4 * ws.length := by
  induction ws with
  | nil => rfl
  | cons x l ih => simp [bytesI, be4] at ih ⊢; omega
theorem sha256_length (xs : List Int) : (sha256 xs).length = 32 := by simp [sha256, bytesI_length, state256_length]
theorem sha1_length (xs : List Int) : (sha1 xs).length = 20 := by simp [sha1, bytesI_length, state1_length]

/-- The blocks of a message and then those of its end: as the blocks of both. -/
theorem run_append (step : List Int → List Int → List Int) (s xs ys : List Int) (m : Nat) (hm : 64 * m ≤ xs.length) (k : Nat) :
    run step (run step s xs m) (xs.drop (64 * m) ++ ys) k = run step s (xs ++ ys) (m + k) := by
  induction k with
  | zero =>
    show run step s xs m = run step s (xs ++ ys) m
    have : ∀ j, j ≤ m → run step s xs j = run step s (xs ++ ys) j := by
      intro j hj
      induction j with
      | zero => rfl
      | succ j ih =>
        simp only [run]
        rw [ih (by omega), List.drop_append_of_le_length (by omega), List.take_append_of_le_length (by simp; omega)]
    exact this m (Nat.le_refl _)
  | succ k ih =>
    show step (run step (run step s xs m) (xs.drop (64 * m) ++ ys) k) (((xs.drop (64 * m) ++ ys).drop (64 * k)).take 64) = step (run step s (xs ++ ys) (m + k)) (((xs ++ ys).drop (64 * (m + k))).take 64)
    rw [ih, ← List.drop_append_of_le_length hm, List.drop_drop, Nat.mul_add]
theorem tailI_length (n : Nat) : (tailI n).length = 9 + (119 - n % 64) % 64 := by simp [tailI, tail8, be4]; omega
theorem padded_length (xs : List Int) : (padded xs).length = xs.length + 9 + (119 - xs.length % 64) % 64 := by simp [padded, tailI_length]; omega
theorem padded_blocks (xs : List Int) : 64 * ((padded xs).length / 64) = (padded xs).length := by rw [padded_length]; omega

/-- A frame. -/
def frameI (tag : Int) (fs : List (List Int)) : List Int := (tag % 256) :: (fs.map fun f => be4 ((f.length : Int) % 4294967296) ++ f).flatten
end Go.Proofs.YtljkkejjnimjcaaDoor
namespace Go.Proofs.YtljkkejjnimjcaaDoor
open Go.RowKit

section
set_option maxHeartbeats 400000
theorem rotr_any (x n : Int) (w : World) (h1 : 1 ≤ n) (h2 : n ≤ 31) :
    Calls Tryd.prog 95 #[.int .u32 x, .int .u64 n] w fun e w' => e = .returned (.int .u32 (rotrI x n)) ∧ w = w' := by
  go_enter Tryd.func95, Tryd.ntmps95
  go_wp2
  go_ret
  exact ⟨rfl, rfl⟩
theorem rotl_any (x n : Int) (w : World) (h1 : 1 ≤ n) (h2 : n ≤ 31) :
    Calls Tryd.prog 93 #[.int .u32 x, .int .u64 n] w fun e w' => e = .returned (.int .u32 (rotlI x n)) ∧ w = w' := by
  go_enter Tryd.func93, Tryd.ntmps93
  go_wp2
  go_ret
  exact ⟨rfl, rfl⟩
theorem rrotr_any (x n : Int) (w : World) (h1 : 1 ≤ n) (h2 : n ≤ 31) :
    Calls Tryd.prog 81 #[.int .u32 x, .int .u64 n] w fun e w' => e = .returned (.int .u32 (rotrI x n)) ∧ w = w' := by
  go_enter Tryd.func81, Tryd.ntmps81
  go_wp2
  go_ret
  exact ⟨rfl, rfl⟩

theorem wordAt_any (b off len cap : Nat) (x0 x1 x2 x3 : Int) (w : World) (h1 : 4 ≤ len) (hm : len ≤ 9223372036854775807)
    (h0 : w.cell? ⟨b, off, none⟩ = some (.int .u8 x0)) (h1 : w.cell? ⟨b, off + 1, none⟩ = some (.int .u8 x1)) (h2 : w.cell? ⟨b, off + 2, none⟩ = some (.int .u8 x2)) (h3 : w.cell? ⟨b, off + 3, none⟩ = some (.int .u8 x3)) :
    Calls Tryd.prog 94 #[.slice (some ⟨b, off, none⟩) len cap] w fun e w' => e = .returned (.int .u32 (wordI x0 x1 x2 x3)) ∧ ∃ n, w' = w.drewN n := by
  have g0 : (0 : Int) < len := by omega
  have g1 : (1 : Int) < len := by omega
  have g2 : (2 : Int) < len := by omega
  have g3 : (3 : Int) < len := by omega
  go_enter Tryd.func94, Tryd.ntmps94
  go_wp2
  go_quiet (fail)
  go_wp2
  go_ret
  exact ⟨rfl, _, rfl⟩

theorem rword_any (b off len cap t : Nat) (x0 x1 x2 x3 : Int) (w : World) (h1 : 4 * t + 3 < len) (hm : len ≤ 9223372036854775807)
    (h0 : w.cell? ⟨b, off + 4 * t, none⟩ = some (.int .u8 x0)) (h1 : w.cell? ⟨b, off + (4 * t + 1), none⟩ = some (.int .u8 x1)) (h2 : w.cell? ⟨b, off + (4 * t + 2), none⟩ = some (.int .u8 x2)) (h3 : w.cell? ⟨b, off + (4 * t + 3), none⟩ = some (.int .u8 x3)) :
    Calls Tryd.prog 80 #[.slice (some ⟨b, off, none⟩) len cap, .int .i64 t] w fun e w' => e = .returned (.int .u32 (wordI x0 x1 x2 x3)) ∧ ∃ n, w' = w.drewN n := by
  have g0 : (4 : Int) * t < len := by omega
  have g1 : (4 : Int) * t + 1 < len := by omega
  have g2 : (4 : Int) * t + 2 < len := by omega
  have g3 : (4 : Int) * t + 3 < len := by omega
  go_enter Tryd.func80, Tryd.ntmps80
  go_wp2
  go_quiet (fail)
  go_wp2
  go_ret
  exact ⟨rfl, _, rfl⟩

theorem round1_any (t : Nat) (b c d : Int) (w : World) :
    Calls Tryd.prog 92 #[.int .i64 t, .int .u32 b, .int .u32 c, .int .u32 d] w fun e w' => e = .returned (.tuple #[.int .u32 (f1I t b c d), .int .u32 (k1I t)]) ∧ w = w' := by
  have hs := u32_unsigned
  by_cases h1 : t < 20
  · go_enter Tryd.func92, Tryd.ntmps92
    go_wp2
    go_ret2
    simp [f1I, k1I, h1, xorI, andI, notI]
  · by_cases h2 : t < 40
    · go_enter Tryd.func92, Tryd.ntmps92
      go_wp2
      go_ret2
      simp [f1I, k1I, h1, h2, xorI]
    · by_cases h3 : t < 60
      · go_enter Tryd.func92, Tryd.ntmps92
        go_wp2
        go_ret2
        simp [f1I, k1I, h1, h2, h3, xorI, andI]
      · go_enter Tryd.func92, Tryd.ntmps92
        go_wp2
        go_ret2
        simp [f1I, k1I, h1, h2, h3, xorI]

/-- Four bytes behind a row of the call's own. -/
theorem appendWord_any (B : Nat) (v : Value) (xs : List Int) (x : Int) (w : World) (hown : Own w B 5 .u8 v xs) (hl : xs.length ≤ 70368744177664) (hB : B ≤ w.heap.size) :
    Calls Tryd.prog 77 #[v, .int .u32 x] w fun e w' => ∃ v', e = .returned v' ∧ Own w' B 5 .u8 v' (xs ++ be4 x) ∧ w.grownBy w' v.ownBlock := by
  obtain ⟨i0, hi, hz0, hz1, hz2⟩ := info_parts Tryd.infoU8
  go_enter Tryd.func77, Tryd.ntmps77
  go_wp2_with (at_builtin; refine wpList_app _ rfl _ _ 22 rfl B 5 i0 (.int .u8 0) 1 Tryd.underlying22 hi hz0 hz1 hz2 rfl .u8 _ xs rfl (hown.alloc _) (w.heap.size + 1) (some ⟨w.heap.size, 0, none⟩) 4 4 (be4 x) rfl ?_ ?_ ?_ ?_ ?_)
  case refine_1 => exact (Seg.of_blk (Blk.new w 5 .u8 (be4 x))).more (by simp)
  case refine_2 => unfold maxLen; omega
  case refine_3 => omega
  case refine_4 => simp; omega
  intro v' w' hown' hg _
  clear hown
  go_wp2
  go_ret
  exact ⟨_, rfl, hown', (World.grownBy_alloc w _ _).trans hg⟩
end
end Go.Proofs.YtljkkejjnimjcaaDoor
namespace Go.Proofs.YtljkkejjnimjcaaDoor
open Go.RowKit

/-- The first words of a schedule, and zeros. -/
def fillW (n : Nat) (l : List Int) : List Int := l ++ List.replicate (n - l.length) 0
theorem fillW_length (n : Nat) (l : List Int) (h : l.length ≤ n) : (fillW n l).length = n := by simp [fillW]; omega
theorem fillW_get (n : Nat) (l : List Int) (i : Nat) (h : i < l.length) : (fillW n l).getD i 0 = l.getD i 0 := by
  simp [fillW, List.getD, List.getElem?_append_left h]
theorem fillW_set (n : Nat) (l : List Int) (x : Int) (h : l.length < n) : (fillW n l).set l.length x = fillW n (l ++ [x]) := by
  obtain ⟨d, hd⟩ : ∃ d, n - l.length = d + 1 := ⟨n - l.length - 1, by omega⟩
  have hd' : n - (l ++ [x]).length = d := by simp; omega
  simp only [fillW, hd, hd', List.replicate_succ]
  simp
theorem fillW_next (n k : Nat) (l : List Int) (x : Int) (hl : l.length = k) (h : k < n) : fillW n (l ++ [x]) = (fillW n l).set k x := by subst hl; exact (fillW_set n l x h).symm
theorem fillW_full (n : Nat) (l : List Int) (h : l.length = n) : fillW n l = l := by simp [fillW, h]

theorem sum4 (a b c d : Int) : (a + b + c + d) % 4294967296 = addI (addI (addI a b) c) d := by simp only [addI]; omega
theorem next1_of (l : List Int) (k : Nat) (x3 x8 x14 x16 : Int) (hl : l.length = k) (h3 : x3 = l.getD (k - 3) 0) (h8 : x8 = l.getD (k - 8) 0) (h14 : x14 = l.getD (k - 14) 0) (h16 : x16 = l.getD (k - 16) 0) :
    next1 l = rotlI (bits .xor .u32 (bits .xor .u32 (bits .xor .u32 x3 x8) x14) x16) 1 := by
  simp only [next1, xorI, hl, h3, h8, h14, h16]
theorem next256_of (l : List Int) (k : Nat) (x2 x7 x15 x16 : Int) (hl : l.length = k) (h2 : x2 = l.getD (k - 2) 0) (h7 : x7 = l.getD (k - 7) 0) (h15 : x15 = l.getD (k - 15) 0) (h16 : x16 = l.getD (k - 16) 0) :
    next256 l = (bits .xor .u32 (bits .xor .u32 (rotrI x2 17) (rotrI x2 19)) (x2 / 1024) + x7 + bits .xor .u32 (bits .xor .u32 (rotrI x15 7) (rotrI x15 18)) (x15 / 8) + x16) % 4294967296 := by
  rw [sum4]
  simp only [next256, s1I, s0I, xorI, hl, h2, h7, h15, h16]

set_option maxRecDepth 100000 in
set_option maxHeartbeats 1000000 in
theorem expand256_any (b off cap : Nat) (xs : List Int) (w : World) (hcap : 64 ≤ cap) (hcm : cap ≤ 9223372036854775807) (hb : b < w.heap.size)
    (hx : ∀ j, j < 64 → w.cell? ⟨b, off + j, none⟩ = some (.int .u8 (xs.getD j 0))) :
    Calls Tryd.prog 90 #[.slice (some ⟨b, off, none⟩) 64 cap] w fun e w' => e = .returned (.agg (ints .u32 (sch (wordAtI xs) next256 64)).toArray) ∧ Below w.heap.size w w' := by
  have HX := Lib.hid hx
  clear hx
  go_enter Tryd.func90, Tryd.ntmps90
  go_wp2_with fail
  go_loopw [10] (fun i wr => ∃ k : Nat, k ≤ 16 ∧ i = .int .i64 k ∧ Blk wr (w.heap.size + 1) 69 .u32 (fillW 64 (sch (wordAtI xs) next256 k)) ∧ Blk wr w.heap.size 69 .u32 (List.replicate 64 0) ∧ Below w.heap.size w wr)
    (fun i _ => 16 - (intOf i).toNat)
  case atStart => exact ⟨0, by omega, rfl, Blk.new' (w.alloc _) 69 .u32 (List.replicate 64 0) _ (by simp), (Blk.new w 69 .u32 (List.replicate 64 0)).alloc _, ((Below.refl _ _).alloc (Nat.le_refl _) _).alloc (by simp) _⟩
  case round =>
    obtain ⟨k, hk, rfl, hW, hR, hbel⟩ := hrel
    by_cases hlt : k < 16
    · have hxk : ∀ j, j < 4 → wr.cell? ⟨b, off + 4 * k + j, none⟩ = some (.int .u8 (xs.getD (4 * k + j) 0)) := fun j hj => by
        rw [Nat.add_assoc]
        exact (hbel.cell (p := ⟨b, _, none⟩) hb).trans (HX.out (4 * k + j) (by omega))
      have C : Hid (Calls Tryd.prog 94 #[.slice (some ⟨b, off + 4 * k, none⟩) (64 - 4 * k) (cap - 4 * k)] wr fun e w' => e = .returned (.int .u32 (wordAtI xs k)) ∧ ∃ n, w' = wr.drewN n) :=
        Lib.hid (wordAt_any b (off + 4 * k) (64 - 4 * k) (cap - 4 * k) _ _ _ _ wr (by omega) (by omega) (hxk 0 (by omega)) (hxk 1 (by omega)) (hxk 2 (by omega)) (hxk 3 (by omega)))
      clear hxk
      have hcW := hW.cell k (by rw [fillW_length _ _ (by rw [sch_length]; omega)]; omega)
      have hfW := hW.frozen k
      have hd : decide ((k : Int) < 16) = true := by simp; omega
      go_wp2_with (go_at_call 94; refine C.out.mono ?_; rintro e w' ⟨rfl, n, rfl⟩)
      go_roundw
      case measure => simp [intOf]; omega
      case rel =>
        exact ⟨k + 1, by omega, by go_num, by rw [sch_low _ _ _ hlt, fillW_next 64 k _ _ (sch_length _ _ _) (by omega)]; exact (hW.drewN n).set_ k _,
          (hR.drewN n).far (by simp) _, (below_drewN hbel n).setCell (by simp) _⟩
    · have hd : decide ((k : Int) < 16) = false := by simp; omega
      have e16 : k = 16 := by omega
      rw [e16] at hW
      clear e16
      go_wp2_with fail
      go_loopw [5] (fun i wr => ∃ k : Nat, 16 ≤ k ∧ k ≤ 64 ∧ i = .int .i64 k ∧ Blk wr (w.heap.size + 1) 69 .u32 (fillW 64 (sch (wordAtI xs) next256 k)) ∧ Blk wr w.heap.size 69 .u32 (List.replicate 64 0) ∧ Below w.heap.size w wr)
        (fun i _ => 64 - (intOf i).toNat)
      case atStart => exact ⟨16, by omega, by omega, rfl, hW, hR, hbel⟩
      case round =>
        clear hW hR hbel hd
        obtain ⟨k, hk0, hk, rfl, hW, hR, hbel⟩ := hrel
        by_cases hlt : k < 64
        · have hll := sch_length (wordAtI xs) next256 k
          have hcW := hW.cell k (by rw [fillW_length _ _ (by omega)]; omega)
          have hfW := hW.frozen k
          have hget : ∀ i, 2 ≤ i → i ≤ 16 → ∃ x, x = (sch (wordAtI xs) next256 k).getD (k - i) 0 ∧ wr.cell? ⟨w.heap.size + 1, k - i, none⟩ = some (.int .u32 x) := fun i h2 h16 =>
            ⟨_, rfl, by rw [hW.cell (k - i) (by rw [fillW_length _ _ (by omega)]; omega), fillW_get _ _ _ (by omega)]⟩
          obtain ⟨x15, e15, c15⟩ := hget 15 (by omega) (by omega)
          obtain ⟨x2, e2, c2⟩ := hget 2 (by omega) (by omega)
          obtain ⟨x7, e7, c7⟩ := hget 7 (by omega) (by omega)
          obtain ⟨x16, e16, c16⟩ := hget 16 (by omega) (by omega)
          have HN := Lib.hid (next256_of _ k x2 x7 x15 x16 hll e2 e7 e15 e16)
          clear hget e15 e2 e7 e16 hll
          have hd : decide ((k : Int) < 64) = true := by simp; omega
          go_wp2_with fail
          go_quiet (fail)
          go_wp2_with (go_at_call 95; refine (rotr_any _ _ _ (by omega) (by omega)).mono ?_; rintro e w' ⟨rfl, rfl⟩)
          go_region
          go_wp2
          go_roundw
          case measure => simp [intOf]; omega
          case rel =>
            refine ⟨k + 1, by omega, by omega, by go_num, ?_, (hR.drewN _).far (by simp) _, (below_drewN hbel _).setCell (by simp) _⟩
            rw [sch_high _ _ _ hk0, fillW_next 64 k _ _ (sch_length _ _ _) (by omega), HN.out]
            exact (hW.drewN _).set_ k _
        · have hd : decide ((k : Int) < 64) = false := by simp; omega
          have e64 : k = 64 := by omega
          rw [e64] at hW
          clear e64
          have hll := fillW_length 64 (sch (wordAtI xs) next256 64) (by rw [sch_length]; omega)
          obtain ⟨W, HW⟩ : ∃ W, Hid (fillW 64 (sch (wordAtI xs) next256 64) = W) := ⟨_, rfl⟩
          rw [HW.out] at hW hll
          have HL := Lib.hid hll
          clear hll
          go_wp2_with (first
            | (with_reducible refine wpList_loadInts rfl 69 (.tmp 3) rfl (w.heap.size + 1) rfl 69 .u32 _ hW 64 60 Tryd.underlying69 Tryd.size64 HL.out ?_)
            | (with_reducible refine wpList_storeInts rfl 69 (.tmp 2) (.tmp 64) rfl w.heap.size rfl 69 .u32 _ W rfl hR 64 Tryd.size64 (by simp) HL.out ?_))
          refine bodyPost_ret ((hR.setRow W).result rfl _ rfl 64 60 Tryd.underlying69 Tryd.size64 HL.out) rfl ⟨?_, below_setRow' hbel (Nat.le_refl _) _⟩
          rw [← HW.out, fillW_full _ _ (sch_length _ _ _)]
end Go.Proofs.YtljkkejjnimjcaaDoor
