/-
  append(s[:n:n], x...) where s is any slice that lies somewhere: there is no room, so what is added lies in new memory.
-/
import Derived.Test.YtmpalhejjmjmeaaDoorBase1
namespace Go.Proofs.YtmpalhejjmjmeaaDoor
open Go.RowKit

theorem seg_cells {w : World} {B : Nat} {k : IntKind} {ad : Addr} {n : Nat} {xs : List Int} (h : Seg w B k (some ad) n xs) : ∀ j u, (ints k xs)[j]? = some u → w.cell? (ad.add j) = some u := by
  intro j u hu
  have hj : j < xs.length := by
    rcases Nat.lt_or_ge j xs.length with h | h
    · exact h
    · rw [List.getElem?_eq_none (by rw [ints_length]; exact h)] at hu; cases hu
  rw [ints_at k xs j hj] at hu
  injection hu with hu
  subst hu
  obtain ⟨b, off, he, _, hc⟩ := h.2 (by have := h.1; omega)
  injection he with he
  subst he
  rw [addr_add]
  exact hc j (by have := h.1; omega)

/-- append onto a slice without room. -/
theorem run_full {P : Program} (w : World) (t ty e : TypeId) (i : TypeInfo) (z : Value) (ht : P.underlying t = some (.slice e)) (hi : P.info? e = some i) (hz : i.zero = some z)
    (hsize : i.size = 1) (hby : i.bytes = 1) (k : IntKind) (g : Nat) (n : Nat) (xs : List Int) (hs : Seg w w.heap.size k (some ⟨g, 0, none⟩) n xs)
    (A : Option Addr) (m c : Nat) (ys : List Int) (hr : Seg w w.heap.size k A m ys) (hb : n + m ≤ 1099511627776) :
    ∃ A' c' w', (Builtin.append_ #[t, t] ty #[.slice (some ⟨g, 0, none⟩) n n, .slice A m c]).run P w = .ok (.slice A' (n + m) c') w' ∧ Seg w' w'.heap.size k A' (n + m) (xs ++ ys) ∧ n + m ≤ c' ∧ c' ≤ maxLen ∧ Below w.heap.size w w' := by
  have hxl := hs.1
  have hyl := hr.1
  rcases Nat.eq_zero_or_pos m with h0 | h0
  · subst h0
    have hy : ys = [] := List.eq_nil_of_length_eq_zero hyl
    subst hy
    refine ⟨some ⟨g, 0, none⟩, n, w, ?_, by simpa using hs, by omega, by unfold maxLen; omega, Below.refl _ _⟩
    cases A with
    | none => simp [Builtin.append_, run_underlying ht, sizeOf, typeInfo, hi, Builtin.lenOf, Builtin.firstCells, storeCells]
    | some ad =>
      have hf := run_firstCells_some (P := P) w i.size 0 ad 0 c [] (by simp) (by intro j v h; simp at h)
      simp [Builtin.append_, run_underlying ht, sizeOf, typeInfo, hi, Builtin.lenOf, hf, storeCells]
  · obtain ⟨b, off, rfl, _, _⟩ := hr.2 h0
    have hrun := run_append_grow (P := P) w t ty e i z ht hi hz ⟨g, 0, none⟩ n n (ints k xs) (by rw [ints_length, hsize]; omega) (seg_cells hs) ⟨b, off, none⟩ m c (ints k ys) (by rw [ints_length, hsize]; omega) (seg_cells hr)
      (by omega) (by omega) (by rw [hby]; exact growslice_fits (by omega) (by omega))
    refine ⟨_, _, _, hrun, ?_, grownCap_ge w _ _ _, grownCap_le_maxLen w (n + m) n e (by unfold maxLen; omega), ((Below.refl _ _).drew).alloc (Nat.le_refl _) _⟩
    refine ⟨by simp; omega, fun _ => ⟨w.heap.size, 0, rfl, by simp, fun j hj => ?_⟩⟩
    rw [Nat.zero_add, World.cell?_alloc_at _ _ w.heap.size j (by rfl)]
    have hl : j < (ints k (xs ++ ys)).length := by rw [ints_length, List.length_append]; omega
    have e1 : (ints k xs).toArray ++ (ints k ys).toArray = (ints k (xs ++ ys)).toArray := by rw [← ints_append]; simp
    rw [e1, Array.getElem?_append_left (by simpa using hl), List.getElem?_toArray]
    exact ints_at k (xs ++ ys) j (by rw [ints_length] at hl; exact hl)

theorem wpList_full {P : Program} (w : World) {ops : Array Oper} {rest : List Oper} {o : Oper} {a : Act} {Q : Exit → Act → World → Prop} (hgd : o.guard = none) (s x : Operand) (t : TypeId)
    (ho : o.op = .call { callee := .builtin .append, args := #[s, x], argTypes := #[t, t] })
    (e : TypeId) (i : TypeInfo) (z : Value) (ht : P.underlying t = some (.slice e)) (hi : P.info? e = some i) (hz : i.zero = some z)
    (hsize : i.size = 1) (hby : i.bytes = 1) (k : IntKind) (g : Nat) (n : Nat) (xs : List Int) (hsv : a.eval s = .slice (some ⟨g, 0, none⟩) n n) (hs : Seg w w.heap.size k (some ⟨g, 0, none⟩) n xs)
    (A : Option Addr) (m c : Nat) (ys : List Int) (hxv : a.eval x = .slice A m c) (hr : Seg w w.heap.size k A m ys) (hb : n + m ≤ 1099511627776)
    (h : ∀ A' c' w', Seg w' w'.heap.size k A' (n + m) (xs ++ ys) → n + m ≤ c' → c' ≤ maxLen → Below w.heap.size w w' → wpList P ops Q rest (a.put o.dst (.slice A' (n + m) c')) w') :
    wpList P ops Q (o :: rest) a w := by
  obtain ⟨A', c', w', hrun, h1, h2, h3, h4⟩ := run_full (P := P) w t o.type e i z ht hi hz hsize hby k g n xs hs A m c ys hr hb
  refine wpList_plain hgd fun K hK => ?_
  unfold Oper.wp execOp
  simp only [ho, resolve, invoke, builtin, Sem.run_bind, Sem.run_pure, Result.andThen_ok, List.map_toArray, List.map_cons, List.map_nil, hsv, hxv, hrun]
  exact hK _ _ (h A' c' w' h1 h2 h3 h4)
end Go.Proofs.YtmpalhejjmjmeaaDoor
