/-
  A list of slices appended whole to a row of the call's own; two slices of a row exchanged.
-/
import Derived.Test.YtkcbbgmilaafeaaDoorLst
import Derived.Test.YtkcbbgmilaafeaaDoorTreeL
namespace Go.Proofs.YtkcbbgmilaafeaaDoor
open Go.RowKit

section
variable {w : World} {ops : Array Oper} {rest : List Oper} {o : Oper} {a : Act} {K : Act → World → Prop} {Q : Exit → Act → World → Prop}
set_option maxRecDepth 100000 in
theorem wp_appF (s x : Operand) (ho : o.op = .call { callee := .builtin .append, args := #[s, x], argTypes := #[22, 22] })
    (base : Nat) (v : Value) (n : Nat) (fs : List (List Int)) (hs : a.eval s = v) (hown : FRow w base 0 v n fs)
    (A : Option Addr) (m cc : Nat) (gs : List (List Int)) (hx : a.eval x = .slice A m cc) (hG : FOff w v.ownBlock A m gs) (hm : 0 < m)
    (hn : n + m ≤ 1048576) (hbase : base ≤ w.heap.size)
    (h : ∀ v' w', FRow w' base 0 v' (n + m) (fs ++ gs) → w.grownBy w' v.ownBlock → (v'.ownBlock = v.ownBlock ∨ v'.ownBlock = some w.heap.size) → K (a.put o.dst v') w') : o.wp Tryd.prog a w K Q := by
  obtain ⟨i, hi, hz, hsz, hby⟩ := infoS_parts
  obtain ⟨hl, vs, h1, h2⟩ := hown
  have hvl : vs.length = n := by have := h1.1; omega
  have hgl := hG.1
  obtain ⟨b, off, hA, hlt, hrb, hc⟩ := hG.2 hm
  subst hA
  have hch : ∃ f : Nat → Value, ∀ j, j < m → ∃ A' n' c', f j = .slice A' n' c' ∧ w.cell? ⟨b, off + j, none⟩ = some (f j) ∧ Seg w w.heap.size .u8 A' n' (gs.getD j []) ∧ n' ≤ c' ∧ c' ≤ maxLen ∧ Apart v A' n' :=
    ⟨fun j => (w.cell? ⟨b, off + j, none⟩).getD (.bool false), fun j hj => by
      obtain ⟨A', n', c', e, h3, h4, h5, h6⟩ := hc j hj
      refine ⟨A', n', c', ?_, ?_, h3, h4, h5, h6⟩
      · dsimp only; rw [e]; rfl
      · dsimp only; rw [e]; rfl⟩
  obtain ⟨f, hf⟩ := hch
  have hnl : ((List.range m).map f).length = m := by simp
  have hnj : ∀ j, j < m → ((List.range m).map f)[j]? = some (f j) := fun j hj => by simp [hj]
  obtain ⟨v', w', hrun, r2, r3, _, r5⟩ := run_append_own_at (P := Tryd.prog) w base 22 o.type 27 i (.slice none 0 0) 1 24 Tryd.underlying22 hi hz hsz hby rfl (by omega) v n vs h1 ⟨b, off, none⟩ m cc ((List.range m).map f)
    (by rw [hnl]; omega) (fun j u hu => by
      have hj : j < m := by
        rcases Nat.lt_or_ge j m with h | h
        · exact h
        · rw [List.getElem?_eq_none (by rw [hnl]; exact h)] at hu; cases hu
      rw [hnj j hj] at hu
      injection hu with hu
      subst hu
      obtain ⟨_, _, _, _, e2, _⟩ := hf j hj
      rw [addr_add]
      exact e2) (by
      intro u hu
      obtain ⟨j, hj, rfl⟩ := List.mem_map.1 hu
      obtain ⟨_, _, _, e1, _⟩ := hf j (List.mem_range.1 hj)
      rw [e1]
      rfl) (by unfold maxLen; omega) (by omega) hbase
  unfold Oper.wp execOp
  simp only [ho, resolve, invoke, builtin, Sem.run_bind, Sem.run_pure, Result.andThen_ok, List.map_toArray, List.map_cons, List.map_nil, hs, hx, hrun]
  refine h v' w' ⟨by rw [List.length_append, hl, hgl], vs ++ (List.range m).map f, r2, fun j hj => ?_⟩ r3 r5
  have hnew : ∀ (A : Option Addr) (k : Nat) (ys : List Int), Seg w w.heap.size .u8 A k ys → Apart v A k → Apart v' A k := fun A k ys hS hA hm0 ad had e => by
    rcases r5 with r5 | r5
    · exact hA hm0 ad had (r5.symm.trans e)
    · obtain ⟨b, off, e2, hlt, _⟩ := hS.2 hm0
      rw [had] at e2
      injection e2 with e2
      rw [r5] at e
      injection e with e
      rw [e2] at e
      simp at e
      omega
  by_cases hjn : j < n
  · obtain ⟨A2, n2, c2, e, s1, s2, s3, s4, s5⟩ := h2 j hjn
    refine ⟨A2, n2, c2, ?_, ?_, s2, s3, hnew A2 n2 _ s1 s4, s5⟩
    · rw [List.getElem?_append_left (by omega)]; exact e
    · have e2 : (fs ++ gs).getD j [] = fs.getD j [] := by rw [List.getD_eq_getElem?_getD, List.getElem?_append_left (by omega), ← List.getD_eq_getElem?_getD]
      rw [e2]
      exact s1.keep r3 s4
  · obtain ⟨A2, n2, c2, e1, e2, s1, s2, s3, s4⟩ := hf (j - n) (by omega)
    refine ⟨A2, n2, c2, ?_, ?_, s2, s3, hnew A2 n2 _ s1 s4, fun _ _ _ => Nat.zero_le _⟩
    · rw [List.getElem?_append_right (by omega), hvl, hnj (j - n) (by omega), e1]
    · have e3 : (fs ++ gs).getD j [] = gs.getD (j - n) [] := by rw [List.getD_eq_getElem?_getD, List.getElem?_append_right (by omega), hl, ← List.getD_eq_getElem?_getD]
      rw [e3]
      exact s1.keep r3 s4
theorem wpList_appF (hgd : o.guard = none) (s x : Operand) (ho : o.op = .call { callee := .builtin .append, args := #[s, x], argTypes := #[22, 22] })
    (base : Nat) (v : Value) (n : Nat) (fs : List (List Int)) (hs : a.eval s = v) (hown : FRow w base 0 v n fs)
    (A : Option Addr) (m cc : Nat) (gs : List (List Int)) (hx : a.eval x = .slice A m cc) (hG : FOff w v.ownBlock A m gs) (hm : 0 < m)
    (hn : n + m ≤ 1048576) (hbase : base ≤ w.heap.size)
    (h : ∀ v' w', FRow w' base 0 v' (n + m) (fs ++ gs) → w.grownBy w' v.ownBlock → (v'.ownBlock = v.ownBlock ∨ v'.ownBlock = some w.heap.size) → wpList Tryd.prog ops Q rest (a.put o.dst v') w') : wpList Tryd.prog ops Q (o :: rest) a w :=
  wpList_plain hgd fun _ hK => wp_appF s x ho base v n fs hs hown A m cc gs hx hG hm hn hbase fun v' w' h2 h3 h4 => hK _ _ (h v' w' h2 h3 h4)
end

theorem FRow.at_ {w : World} {B D n : Nat} {v : Value} {fs : List (List Int)} (h : FRow w B D v n fs) (hn : 0 < n) : ∃ g c, v = .slice (some ⟨g, 0, none⟩) n c ∧ B ≤ g ∧ n ≤ c ∧ c ≤ maxLen := by
  obtain ⟨_, vs, h1, _⟩ := h
  rcases h1.2 with ⟨_, h0⟩ | ⟨g, cap, cur, rfl, hg, _, h1, h2, _⟩
  · omega
  · exact ⟨g, cap, rfl, hg, h1, h2⟩
/-- Two slices of a row exchanged. -/
theorem FRow.swap {w : World} {B D g cap n : Nat} {fs : List (List Int)} (h : FRow w B D (.slice (some ⟨g, 0, none⟩) n cap) n fs) (I J : Nat) (hI : I < n) (hJ : J < n) :
    ∃ A1 n1 c1 A2 n2 c2, w.cell? ⟨g, I, none⟩ = some (.slice A1 n1 c1) ∧ w.cell? ⟨g, J, none⟩ = some (.slice A2 n2 c2) ∧ (∀ k, w.frozen? ⟨g, k, none⟩ = false) ∧
      (w.setCell ⟨g, I, none⟩ (.slice A2 n2 c2)).cell? ⟨g, J, none⟩ = some (.slice A2 n2 c2) ∧ (w.setCell ⟨g, I, none⟩ (.slice A2 n2 c2)).frozen? ⟨g, J, none⟩ = false ∧
      FRow ((w.setCell ⟨g, I, none⟩ (.slice A2 n2 c2)).setCell ⟨g, J, none⟩ (.slice A1 n1 c1)) B D (.slice (some ⟨g, 0, none⟩) n cap) n (swapL fs I J) := by
  obtain ⟨hl, vs, h1, h2⟩ := h
  have hvl : vs.length = n := by have := h1.1; omega
  obtain ⟨A1, n1, c1, e1, s1, l1, m1, a1, d1⟩ := h2 I hI
  obtain ⟨A2, n2, c2, e2, s2, l2, m2, a2, d2⟩ := h2 J hJ
  have hs1 := (World.ownsRow.stored h1 I (.slice A2 n2 c2)).1
  have hs2 := (World.ownsRow.stored hs1 J (.slice A1 n1 c1)).1
  have hg : w.grownBy ((w.setCell ⟨g, I, none⟩ (.slice A2 n2 c2)).setCell ⟨g, J, none⟩ (.slice A1 n1 c1)) (some g) := ((but_refl w g).set_ I _).set_ J _
  refine ⟨A1, n1, c1, A2, n2, c2, ?_, ?_, fun k => World.ownsRow.frozenAt h1 k, ?_, World.ownsRow.frozenAt hs1 J, by rw [swapL_length]; exact hl, _, hs2, fun j hj => ?_⟩
  · rw [World.ownsRow.cellAt h1 I (by omega), e1]
  · rw [World.ownsRow.cellAt h1 J (by omega), e2]
  · rw [World.ownsRow.cellAt hs1 J (by omega), List.getElem?_set]
    by_cases hIJ : I = J
    · subst hIJ
      simp [hvl, hI]
    · rw [if_neg hIJ, e2]
  have hset : ((vs.set I (.slice A2 n2 c2)).set J (.slice A1 n1 c1))[j]? = if J = j then some (.slice A1 n1 c1) else if I = j then some (.slice A2 n2 c2) else vs[j]? := by
    rw [List.getElem?_set, List.getElem?_set]
    by_cases hJj : J = j
    · subst hJj
      simp [hvl, hJ]
    · by_cases hIj : I = j
      · subst hIj
        simp [hJj, hvl, hI]
      · simp [hJj, hIj]
  have hget : (swapL fs I J).getD j [] = if J = j then fs.getD I [] else if I = j then fs.getD J [] else fs.getD j [] := by
    unfold swapL
    rw [List.getD_eq_getElem?_getD, List.getElem?_set, List.getElem?_set]
    by_cases hJj : J = j
    · subst hJj
      simp [hl, hJ]
    · by_cases hIj : I = j
      · subst hIj
        simp [hJj, hl, hI]
      · simp [hJj, hIj]
  rw [hset, hget]
  by_cases hJj : J = j
  · rw [if_pos hJj, if_pos hJj]
    exact ⟨A1, n1, c1, rfl, s1.keep hg a1, l1, m1, a1, d1⟩
  · rw [if_neg hJj, if_neg hJj]
    by_cases hIj : I = j
    · rw [if_pos hIj, if_pos hIj]
      exact ⟨A2, n2, c2, rfl, s2.keep hg a2, l2, m2, a2, d2⟩
    · rw [if_neg hIj, if_neg hIj]
      obtain ⟨A3, n3, c3, e3, s3, l3, m3, a3, d3⟩ := h2 j hj
      exact ⟨A3, n3, c3, e3, s3.keep hg a3, l3, m3, a3, d3⟩
end Go.Proofs.YtkcbbgmilaafeaaDoor
