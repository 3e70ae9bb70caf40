/-
  Lists of byte strings whose slices a call itself has put into a row that grows.
-/
import Derived.Test.YtkcbbgmilaafeaaDoorFld
namespace Go.Proofs.YtkcbbgmilaafeaaDoor
open Go.RowKit

theorem infoS_parts : ∃ i, Tryd.prog.info? 27 = some i ∧ i.zero = some (.slice none 0 0) ∧ i.size = 1 ∧ i.bytes = 24 := by
  have h : (Tryd.prog.info? 27).map (fun i => (i.zero, i.size, i.bytes)) = some (some (.slice none 0 0), 1, 24) := by kernel_rfl
  obtain ⟨i, hi, he⟩ := Option.map_eq_some_iff.1 h
  injection he with h1 h2
  injection h2 with h2 h3
  exact ⟨i, hi, h1, h2, h3⟩

/-- The slice over A lies in another block than the row v. -/
def Apart (v : Value) (A : Option Addr) (n : Nat) : Prop := 0 < n → ∀ a, A = some a → v.ownBlock ≠ some a.block
theorem Seg.keep {w w' : World} {r : Option Nat} {k : IntKind} {A : Option Addr} {n : Nat} {xs : List Int} (h : Seg w w.heap.size k A n xs) (hg : w.grownBy w' r) (hne : 0 < n → ∀ a, A = some a → r ≠ some a.block) : Seg w' w'.heap.size k A n xs :=
  ⟨h.1, fun hn => by
    obtain ⟨b, off, e, hlt, hc⟩ := h.2 hn
    refine ⟨b, off, e, Nat.lt_of_lt_of_le hlt hg.size, fun j hj => ?_⟩
    exact hg.cell (hc j hj) (fun e2 => hne hn _ e e2.symm)⟩
theorem Apart.old {w : World} {B : Nat} {v : Value} {k : IntKind} {A : Option Addr} {n : Nat} {xs : List Int} (h : Seg w B k A n xs) (hv : ∀ g, v.ownBlock = some g → B ≤ g) : Apart v A n := fun hn a ha e => by
  obtain ⟨b, off, e2, hlt, _⟩ := h.2 hn
  rw [ha] at e2
  injection e2 with e2
  subst e2
  have := hv _ e
  simp at this
  omega

/-- A row of slices that the call itself has made; what they lie over are blocks from D on. -/
def FRow (w : World) (B D : Nat) (v : Value) (n : Nat) (fs : List (List Int)) : Prop :=
  fs.length = n ∧ ∃ vs, w.ownsRow B 27 1 v n vs ∧ ∀ j, j < n → ∃ A n' c', vs[j]? = some (.slice A n' c') ∧ Seg w w.heap.size .u8 A n' (fs.getD j []) ∧ n' ≤ c' ∧ c' ≤ maxLen ∧ Apart v A n' ∧ (0 < n' → ∀ a, A = some a → D ≤ a.block)
section
variable {w w' : World} {B D n : Nat} {v : Value} {fs : List (List Int)}
theorem FRow.nil (w : World) (B D : Nat) : FRow w B D (.slice none 0 0) 0 [] := ⟨rfl, [], World.ownsRow_nil _ _ _ _, fun _ hj => absurd hj (by omega)⟩
theorem FRow.empty (w : World) (B D : Nat) (hB : B ≤ w.heap.size) : FRow (w.alloc (.cells #[] 27)) B D (.slice (some ⟨w.heap.size, 0, none⟩) 0 0) 0 [] :=
  ⟨rfl, [], ⟨rfl, .inr ⟨w.heap.size, 0, #[], rfl, hB, heap_alloc_new w _, Nat.le_refl _, by unfold maxLen; omega, rfl, rfl⟩⟩, fun _ hj => absurd hj (by omega)⟩
theorem FRow.length (h : FRow w B D v n fs) : fs.length = n := h.1
theorem FRow.lt (h : FRow w B D v n fs) : ∀ g, v.ownBlock = some g → B ≤ g ∧ g < w.heap.size := by
  obtain ⟨_, vs, h1, _⟩ := h
  exact h1.lt
theorem FRow.cut (h : FRow w B D v n fs) : ∃ A c, v = .slice A n c ∧ n ≤ c ∧ c ≤ maxLen := by
  obtain ⟨_, vs, h1, _⟩ := h
  rcases h1.2 with ⟨rfl, rfl⟩ | ⟨g, cap, cur, rfl, _, _, h1, h2, _⟩
  · exact ⟨none, 0, rfl, Nat.le_refl _, by unfold maxLen; omega⟩
  · exact ⟨_, cap, rfl, h1, h2⟩
theorem FRow.fields {A : Option Addr} {c : Nat} (h : FRow w B D (.slice A n c) n fs) : Fields w w.heap.size A n fs := by
  obtain ⟨hl, vs, h1, h2⟩ := h
  refine ⟨hl, fun hn => ?_⟩
  rcases h1.2 with ⟨_, h0⟩ | ⟨g, cap, cur, hv, _, hh, _⟩
  · omega
  · injection hv with hA _ hcap
    subst hA
    subst hcap
    refine ⟨g, 0, rfl, (Array.getElem?_eq_some_iff.1 hh).1, fun j hj => ?_⟩
    obtain ⟨A', n', c', e, hs, h3, h4, _⟩ := h2 j hj
    refine ⟨A', n', c', ?_, hs, h3, h4⟩
    rw [Nat.zero_add, World.ownsRow.cellAt h1 j (by omega), e]
theorem FRow.below (h : FRow w B D v n fs) (hb : Below w.heap.size w w') : FRow w' B D v n fs := by
  obtain ⟨hl, vs, h1, h2⟩ := h
  refine ⟨hl, vs, ?_, fun j hj => ?_⟩
  · refine ⟨h1.1, ?_⟩
    rcases h1.2 with h' | ⟨g, cap, cur, hv, hg, hh, a1, a2, a3, a4⟩
    · exact .inl h'
    · exact .inr ⟨g, cap, cur, hv, hg, (hb.block g (Array.getElem?_eq_some_iff.1 hh).1).trans hh, a1, a2, a3, a4⟩
  · obtain ⟨A', n', c', e, hs', h3, h4, h5⟩ := h2 j hj
    exact ⟨A', n', c', e, (hs'.below hb (Nat.le_refl _)).more hb.size, h3, h4, h5⟩
theorem FRow.drewN (h : FRow w B D v n fs) (q : Nat) : FRow (w.drewN q) B D v n fs := h
theorem FRow.less {B' : Nat} (h : FRow w B' D v n fs) (hB : B ≤ B') : FRow w B D v n fs := by
  obtain ⟨hl, vs, h1, h2⟩ := h
  exact ⟨hl, vs, ⟨h1.1, h1.2.imp id fun ⟨g, cap, cur, hv, hg, r⟩ => ⟨g, cap, cur, hv, Nat.le_trans hB hg, r⟩⟩, h2⟩
theorem FRow.low {D' : Nat} (h : FRow w B D v n fs) (hD : D' ≤ D) : FRow w B D' v n fs := by
  obtain ⟨hl, vs, h1, h2⟩ := h
  refine ⟨hl, vs, h1, fun j hj => ?_⟩
  obtain ⟨A', n', c', e, s1, s2, s3, s4, s5⟩ := h2 j hj
  exact ⟨A', n', c', e, s1, s2, s3, s4, fun hn a ha => Nat.le_trans hD (s5 hn a ha)⟩
theorem frow_below (h : FRow w B D v n fs) (hg : w.grownBy w' v.ownBlock) {W : World} (hb : Below B W w) (hB : B ≤ w.heap.size) : Below B W w' := hb.grown hg hB fun r hr => (h.lt r hr).1
end

section
variable {w : World} {B n c : Nat} {e : TypeId} {k : IntKind} {A : Option Addr} {xs : List Int}
theorem Row.apart {v : Value} (h : Row w B e k (.slice A n c) n xs) (hv : ∀ g, v.ownBlock = some g → g < B) : Apart v A n := fun hn a ha e => by
  have := h.from_ hn a ha
  have := hv _ e
  omega
end

/-- A list of byte strings in memory that lies apart from block r. -/
def FOff (w : World) (r : Option Nat) (A : Option Addr) (n : Nat) (fs : List (List Int)) : Prop :=
  fs.length = n ∧ (0 < n → ∃ b off, A = some ⟨b, off, none⟩ ∧ b < w.heap.size ∧ r ≠ some b ∧ ∀ j, j < n → ∃ A' n' c', w.cell? ⟨b, off + j, none⟩ = some (.slice A' n' c') ∧ Seg w w.heap.size .u8 A' n' (fs.getD j []) ∧ n' ≤ c' ∧ c' ≤ maxLen ∧ (0 < n' → ∀ a, A' = some a → r ≠ some a.block))
section
variable {w w' : World} {r r' : Option Nat} {A : Option Addr} {n B : Nat} {v : Value} {fs : List (List Int)}
theorem FOff.fields (h : FOff w r A n fs) : Fields w w.heap.size A n fs :=
  ⟨h.1, fun hn => by
    obtain ⟨b, off, e, hlt, _, hc⟩ := h.2 hn
    refine ⟨b, off, e, hlt, fun j hj => ?_⟩
    obtain ⟨A', n', c', h1, h2, h3, h4, _⟩ := hc j hj
    exact ⟨A', n', c', h1, h2, h3, h4⟩⟩
theorem FOff.keep (h : FOff w r A n fs) (hg : w.grownBy w' r) : FOff w' r A n fs :=
  ⟨h.1, fun hn => by
    obtain ⟨b, off, e, hlt, hr, hc⟩ := h.2 hn
    refine ⟨b, off, e, Nat.lt_of_lt_of_le hlt hg.size, hr, fun j hj => ?_⟩
    obtain ⟨A', n', c', h1, h2, h3, h4, h5⟩ := hc j hj
    exact ⟨A', n', c', hg.cell h1 (fun e2 => hr e2.symm), h2.keep hg h5, h3, h4, h5⟩⟩
theorem FOff.below (h : FOff w r A n fs) (hb : Below w.heap.size w w') : FOff w' r A n fs :=
  ⟨h.1, fun hn => by
    obtain ⟨b, off, e, hlt, hr, hc⟩ := h.2 hn
    refine ⟨b, off, e, Nat.lt_of_lt_of_le hlt hb.size, hr, fun j hj => ?_⟩
    obtain ⟨A', n', c', h1, h2, h3, h4, h5⟩ := hc j hj
    exact ⟨A', n', c', (hb.cell (p := ⟨b, off + j, none⟩) hlt).trans h1, (h2.below hb (Nat.le_refl _)).more hb.size, h3, h4, h5⟩⟩
/-- Apart from a block that is not there yet. -/
theorem Fields.off (h : Fields w B A n fs) (hB : B ≤ w.heap.size) (hr : ∀ g, r = some g → B ≤ g) : FOff w r A n fs :=
  ⟨h.1, fun hn => by
    obtain ⟨b, off, e, hlt, hc⟩ := h.2 hn
    refine ⟨b, off, e, by omega, fun e2 => by have := hr _ e2; omega, fun j hj => ?_⟩
    obtain ⟨A', n', c', h1, h2, h3, h4⟩ := hc j hj
    refine ⟨A', n', c', h1, h2.more hB, h3, h4, fun hn' a ha e2 => ?_⟩
    obtain ⟨b2, off2, e3, hlt2, _⟩ := h2.2 hn'
    rw [ha] at e3
    injection e3 with e3
    rw [e3] at e2
    have := hr _ e2
    simp at this
    omega⟩
theorem FOff.turn (h : FOff w r A n fs) (hg : w.grownBy w' r) (hr : r' = r ∨ r' = some w.heap.size) : FOff w' r' A n fs := by
  rcases hr with rfl | hr
  · exact h.keep hg
  · have h2 := h.keep hg
    have hf := h.fields
    refine ⟨h.1, fun hn => ?_⟩
    obtain ⟨b, off, e, hlt, _, hc⟩ := h.2 hn
    refine ⟨b, off, e, Nat.lt_of_lt_of_le hlt hg.size, fun e2 => by rw [hr] at e2; injection e2 with e2; omega, fun j hj => ?_⟩
    obtain ⟨b2, off2, e2, _, _, hc2⟩ := h2.2 hn
    rw [e] at e2
    injection e2 with e2
    injection e2 with e2 e3
    subst e2
    subst e3
    obtain ⟨A', n', c', h1, h3, h4, h5, _⟩ := hc2 j hj
    obtain ⟨A2, n2, c2, k1, k2, _, _, k5⟩ := hc j hj
    have hsame : A2 = A' ∧ n2 = n' ∧ c2 = c' := by
      have := (hg.cell k1 (fun e4 => by obtain ⟨b3, off3, e5, _, h6, _⟩ := h.2 hn; rw [e] at e5; injection e5 with e5; injection e5 with e5 _; subst e5; exact h6 e4.symm)).symm.trans h1
      injection this with this
      injection this with a1 a2 a3
      exact ⟨a1, a2, a3⟩
    obtain ⟨rfl, rfl, rfl⟩ := hsame
    refine ⟨A2, n2, c2, h1, h3, h4, h5, fun hn' a ha e4 => ?_⟩
    obtain ⟨b3, off3, e5, hlt3, _⟩ := k2.2 hn'
    rw [ha] at e5
    injection e5 with e5
    rw [hr, e5] at e4
    injection e4 with e4
    simp at e4
    omega
/-- A row of the call's own, apart from what was there before. -/
theorem FRow.off {D c : Nat} (h : FRow w B D (.slice A n c) n fs) (hr : ∀ g, r = some g → g < B ∧ g < D) : FOff w r A n fs := by
  obtain ⟨hl, vs, h1, h2⟩ := h
  refine ⟨hl, fun hn => ?_⟩
  rcases h1.2 with ⟨_, h0⟩ | ⟨g, cap, cur, hv, hgB, hh, _⟩
  · omega
  · injection hv with hA _ hcap
    subst hA
    subst hcap
    refine ⟨g, 0, rfl, (Array.getElem?_eq_some_iff.1 hh).1, fun e => by have := hr _ e; omega, fun j hj => ?_⟩
    obtain ⟨A', n', c', e, hs, h3, h4, _, h5⟩ := h2 j hj
    refine ⟨A', n', c', ?_, hs, h3, h4, fun hn' a ha e2 => ?_⟩
    · rw [Nat.zero_add, World.ownsRow.cellAt h1 j (by omega), e]
    · have := h5 hn' a ha
      have := hr _ e2
      omega
end

section
variable {w : World} {ops : Array Oper} {rest : List Oper} {o : Oper} {a : Act} {K : Act → World → Prop} {Q : Exit → Act → World → Prop}
set_option maxRecDepth 100000 in
/-- append(s, x) where s is the call's own and x any slice of bytes that lies apart from it. -/
theorem wp_app1 (s x : Operand) (ho : o.op = .call { callee := .builtin .append, args := #[s, x], argTypes := #[22, 22] })
    (base D g2 : Nat) (v : Value) (n : Nat) (fs : List (List Int)) (hs : a.eval s = v) (hown : FRow w base D v n fs) (cc : Nat)
    (A' : Option Addr) (n' c' : Nat) (xs : List Int) (hx : a.eval x = .slice (some ⟨g2, 0, none⟩) 1 cc) (hc : w.cell? ⟨g2, 0, none⟩ = some (.slice A' n' c')) (hseg : Seg w w.heap.size .u8 A' n' xs) (hn' : n' ≤ c') (hm' : c' ≤ maxLen) (hap : Apart v A' n') (hD : 0 < n' → ∀ a, A' = some a → D ≤ a.block)
    (hn : n + 1 ≤ 1048576) (hbase : base ≤ w.heap.size)
    (h : ∀ v' w', FRow w' base D v' (n + 1) (fs ++ [xs]) → w.grownBy w' v.ownBlock → (v'.ownBlock = v.ownBlock ∨ v'.ownBlock = some w.heap.size) → K (a.put o.dst v') w') : o.wp Tryd.prog a w K Q := by
  obtain ⟨i, hi, hz, hsz, hby⟩ := infoS_parts
  obtain ⟨hl, vs, h1, h2⟩ := hown
  have hvl : vs.length = n := by have := h1.1; omega
  obtain ⟨v', w', hrun, r2, r3, _, r5⟩ := run_append_own_at (P := Tryd.prog) w base 22 o.type 27 i (.slice none 0 0) 1 24 Tryd.underlying22 hi hz hsz hby rfl (by omega) v n vs h1 ⟨g2, 0, none⟩ 1 cc [.slice A' n' c']
    rfl (fun j u hu => by
      rcases j with _ | j
      · injection hu with hu
        subst hu
        rw [addr_add]
        exact hc
      · cases hu) (by intro u hu; simp only [List.mem_singleton] at hu; subst hu; rfl) (by unfold maxLen; omega) (by omega) hbase
  unfold Oper.wp execOp
  simp only [ho, resolve, invoke, builtin, Sem.run_bind, Sem.run_pure, Result.andThen_ok, List.map_toArray, List.map_cons, List.map_nil, hs, hx, hrun]
  refine h v' w' ⟨by rw [List.length_append, hl]; rfl, vs ++ [.slice A' n' c'], r2, fun j hj => ?_⟩ r3 r5
  have hnew : ∀ (A : Option Addr) (m : Nat) (ys : List Int), Seg w w.heap.size .u8 A m ys → Apart v A m → Apart v' A m := fun A m ys hS hA hm0 ad had e => by
    rcases r5 with r5 | r5
    · exact hA hm0 ad had (r5.symm.trans e)
    · obtain ⟨b, off, e2, hlt, _⟩ := hS.2 hm0
      rw [had] at e2
      injection e2 with e2
      rw [r5] at e
      injection e with e
      rw [e2] at e
      simp at e
      omega
  by_cases hjn : j < n
  · obtain ⟨A2, n2, c2, e, s1, s2, s3, s4, s5⟩ := h2 j hjn
    refine ⟨A2, n2, c2, ?_, ?_, s2, s3, hnew A2 n2 _ s1 s4, s5⟩
    · rw [List.getElem?_append_left (by omega)]; exact e
    · have e2 : (fs ++ [xs]).getD j [] = fs.getD j [] := by rw [List.getD_eq_getElem?_getD, List.getElem?_append_left (by omega), ← List.getD_eq_getElem?_getD]
      rw [e2]
      exact s1.keep r3 s4
  · have hj2 : j = n := by omega
    subst hj2
    refine ⟨A', n', c', ?_, ?_, hn', hm', hnew A' n' xs hseg hap, hD⟩
    · rw [List.getElem?_append_right (by omega), hvl, Nat.sub_self]; rfl
    · have e2 : (fs ++ [xs]).getD j [] = xs := by rw [List.getD_eq_getElem?_getD, List.getElem?_append_right (by omega), hl, Nat.sub_self]; rfl
      rw [e2]
      exact hseg.keep r3 hap
theorem wpList_app1 (hgd : o.guard = none) (s x : Operand) (ho : o.op = .call { callee := .builtin .append, args := #[s, x], argTypes := #[22, 22] })
    (base D g2 : Nat) (v : Value) (n : Nat) (fs : List (List Int)) (hs : a.eval s = v) (hown : FRow w base D v n fs) (cc : Nat)
    (A' : Option Addr) (n' c' : Nat) (xs : List Int) (hx : a.eval x = .slice (some ⟨g2, 0, none⟩) 1 cc) (hc : w.cell? ⟨g2, 0, none⟩ = some (.slice A' n' c')) (hseg : Seg w w.heap.size .u8 A' n' xs) (hn' : n' ≤ c') (hm' : c' ≤ maxLen) (hap : Apart v A' n') (hD : 0 < n' → ∀ a, A' = some a → D ≤ a.block)
    (hn : n + 1 ≤ 1048576) (hbase : base ≤ w.heap.size)
    (h : ∀ v' w', FRow w' base D v' (n + 1) (fs ++ [xs]) → w.grownBy w' v.ownBlock → (v'.ownBlock = v.ownBlock ∨ v'.ownBlock = some w.heap.size) → wpList Tryd.prog ops Q rest (a.put o.dst v') w') : wpList Tryd.prog ops Q (o :: rest) a w :=
  wpList_plain hgd fun _ hK => wp_app1 s x ho base D g2 v n fs hs hown cc A' n' c' xs hx hc hseg hn' hm' hap hD hn hbase fun v' w' h2 h3 h4 => hK _ _ (h v' w' h2 h3 h4)
/-- The same as one step of a region that draws its order. -/
theorem step_app1 {E : Prop} (hgd : o.guard = none) (s x : Operand) (ho : o.op = .call { callee := .builtin .append, args := #[s, x], argTypes := #[22, 22] })
    (base D g2 : Nat) (v : Value) (n : Nat) (fs : List (List Int)) (hs : a.eval s = v) (hown : FRow w base D v n fs) (cc : Nat)
    (A' : Option Addr) (n' c' : Nat) (xs : List Int) (hx : a.eval x = .slice (some ⟨g2, 0, none⟩) 1 cc) (hc : w.cell? ⟨g2, 0, none⟩ = some (.slice A' n' c')) (hseg : Seg w w.heap.size .u8 A' n' xs) (hn' : n' ≤ c') (hm' : c' ≤ maxLen) (hap : Apart v A' n') (hD : 0 < n' → ∀ a, A' = some a → D ≤ a.block)
    (hn : n + 1 ≤ 1048576) (hbase : base ≤ w.heap.size)
    (h : ∀ v' w', FRow w' base D v' (n + 1) (fs ++ [xs]) → w.grownBy w' v.ownBlock → (v'.ownBlock = v.ownBlock ∨ v'.ownBlock = some w.heap.size) → K (a.put o.dst v') w') :
    if Region.wanted o (yielded ops a.tmps) = true then Oper.wp Tryd.prog o a w K Q else E := by
  have hw : Region.wanted o (yielded ops a.tmps) = true := by simp [Region.wanted, hgd]
  rw [if_pos hw]
  exact wp_app1 s x ho base D g2 v n fs hs hown cc A' n' c' xs hx hc hseg hn' hm' hap hD hn hbase h
end
end Go.Proofs.YtkcbbgmilaafeaaDoor
