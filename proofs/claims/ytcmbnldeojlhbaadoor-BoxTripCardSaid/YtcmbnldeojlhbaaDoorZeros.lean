/-
  append(s, make([]byte, n)...) and append(s, text...) onto a row of the call's own.
-/
import Derived.Test.YtcmbnldeojlhbaaDoorRow
import Derived.Lib.AppendZerosOnto
import Derived.Lib.AppendStr
namespace Go.Proofs.YtcmbnldeojlhbaaDoor
open Go.RowKit

theorem zeros_ints (k : IntKind) (n : Nat) : Builtin.zeroCells (Value.int k 0).cells n = (ints k (List.replicate n 0)).toArray := by
  apply Array.ext'
  apply List.ext_getElem?
  intro j
  by_cases hj : j < n
  · simp [Builtin.zeroCells, ints, Value.cells, hj, Nat.mod_one]
  · simp [Builtin.zeroCells, ints, Value.cells, hj]

section
variable {P : Program} (w : World)
theorem run_room_zeros (t tn ty e : TypeId) (i : TypeInfo) (k kq kn : IntKind) (ht : P.underlying t = some (.slice e)) (htn : P.underlying tn = some (.int kn)) (hi : P.info? e = some i) (hz : i.zero = some (.int k 0)) (hsize : i.size = 1) (hby : i.bytes = 1)
    (g sLen sCap n : Nat) (cur : Array Value) (hg : w.heap[g]? = some (.cells cur e (0, 0))) (hn : n ≤ 140737488355328) (hroom : sLen + n ≤ sCap) (hfit : sLen + n ≤ cur.size) :
    (Builtin.append_ #[t, tn] ty #[.slice (some ⟨g, 0, none⟩) sLen sCap, .int kq (n : Int)]).run P w =
      .ok (.slice (some ⟨g, 0, none⟩) (sLen + n) sCap) (w.setRow g (cur.toList.take sLen ++ ints k (List.replicate n 0) ++ cur.toList.drop (sLen + n)).toArray) := by
  have hw : IntKind.i64.wrap (n : Int) = n := by rw [IntKind.wrap_i64]; omega
  have hneg : ¬ ((n : Int) < 0) := by omega
  have hl : (ints k (List.replicate n 0)).length = n := by simp [ints]
  have h48 : ¬ (281474976710656 < (n : Int) * (i.bytes : Int)) := by rw [hby]; omega
  have hst := run_storeCells_at P g sLen e (ints k (List.replicate n 0)) 0 cur w hg (by rw [hl]; simpa using hfit) (ints_oneCell k _)
  simp only [Nat.add_zero, hl] at hst
  by_cases h0 : n = 0
  · subst h0
    have h : ints k (List.replicate 0 0) = [] := rfl
    rw [h] at hst
    have h0 : IntKind.i64.wrap 0 = 0 := rfl
    have hroom' : sLen ≤ sCap := by omega
    have hst' : w.setRow g (cur.toList.take sLen ++ [] ++ cur.toList.drop (sLen + 0)).toArray = w := by
      have h1 : (storeCells ⟨g, sLen, none⟩ []).run P w = .ok () w := rfl
      rw [h1] at hst
      injection hst with _ h2
      simpa using h2.symm
    rw [h, hst']
    simp [Builtin.append_, run_underlying ht, run_underlying htn, sizeOf, typeInfo, hi, asInt, asIntOf, h0, hroom', storeCells]
  · simp [Builtin.append_, run_underlying ht, run_underlying htn, sizeOf, typeInfo, zeroValue, hi, hz, hsize, asInt, asIntOf, hw, hneg, h48, h0, hroom, Addr.add_lit, zeros_ints, hst]

theorem run_append_own_zeros (base : Nat) (t tn ty e : TypeId) (i : TypeInfo) (k kq kn : IntKind) (ht : P.underlying t = some (.slice e)) (htn : P.underlying tn = some (.int kn)) (hi : P.info? e = some i) (hz : i.zero = some (.int k 0)) (hsize : i.size = 1) (hby : i.bytes = 1)
    (v : Value) (m n : Nat) (xs : List Int) (hown : Row w base e k v m xs) (hbytes : m + n ≤ 140737488355328) (hbase : base ≤ w.heap.size) :
    ∃ v' w', (Builtin.append_ #[t, tn] ty #[v, .int kq (n : Int)]).run P w = .ok v' w' ∧ Row w' base e k v' (m + n) (xs ++ List.replicate n 0) ∧ w.grownBy w' v.ownBlock := by
  have hxl := hown.length
  have hil : (ints k xs).length = m := by rw [ints_length]; exact hxl
  have hlen : (ints k (xs ++ List.replicate n 0)).length = (m + n) * 1 := by simp [ints, hxl]
  have hz1 : (Value.int k 0).cells.size = 1 := rfl
  have grown : ∀ (old : Nat), old < m + n → ∀ (row : Option Nat),
      Row (w.drew.alloc (.cells ((ints k xs).toArray ++ Builtin.zeroCells (Value.int k 0).cells n ++ Builtin.zeroCells (Value.int k 0).cells (grownCap w (m + n) old e - (m + n))) e)) base e k
        (.slice (some ⟨w.heap.size, 0, none⟩) (m + n) (grownCap w (m + n) old e)) (m + n) (xs ++ List.replicate n 0) ∧
      w.grownBy (w.drew.alloc (.cells ((ints k xs).toArray ++ Builtin.zeroCells (Value.int k 0).cells n ++ Builtin.zeroCells (Value.int k 0).cells (grownCap w (m + n) old e - (m + n))) e)) row := by
    intro old ho row
    have hge := grownCap_ge w (m + n) old e
    have hcm : grownCap w (m + n) old e ≤ maxLen := grownCap_le_maxLen w (m + n) old e (by unfold maxLen; omega)
    refine ⟨⟨hlen, .inr ⟨w.heap.size, _, _, rfl, hbase, heap_alloc_new w.drew _, hge, hcm, ?_, ?_⟩⟩, ⟨rfl, rfl, rfl, by simp, fun j hj _ => heap_alloc_old w.drew _ hj⟩⟩
    · simp only [Array.size_append, List.size_toArray, size_zeroCells, hz1, hil]
      omega
    · rw [zeros_ints k n]
      simp only [Array.toList_append, List.append_assoc]
      rw [← List.append_assoc, ints_append, ← hlen]
      exact List.take_left
  rcases hown.2 with ⟨rfl, hm0⟩ | ⟨g, cap, cur, rfl, hbg, hg, hnc, hcm, hcs, htake⟩
  · have hx : xs = [] := List.eq_nil_of_length_eq_zero (by omega)
    subst hx
    subst hm0
    by_cases h0 : n = 0
    · subst h0
      refine ⟨.slice none 0 0, w, ?_, World.ownsRow_nil w base e 1, ⟨rfl, rfl, rfl, Nat.le_refl _, fun _ _ _ => rfl⟩⟩
      have hw : IntKind.i64.wrap 0 = 0 := rfl
      simp [Builtin.append_, run_underlying ht, run_underlying htn, sizeOf, typeInfo, hi, asInt, asIntOf, hw]
    · have hr := Lib.run_append_nil_zeros (P := P) w t tn ty e i (.int k 0) kq kn ht htn hi hz n (by omega) (by omega) (by omega) (by rw [hby]; omega)
      have hgr := grown 0 (by omega) (Value.ownBlock (.slice none 0 0))
      have e0 : (ints k []).toArray = #[] := rfl
      simp only [Nat.zero_add, List.nil_append, e0, Array.empty_append] at hgr ⊢
      exact ⟨_, _, hr, hgr.1, hgr.2⟩
  · by_cases hroom : m + n ≤ cap
    · have hcs' : cur.size = cap := by simpa using hcs
      have hr := run_room_zeros (P := P) w t tn ty e i k kq kn ht htn hi hz hsize hby g m cap n cur hg (by omega) hroom (by omega)
      refine ⟨_, _, hr, ⟨hlen, .inr ⟨g, cap, _, rfl, hbg, setRow_heap w g cur _ e _ hg, hroom, hcm, ?_, ?_⟩⟩, ⟨rfl, rfl, rfl, by simp, fun j _ hj => setRow_other w g j _ (fun e => hj (by simp [Value.ownBlock, e]))⟩⟩
      · simp only [List.size_toArray, List.length_append, List.length_take, List.length_drop, Array.length_toList, ints_length, List.length_replicate]
        omega
      · have ht' : cur.toList.take m = ints k xs := by simpa using htake
        rw [ht', ints_append, ← hlen]
        exact List.take_left
    · have holds : ∀ j u, (ints k xs)[j]? = some u → w.cell? ((⟨g, 0, none⟩ : Addr).add j) = some u := World.ownsRow.cells (g := g) hown rfl
      have hfo := run_firstCells_some (P := P) w.drew i.size m ⟨g, 0, none⟩ m cap (ints k xs) (by rw [hsize, hil]; omega) (by simpa using holds)
      have hr := Lib.run_append_grow_zeros (P := P) w t tn ty e i (.int k 0) kq kn ht htn hi hz (some ⟨g, 0, none⟩) m cap (ints k xs) hfo n (by omega) (by omega) (by omega) (by omega) (by rw [hby]; omega) (by rw [hby]; exact growslice_fits (by omega) (by omega))
      have hgr := grown cap (by omega) (Value.ownBlock (.slice (some ⟨g, 0, none⟩) m cap))
      exact ⟨_, _, hr, hgr.1, hgr.2⟩

theorem wpList_appz {ops : Array Oper} {rest : List Oper} {o : Oper} {a : Act} {Q : Exit → Act → World → Prop} (hgd : o.guard = none) (sl x : Operand) (t tn : TypeId)
    (ho : o.op = .call { callee := .builtin .append, args := #[sl, x], argTypes := #[t, tn] })
    (base : Nat) (e : TypeId) (i : TypeInfo) (k kq kn : IntKind) (ht : P.underlying t = some (.slice e)) (htn : P.underlying tn = some (.int kn)) (hi : P.info? e = some i) (hz : i.zero = some (.int k 0)) (hsize : i.size = 1) (hby : i.bytes = 1)
    (v : Value) (m n : Nat) (xs : List Int) (hs : a.eval sl = v) (hown : Row w base e k v m xs) (C : Int) (hx : a.eval x = .int kq C) (hC : C = (n : Int)) (hbytes : m + n ≤ 140737488355328) (hbase : base ≤ w.heap.size)
    (h : ∀ v' w', Row w' base e k v' (m + n) (xs ++ List.replicate n 0) → w.grownBy w' v.ownBlock → wpList P ops Q rest (a.put o.dst v') w') : wpList P ops Q (o :: rest) a w := by
  subst hC
  refine wpList_plain hgd fun K hK => ?_
  obtain ⟨v', w', hr, h2, h3⟩ := run_append_own_zeros (P := P) w base t tn o.type e i k kq kn ht htn hi hz hsize hby v m n xs hown hbytes hbase
  unfold Oper.wp execOp
  simp only [ho, resolve, invoke, builtin, Sem.run_bind, Sem.run_pure, Result.andThen_ok, List.map_toArray, List.map_cons, List.map_nil, hs, hx, hr]
  exact hK _ _ (h v' w' h2 h3)
end

/-- The bytes of a text, as numbers. -/
def strI (s : ByteArray) : List Int := s.data.toList.map fun b => (b.toNat : Int)
theorem strI_length (s : ByteArray) : (strI s).length = s.size := by
  rw [strI, List.length_map, Array.length_toList]
  rfl
theorem strI_cells (s : ByteArray) : Lib.strCells s = ints .u8 (strI s) := by simp [Lib.strCells, ints, strI]
section
variable {P : Program} (w : World)
theorem wpList_apps {ops : Array Oper} {rest : List Oper} {o : Oper} {a : Act} {Q : Exit → Act → World → Prop} (hgd : o.guard = none) (sl x : Operand) (t u : TypeId)
    (ho : o.op = .call { callee := .builtin .append, args := #[sl, x], argTypes := #[t, u] })
    (base : Nat) (e : TypeId) (i : TypeInfo) (ht : P.underlying t = some (.slice e)) (hu : P.underlying u = some .string) (hi : P.info? e = some i) (hz : i.zero = some (.int .u8 0))
    (hsize : i.size = 1) (hby : i.bytes = 1)
    (v : Value) (n : Nat) (xs : List Int) (hs : a.eval sl = v) (hown : Row w base e .u8 v n xs) (s : ByteArray) (hx : a.eval x = .string s)
    (hbytes : n + s.size ≤ 140737488355328) (hbase : base ≤ w.heap.size)
    (h : ∀ v' w', Row w' base e .u8 v' (n + s.size) (xs ++ strI s) → w.grownBy w' v.ownBlock → wpList P ops Q rest (a.put o.dst v') w') : wpList P ops Q (o :: rest) a w :=
  Lib.wpList_append_own_string (P := P) w hgd sl x t u ho base e i ht hu hi hz hsize hby v n (ints .u8 xs) hs hown s hx (by unfold maxLen; omega) hbytes hbase fun v' w' h1 h2 _ => by
    rw [strI_cells, ints_append] at h1
    exact h v' w' h1 h2
end
end Go.Proofs.YtcmbnldeojlhbaaDoor
