/-
  A slice of slices of bytes that came in.
-/
import Derived.Test.YtkcbbgmilaafeaaDoorField
import Derived.Test.YtkcbbgmilaafeaaDoorShutT
import Derived.Deep.Slices
namespace Go.Proofs.YtkcbbgmilaafeaaDoor
open Go.ChangeShapes Go.WideShapes Go.ChangeAt Go.RowKit

section
variable {H : Type} {enc : TypeId × Value → H} {W : World}
/-- A slice of slices of bytes that came in. -/
theorem open_fields_arg {v : Value} {d : DataW H} {ps : List MemPlace} {base : Nat} (hval : Value.okWide Tryd.prog W .any base 22 v) (h : DataW.Trod enc Tryd.prog W 0 (fun _ => true) true 22 v d ps) :
    ∃ A n c fs, v = .slice A n c ∧ Fields W W.heap.size A n fs ∧ n ≤ c ∧ c ≤ maxLen := by
  obtain ⟨a0, len0, cap0, rfl⟩ := okWide_slice Tryd.underlying22 hval
  obtain ⟨fuel, hf⟩ := h
  rcases Deep.open_slice1 Tryd.underlying22 cellsBytes hf with ⟨he, _⟩ | ⟨a, len, cap, m, q, V, D, Pl, he, _, hl, hm, hmm, _, hx⟩
  · simp only [Value.cells] at he
    injection he with he
    exact ⟨none, 0, 0, [], he, ⟨rfl, fun h => absurd h (by omega)⟩, Nat.le_refl _, by unfold maxLen; omega⟩
  · simp only [Value.cells] at he
    injection he with he
    have hmc : m = cap := by simpa using hmm
    have each : ∀ i, i < len → ∃ A' n' c' xs, V i = .slice A' n' c' ∧ Seg W W.heap.size .u8 A' n' xs ∧ n' ≤ c' ∧ c' ≤ maxLen := fun i hi => by
      obtain ⟨_, h2⟩ := hx i (by omega)
      obtain ⟨A', n', c', xs, e, h3⟩ := open_bytes h2
      injection e with e
      exact ⟨A', n', c', xs, e, h3⟩
    have hch : ∃ f : Nat → List Int, ∀ i, i < len → ∃ A' n' c', V i = .slice A' n' c' ∧ Seg W W.heap.size .u8 A' n' (f i) ∧ n' ≤ c' ∧ c' ≤ maxLen :=
      ⟨fun i => if hi : i < len then (each i hi).choose_spec.choose_spec.choose_spec.choose else [], fun i hi => by
        simp only [hi, dif_pos]
        exact ⟨_, _, _, (each i hi).choose_spec.choose_spec.choose_spec.choose_spec⟩⟩
    obtain ⟨f, hfs⟩ := hch
    refine ⟨some a, len, cap, (List.range len).map f, he, ⟨by simp, fun hn => ?_⟩, hl, hm⟩
    obtain ⟨b, off, spot⟩ := a
    have h0 := (hx 0 (by omega)).1
    have hspot : spot = none := by simpa [Addr.add] using World.cell?_spot h0
    subst hspot
    refine ⟨b, off, rfl, block_lt_of_cell (by rw [addr_add] at h0; exact h0), fun j hj => ?_⟩
    obtain ⟨A', n', c', h1, h2, h3⟩ := hfs j hj
    refine ⟨A', n', c', ?_, ?_, h3⟩
    · rw [← addr_add, (hx j (by omega)).1, h1]
    · have e : ((List.range len).map f).getD j [] = f j := by simp [List.getD, hj]
      rw [e]
      exact h2
end
end Go.Proofs.YtkcbbgmilaafeaaDoor
