/-
  A slice of slices of bytes that came in, with the numbers' range.
-/
import Derived.Test.YtcidfnblfelgkaaFld
import Derived.Test.YtcidfnblfelgkaaBytesIn
import Derived.Deep.Slices
namespace Go.Proofs.Ytcidfnblfelgkaa
open Go.ChangeShapes Go.WideShapes Go.ChangeAt Go.RowKit

section
variable {H : Type} {enc : TypeId × Value → H} {W : World}
theorem open_bytes_r {fuel : Nat} {cs : List Value} {x : DataW H × List MemPlace} (h : DataW.trod enc Try.prog W 0 (fun _ => true) true fuel 22 cs = some x) :
    ∃ A n c xs, cs = [.slice A n c] ∧ Seg W W.heap.size .u8 A n xs ∧ n ≤ c ∧ c ≤ maxLen ∧ InB xs := by
  rcases open_ints Try.underlying22 Try.underlying5 cellsU8 h with ⟨rfl, _⟩ | ⟨a, len, cap, zs, rfl, _, hl, hm, hz, _, hcell, hr⟩
  · exact ⟨none, 0, 0, [], rfl, Seg.nil _ _ _ _, Nat.le_refl _, by unfold maxLen; omega, fun _ h => by cases h⟩
  · have hz' : zs.length = cap := by simpa using hz
    refine ⟨some a, len, cap, zs.take len, rfl, ⟨by simp; omega, fun hn => ?_⟩, hl, hm, fun x hx => u8_range (hr x (List.mem_of_mem_take hx))⟩
    obtain ⟨b, off, rfl, hc⟩ := Go.ints_at hcell (by omega)
    refine ⟨b, off, rfl, block_lt_of_cell (hc 0 (by omega)), fun j hj => ?_⟩
    rw [hc j (by omega)]
    simp [List.getD, hj]
/-- A slice of slices of bytes that came in. -/
theorem open_fields_in {v : Value} {d : DataW H} {ps : List MemPlace} {base : Nat} (hval : Value.okWide Try.prog W .any base 41 v) (h : DataW.Trod enc Try.prog W 0 (fun _ => true) true 41 v d ps) :
    ∃ A n c fs, v = .slice A n c ∧ Fields W W.heap.size A n fs ∧ n ≤ c ∧ c ≤ maxLen ∧ ∀ x ∈ fs, InB x := by
  obtain ⟨a0, len0, cap0, rfl⟩ := okWide_slice Try.underlying41 hval
  obtain ⟨fuel, hf⟩ := h
  rcases Deep.open_slice1 Try.underlying41 cellsBytes hf with ⟨he, _⟩ | ⟨a, len, cap, m, q, V, D, Pl, he, _, hl, hm, hmm, _, hx⟩
  · simp only [Value.cells] at he
    injection he with he
    exact ⟨none, 0, 0, [], he, ⟨rfl, fun h => absurd h (by omega)⟩, Nat.le_refl _, by unfold maxLen; omega, fun _ h => by cases h⟩
  · simp only [Value.cells] at he
    injection he with he
    have hmc : m = cap := by simpa using hmm
    have each : ∀ i, i < len → ∃ A' n' c' xs, V i = .slice A' n' c' ∧ Seg W W.heap.size .u8 A' n' xs ∧ n' ≤ c' ∧ c' ≤ maxLen ∧ InB xs := fun i hi => by
      obtain ⟨_, h2⟩ := hx i (by omega)
      obtain ⟨A', n', c', xs, e, h3⟩ := open_bytes_r h2
      injection e with e
      exact ⟨A', n', c', xs, e, h3⟩
    have hch : ∃ f : Nat → List Int, ∀ i, i < len → ∃ A' n' c', V i = .slice A' n' c' ∧ Seg W W.heap.size .u8 A' n' (f i) ∧ n' ≤ c' ∧ c' ≤ maxLen ∧ InB (f i) :=
      ⟨fun i => if hi : i < len then (each i hi).choose_spec.choose_spec.choose_spec.choose else [], fun i hi => by
        simp only [hi, dif_pos]
        exact ⟨_, _, _, (each i hi).choose_spec.choose_spec.choose_spec.choose_spec⟩⟩
    obtain ⟨f, hfs⟩ := hch
    refine ⟨some a, len, cap, (List.range len).map f, he, ⟨by simp, fun hn => ?_⟩, hl, hm, fun x hx => ?_⟩
    · obtain ⟨b, off, spot⟩ := a
      have h0 := (hx 0 (by omega)).1
      have hspot : spot = none := by simpa [Addr.add] using World.cell?_spot h0
      subst hspot
      refine ⟨b, off, rfl, block_lt_of_cell (by rw [addr_add] at h0; exact h0), fun j hj => ?_⟩
      obtain ⟨A', n', c', h1, h2, h3, h4, _⟩ := hfs j hj
      refine ⟨A', n', c', ?_, ?_, h3, h4⟩
      · rw [← addr_add, (hx j (by omega)).1, h1]
      · have e : ((List.range len).map f).getD j [] = f j := by simp [List.getD, hj]
        rw [e]
        exact h2
    · obtain ⟨j, hj, rfl⟩ := List.mem_map.1 hx
      obtain ⟨_, _, _, _, _, _, _, h5⟩ := hfs j (List.mem_range.1 hj)
      exact h5
end
end Go.Proofs.Ytcidfnblfelgkaa
