/-
  A slice of bytes that came in, with its numbers' range.
-/
import Derived.Test.YtljkkejjnimjcaaDoorBase13
namespace Go.Proofs.YtljkkejjnimjcaaDoor
open Go.ChangeShapes Go.WideShapes Go.ChangeAt Go.RowKit

section
variable {H : Type} {enc : TypeId × Value → H} {W : World}
theorem u8_range {n : Int} (h : (Lit.int .u8 n).wf = true) : 0 ≤ n ∧ n < 256 := by
  have h1 : IntKind.u8.min = 0 := rfl
  have h2 : IntKind.u8.max = 255 := rfl
  simp [Lit.wf, h1, h2] at h
  omega
set_option maxRecDepth 100000 in
theorem open_bytes_in {v : Value} {d : DataW H} {ps : List MemPlace} {base : Nat} (hval : Value.okWide Tryd.prog W .any base 22 v) (h : DataW.Trod enc Tryd.prog W 0 (fun _ => true) true 22 v d ps) :
    ∃ A n c xs, v = .slice A n c ∧ Seg W W.heap.size .u8 A n xs ∧ n ≤ c ∧ c ≤ maxLen ∧ InB xs := by
  obtain ⟨a0, len, cap, rfl⟩ := okWide_slice Tryd.underlying22 hval
  obtain ⟨fuel, hf⟩ := h
  rcases open_ints Tryd.underlying22 Tryd.underlying5 cellsU8 hf with ⟨he, _⟩ | ⟨a, len, cap, zs, he, _, hl, hm, hz, _, hcell, hr⟩
  · simp only [Value.cells] at he
    injection he with he
    exact ⟨none, 0, 0, [], he, Seg.nil _ _ _ _, Nat.le_refl _, by unfold maxLen; omega, fun _ h => by cases h⟩
  · simp only [Value.cells] at he
    injection he with he
    have hz' : zs.length = cap := by simpa using hz
    refine ⟨some a, len, cap, zs.take len, he, ⟨by simp; omega, fun hn => ?_⟩, hl, hm, fun x hx => u8_range (hr x (List.mem_of_mem_take hx))⟩
    obtain ⟨b, off, rfl, hc⟩ := Go.ints_at hcell (by omega)
    refine ⟨b, off, rfl, block_lt_of_cell (hc 0 (by omega)), fun j hj => ?_⟩
    rw [hc j (by omega)]
    simp [List.getD, hj]
end
end Go.Proofs.YtljkkejjnimjcaaDoor
