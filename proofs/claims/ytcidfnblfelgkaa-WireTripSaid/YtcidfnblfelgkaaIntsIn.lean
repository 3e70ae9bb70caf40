/-
  A slice of ints that came in.
-/
import Derived.Test.YtcidfnblfelgkaaShut
namespace Go.Proofs.Ytcidfnblfelgkaa
open Go.ChangeShapes Go.WideShapes Go.ChangeAt Go.RowKit

theorem cellsI64 : Try.prog.cellsOf 3 = 1 := by kernel_rfl
section
variable {H : Type} {enc : TypeId × Value → H} {W : World}
theorem open_ints_arg {v : Value} {d : DataW H} {ps : List MemPlace} {base : Nat} (hval : Value.okWide Try.prog W .any base 29 v) (h : DataW.Trod enc Try.prog W 0 (fun _ => true) true 29 v d ps) :
    ∃ A n c xs, v = .slice A n c ∧ Seg W W.heap.size .i64 A n xs ∧ n ≤ c ∧ c ≤ maxLen := by
  obtain ⟨a0, len, cap, rfl⟩ := okWide_slice Try.underlying29 hval
  obtain ⟨fuel, hf⟩ := h
  rcases open_ints Try.underlying29 Try.underlying3 cellsI64 hf with ⟨he, _⟩ | ⟨a, len, cap, zs, he, _, hl, hm, hz, _, hcell, hr⟩
  · simp only [Value.cells] at he
    injection he with he
    exact ⟨none, 0, 0, [], he, Seg.nil _ _ _ _, Nat.le_refl _, by unfold maxLen; omega⟩
  · simp only [Value.cells] at he
    injection he with he
    have hz' : zs.length = cap := by simpa using hz
    refine ⟨some a, len, cap, zs.take len, he, ⟨by simp; omega, fun hn => ?_⟩, hl, hm⟩
    obtain ⟨b, off, rfl, hc⟩ := Go.ints_at hcell (by omega)
    refine ⟨b, off, rfl, block_lt_of_cell (hc 0 (by omega)), fun j hj => ?_⟩
    rw [hc j (by omega)]
    simp [List.getD, hj]
end
end Go.Proofs.Ytcidfnblfelgkaa
