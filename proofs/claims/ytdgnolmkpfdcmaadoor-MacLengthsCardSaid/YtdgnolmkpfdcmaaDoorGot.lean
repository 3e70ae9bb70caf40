/-
  Small facts on what a call hands back: a row of bytes that is not empty lies in a block; lengths of digests; the digest of abc.
-/
import Derived.Test.YtdgnolmkpfdcmaaDoorSum
import Derived.Lib.SlBytesConst
namespace Go.Proofs.YtdgnolmkpfdcmaaDoor
open Go.RowKit

set_option maxRecDepth 1000000 in
theorem sha256_abc : sha256 [97, 98, 99] = [186, 120, 22, 191, 143, 1, 207, 234, 65, 65, 64, 222, 93, 174, 34, 35, 176, 3, 97, 163, 150, 23, 122, 156, 180, 16, 255, 97, 242, 0, 21, 173] := by decide +kernel
theorem digestI_length (alg : Int) (xs : List Int) : ((digestI alg xs).length : Int) = sizeI alg := by
  unfold digestI sizeI
  split
  · rw [sha1_length]; rfl
  · split
    · rw [sha256_length]; rfl
    · rfl

/-- A row that is not empty lies in a block. -/
theorem Own.at_ {w : World} {B : Nat} {e : TypeId} {k : IntKind} {v : Value} {xs : List Int} (h : Own w B e k v xs) (hx : 0 < xs.length) :
    ∃ g c, v = .slice (some ⟨g, 0, none⟩) xs.length c ∧ xs.length ≤ c ∧ c ≤ maxLen ∧ B ≤ g ∧ g < w.heap.size ∧ ∀ j, j < xs.length → w.cell? ⟨g, j, none⟩ = some (.int k (xs.getD j 0)) := by
  have h' := h
  rcases h.2 with ⟨_, h0⟩ | ⟨g, cap, cur, rfl, hg, hh, h1, h2, _⟩
  · omega
  · refine ⟨g, cap, rfl, h1, h2, hg, (Array.getElem?_eq_some_iff.1 hh).1, fun j hj => ?_⟩
    have := h'.cells (g := g) rfl j (.int k (xs.getD j 0)) (ints_at k xs j hj)
    rwa [addr_add, Nat.zero_add] at this
end Go.Proofs.YtdgnolmkpfdcmaaDoor
