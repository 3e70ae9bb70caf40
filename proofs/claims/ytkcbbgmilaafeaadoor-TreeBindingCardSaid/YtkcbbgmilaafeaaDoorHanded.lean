/-
  What a call hands back: a slice of bytes.
-/
import Derived.Test.YtkcbbgmilaafeaaDoorRow
namespace Go.Proofs.YtkcbbgmilaafeaaDoor
open Go.RowKit

/-- What a call hands back: a slice of n bytes. -/
def Handed (w w' : World) (n : Nat) (xs : List Int) (e : Ending) : Prop := ∃ A c, e = .returned (.slice A n c) ∧ n ≤ c ∧ c ≤ maxLen ∧ Seg w' w'.heap.size .u8 A n xs ∧ Below w.heap.size w w'
/-- The same, in memory of the call's own. -/
def HandedN (w w' : World) (n : Nat) (xs : List Int) (e : Ending) : Prop := ∃ A c, e = .returned (.slice A n c) ∧ n ≤ c ∧ c ≤ maxLen ∧ Seg w' w'.heap.size .u8 A n xs ∧ Below w.heap.size w w' ∧ (0 < n → ∀ a, A = some a → w.heap.size ≤ a.block)
theorem HandedN.old {w w' : World} {n : Nat} {xs : List Int} {e : Ending} (h : HandedN w w' n xs e) : Handed w w' n xs e := by
  obtain ⟨A, c, h1, h2, h3, h4, h5, _⟩ := h
  exact ⟨A, c, h1, h2, h3, h4, h5⟩
end Go.Proofs.YtkcbbgmilaafeaaDoor
