/-
  A region that draws its order and begins with one call that writes: what stands behind that call only reads and is walked once, in the order of the text.
-/
import Derived.Test.YtkcbbgmilaafeaaDoorRow
import Derived.Deep.RegionWith
import Derived.BigQuiet
namespace Go.Proofs.YtkcbbgmilaafeaaDoor
open Go.RowKit

/-- From here on every operation is quiet: one walk of the text's order serves every order. -/
theorem wpAny_rest {P : Program} {l : List Oper} {Q : Exit → Act → World → Prop} {a : Act} {w : World} {fuel : Nat} (k : Nat) {listed : Array Bool} (hs : Region.noSelect l.toArray = true) (hf : fuel = (l.drop k).length)
    (hB : Region.lexFrom .any l.toArray (l.drop k).length k listed = true)
    (h : wpQuiet P l.toArray (fun w' => ∃ n, w' = w.drewN n) (fun a' => ∀ w', (∃ n, w' = w.drewN n) → Q .normal a' w') (l.drop k) a) : wpAny P .any l.toArray Q fuel listed a w := by
  subst hf
  refine wpAny_of_quiet (C := fun w' => ∃ n, w' = w.drewN n) (Q := fun a' => ∀ w', (∃ n, w' = w.drewN n) → Q .normal a' w') (fun _ w' hw' h => h w' hw') _ _ _ _ ⟨0, rfl⟩ ?_
  exact wpAnyQ_lex hs (l.drop k) k listed a (fun j => by simp) hB h
end Go.Proofs.YtkcbbgmilaafeaaDoor
