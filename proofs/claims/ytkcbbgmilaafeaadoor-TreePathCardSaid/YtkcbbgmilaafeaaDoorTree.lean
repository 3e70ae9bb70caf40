/-
  Hash trees as Lean functions on lists of integers, written after chapter 6 of the document; each leaf leads to the root; leaves that lead to one root collide.
-/
import Derived.Test.YtkcbbgmilaafeaaDoorH16
import Derived.Test.YtkcbbgmilaafeaaDoorInj
namespace Go.Proofs.YtkcbbgmilaafeaaDoor
open Go.RowKit

/-- Node i of level h + 1. -/
def nodeF (h i : Nat) (x y : List Int) : List (List Int) := [[(h : Int) % 256, (i : Int) % 256], x, y]
def nodeT (h i : Nat) (x y : List Int) : List Int := hash16 3 (nodeF h i x y)
theorem nodeT_length (h i : Nat) (x y : List Int) : (nodeT h i x y).length = 16 := hash16_length _ _
/-- The first k nodes of the next level; the next level. -/
def upTo (h : Nat) (l : List (List Int)) (k : Nat) : List (List Int) := (List.range k).map fun i => nodeT h i (l.getD (2 * i) []) (l.getD (2 * i + 1) [])
def upT (h : Nat) (l : List (List Int)) : List (List Int) := upTo h l (l.length / 2)
theorem upTo_next (h : Nat) (l : List (List Int)) (k : Nat) : upTo h l (k + 1) = upTo h l k ++ [nodeT h k (l.getD (2 * k) []) (l.getD (2 * k + 1) [])] := by
  simp [upTo, List.range_succ]
theorem upTo_length (h : Nat) (l : List (List Int)) (k : Nat) : (upTo h l k).length = k := by simp [upTo]
theorem upT_length (h : Nat) (l : List (List Int)) : (upT h l).length = l.length / 2 := upTo_length _ _ _
theorem upT_get (h : Nat) (l : List (List Int)) (i : Nat) (hi : i < l.length / 2) : (upT h l).getD i [] = nodeT h i (l.getD (2 * i) []) (l.getD (2 * i + 1) []) := by
  rw [upT, upTo, List.getD_eq_getElem?_getD, List.getElem?_map, List.getElem?_range hi]
  rfl
/-- The root of a level of 2 to the f nodes. -/
def rootF : Nat → Nat → List (List Int) → List Int
  | 0, _, l => l.getD 0 []
  | f + 1, h, l => rootF f (h + 1) (upT h l)
/-- The other one of a pair. -/
def sibI (i : Nat) : Nat := if i % 2 = 0 then i + 1 else i - 1
def pathF : Nat → Nat → Nat → List (List Int) → List (List Int)
  | 0, _, _, _ => []
  | f + 1, h, i, l => l.getD (sibI i) [] :: pathF f (h + 1) (i / 2) (upT h l)
def stepT (h i : Nat) (x y : List Int) : List (List Int) := if i % 2 = 0 then nodeF h (i / 2) x y else nodeF h (i / 2) y x
def climbF : Nat → List Int → Nat → List (List Int) → List Int
  | _, x, _, [] => x
  | h, x, i, y :: p => climbF (h + 1) (hash16 3 (stepT h i x y)) (i / 2) p
def fitsT (n : Nat) : Option Nat := if n = 1 then some 0 else if n = 2 then some 1 else if n = 4 then some 2 else if n = 8 then some 3 else none
def rootI (l : List (List Int)) : List Int := match fitsT l.length with | none => [] | some f => rootF f 0 l
def pathI (i : Int) (l : List (List Int)) : List (List Int) := match fitsT l.length with | none => [] | some f => if i < 0 ∨ (l.length : Int) ≤ i then [] else pathF f 0 i.toNat l
def climbI (leaf : List Int) (i : Int) (p : List (List Int)) : List Int := if 3 < p.length ∨ i < 0 ∨ (2 ^ p.length : Nat) ≤ i then [] else climbF 0 leaf i.toNat p

theorem fitsT_pow {n f : Nat} (h : fitsT n = some f) : n = 2 ^ f := by
  unfold fitsT at h
  split at h <;> (try split at h) <;> (try split at h) <;> (try split at h) <;> simp_all <;> (subst h; rfl)
theorem pathF_length : ∀ (f h i : Nat) (l : List (List Int)), (pathF f h i l).length = f
  | 0, _, _, _ => rfl
  | f + 1, h, i, l => by rw [pathF, List.length_cons, pathF_length f]
/-- Each leaf leads to the root by its path. -/
theorem climb_path : ∀ (f h i : Nat) (l : List (List Int)), l.length = 2 ^ f → i < 2 ^ f → climbF h (l.getD i []) i (pathF f h i l) = rootF f h l
  | 0, h, i, l, hl, hi => by
    have : i = 0 := by simpa using hi
    rw [this]; rfl
  | f + 1, h, i, l, hl, hi => by
    have h2 : 2 ^ (f + 1) = 2 * 2 ^ f := by rw [Nat.pow_succ]; omega
    rw [h2] at hl hi
    have hu : (upT h l).length = 2 ^ f := by rw [upT_length]; omega
    have e : hash16 3 (stepT h i (l.getD i []) (l.getD (sibI i) [])) = (upT h l).getD (i / 2) [] := by
      rw [upT_get _ _ _ (by omega), nodeT, stepT, sibI]
      split
      · rw [show 2 * (i / 2) = i by omega]
      · rw [show 2 * (i / 2) = i - 1 by omega, show i - 1 + 1 = i by omega]
    rw [pathF, climbF, rootF, e]
    exact climb_path f (h + 1) (i / 2) (upT h l) hu (by omega)
/-- Do two ways have, on one level, different frames whose hashes begin with the same bytes? -/
def crashF : Nat → List Int → List Int → Nat → List (List Int) → List (List Int) → Bool
  | _, _, _, _, [], _ => false
  | _, _, _, _, _ :: _, [] => false
  | h, x, y, i, a :: p, b :: q =>
    (!decide (frameI 3 (stepT h i x a) = frameI 3 (stepT h i y b)) && decide (hash16 3 (stepT h i x a) = hash16 3 (stepT h i y b))) || crashF (h + 1) (hash16 3 (stepT h i x a)) (hash16 3 (stepT h i y b)) (i / 2) p q
theorem step_short (h i : Nat) (x y : List Int) (hx : x.length < 4294967296) (hy : y.length < 4294967296) : ∀ f ∈ stepT h i x y, f.length < 4294967296 := by
  intro f hf
  unfold stepT nodeF at hf
  have h2 : ([(h : Int) % 256, ((i / 2 : Nat) : Int) % 256]).length < 4294967296 := by show 2 < 4294967296; omega
  split at hf
  all_goals
    simp only [List.mem_cons, List.not_mem_nil, or_false] at hf
    rcases hf with rfl | rfl | rfl
    all_goals assumption
/-- Different leaves that lead to one root collide on their ways. -/
theorem climb_bind : ∀ (p q : List (List Int)) (h i : Nat) (x y : List Int), p.length = q.length → x ≠ y → x.length < 4294967296 → y.length < 4294967296 → (∀ a ∈ p, a.length < 4294967296) → (∀ b ∈ q, b.length < 4294967296) →
    climbF h x i p = climbF h y i q → crashF h x y i p q = true
  | [], [], h, i, x, y, _, hne, _, _, _, _, he => absurd he hne
  | [], _ :: _, _, _, _, _, hl, _, _, _, _, _, _ => by simp at hl
  | _ :: _, [], _, _, _, _, hl, _, _, _, _, _, _ => by simp at hl
  | a :: p, b :: q, h, i, x, y, hl, hne, hx, hy, hp, hq, he => by
    rw [climbF, climbF] at he
    rw [crashF, Bool.or_eq_true]
    by_cases hs : hash16 3 (stepT h i x a) = hash16 3 (stepT h i y b)
    · left
      have ha := hp a (by simp)
      have hb := hq b (by simp)
      have hf : frameI 3 (stepT h i x a) ≠ frameI 3 (stepT h i y b) := by
        intro e
        have := frameI_inj 3 _ _ (step_short h i x a hx ha) (step_short h i y b hy hb) e
        unfold stepT nodeF at this
        split at this
        · exact hne (by simpa using (List.cons.inj (List.cons.inj this).2).1)
        · exact hne (List.cons.inj (List.cons.inj (List.cons.inj this).2).2).1
      simp [hf, hs]
    · right
      exact climb_bind p q (h + 1) (i / 2) _ _ (by simpa using hl) hs (by rw [hash16_length]; omega) (by rw [hash16_length]; omega) (fun c hc => hp c (by simp [hc])) (fun c hc => hq c (by simp [hc])) he
end Go.Proofs.YtkcbbgmilaafeaaDoor
