/-
  What the statements of layer 6 make of lists: short lists, leaves that fit; a leaf leads to the root; other leaves collide.
-/
import Derived.Test.YtkcbbgmilaafeaaDoorTree
import Derived.Test.YtkcbbgmilaafeaaDoorFld
namespace Go.Proofs.YtkcbbgmilaafeaaDoor
open Go.RowKit

/-- The leaves of a tree: the given ones, and others. -/
def fitTo (l : List (List Int)) (k : Nat) : List (List Int) := (List.range k).map fun i => if i < l.length then l.getD i [] else [(i : Int) % 256]
theorem fitTo_next (l : List (List Int)) (k : Nat) : fitTo l (k + 1) = fitTo l k ++ [if k < l.length then l.getD k [] else [(k : Int) % 256]] := by simp [fitTo, List.range_succ]
theorem fitTo_length (l : List (List Int)) (k : Nat) : (fitTo l k).length = k := by simp [fitTo]
theorem fitTo_short (l : List (List Int)) (k : Nat) (h : ∀ x ∈ l, x.length ≤ 60) : ∀ x ∈ fitTo l k, x.length ≤ 60 := by
  intro x hx
  obtain ⟨i, _, rfl⟩ := List.mem_map.1 hx
  split
  · rename_i hi
    rw [List.getD_eq_getElem?_getD, List.getElem?_eq_getElem hi]
    exact h _ (List.getElem_mem hi)
  · simp
def fewT (l : List (List Int)) : Bool := decide (l.length < 20 ∧ ∀ x ∈ l, x.length ≤ 60)
theorem tot_short (m : Nat) : ∀ (l : List (List Int)), (∀ x ∈ l, x.length ≤ m) → tot l ≤ m * l.length
  | [], _ => by simp [tot]
  | x :: l, h => by
    have h1 := tot_short m l (fun y hy => h y (by simp [hy]))
    have h2 := h x (by simp)
    have e : tot (x :: l) = x.length + tot l := by simp [tot]
    rw [e, List.length_cons, Nat.mul_add]
    omega

theorem fitsT_two {f : Nat} (h : f ≤ 3) : fitsT (2 ^ f) = some f := by
  rcases (by omega : f = 0 ∨ f = 1 ∨ f = 2 ∨ f = 3) with rfl | rfl | rfl | rfl <;> rfl
theorem rootI_two {l : List (List Int)} {f : Nat} (hf : f ≤ 3) (hl : l.length = 2 ^ f) : rootI l = rootF f 0 l := by unfold rootI; rw [hl, fitsT_two hf]
theorem pathI_two {l : List (List Int)} {f : Nat} (hf : f ≤ 3) (hl : l.length = 2 ^ f) (i : Nat) (hi : i < 2 ^ f) : pathI i l = pathF f 0 i l := by
  unfold pathI
  rw [hl, fitsT_two hf]
  simp only
  rw [if_neg (by omega), Int.toNat_natCast]
theorem climbI_two {leaf : List Int} {p : List (List Int)} (hp : p.length ≤ 3) (i : Nat) (hi : i < 2 ^ p.length) : climbI leaf i p = climbF 0 leaf i p := by
  unfold climbI
  rw [if_neg (by omega), Int.toNat_natCast]
theorem climb_trip {l : List (List Int)} {f : Nat} (hf : f ≤ 3) (hl : l.length = 2 ^ f) (i : Nat) (hi : i < 2 ^ f) : (pathI i l).length = f ∧ climbI (l.getD i []) i (pathI i l) = rootI l := by
  rw [pathI_two hf hl i hi, rootI_two hf hl]
  have h := pathF_length f 0 i l
  refine ⟨h, ?_⟩
  rw [climbI_two (by rw [h]; exact hf) i (by rw [h]; exact hi)]
  exact climb_path f 0 i l hl hi
theorem rootF_length : ∀ (f h : Nat) (l : List (List Int)), l.length = 2 ^ (f + 1) → (rootF (f + 1) h l).length = 16
  | 0, h, l, hl => by
    rw [rootF, rootF, upT_get _ _ _ (by omega)]
    exact nodeT_length _ _ _ _
  | f + 1, h, l, hl => by
    rw [rootF]
    refine rootF_length f (h + 1) (upT h l) ?_
    rw [upT_length, hl]
    have : 2 ^ (f + 1 + 1) = 2 * 2 ^ (f + 1) := by rw [Nat.pow_succ]; omega
    omega
/-- An element of a list for which all elements are short. -/
theorem get_short {l : List (List Int)} {m : Nat} (h : ∀ x ∈ l, x.length ≤ m) (i : Nat) : (l.getD i []).length ≤ m := by
  rw [List.getD_eq_getElem?_getD]
  rcases hx : l[i]? with _ | x
  · simp
  · exact h x (List.mem_of_getElem? hx)
theorem upTo_short (h : Nat) (l : List (List Int)) (k m : Nat) (hm : 16 ≤ m) : ∀ x ∈ upTo h l k, x.length ≤ m := by
  intro x hx
  obtain ⟨i, _, rfl⟩ := List.mem_map.1 hx
  rw [nodeT_length]
  exact hm
theorem pathF_short (m : Nat) (hm : 16 ≤ m) : ∀ (f h i : Nat) (l : List (List Int)), (∀ x ∈ l, x.length ≤ m) → ∀ x ∈ pathF f h i l, x.length ≤ m
  | 0, _, _, _, _ => by intro x hx; cases hx
  | f + 1, h, i, l, hl => by
    intro x hx
    rw [pathF, List.mem_cons] at hx
    rcases hx with rfl | hx
    · exact get_short hl _
    · exact pathF_short m hm f (h + 1) (i / 2) (upT h l) (upTo_short _ _ _ _ hm) x hx
theorem pathI_short (m : Nat) (hm : 16 ≤ m) (i : Int) (l : List (List Int)) (hl : ∀ x ∈ l, x.length ≤ m) : ∀ x ∈ pathI i l, x.length ≤ m := by
  unfold pathI
  split
  · intro x hx; cases hx
  · split
    · intro x hx; cases hx
    · exact pathF_short m hm _ _ _ _ hl
theorem climb_crash {a b : List Int} {p q : List (List Int)} (hl : p.length = q.length) (hp3 : p.length ≤ 3) (i : Nat) (hi : i < 2 ^ p.length) (hne : a ≠ b) (ha : a.length ≤ 1048576) (hb : b.length ≤ 1048576) (hp : ∀ x ∈ p, x.length ≤ 1048576) (hq : ∀ x ∈ q, x.length ≤ 1048576)
    (he : climbI a i p = climbI b i q) : crashF 0 a b i p q = true := by
  rw [climbI_two hp3 i hi, climbI_two (by omega) i (by rw [← hl]; exact hi)] at he
  exact climb_bind p q 0 i a b hl hne (by omega) (by omega) (fun x hx => by have := hp x hx; omega) (fun x hx => by have := hq x hx; omega) he
/-- Two elements exchanged. -/
def swapL (l : List (List Int)) (i j : Nat) : List (List Int) := (l.set i (l.getD j [])).set j (l.getD i [])
theorem swapL_length (l : List (List Int)) (i j : Nat) : (swapL l i j).length = l.length := by simp [swapL]
theorem swapL_get (l : List (List Int)) (i j : Nat) (hi : i < l.length) : (swapL l i j).getD i [] = l.getD j [] := by
  unfold swapL
  rw [List.getD_eq_getElem?_getD, List.getElem?_set]
  split
  · rename_i h
    subst h
    simp [hi]
  · rw [List.getElem?_set]
    simp [hi]
theorem swapL_same (l : List (List Int)) (i j : Nat) (hi : i < l.length) (hj : j < l.length) (h : l.getD i [] = l.getD j []) : swapL l i j = l := by
  apply List.ext_getElem?
  intro k
  unfold swapL
  rw [List.getElem?_set, List.getElem?_set]
  have e : ∀ k, k < l.length → l[k]? = some (l.getD k []) := fun k hk => by rw [List.getD_eq_getElem?_getD, List.getElem?_eq_getElem hk]; rfl
  split
  · rename_i h1
    subst h1
    rw [e _ hj, h]
    simp [hj]
  · split
    · rename_i h2
      subst h2
      rw [e _ hi, ← h]
    · rfl
theorem swapL_short {l : List (List Int)} {m : Nat} (h : ∀ x ∈ l, x.length ≤ m) (i j : Nat) : ∀ x ∈ swapL l i j, x.length ≤ m := by
  intro x hx
  unfold swapL at hx
  rcases List.mem_or_eq_of_mem_set hx with h1 | rfl
  · rcases List.mem_or_eq_of_mem_set h1 with h2 | rfl
    · exact h x h2
    · exact get_short h _
  · exact get_short h _
theorem swap_crash {l : List (List Int)} {f : Nat} (hf : f ≤ 3) (hl : l.length = 2 ^ f) (i j : Nat) (hi : i < 2 ^ f) (hj : j < 2 ^ f) (hs : ∀ x ∈ l, x.length ≤ 1048576) (hne : l ≠ swapL l i j) (he : rootI l = rootI (swapL l i j)) :
    crashF 0 (l.getD i []) ((swapL l i j).getD i []) i (pathI i l) (pathI i (swapL l i j)) = true := by
  have hl2 : (swapL l i j).length = 2 ^ f := by rw [swapL_length, hl]
  obtain ⟨h1, h2⟩ := climb_trip hf hl i hi
  obtain ⟨h3, h4⟩ := climb_trip hf hl2 i hi
  refine climb_crash (by rw [h1, h3]) (by omega) i (by rw [h1]; exact hi) ?_ (get_short hs i) (get_short (swapL_short hs i j) i) (pathI_short _ (by omega) _ _ hs) (pathI_short _ (by omega) _ _ (swapL_short hs i j)) (by rw [h2, h4]; exact he)
  intro e
  refine hne (swapL_same l i j (by rw [hl]; exact hi) (by rw [hl]; exact hj) ?_).symm
  rw [e, swapL_get l i j (by rw [hl]; exact hi)]
end Go.Proofs.YtkcbbgmilaafeaaDoor
