/-
  Lists of byte strings in memory.
-/
import Derived.Test.YtkcbbgmilaafeaaDoorRow
namespace Go.Proofs.YtkcbbgmilaafeaaDoor
open Go.RowKit

/-- A slice of slices of bytes that reads as a list of lists. -/
def Fields (w : World) (B : Nat) (A : Option Addr) (n : Nat) (fs : List (List Int)) : Prop :=
  fs.length = n ∧ (0 < n → ∃ b off, A = some ⟨b, off, none⟩ ∧ b < B ∧ ∀ j, j < n → ∃ A' n' c', w.cell? ⟨b, off + j, none⟩ = some (.slice A' n' c') ∧ Seg w B .u8 A' n' (fs.getD j []) ∧ n' ≤ c' ∧ c' ≤ maxLen)
theorem Fields.below {w w' : World} {B B' : Nat} {A : Option Addr} {n : Nat} {fs : List (List Int)} (h : Fields w B A n fs) (hb : Below B' w w') (hB : B ≤ B') : Fields w' B A n fs :=
  ⟨h.1, fun hn => by
    obtain ⟨b, off, e, hlt, hc⟩ := h.2 hn
    refine ⟨b, off, e, hlt, fun j hj => ?_⟩
    obtain ⟨A', n', c', h1, h2, h3, h4⟩ := hc j hj
    exact ⟨A', n', c', (hb.cell (p := ⟨b, off + j, none⟩) (by show b < B'; omega)).trans h1, h2.below hb hB, h3, h4⟩⟩
theorem Fields.more {w : World} {B B' : Nat} {A : Option Addr} {n : Nat} {fs : List (List Int)} (h : Fields w B A n fs) (hB : B ≤ B') : Fields w B' A n fs :=
  ⟨h.1, fun hn => by
    obtain ⟨b, off, e, hlt, hc⟩ := h.2 hn
    refine ⟨b, off, e, by omega, fun j hj => ?_⟩
    obtain ⟨A', n', c', h1, h2, h3, h4⟩ := hc j hj
    exact ⟨A', n', c', h1, h2.more hB, h3, h4⟩⟩

/-- How many bytes the first fields hold. -/
def tot (fs : List (List Int)) : Nat := (fs.map List.length).sum
theorem tot_take (fs : List (List Int)) (k : Nat) (h : k < fs.length) : tot (fs.take (k + 1)) = tot (fs.take k) + (fs.getD k []).length := by
  have : fs.take (k + 1) = fs.take k ++ [fs.getD k []] := by rw [List.take_add_one, List.getElem?_eq_getElem h]; simp [List.getD, h]
  rw [this]
  simp [tot]
theorem tot_take_le (fs : List (List Int)) (k : Nat) : tot (fs.take k) ≤ tot fs := by
  have h : tot fs = tot (fs.take k) + tot (fs.drop k) := by
    have e : tot (fs.take k ++ fs.drop k) = tot (fs.take k) + tot (fs.drop k) := by simp only [tot, List.map_append, List.sum_append]
    rw [List.take_append_drop] at e
    exact e
  omega
theorem tot_get_le (fs : List (List Int)) (k : Nat) (h : k < fs.length) : (fs.getD k []).length ≤ tot fs := by
  have h1 := tot_take fs k h
  have h2 := tot_take_le fs (k + 1)
  omega
/-- A list of two fields that the call itself has laid. -/
theorem fields2 (W : World) (g : Nat) (A1 A2 : Option Addr) (n1 c1 n2 c2 : Nat) (xs ys : List Int) (hc0 : W.cell? ⟨g, 0, none⟩ = some (.slice A1 n1 c1)) (hc1 : W.cell? ⟨g, 1, none⟩ = some (.slice A2 n2 c2))
    (h1 : Seg W W.heap.size .u8 A1 n1 xs) (h2 : Seg W W.heap.size .u8 A2 n2 ys) (b1 : n1 ≤ c1) (m1 : c1 ≤ maxLen) (b2 : n2 ≤ c2) (m2 : c2 ≤ maxLen) : Fields W W.heap.size (some ⟨g, 0, none⟩) 2 [xs, ys] :=
  ⟨rfl, fun _ => ⟨g, 0, rfl, block_lt_of_cell hc0, fun j hj => by
    rcases (by omega : j = 0 ∨ j = 1) with rfl | rfl
    · exact ⟨A1, n1, c1, hc0, h1, b1, m1⟩
    · exact ⟨A2, n2, c2, hc1, h2, b2, m2⟩⟩⟩
theorem fields1 (W : World) (g : Nat) (A1 : Option Addr) (n1 c1 : Nat) (xs : List Int) (hc0 : W.cell? ⟨g, 0, none⟩ = some (.slice A1 n1 c1))
    (h1 : Seg W W.heap.size .u8 A1 n1 xs) (b1 : n1 ≤ c1) (m1 : c1 ≤ maxLen) : Fields W W.heap.size (some ⟨g, 0, none⟩) 1 [xs] :=
  ⟨rfl, fun _ => ⟨g, 0, rfl, block_lt_of_cell hc0, fun j hj => by
    obtain rfl : j = 0 := by omega
    exact ⟨A1, n1, c1, hc0, h1, b1, m1⟩⟩⟩
/-- A list of three fields that the call itself has laid. -/
theorem fields3 (W : World) (g : Nat) (A1 A2 A3 : Option Addr) (n1 c1 n2 c2 n3 c3 : Nat) (xs ys zs : List Int) (hc0 : W.cell? ⟨g, 0, none⟩ = some (.slice A1 n1 c1)) (hc1 : W.cell? ⟨g, 1, none⟩ = some (.slice A2 n2 c2)) (hc2 : W.cell? ⟨g, 2, none⟩ = some (.slice A3 n3 c3))
    (h1 : Seg W W.heap.size .u8 A1 n1 xs) (h2 : Seg W W.heap.size .u8 A2 n2 ys) (h3 : Seg W W.heap.size .u8 A3 n3 zs) (b1 : n1 ≤ c1) (m1 : c1 ≤ maxLen) (b2 : n2 ≤ c2) (m2 : c2 ≤ maxLen) (b3 : n3 ≤ c3) (m3 : c3 ≤ maxLen) : Fields W W.heap.size (some ⟨g, 0, none⟩) 3 [xs, ys, zs] :=
  ⟨rfl, fun _ => ⟨g, 0, rfl, block_lt_of_cell hc0, fun j hj => by
    rcases (by omega : j = 0 ∨ j = 1 ∨ j = 2) with rfl | rfl | rfl
    · exact ⟨A1, n1, c1, hc0, h1, b1, m1⟩
    · exact ⟨A2, n2, c2, hc1, h2, b2, m2⟩
    · exact ⟨A3, n3, c3, hc2, h3, b3, m3⟩⟩⟩
end Go.Proofs.YtkcbbgmilaafeaaDoor
