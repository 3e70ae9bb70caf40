/-
  Several numbers and blobs, written one behind the other (lists).
-/
import Derived.Test.YtcidfnblfelgkaaTrip
namespace Go.Proofs.Ytcidfnblfelgkaa
open Go.RowKit

theorem i64_and_le (a : Int) (M : Nat) (hM : M < 9223372036854775808) : 0 ≤ bits .and .i64 a (M : Int) ∧ bits .and .i64 a (M : Int) ≤ M := by
  have hm : (BitVec.ofInt 64 (M : Int)).toNat = M := by
    rw [BitVec.ofInt_natCast, BitVec.toNat_ofNat]; exact Nat.mod_eq_of_lt (by omega)
  have e : bits .and .i64 a (M : Int) = IntKind.i64.wrap ((BitVec.ofInt 64 a &&& BitVec.ofInt 64 (M : Int)).toNat : Int) := rfl
  have hle : (BitVec.ofInt 64 a &&& BitVec.ofInt 64 (M : Int)).toNat ≤ M := by
    rw [BitVec.toNat_and, hm]; exact Nat.and_le_right
  rw [e, IntKind.wrap_i64]
  omega

/-- A size and a number that fits into it. -/
def Fit (p : Nat × Int) : Prop := 1 ≤ p.1 ∧ p.1 ≤ 8 ∧ 0 ≤ p.2 ∧ p.2 < 256 ^ p.1 ∧ p.2 < 9223372036854775808
def encN (L : List (Nat × Int)) : List Int := (L.map fun p => beI p.1 p.2).flatten
def wantN (L : List (Nat × Int)) : List Int := (L.map fun p => [(p.1 : Int), p.2]).flatten
def encB (fs : List (List Int)) : List Int := (fs.map fun x => beI 2 (x.length : Int) ++ x).flatten
theorem encN_snoc (L : List (Nat × Int)) (p : Nat × Int) : encN (L ++ [p]) = encN L ++ beI p.1 p.2 := by simp [encN]
theorem wantN_snoc (L : List (Nat × Int)) (p : Nat × Int) : wantN (L ++ [p]) = wantN L ++ [(p.1 : Int), p.2] := by simp [wantN]
theorem encB_snoc (fs : List (List Int)) (x : List Int) : encB (fs ++ [x]) = encB fs ++ (beI 2 (x.length : Int) ++ x) := by simp [encB]
theorem encN_append (L M : List (Nat × Int)) : encN (L ++ M) = encN L ++ encN M := by simp [encN]
theorem encB_append (L M : List (List Int)) : encB (L ++ M) = encB L ++ encB M := by simp [encB]
theorem wantN_length (L : List (Nat × Int)) : (wantN L).length = 2 * L.length := by
  induction L with
  | nil => rfl
  | cons p l ih => simp [wantN] at ih ⊢; omega
theorem encN_le (L : List (Nat × Int)) (h : ∀ p ∈ L, Fit p) : (encN L).length ≤ 8 * L.length := by
  induction L with
  | nil => simp [encN]
  | cons p l ih =>
    have h1 := ih (fun q hq => h q (by simp [hq]))
    have h2 := (h p (by simp)).2.1
    simp only [encN, List.map_cons, List.flatten_cons, List.length_append, beI_length, List.length_cons] at h1 ⊢
    omega
theorem encB_le (fs : List (List Int)) (h : ∀ x ∈ fs, x.length ≤ 200) : (encB fs).length ≤ 202 * fs.length := by
  induction fs with
  | nil => simp [encB]
  | cons p l ih =>
    have h1 := ih (fun q hq => h q (by simp [hq]))
    have h2 := h p (by simp)
    simp only [encB, List.map_cons, List.flatten_cons, List.length_append, beI_length, List.length_cons] at h1 ⊢
    omega
theorem inB_be (s : Nat) (n : Int) : InB (beI s n) := by
  intro y hy
  obtain ⟨j, _, rfl⟩ := List.mem_map.1 hy
  omega
theorem inB_encN (L : List (Nat × Int)) : InB (encN L) := by
  intro y hy
  obtain ⟨l, hl, hyl⟩ := List.mem_flatten.1 hy
  obtain ⟨p, _, rfl⟩ := List.mem_map.1 hl
  exact inB_be _ _ y hyl
theorem inB_encB (fs : List (List Int)) (h : ∀ x ∈ fs, InB x) : InB (encB fs) := by
  intro y hy
  obtain ⟨l, hl, hyl⟩ := List.mem_flatten.1 hy
  obtain ⟨x, hx, rfl⟩ := List.mem_map.1 hl
  rcases List.mem_append.1 hyl with h1 | h1
  · exact inB_be _ _ y h1
  · exact h x hx y h1
theorem split_at {α : Type} (L : List α) (k : Nat) (d : α) (h : k < L.length) : L = L.take k ++ (L.getD k d :: L.drop (k + 1)) := by
  have e : L.getD k d = L[k] := by simp [List.getD, h]
  rw [e, ← List.drop_eq_getElem_cons h, List.take_append_drop]
theorem take_snoc' {α : Type} (L : List α) (k : Nat) (d : α) (h : k < L.length) : L.take (k + 1) = L.take k ++ [L.getD k d] := by
  rw [List.take_add_one, List.getElem?_eq_getElem h]; simp [List.getD, h]
theorem wantN_at (L : List (Nat × Int)) (k : Nat) (h : k < L.length) : (wantN L).getD (2 * k) 0 = ((L.getD k (0, 0)).1 : Int) ∧ (wantN L).getD (2 * k + 1) 0 = (L.getD k (0, 0)).2 := by
  have hs := split_at L k (0, 0) h
  have e : wantN L = wantN (L.take k) ++ ([((L.getD k (0, 0)).1 : Int), (L.getD k (0, 0)).2] ++ wantN (L.drop (k + 1))) := by
    conv => lhs; rw [hs]
    simp [wantN]
  have hl : (wantN (L.take k)).length = 2 * k := by rw [wantN_length, List.length_take]; omega
  rw [e]
  constructor
  · rw [List.getD, List.getElem?_append_right (by omega), hl]; simp
  · rw [List.getD, List.getElem?_append_right (by omega), hl, show 2 * k + 1 - 2 * k = 1 by omega]; simp
/-- Number k is read where it was written. -/
theorem num_read (L : List (Nat × Int)) (fs : List (List Int)) (k : Nat) (h : k < L.length) (hf : ∀ p ∈ L, Fit p) :
    uintR (encN L ++ encB fs) (encN (L.take k)).length 0 ((L.getD k (0, 0)).1 : Int) = ((L.getD k (0, 0)).2, (encN (L.take (k + 1))).length, 0) := by
  have hs := split_at L k (0, 0) h
  have hp : Fit (L.getD k (0, 0)) := hf _ (by rw [hs]; simp [List.getD, h])
  obtain ⟨f1, f2, f3, f4, f5⟩ := hp
  have e : encN L ++ encB fs = encN (L.take k) ++ (beI (L.getD k (0, 0)).1 (L.getD k (0, 0)).2 ++ (encN (L.drop (k + 1)) ++ encB fs)) := by
    conv => lhs; rw [hs]
    simp [encN]
  have hl : (encN (L.take (k + 1))).length = (encN (L.take k)).length + (L.getD k (0, 0)).1 := by
    rw [take_snoc' L k (0, 0) h, encN_snoc, List.length_append, beI_length]
  rw [e, hl]
  exact uint_trip _ _ _ _ f1 f2 f3 f4 f5
/-- Blob k is read where it was written. -/
theorem blob_read (L : List (Nat × Int)) (fs : List (List Int)) (k : Nat) (h : k < fs.length) (hf : ∀ x ∈ fs, x.length ≤ 200) :
    blobR (encN L ++ encB fs) (encN L ++ encB (fs.take k)).length 0 200 = (fs.getD k [], (encN L ++ encB (fs.take (k + 1))).length, 0) := by
  have hs := split_at fs k [] h
  have hp : (fs.getD k []).length ≤ 200 := hf _ (by rw [hs]; simp [List.getD, h])
  have e : encN L ++ encB fs = (encN L ++ encB (fs.take k)) ++ (beI 2 ((fs.getD k []).length : Int) ++ (fs.getD k [] ++ encB (fs.drop (k + 1)))) := by
    conv => lhs; rw [hs]
    simp [encB]
  have hl : (encN L ++ encB (fs.take (k + 1))).length = (encN L ++ encB (fs.take k)).length + 2 + (fs.getD k []).length := by
    rw [take_snoc' fs k [] h, encB_snoc]
    simp only [List.length_append, beI_length]
    omega
  rw [e, hl]
  exact blob_trip _ _ _ 200 (by omega) (by omega)
end Go.Proofs.Ytcidfnblfelgkaa
