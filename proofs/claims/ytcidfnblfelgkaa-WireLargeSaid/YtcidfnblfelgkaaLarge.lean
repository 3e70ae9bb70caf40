/-
  A number of eight bytes is refused where its first byte is 128 or more (lists).
-/
import Derived.Test.YtcidfnblfelgkaaRd
namespace Go.Proofs.Ytcidfnblfelgkaa
open Go.RowKit

/-- A number of eight bytes is too large where its first byte is. -/
theorem large8 (xs : List Int) (hx : InB xs) (h8 : 8 ≤ xs.length) : 9223372036854775808 ≤ numI (xs.take 8) ↔ 128 ≤ xs.getD 0 0 := by
  match xs, h8, hx with
  | a :: b :: c :: d :: e :: f :: g :: h :: r, _, hx =>
    have h0 := hx a (by simp)
    have h1 := hx b (by simp)
    have h2 := hx c (by simp)
    have h3 := hx d (by simp)
    have h4 := hx e (by simp)
    have h5 := hx f (by simp)
    have h6 := hx g (by simp)
    have h7 := hx h (by simp)
    simp only [numI, List.take, List.foldl, List.getD_cons_zero]
    omega
theorem uint8R (xs : List Int) (hx : InB xs) (h8 : 8 ≤ xs.length) : ∃ N e p, uintR xs 0 0 8 = (N, p, e) ∧ 0 ≤ N ∧ ((128 ≤ xs.getD 0 0 ∧ e = 4) ∨ (xs.getD 0 0 < 128 ∧ e = 0)) := by
  have hl := large8 xs hx h8
  have hb := (numI_bound (xs.take 8) (hx.take 8)).1
  unfold uintR
  rw [if_neg (by omega), if_neg (by omega), if_neg (by omega)]
  by_cases h : 128 ≤ xs.getD 0 0
  · have := hl.2 h
    rw [if_pos (by simpa using this)]
    exact ⟨_, _, _, rfl, Int.le_refl _, Or.inl ⟨h, rfl⟩⟩
  · have : ¬ 9223372036854775808 ≤ numI (xs.take 8) := fun k => h (hl.1 k)
    rw [if_neg (by simpa using this)]
    exact ⟨_, _, _, rfl, by simpa using hb, Or.inr ⟨by omega, rfl⟩⟩
end Go.Proofs.Ytcidfnblfelgkaa
