/-
  Reading and writing byte forms as Lean functions on lists of integers, written after chapter 3 of the document.
-/
import Derived.Test.YtcmbnldeojlhbaaDoorRow
import Derived.Laws.BitsLemmas
import Derived.Laws.Bits64
namespace Go.Proofs.YtcmbnldeojlhbaaDoor
open Go.RowKit

/-- The number that bytes spell, the most significant one first. -/
def numI (xs : List Int) : Int := xs.foldl (fun a x => a * 256 + x) 0
theorem numI_snoc (xs : List Int) (x : Int) : numI (xs ++ [x]) = numI xs * 256 + x := by simp [numI]
theorem numG_bound : ∀ (xs : List Int) (a : Int), InB xs → 0 ≤ a → 0 ≤ xs.foldl (fun a x => a * 256 + x) a ∧ xs.foldl (fun a x => a * 256 + x) a < (a + 1) * 256 ^ xs.length
  | [], a, _, ha => by simp; omega
  | x :: xs, a, h, ha => by
    have hx := h x (by simp)
    have h1 := numG_bound xs (a * 256 + x) (fun y hy => h y (by simp [hy])) (by omega)
    refine ⟨h1.1, Int.lt_of_lt_of_le h1.2 ?_⟩
    have hp : (0 : Int) ≤ 256 ^ xs.length := Int.pow_nonneg (by omega)
    have h2 : (a * 256 + x + 1) * 256 ^ xs.length ≤ ((a + 1) * 256) * 256 ^ xs.length := Int.mul_le_mul_of_nonneg_right (by omega) hp
    rw [List.length_cons, Int.pow_succ, Int.mul_comm (256 ^ xs.length) 256, ← Int.mul_assoc]
    exact h2
theorem numI_bound (xs : List Int) (h : InB xs) : 0 ≤ numI xs ∧ numI xs < 256 ^ xs.length := by
  have := numG_bound xs 0 h (by omega)
  simpa [numI] using this

/-- The size lowest bytes of a number. -/
def beI (size : Nat) (n : Int) : List Int := (List.range size).map fun j => n % 18446744073709551616 / 2 ^ (8 * (size - 1 - j)) % 256
def uintB (b : List Int) (size n : Int) : List Int := if size < 1 ∨ 8 < size then b else b ++ beI size.toNat n
def blobB (b x : List Int) : List Int := uintB b 2 ((x.take 65535).length : Nat) ++ x.take 65535
theorem beI_length (size : Nat) (n : Int) : (beI size n).length = size := by simp [beI]

/-- The error of a Reader when n bytes are wanted: len bytes, p of them read. -/
def needE (len p : Nat) (err n : Int) : Int := if err = 0 ∧ (len : Int) - p < n then 2 else err
/-- A read: its result, how many bytes have been read then, the error then. -/
def uintR (xs : List Int) (p : Nat) (err size : Int) : Int × Nat × Int :=
  if err ≠ 0 then (0, p, err) else if size < 1 ∨ 8 < size then (0, p, 1) else if (xs.length : Int) - p < size then (0, p, 2)
  else if 9223372036854775808 ≤ numI ((xs.drop p).take size.toNat) then (0, p, 4) else (numI ((xs.drop p).take size.toNat), p + size.toNat, 0)
def rawR (xs : List Int) (p : Nat) (err n : Int) : List Int × Nat × Int :=
  if err ≠ 0 then ([], p, err) else if n < 0 then ([], p, 1) else if (xs.length : Int) - p < n then ([], p, 2) else ((xs.drop p).take n.toNat, p + n.toNat, 0)
def blobR (xs : List Int) (p : Nat) (err most : Int) : List Int × Nat × Int :=
  if err ≠ 0 then ([], p, err) else if (xs.length : Int) - p < 2 then ([], p, 2) else
  if most < numI ((xs.drop p).take 2) then ([], p, 4) else if (xs.length : Int) - p < 2 + numI ((xs.drop p).take 2) then ([], p, 2)
  else ((xs.drop (p + 2)).take (numI ((xs.drop p).take 2)).toNat, p + 2 + (numI ((xs.drop p).take 2)).toNat, 0)
def leftR (xs : List Int) (p : Nat) : Int := (xs.length : Int) - p
def endR (xs : List Int) (p : Nat) (err : Int) : Int := if err = 0 ∧ 0 < leftR xs p then 3 else err

theorem num_take (xs : List Int) (k : Nat) (h : k < xs.length) : numI (xs.take (k + 1)) = numI (xs.take k) * 256 + xs.getD k 0 := by
  have e : xs.take (k + 1) = xs.take k ++ [xs.getD k 0] := by rw [List.take_add_one, List.getElem?_eq_getElem h]; simp [List.getD, h]
  rw [e, numI_snoc]
theorem getD_drop0 (xs : List Int) (p j : Nat) : (xs.drop p).getD j 0 = xs.getD (p + j) 0 := by simp [List.getD]
theorem inB_getD {xs : List Int} (h : InB xs) (j : Nat) (hj : j < xs.length) : 0 ≤ xs.getD j 0 ∧ xs.getD j 0 < 256 := by
  refine h _ ?_
  have : xs[j]? = some (xs.getD j 0) := by rw [List.getElem?_eq_getElem hj]; simp [List.getD, hj]
  exact List.mem_of_getElem? this
theorem num2 (xs : List Int) (p : Nat) (h : p + 2 ≤ xs.length) : numI ((xs.drop p).take 2) = xs.getD p 0 * 256 + xs.getD (p + 1) 0 := by
  rw [num_take (xs.drop p) 1 (by rw [List.length_drop]; omega), num_take (xs.drop p) 0 (by rw [List.length_drop]; omega), List.take_zero, getD_drop0, getD_drop0]
  simp [numI]

theorem join8 (N x : Int) (h0 : 0 ≤ N) (h1 : N < 72057594037927936) (hx0 : 0 ≤ x) (hx1 : x < 256) : bits .or .u64 (IntKind.u64.wrap (N * 256)) x = N * 256 + x := by
  have e : IntKind.u64.wrap (N * 256) = N * 256 := by rw [IntKind.wrap_u64]; omega
  rw [e]
  exact bits_join .u64 64 (by decide) (fun n h0 h1 => by rw [IntKind.wrap_u64]; omega) 8 (N * 256) x (by omega) (by omega) (by omega) hx0 (by omega) (by omega)
theorem num_small {D : List Int} (hD : InB D) (k : Nat) (hk : k ≤ 7) : 0 ≤ numI (D.take k) ∧ numI (D.take k) < 72057594037927936 := by
  have h := numI_bound (D.take k) (hD.take k)
  refine ⟨h.1, Int.lt_of_lt_of_le h.2 ?_⟩
  have h2 : (D.take k).length ≤ 7 := by rw [List.length_take]; omega
  generalize (D.take k).length = L at h2
  rcases (by omega : L = 0 ∨ L = 1 ∨ L = 2 ∨ L = 3 ∨ L = 4 ∨ L = 5 ∨ L = 6 ∨ L = 7) with rfl | rfl | rfl | rfl | rfl | rfl | rfl | rfl <;> decide

theorem join8i (N x : Int) (h0 : 0 ≤ N) (h1 : N < 256) (hx0 : 0 ≤ x) (hx1 : x < 256) : bits .or .i64 (N * 256) x = N * 256 + x :=
  bits_join .i64 62 (by decide) (fun n h0 h1 => by rw [IntKind.wrap_i64]; omega) 8 (N * 256) x (by omega) (by omega) (by omega) hx0 (by omega) (by omega)
end Go.Proofs.YtcmbnldeojlhbaaDoor
