/-
  What was written is read as it was: numbers and blobs.
-/
import Derived.Test.YtcmbnldeojlhbaaDoorRd
namespace Go.Proofs.YtcmbnldeojlhbaaDoor
open Go.RowKit

theorem be_next (size k : Nat) (n : Int) (h : k < size) : (beI size n).take (k + 1) = (beI size n).take k ++ [n % 18446744073709551616 / 2 ^ (8 * (size - 1 - k)) % 256] := by
  rw [List.take_add_one, beI, List.getElem?_map, List.getElem?_range h]
  rfl
theorem num_be_take (s : Nat) (n : Int) (h0 : 0 ≤ n) (h1 : n < 18446744073709551616) (h2 : n < 256 ^ s) (k : Nat) (hk : k ≤ s) : numI ((beI s n).take k) = n / 256 ^ (s - k) := by
  induction k with
  | zero =>
    rw [List.take_zero, Nat.sub_zero, Int.ediv_eq_zero_of_lt h0 h2]
    rfl
  | succ k ih =>
    have hp : (2 : Int) ^ (8 * (s - 1 - k)) = 256 ^ (s - 1 - k) := by rw [Int.pow_mul]; rfl
    have hd : n / 256 ^ (s - k) = n / 256 ^ (s - 1 - k) / 256 := by
      rw [show s - k = (s - 1 - k) + 1 by omega, Int.pow_succ, Int.ediv_ediv_of_nonneg (Int.pow_nonneg (by omega))]
    rw [be_next s k n (by omega), numI_snoc, ih (by omega), hd, hp, show n % 18446744073709551616 = n by omega, show s - (k + 1) = s - 1 - k by omega]
    omega
theorem num_be (s : Nat) (n : Int) (h0 : 0 ≤ n) (h1 : n < 18446744073709551616) (h2 : n < 256 ^ s) : numI (beI s n) = n := by
  have h := num_be_take s n h0 h1 h2 s (Nat.le_refl _)
  rw [List.take_of_length_le (by rw [beI_length]; omega), Nat.sub_self, Int.pow_zero, Int.ediv_one] at h
  exact h
theorem drop_pre (pre x : List Int) : (pre ++ x).drop pre.length = x := by simp
/-- A number that was written behind pre is read there. -/
theorem uint_trip (pre rest : List Int) (s : Nat) (n : Int) (hs1 : 1 ≤ s) (hs8 : s ≤ 8) (h0 : 0 ≤ n) (h1 : n < 256 ^ s) (h2 : n < 9223372036854775808) :
    uintR (pre ++ (beI s n ++ rest)) pre.length 0 s = (n, pre.length + s, 0) := by
  have hl : (pre ++ (beI s n ++ rest)).length = pre.length + s + rest.length := by simp [beI_length]; omega
  have ht : ((pre ++ (beI s n ++ rest)).drop pre.length).take s = beI s n := by
    rw [drop_pre, List.take_append_of_le_length (by rw [beI_length]; omega), List.take_of_length_le (by rw [beI_length]; omega)]
  have hn := num_be s n h0 (by omega) h1
  rw [uintR, if_neg (by omega), if_neg (by omega), hl, if_neg (by omega), Int.toNat_natCast, ht, hn, if_neg (by omega)]
/-- A blob that was written behind pre is read there. -/
theorem blob_trip (pre x rest : List Int) (most : Int) (hx : x.length ≤ 65535) (hm : (x.length : Int) ≤ most) :
    blobR (pre ++ (beI 2 (x.length : Int) ++ (x ++ rest))) pre.length 0 most = (x, pre.length + 2 + x.length, 0) := by
  have hl : (pre ++ (beI 2 (x.length : Int) ++ (x ++ rest))).length = pre.length + 2 + x.length + rest.length := by simp [beI_length]; omega
  have ht : ((pre ++ (beI 2 (x.length : Int) ++ (x ++ rest))).drop pre.length).take 2 = beI 2 (x.length : Int) := by
    rw [drop_pre, List.take_append_of_le_length (by rw [beI_length]; omega), List.take_of_length_le (by rw [beI_length]; omega)]
  have hn : numI (beI 2 (x.length : Int)) = x.length := num_be 2 _ (by omega) (by omega) (by omega)
  have hd : (pre ++ (beI 2 (x.length : Int) ++ (x ++ rest))).drop (pre.length + 2) = x ++ rest := by
    rw [← List.append_assoc, List.drop_append, List.drop_of_length_le (by simp [beI_length])]
    simp [beI_length]
  rw [blobR, if_neg (by omega), hl, if_neg (by omega), ht, hn, if_neg (by omega), if_neg (by omega), hd, Int.toNat_natCast]
  simp
theorem blobB_short (b x : List Int) (h : x.length ≤ 65535) : blobB b x = b ++ (beI 2 (x.length : Int) ++ x) := by
  rw [blobB, List.take_of_length_le h, uintB, if_neg (by omega), show (2 : Int).toNat = 2 from rfl, List.append_assoc]
theorem uintB_in (b : List Int) (s : Nat) (n : Int) (h1 : 1 ≤ s) (h8 : s ≤ 8) : uintB b s n = b ++ beI s n := by
  rw [uintB, if_neg (by omega), Int.toNat_natCast]
end Go.Proofs.YtcmbnldeojlhbaaDoor
