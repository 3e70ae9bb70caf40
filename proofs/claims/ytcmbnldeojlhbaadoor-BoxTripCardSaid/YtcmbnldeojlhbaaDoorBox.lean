/-
  Authenticated encryption as Lean functions on lists of integers, written after chapter 4 of the document.
-/
import Derived.Test.YtcmbnldeojlhbaaDoorDer
import Derived.Test.YtcmbnldeojlhbaaDoorRd
import Derived.Test.YtcmbnldeojlhbaaDoorSame
namespace Go.Proofs.YtcmbnldeojlhbaaDoor
open Go.RowKit

/-- The labels "encrypt" and "authenticate". -/
def labelE : ByteArray := { data := #[101, 110, 99, 114, 121, 112, 116] }
def labelA : ByteArray := { data := #[97, 117, 116, 104, 101, 110, 116, 105, 99, 97, 116, 101] }
def xorL (b k : List Int) : List Int := List.zipWith (fun x y => bits .xor .u8 x y) b k
def streamI (key nonce b : List Int) : List Int := xorL b (deriveI key (strI labelE) nonce b.length)
def tagI (key nonce ad c : List Int) : List Int := macI (deriveI key (strI labelA) nonce 32) (frameI 0 [ad, nonce, c])
def sealI (key nonce ad plain : List Int) : List Int :=
  if 64 < nonce.length ∨ 1024 < plain.length then [] else blobB (blobB [] nonce) (streamI key nonce plain) ++ tagI key nonce ad (streamI key nonce plain)
/-- What reading a box yields: the nonce, the ciphertext, the code, the error. -/
def partsB (b : List Int) : List Int × List Int × List Int × Int :=
  ((blobR b 0 0 64).1, (blobR b (blobR b 0 0 64).2.1 (blobR b 0 0 64).2.2 1024).1,
   (rawR b (blobR b (blobR b 0 0 64).2.1 (blobR b 0 0 64).2.2 1024).2.1 (blobR b (blobR b 0 0 64).2.1 (blobR b 0 0 64).2.2 1024).2.2 32).1,
   endR b (rawR b (blobR b (blobR b 0 0 64).2.1 (blobR b 0 0 64).2.2 1024).2.1 (blobR b (blobR b 0 0 64).2.1 (blobR b 0 0 64).2.2 1024).2.2 32).2.1
     (rawR b (blobR b (blobR b 0 0 64).2.1 (blobR b 0 0 64).2.2 1024).2.1 (blobR b (blobR b 0 0 64).2.1 (blobR b 0 0 64).2.2 1024).2.2 32).2.2)
def openBox (key ad : List Int) (x : List Int × List Int × List Int × Int) : List Int × Int :=
  if x.2.2.2 ≠ 0 then ([], x.2.2.2) else if sameB x.2.2.1 (tagI key x.1 ad x.2.1) = false then ([], 18) else (streamI key x.1 x.2.1, 0)
def openI (key ad b : List Int) : List Int × Int := openBox key ad (partsB b)

theorem deriveI_len (key label ctx : List Int) (n : Nat) (h : n ≤ 1024) : (deriveI key label ctx n).length = n := by
  have := deriveI_length key label ctx n
  split at this <;> omega
theorem streamI_length (key nonce b : List Int) (h : b.length ≤ 1024) : (streamI key nonce b).length = b.length := by
  rw [streamI, xorL, List.length_zipWith, deriveI_len _ _ _ _ h, Nat.min_self]
theorem tagI_length (key nonce ad c : List Int) : (tagI key nonce ad c).length = 32 := macI_length _ _
theorem xorL_get (b k : List Int) (j : Nat) (hb : j < b.length) (hk : j < k.length) : (xorL b k).getD j 0 = bits .xor .u8 (b.getD j 0) (k.getD j 0) := by
  rw [xorL, List.getD_eq_getElem?_getD, List.getD_eq_getElem?_getD, List.getD_eq_getElem?_getD, List.getElem?_zipWith, List.getElem?_eq_getElem hb, List.getElem?_eq_getElem hk]
  rfl

/-- The first k bytes of L, the others still zero. -/
def fillZ (L : List Int) (n k : Nat) : List Int := L.take k ++ List.replicate (n - k) 0
theorem fillZ_zero (L : List Int) (n : Nat) : fillZ L n 0 = List.replicate n 0 := by simp [fillZ]
theorem fillZ_full (L : List Int) (n : Nat) (h : L.length = n) : fillZ L n n = L := by
  rw [fillZ, List.take_of_length_le (by omega)]; simp
theorem fillZ_length (L : List Int) (n k : Nat) (h : L.length = n) (hk : k ≤ n) : (fillZ L n k).length = n := by
  simp [fillZ]; omega
theorem fillZ_next (L : List Int) (n k : Nat) (h : L.length = n) (hk : k < n) : (fillZ L n k).set k (L.getD k 0) = fillZ L n (k + 1) := by
  have e : L.take (k + 1) = L.take k ++ [L.getD k 0] := by rw [List.take_add_one, List.getElem?_eq_getElem (by omega)]; simp [List.getD, h, hk]
  have hr : n - k = (n - (k + 1)) + 1 := by omega
  have hl : (L.take k).length = k := by simp; omega
  rw [fillZ, fillZ, e, hr, List.replicate_succ, List.set_append_right _ _ (by omega), hl, Nat.sub_self]
  simp
end Go.Proofs.YtcmbnldeojlhbaaDoor
