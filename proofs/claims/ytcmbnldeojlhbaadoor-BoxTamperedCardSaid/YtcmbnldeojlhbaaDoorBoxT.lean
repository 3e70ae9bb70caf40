/-
  A box in which one byte of the nonce or the ciphertext was changed (lists).
-/
import Derived.Test.YtcmbnldeojlhbaaDoorBoxL
namespace Go.Proofs.YtcmbnldeojlhbaaDoor
open Go.RowKit

/-- The bytes of a nonce, a ciphertext and a code. -/
def boxB (nonce c tag : List Int) : List Int := beI 2 (nonce.length : Int) ++ (nonce ++ (beI 2 (c.length : Int) ++ (c ++ tag)))
theorem boxB_eq (nonce c tag : List Int) (h1 : nonce.length ≤ 64) (h2 : c.length ≤ 1024) : blobB (blobB [] nonce) c ++ tag = boxB nonce c tag := by
  rw [blobB_short _ _ (by omega), blobB_short _ _ (by omega), boxB]
  simp
theorem seal_box (key nonce ad plain : List Int) (h1 : nonce.length ≤ 64) (h2 : plain.length ≤ 1024) :
    sealI key nonce ad plain = boxB nonce (streamI key nonce plain) (tagI key nonce ad (streamI key nonce plain)) := by
  rw [sealI, if_neg (by omega), boxB_eq _ _ _ h1 (by rw [streamI_length _ _ _ h2]; omega)]
theorem open_box (key ad nonce c tag : List Int) (h1 : nonce.length ≤ 64) (h2 : c.length ≤ 1024) (ht : tag.length = 32) : openI key ad (boxB nonce c tag) = openBox key ad (nonce, c, tag, 0) := by
  rw [openI, ← boxB_eq _ _ _ h1 h2, parts_trip _ _ _ h1 h2 ht]
theorem boxB_length (nonce c tag : List Int) : (boxB nonce c tag).length = 4 + nonce.length + c.length + tag.length := by
  simp only [boxB, List.length_append, beI_length]; omega
theorem box_end (nonce c tag : List Int) : (boxB nonce c tag).drop (4 + nonce.length + c.length) = tag := by
  have e : boxB nonce c tag = (beI 2 (nonce.length : Int) ++ nonce ++ beI 2 (c.length : Int) ++ c) ++ tag := by simp [boxB]
  rw [e, List.drop_append, List.drop_of_length_le (by simp [beI_length]; omega)]
  rw [show 4 + nonce.length + c.length - (beI 2 (nonce.length : Int) ++ nonce ++ beI 2 (c.length : Int) ++ c).length = 0 by simp [beI_length]; omega]
  simp
theorem box_mid (nonce c tag : List Int) : ((boxB nonce c tag).drop (4 + nonce.length)).take c.length = c := by
  have e : boxB nonce c tag = (beI 2 (nonce.length : Int) ++ nonce ++ beI 2 (c.length : Int)) ++ (c ++ tag) := by simp [boxB]
  rw [e, List.drop_append, List.drop_of_length_le (by simp [beI_length]; omega)]
  rw [show 4 + nonce.length - (beI 2 (nonce.length : Int) ++ nonce ++ beI 2 (c.length : Int)).length = 0 by simp [beI_length]; omega]
  simp
theorem box_get_nonce (nonce c tag : List Int) (k : Nat) (hk : k < nonce.length) : (boxB nonce c tag).getD (2 + k) 0 = nonce.getD k 0 := by
  rw [boxB, List.getD, List.getElem?_append_right (by rw [beI_length]; omega), beI_length, show 2 + k - 2 = k by omega, List.getElem?_append_left hk]
  rfl
theorem box_set_nonce (nonce c tag : List Int) (k : Nat) (hk : k < nonce.length) (v : Int) : (boxB nonce c tag).set (2 + k) v = boxB (nonce.set k v) c tag := by
  rw [boxB, List.set_append_right _ _ (by rw [beI_length]; omega), beI_length, show 2 + k - 2 = k by omega, List.set_append_left _ _ hk, boxB, List.length_set]
theorem box_get_text (nonce c tag : List Int) (k : Nat) (hk : k < c.length) : (boxB nonce c tag).getD (4 + (nonce.length + k)) 0 = c.getD k 0 := by
  have e : boxB nonce c tag = (beI 2 (nonce.length : Int) ++ nonce ++ beI 2 (c.length : Int)) ++ (c ++ tag) := by simp [boxB]
  have hl : (beI 2 (nonce.length : Int) ++ nonce ++ beI 2 (c.length : Int)).length = 4 + nonce.length := by simp [beI_length]; omega
  rw [e, List.getD, List.getElem?_append_right (by omega), hl, show 4 + (nonce.length + k) - (4 + nonce.length) = k by omega, List.getElem?_append_left hk]
  rfl
theorem box_set_text (nonce c tag : List Int) (k : Nat) (hk : k < c.length) (v : Int) : (boxB nonce c tag).set (4 + (nonce.length + k)) v = boxB nonce (c.set k v) tag := by
  have e : ∀ c' : List Int, c'.length = c.length → boxB nonce c' tag = (beI 2 (nonce.length : Int) ++ nonce ++ beI 2 (c.length : Int)) ++ (c' ++ tag) := fun c' h => by simp [boxB, h]
  have hl : (beI 2 (nonce.length : Int) ++ nonce ++ beI 2 (c.length : Int)).length = 4 + nonce.length := by simp [beI_length]; omega
  rw [e c rfl, e (c.set k v) (by simp), List.set_append_right _ _ (by omega), hl, show 4 + (nonce.length + k) - (4 + nonce.length) = k by omega, List.set_append_left _ _ hk]
/-- Go's remainder, made not negative, is below the divisor. -/
theorem rem_in (a : Int) (N : Nat) (hN : 0 < N) : (0 ≤ a.tmod N ∧ a.tmod N < N) ∨ (a.tmod N < 0 ∧ 0 ≤ a.tmod N + N ∧ a.tmod N + N < N) := by
  rcases Int.le_total 0 a with h | h
  · left
    rw [Int.tmod_eq_emod_of_nonneg h]
    exact ⟨Int.emod_nonneg _ (by omega), Int.emod_lt_of_pos _ (by omega)⟩
  · have e : a.tmod N = -((-a) % (N : Int)) := by
      rw [← Int.tmod_eq_emod_of_nonneg (a := -a) (by omega), Int.neg_tmod, Int.neg_neg]
    have h1 := Int.emod_nonneg (-a) (b := (N : Int)) (by omega)
    have h2 := Int.emod_lt_of_pos (-a) (b := (N : Int)) (by omega)
    rw [e]
    omega
end Go.Proofs.YtcmbnldeojlhbaaDoor
