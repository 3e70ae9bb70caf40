/-
  The parts of an encrypted box (lists).
-/
import Derived.Test.YtcmbnldeojlhbaaDoorBase5
namespace Go.Proofs.YtcmbnldeojlhbaaDoor
open Go.RowKit

theorem seal_eq (key nonce ad plain : List Int) (h1 : nonce.length ≤ 64) (h2 : plain.length ≤ 1024) :
    sealI key nonce ad plain = (beI 2 (nonce.length : Int) ++ nonce ++ beI 2 (plain.length : Int)) ++ (streamI key nonce plain ++ tagI key nonce ad (streamI key nonce plain)) := by
  have hl := streamI_length key nonce plain h2
  rw [sealI, if_neg (by omega), blobB_short _ _ (by rw [hl]; omega), blobB_short _ _ (by omega), hl]
  simp
theorem seal_mid (key nonce ad plain : List Int) (h1 : nonce.length ≤ 64) (h2 : plain.length ≤ 1024) :
    ((sealI key nonce ad plain).drop (4 + nonce.length)).take plain.length = streamI key nonce plain := by
  have hl := streamI_length key nonce plain h2
  rw [seal_eq key nonce ad plain h1 h2, List.drop_append, List.drop_of_length_le (by simp [beI_length]; omega)]
  rw [show 4 + nonce.length - (beI 2 (nonce.length : Int) ++ nonce ++ beI 2 (plain.length : Int)).length = 0 by simp [beI_length]; omega]
  rw [List.drop_zero, List.nil_append, List.take_append_of_le_length (by omega), List.take_of_length_le (by omega)]
theorem seal_end (key nonce ad plain : List Int) (h1 : nonce.length ≤ 64) (h2 : plain.length ≤ 1024) :
    (sealI key nonce ad plain).drop (4 + nonce.length + plain.length) = tagI key nonce ad (streamI key nonce plain) := by
  have hl := streamI_length key nonce plain h2
  rw [seal_eq key nonce ad plain h1 h2, ← List.append_assoc, List.drop_append, List.drop_of_length_le (by simp [beI_length]; omega)]
  rw [show 4 + nonce.length + plain.length - (beI 2 (nonce.length : Int) ++ nonce ++ beI 2 (plain.length : Int) ++ streamI key nonce plain).length = 0 by simp [beI_length]; omega]
  simp
theorem open_parts (other data key nonce ad plain : List Int) (h1 : nonce.length ≤ 64) (h2 : plain.length ≤ 1024) :
    openI other data (sealI key nonce ad plain) = openBox other data (nonce, streamI key nonce plain, tagI key nonce ad (streamI key nonce plain), 0) := by
  rw [openI, sealI, if_neg (by omega), parts_trip _ _ _ h1 (by rw [streamI_length _ _ _ h2]; omega) (tagI_length _ _ _ _)]
theorem sameB_comm (xs ys : List Int) : sameB xs ys = sameB ys xs := by
  simp only [sameB]
  by_cases h : xs = ys
  · rw [h]
  · have h' : ys ≠ xs := fun e => h e.symm
    simp [h, h']
/-- The error of a box that is opened with other keys. -/
theorem open_err (other data nonce c tag : List Int) : (openBox other data (nonce, c, tag, 0)).2 = if sameB (tagI other nonce data c) tag = true then 0 else 18 := by
  have hc := sameB_comm tag (tagI other nonce data c)
  simp only [openBox]
  cases hb : sameB (tagI other nonce data c) tag with
  | true => rw [hb] at hc; simp [hc]
  | false => rw [hb] at hc; simp [hc]
theorem open_got (other data nonce c tag : List Int) (h : sameB (tagI other nonce data c) tag = false) : (openBox other data (nonce, c, tag, 0)).1 = [] := by
  have hc := sameB_comm tag (tagI other nonce data c)
  rw [h] at hc
  simp [openBox, hc]
end Go.Proofs.YtcmbnldeojlhbaaDoor
