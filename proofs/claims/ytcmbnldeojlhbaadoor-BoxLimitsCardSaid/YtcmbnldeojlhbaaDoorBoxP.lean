/-
  What follows from chapter 4 on lists: a box opens to its plaintext.
-/
import Derived.Test.YtcmbnldeojlhbaaDoorBox
import Derived.Test.YtcmbnldeojlhbaaDoorTrip
namespace Go.Proofs.YtcmbnldeojlhbaaDoor
open Go.RowKit

theorem xor8_nat (a b : Nat) (ha : a < 256) (hb : b < 256) : bits .xor .u8 (a : Int) (b : Int) = ((a ^^^ b : Nat) : Int) := by
  have hx : a ^^^ b < 2 ^ 8 := Nat.xor_lt_two_pow (by omega) (by omega)
  have h1 : (BitVec.ofInt 8 (a : Int)).toNat = a := by
    rw [BitVec.ofInt_natCast, BitVec.toNat_ofNat]; exact Nat.mod_eq_of_lt (by omega)
  have h2 : (BitVec.ofInt 8 (b : Int)).toNat = b := by
    rw [BitVec.ofInt_natCast, BitVec.toNat_ofNat]; exact Nat.mod_eq_of_lt (by omega)
  have hw : ∀ n : Int, IntKind.u8.wrap n = n % 256 := fun n => by simp [IntKind.wrap, IntKind.bits, IntKind.signed]
  show IntKind.u8.wrap ((BitVec.ofInt 8 (a : Int) ^^^ BitVec.ofInt 8 (b : Int)).toNat : Int) = _
  rw [BitVec.toNat_xor, h1, h2, hw]
  omega
theorem xor8_twice (x k : Int) (hx : 0 ≤ x ∧ x < 256) (hk : 0 ≤ k ∧ k < 256) : bits .xor .u8 (bits .xor .u8 x k) k = x := by
  obtain ⟨a, rfl⟩ := Int.eq_ofNat_of_zero_le hx.1
  obtain ⟨b, rfl⟩ := Int.eq_ofNat_of_zero_le hk.1
  have h1 : a ^^^ b < 2 ^ 8 := Nat.xor_lt_two_pow (by omega) (by omega)
  rw [xor8_nat a b (by omega) (by omega), xor8_nat (a ^^^ b) b (by omega) (by omega), Nat.xor_assoc, Nat.xor_self, Nat.xor_zero]
theorem xorL_twice : ∀ (b k : List Int), b.length = k.length → InB b → InB k → xorL (xorL b k) k = b
  | [], [], _, _, _ => rfl
  | [], _ :: _, h, _, _ => by simp at h
  | _ :: _, [], h, _, _ => by simp at h
  | x :: b, y :: k, h, hb, hk => by
    have h1 := xorL_twice b k (by simpa using h) (fun z hz => hb z (by simp [hz])) (fun z hz => hk z (by simp [hz]))
    have h2 := xor8_twice x y (hb x (by simp)) (hk y (by simp))
    simp only [xorL, List.zipWith_cons_cons] at h1 ⊢
    rw [h1, h2]
theorem inB_sha2 (xs : List Int) : InB (sha256 xs) := by
  intro x hx
  simp only [sha256, bytesI, List.mem_flatten, List.mem_map] at hx
  obtain ⟨_, ⟨y, _, rfl⟩, hy⟩ := hx
  simp only [be4, List.mem_cons, List.not_mem_nil, or_false] at hy
  omega
theorem inB_parts (key label ctx : List Int) (n : Int) (j : Nat) : InB (partsI key label ctx n j) := by
  induction j with
  | zero => intro x hx; cases hx
  | succ j ih => exact inB_append ih (inB_sha2 _)
theorem inB_derive (key label ctx : List Int) (n : Int) : InB (deriveI key label ctx n) := by
  unfold deriveI
  split
  · intro x hx; cases hx
  · exact (inB_parts _ _ _ _ _).take _
theorem stream_twice (key nonce b : List Int) (hl : b.length ≤ 1024) (hb : InB b) : streamI key nonce (streamI key nonce b) = b := by
  have h1 := streamI_length key nonce b hl
  have h2 : streamI key nonce (streamI key nonce b) = xorL (xorL b (deriveI key (strI labelE) nonce b.length)) (deriveI key (strI labelE) nonce b.length) := by
    rw [streamI, h1, streamI]
  rw [h2]
  exact xorL_twice _ _ (by rw [deriveI_len _ _ _ _ hl]) hb (inB_derive _ _ _ _)

/-- What is read of two blobs and 32 bytes. -/
theorem parts_trip (nonce c tag : List Int) (hn : nonce.length ≤ 64) (hc : c.length ≤ 1024) (ht : tag.length = 32) : partsB (blobB (blobB [] nonce) c ++ tag) = (nonce, c, tag, 0) := by
  obtain ⟨N, hN⟩ : ∃ N, N = beI 2 (nonce.length : Int) := ⟨_, rfl⟩
  obtain ⟨C, hC⟩ : ∃ C, C = beI 2 (c.length : Int) := ⟨_, rfl⟩
  have hNl : N.length = 2 := by rw [hN, beI_length]
  have hCl : C.length = 2 := by rw [hC, beI_length]
  have e : blobB (blobB [] nonce) c ++ tag = N ++ (nonce ++ (C ++ (c ++ tag))) := by
    rw [blobB_short _ _ (by omega), blobB_short _ _ (by omega), ← hN, ← hC]
    simp
  have h1 : blobR (N ++ (nonce ++ (C ++ (c ++ tag)))) 0 0 64 = (nonce, 2 + nonce.length, 0) := by
    have h := blob_trip [] nonce (C ++ (c ++ tag)) 64 (by omega) (by omega)
    rw [← hN] at h
    simpa using h
  have h2 : blobR (N ++ (nonce ++ (C ++ (c ++ tag)))) (2 + nonce.length) 0 1024 = (c, 2 + nonce.length + 2 + c.length, 0) := by
    have h := blob_trip (N ++ nonce) c tag 1024 (by omega) (by omega)
    rw [← hC, List.length_append, hNl] at h
    simpa using h
  have hd : (N ++ (nonce ++ (C ++ (c ++ tag)))).drop (2 + nonce.length + 2 + c.length) = tag := by
    have e2 : N ++ (nonce ++ (C ++ (c ++ tag))) = (N ++ nonce ++ C ++ c) ++ tag := by simp
    rw [e2, List.drop_append, List.drop_of_length_le (by simp [hNl, hCl]; omega), List.nil_append]
    have : 2 + nonce.length + 2 + c.length - (N ++ nonce ++ C ++ c).length = 0 := by simp [hNl, hCl]; omega
    rw [this, List.drop_zero]
  have hl : (N ++ (nonce ++ (C ++ (c ++ tag)))).length = 2 + nonce.length + 2 + c.length + 32 := by simp [hNl, hCl, ht]; omega
  have h3 : rawR (N ++ (nonce ++ (C ++ (c ++ tag)))) (2 + nonce.length + 2 + c.length) 0 32 = (tag, 2 + nonce.length + 2 + c.length + 32, 0) := by
    rw [rawR, if_neg (by omega), if_neg (by omega), hl, if_neg (by omega), hd, show (32 : Int).toNat = 32 from rfl, List.take_of_length_le (by omega)]
  have h4 : endR (N ++ (nonce ++ (C ++ (c ++ tag)))) (2 + nonce.length + 2 + c.length + 32) 0 = 0 := by
    rw [endR, if_neg]
    rintro ⟨_, h⟩
    rw [leftR, hl] at h
    omega
  rw [e, partsB]
  simp only [h1, h2, h3, h4]
/-- A box opens to its plaintext. -/
theorem open_seal (key nonce ad plain : List Int) (hn : nonce.length ≤ 64) (hp : plain.length ≤ 1024) (hb : InB plain) : openI key ad (sealI key nonce ad plain) = (plain, 0) := by
  have hs : sealI key nonce ad plain = blobB (blobB [] nonce) (streamI key nonce plain) ++ tagI key nonce ad (streamI key nonce plain) := by rw [sealI, if_neg (by omega)]
  rw [openI, hs, parts_trip _ _ _ hn (by rw [streamI_length _ _ _ hp]; exact hp) (tagI_length _ _ _ _), openBox]
  simp only [ne_eq, not_true_eq_false, if_false, sameB_self]
  rw [if_neg (by simp), stream_twice key nonce plain hp hb]
end Go.Proofs.YtcmbnldeojlhbaaDoor
