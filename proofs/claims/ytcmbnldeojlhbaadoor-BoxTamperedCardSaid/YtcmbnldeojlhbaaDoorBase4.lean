/-
  What was written is read as it was: numbers and blobs.
  What follows from chapter 4 on lists: a box opens to its plaintext.
  Lists of byte strings in memory.
  The library's Grow, Concat and Clone of bytes, as the program's text holds them.
  The program's Reader: its state in memory, New, Left, Err, End.
  The lowest bytes of a number, by the program.
  The program's Reader takes bytes and numbers.
  The program's Reader tries a read for bytes and takes it back if it fails.
  The program's Reader reads bytes.
  The program's Reader reads a blob.
  The program writes a blob.
  bytes.Equal.
  The program's Equal.
-/
import Derived.Test.YtcmbnldeojlhbaaDoorBase3
import Derived.Test.YtcmbnldeojlhbaaDoorBase1
import Derived.Lib.SliceRun
import Derived.Laws.Bits64
import Derived.Lib.MinMax
import Derived.Lib.Bytes
import Derived.Deep.RegionHeld3
namespace Go.Proofs.YtcmbnldeojlhbaaDoor
open Go.RowKit

theorem be_next (size k : Nat) (n : Int) (h : k < size) : (beI size n).take (k + 1) = (beI size n).take k ++ [n % 18446744073709551616 / 2 ^ (8 * (size - 1 - k)) % 256] := by
  rw [List.take_add_one, beI, List.getElem?_map, List.getElem?_range h]
  rfl
theorem num_be_take (s : Nat) (n : Int) (h0 : 0 ≤ n) (h1 : n < 18446744073709551616) (h2 : n < 256 ^ s) (k : Nat) (hk : k ≤ s) : numI ((beI s n).take k) = n / 256 ^ (s - k) := by
  induction k with
  | zero =>
    rw [List.take_zero, Nat.sub_zero, Int.ediv_eq_zero_of_lt h0 h2]
    rfl
  | succ k ih =>
    have hp : (2 : Int) ^ (8 * (s - 1 - k)) = 256 ^ (s - 1 - k) := by rw [Int.pow_mul]; rfl
    have hd : n / 256 ^ (s - k) = n / 256 ^ (s - 1 - k) / 256 := by
      rw [show s - k = (s - 1 - k) + 1 by omega, Int.pow_succ, Int.ediv_ediv_of_nonneg (Int.pow_nonneg (by omega))]
    rw [be_next s k n (by omega), numI_snoc, ih (by omega), hd, hp, show n % 18446744073709551616 = n by omega, show s - (k + 1) = s - 1 - k by omega]
    omega
theorem num_be (s : Nat) (n : Int) (h0 : 0 ≤ n) (h1 : n < 18446744073709551616) (h2 : n < 256 ^ s) : numI (beI s n) = n := by
  have h := num_be_take s n h0 h1 h2 s (Nat.le_refl _)
  rw [List.take_of_length_le (by rw [beI_length]; omega), Nat.sub_self, Int.pow_zero, Int.ediv_one] at h
  exact h
theorem drop_pre (pre x : List Int) : (pre ++ x).drop pre.length = x := by simp
/-- A number that was written behind pre is read there. -/
theorem uint_trip (pre rest : List Int) (s : Nat) (n : Int) (hs1 : 1 ≤ s) (hs8 : s ≤ 8) (h0 : 0 ≤ n) (h1 : n < 256 ^ s) (h2 : n < 9223372036854775808) :
    uintR (pre ++ (beI s n ++ rest)) pre.length 0 s = (n, pre.length + s, 0) := by
  have hl : (pre ++ (beI s n ++ rest)).length = pre.length + s + rest.length := by simp [beI_length]; omega
  have ht : ((pre ++ (beI s n ++ rest)).drop pre.length).take s = beI s n := by
    rw [drop_pre, List.take_append_of_le_length (by rw [beI_length]; omega), List.take_of_length_le (by rw [beI_length]; omega)]
  have hn := num_be s n h0 (by omega) h1
  rw [uintR, if_neg (by omega), if_neg (by omega), hl, if_neg (by omega), Int.toNat_natCast, ht, hn, if_neg (by omega)]
/-- A blob that was written behind pre is read there. -/
theorem blob_trip (pre x rest : List Int) (most : Int) (hx : x.length ≤ 65535) (hm : (x.length : Int) ≤ most) :
    blobR (pre ++ (beI 2 (x.length : Int) ++ (x ++ rest))) pre.length 0 most = (x, pre.length + 2 + x.length, 0) := by
  have hl : (pre ++ (beI 2 (x.length : Int) ++ (x ++ rest))).length = pre.length + 2 + x.length + rest.length := by simp [beI_length]; omega
  have ht : ((pre ++ (beI 2 (x.length : Int) ++ (x ++ rest))).drop pre.length).take 2 = beI 2 (x.length : Int) := by
    rw [drop_pre, List.take_append_of_le_length (by rw [beI_length]; omega), List.take_of_length_le (by rw [beI_length]; omega)]
  have hn : numI (beI 2 (x.length : Int)) = x.length := num_be 2 _ (by omega) (by omega) (by omega)
  have hd : (pre ++ (beI 2 (x.length : Int) ++ (x ++ rest))).drop (pre.length + 2) = x ++ rest := by
    rw [← List.append_assoc, List.drop_append, List.drop_of_length_le (by simp [beI_length])]
    simp [beI_length]
  rw [blobR, if_neg (by omega), hl, if_neg (by omega), ht, hn, if_neg (by omega), if_neg (by omega), hd, Int.toNat_natCast]
  simp
theorem blobB_short (b x : List Int) (h : x.length ≤ 65535) : blobB b x = b ++ (beI 2 (x.length : Int) ++ x) := by
  rw [blobB, List.take_of_length_le h, uintB, if_neg (by omega), show (2 : Int).toNat = 2 from rfl, List.append_assoc]
theorem uintB_in (b : List Int) (s : Nat) (n : Int) (h1 : 1 ≤ s) (h8 : s ≤ 8) : uintB b s n = b ++ beI s n := by
  rw [uintB, if_neg (by omega), Int.toNat_natCast]
end Go.Proofs.YtcmbnldeojlhbaaDoor
namespace Go.Proofs.YtcmbnldeojlhbaaDoor
open Go.RowKit

theorem xor8_nat (a b : Nat) (ha : a < 256) (hb : b < 256) : bits .xor .u8 (a : Int) (b : Int) = ((a ^^^ b : Nat) : Int) := by
  have hx : a ^^^ b < 2 ^ 8 := Nat.xor_lt_two_pow (by omega) (by omega)
  have h1 : (BitVec.ofInt 8 (a : Int)).toNat = a := by
    rw [BitVec.ofInt_natCast, BitVec.toNat_ofNat]; exact Nat.mod_eq_of_lt (by omega)
  have h2 : (BitVec.ofInt 8 (b : Int)).toNat = b := by
    rw [BitVec.ofInt_natCast, BitVec.toNat_ofNat]; exact Nat.mod_eq_of_lt (by omega)
  have hw : ∀ n : Int, IntKind.u8.wrap n = n % 256 := fun n => by simp [IntKind.wrap, IntKind.bits, IntKind.signed]
  show IntKind.u8.wrap ((BitVec.ofInt 8 (a : Int) ^^^ BitVec.ofInt 8 (b : Int)).toNat : Int) = _
  rw [BitVec.toNat_xor, h1, h2, hw]
  omega
theorem xor8_twice (x k : Int) (hx : 0 ≤ x ∧ x < 256) (hk : 0 ≤ k ∧ k < 256) : bits .xor .u8 (bits .xor .u8 x k) k = x := by
  obtain ⟨a, rfl⟩ := Int.eq_ofNat_of_zero_le hx.1
  obtain ⟨b, rfl⟩ := Int.eq_ofNat_of_zero_le hk.1
  have h1 : a ^^^ b < 2 ^ 8 := Nat.xor_lt_two_pow (by omega) (by omega)
  rw [xor8_nat a b (by omega) (by omega), xor8_nat (a ^^^ b) b (by omega) (by omega), Nat.xor_assoc, Nat.xor_self, Nat.xor_zero]
theorem xorL_twice : ∀ (b k : List Int), b.length = k.length → InB b → InB k → xorL (xorL b k) k = b
  | [], [], _, _, _ => rfl
  | [], _ :: _, h, _, _ => by simp at h
  | _ :: _, [], h, _, _ => by simp at h
  | x :: b, y :: k, h, hb, hk => by
    have h1 := xorL_twice b k (by simpa using h) (fun z hz => hb z (by simp [hz])) (fun z hz => hk z (by simp [hz]))
    have h2 := xor8_twice x y (hb x (by simp)) (hk y (by simp))
    simp only [xorL, List.zipWith_cons_cons] at h1 ⊢
    rw [h1, h2]
theorem inB_sha2 (xs : List Int) : InB (sha256 xs) := by
  intro x hx
  simp only [sha256, bytesI, List.mem_flatten, List.mem_map] at hx
  obtain ⟨_, ⟨y, _, rfl⟩, hy⟩ := hx
  simp only [be4, List.mem_cons, List.not_mem_nil, or_false] at hy
  omega
theorem inB_parts (key label ctx : List Int) (n : Int) (j : Nat) : InB (partsI key label ctx n j) := by
  induction j with
  | zero => intro x hx; cases hx
  | succ j ih => exact inB_append ih (inB_sha2 _)
theorem inB_derive (key label ctx : List Int) (n : Int) : InB (deriveI key label ctx n) := by
  unfold deriveI
  split
  · intro x hx; cases hx
  · exact (inB_parts _ _ _ _ _).take _
theorem stream_twice (key nonce b : List Int) (hl : b.length ≤ 1024) (hb : InB b) : streamI key nonce (streamI key nonce b) = b := by
  have h1 := streamI_length key nonce b hl
  have h2 : streamI key nonce (streamI key nonce b) = xorL (xorL b (deriveI key (strI labelE) nonce b.length)) (deriveI key (strI labelE) nonce b.length) := by
    rw [streamI, h1, streamI]
  rw [h2]
  exact xorL_twice _ _ (by rw [deriveI_len _ _ _ _ hl]) hb (inB_derive _ _ _ _)

/-- What is read of two blobs and 32 bytes. -/
theorem parts_trip (nonce c tag : List Int) (hn : nonce.length ≤ 64) (hc : c.length ≤ 1024) (ht : tag.length = 32) : partsB (blobB (blobB [] nonce) c ++ tag) = (nonce, c, tag, 0) := by
  obtain ⟨N, hN⟩ : ∃ N, N = beI 2 (nonce.length : Int) := ⟨_, rfl⟩
  obtain ⟨C, hC⟩ : ∃ C, C = beI 2 (c.length : Int) := ⟨_, rfl⟩
  have hNl : N.length = 2 := by rw [hN, beI_length]
  have hCl : C.length = 2 := by rw [hC, beI_length]
  have e : blobB (blobB [] nonce) c ++ tag = N ++ (nonce ++ (C ++ (c ++ tag))) := by
    rw [blobB_short _ _ (by omega), blobB_short _ _ (by omega), ← hN, ← hC]
    simp
  have h1 : blobR (N ++ (nonce ++ (C ++ (c ++ tag)))) 0 0 64 = (nonce, 2 + nonce.length, 0) := by
    have h := blob_trip [] nonce (C ++ (c ++ tag)) 64 (by omega) (by omega)
    rw [← hN] at h
    simpa using h
  have h2 : blobR (N ++ (nonce ++ (C ++ (c ++ tag)))) (2 + nonce.length) 0 1024 = (c, 2 + nonce.length + 2 + c.length, 0) := by
    have h := blob_trip (N ++ nonce) c tag 1024 (by omega) (by omega)
    rw [← hC, List.length_append, hNl] at h
    simpa using h
  have hd : (N ++ (nonce ++ (C ++ (c ++ tag)))).drop (2 + nonce.length + 2 + c.length) = tag := by
    have e2 : N ++ (nonce ++ (C ++ (c ++ tag))) = (N ++ nonce ++ C ++ c) ++ tag := by simp
    rw [e2, List.drop_append, List.drop_of_length_le (by simp [hNl, hCl]; omega), List.nil_append]
    have : 2 + nonce.length + 2 + c.length - (N ++ nonce ++ C ++ c).length = 0 := by simp [hNl, hCl]; omega
    rw [this, List.drop_zero]
  have hl : (N ++ (nonce ++ (C ++ (c ++ tag)))).length = 2 + nonce.length + 2 + c.length + 32 := by simp [hNl, hCl, ht]; omega
  have h3 : rawR (N ++ (nonce ++ (C ++ (c ++ tag)))) (2 + nonce.length + 2 + c.length) 0 32 = (tag, 2 + nonce.length + 2 + c.length + 32, 0) := by
    rw [rawR, if_neg (by omega), if_neg (by omega), hl, if_neg (by omega), hd, show (32 : Int).toNat = 32 from rfl, List.take_of_length_le (by omega)]
  have h4 : endR (N ++ (nonce ++ (C ++ (c ++ tag)))) (2 + nonce.length + 2 + c.length + 32) 0 = 0 := by
    rw [endR, if_neg]
    rintro ⟨_, h⟩
    rw [leftR, hl] at h
    omega
  rw [e, partsB]
  simp only [h1, h2, h3, h4]
/-- A box opens to its plaintext. -/
theorem open_seal (key nonce ad plain : List Int) (hn : nonce.length ≤ 64) (hp : plain.length ≤ 1024) (hb : InB plain) : openI key ad (sealI key nonce ad plain) = (plain, 0) := by
  have hs : sealI key nonce ad plain = blobB (blobB [] nonce) (streamI key nonce plain) ++ tagI key nonce ad (streamI key nonce plain) := by rw [sealI, if_neg (by omega)]
  rw [openI, hs, parts_trip _ _ _ hn (by rw [streamI_length _ _ _ hp]; exact hp) (tagI_length _ _ _ _), openBox]
  simp only [ne_eq, not_true_eq_false, if_false, sameB_self]
  rw [if_neg (by simp), stream_twice key nonce plain hp hb]
end Go.Proofs.YtcmbnldeojlhbaaDoor
namespace Go.Proofs.YtcmbnldeojlhbaaDoor
open Go.RowKit

/-- A slice of slices of bytes that reads as a list of lists. -/
def Fields (w : World) (B : Nat) (A : Option Addr) (n : Nat) (fs : List (List Int)) : Prop :=
  fs.length = n ∧ (0 < n → ∃ b off, A = some ⟨b, off, none⟩ ∧ b < B ∧ ∀ j, j < n → ∃ A' n' c', w.cell? ⟨b, off + j, none⟩ = some (.slice A' n' c') ∧ Seg w B .u8 A' n' (fs.getD j []) ∧ n' ≤ c' ∧ c' ≤ maxLen)
theorem Fields.below {w w' : World} {B B' : Nat} {A : Option Addr} {n : Nat} {fs : List (List Int)} (h : Fields w B A n fs) (hb : Below B' w w') (hB : B ≤ B') : Fields w' B A n fs :=
  ⟨h.1, fun hn => by
    obtain ⟨b, off, e, hlt, hc⟩ := h.2 hn
    refine ⟨b, off, e, hlt, fun j hj => ?_⟩
    obtain ⟨A', n', c', h1, h2, h3, h4⟩ := hc j hj
    exact ⟨A', n', c', (hb.cell (p := ⟨b, off + j, none⟩) (by show b < B'; omega)).trans h1, h2.below hb hB, h3, h4⟩⟩
theorem Fields.more {w : World} {B B' : Nat} {A : Option Addr} {n : Nat} {fs : List (List Int)} (h : Fields w B A n fs) (hB : B ≤ B') : Fields w B' A n fs :=
  ⟨h.1, fun hn => by
    obtain ⟨b, off, e, hlt, hc⟩ := h.2 hn
    refine ⟨b, off, e, by omega, fun j hj => ?_⟩
    obtain ⟨A', n', c', h1, h2, h3, h4⟩ := hc j hj
    exact ⟨A', n', c', h1, h2.more hB, h3, h4⟩⟩

/-- How many bytes the first fields hold. -/
def tot (fs : List (List Int)) : Nat := (fs.map List.length).sum
theorem tot_take (fs : List (List Int)) (k : Nat) (h : k < fs.length) : tot (fs.take (k + 1)) = tot (fs.take k) + (fs.getD k []).length := by
  have : fs.take (k + 1) = fs.take k ++ [fs.getD k []] := by rw [List.take_add_one, List.getElem?_eq_getElem h]; simp [List.getD, h]
  rw [this]
  simp [tot]
theorem tot_take_le (fs : List (List Int)) (k : Nat) : tot (fs.take k) ≤ tot fs := by
  have h : tot fs = tot (fs.take k) + tot (fs.drop k) := by
    have e : tot (fs.take k ++ fs.drop k) = tot (fs.take k) + tot (fs.drop k) := by simp only [tot, List.map_append, List.sum_append]
    rw [List.take_append_drop] at e
    exact e
  omega
theorem tot_get_le (fs : List (List Int)) (k : Nat) (h : k < fs.length) : (fs.getD k []).length ≤ tot fs := by
  have h1 := tot_take fs k h
  have h2 := tot_take_le fs (k + 1)
  omega
/-- A list of two fields that the call itself has laid. -/
theorem fields2 (W : World) (g : Nat) (A1 A2 : Option Addr) (n1 c1 n2 c2 : Nat) (xs ys : List Int) (hc0 : W.cell? ⟨g, 0, none⟩ = some (.slice A1 n1 c1)) (hc1 : W.cell? ⟨g, 1, none⟩ = some (.slice A2 n2 c2))
    (h1 : Seg W W.heap.size .u8 A1 n1 xs) (h2 : Seg W W.heap.size .u8 A2 n2 ys) (b1 : n1 ≤ c1) (m1 : c1 ≤ maxLen) (b2 : n2 ≤ c2) (m2 : c2 ≤ maxLen) : Fields W W.heap.size (some ⟨g, 0, none⟩) 2 [xs, ys] :=
  ⟨rfl, fun _ => ⟨g, 0, rfl, block_lt_of_cell hc0, fun j hj => by
    rcases (by omega : j = 0 ∨ j = 1) with rfl | rfl
    · exact ⟨A1, n1, c1, hc0, h1, b1, m1⟩
    · exact ⟨A2, n2, c2, hc1, h2, b2, m2⟩⟩⟩
theorem fields1 (W : World) (g : Nat) (A1 : Option Addr) (n1 c1 : Nat) (xs : List Int) (hc0 : W.cell? ⟨g, 0, none⟩ = some (.slice A1 n1 c1))
    (h1 : Seg W W.heap.size .u8 A1 n1 xs) (b1 : n1 ≤ c1) (m1 : c1 ≤ maxLen) : Fields W W.heap.size (some ⟨g, 0, none⟩) 1 [xs] :=
  ⟨rfl, fun _ => ⟨g, 0, rfl, block_lt_of_cell hc0, fun j hj => by
    obtain rfl : j = 0 := by omega
    exact ⟨A1, n1, c1, hc0, h1, b1, m1⟩⟩⟩
/-- A list of three fields that the call itself has laid. -/
theorem fields3 (W : World) (g : Nat) (A1 A2 A3 : Option Addr) (n1 c1 n2 c2 n3 c3 : Nat) (xs ys zs : List Int) (hc0 : W.cell? ⟨g, 0, none⟩ = some (.slice A1 n1 c1)) (hc1 : W.cell? ⟨g, 1, none⟩ = some (.slice A2 n2 c2)) (hc2 : W.cell? ⟨g, 2, none⟩ = some (.slice A3 n3 c3))
    (h1 : Seg W W.heap.size .u8 A1 n1 xs) (h2 : Seg W W.heap.size .u8 A2 n2 ys) (h3 : Seg W W.heap.size .u8 A3 n3 zs) (b1 : n1 ≤ c1) (m1 : c1 ≤ maxLen) (b2 : n2 ≤ c2) (m2 : c2 ≤ maxLen) (b3 : n3 ≤ c3) (m3 : c3 ≤ maxLen) : Fields W W.heap.size (some ⟨g, 0, none⟩) 3 [xs, ys, zs] :=
  ⟨rfl, fun _ => ⟨g, 0, rfl, block_lt_of_cell hc0, fun j hj => by
    rcases (by omega : j = 0 ∨ j = 1 ∨ j = 2) with rfl | rfl | rfl
    · exact ⟨A1, n1, c1, hc0, h1, b1, m1⟩
    · exact ⟨A2, n2, c2, hc1, h2, b2, m2⟩
    · exact ⟨A3, n3, c3, hc2, h3, b3, m3⟩⟩⟩
end Go.Proofs.YtcmbnldeojlhbaaDoor
namespace Go.Proofs.YtcmbnldeojlhbaaDoor
open Go.RowKit

theorem Row.less {w : World} {B B' : Nat} {e : TypeId} {k : IntKind} {v : Value} {n : Nat} {xs : List Int} (h : Row w B e k v n xs) (hB : B' ≤ B) : Row w B' e k v n xs := by
  refine ⟨h.1, ?_⟩
  rcases h.2 with h' | ⟨g, cap, cur, hv, hg, hh⟩
  · exact .inl h'
  · exact .inr ⟨g, cap, cur, hv, by omega, hh⟩
/-- The beginning of a row. -/
theorem Row.cutTo {w : World} {B : Nat} {e : TypeId} {k : IntKind} {A : Option Addr} {n c : Nat} {xs : List Int} (h : Row w B e k (.slice A n c) n xs) {m : Nat} (hm : m ≤ n) (hA : A ≠ none) : Row w B e k (.slice A m c) m (xs.take m) := by
  have hl := h.length
  rcases h.2 with ⟨h1, _⟩ | ⟨g, cap, cur, hv, hg, hh, h1, h2, h3, h4⟩
  · injection h1 with h1; exact absurd h1 hA
  · injection hv with e1 e2 e3
    subst e1 e3
    refine ⟨by simp [ints]; omega, .inr ⟨g, c, cur, rfl, hg, hh, by omega, h2, h3, ?_⟩⟩
    have h5 : cur.toList.take n = ints k xs := by simpa using h4
    rw [Nat.mul_one, show m = min m n by omega, ← List.take_take, h5]
    simp [ints, List.map_take, show min m n = m by omega]

set_option maxRecDepth 100000 in
set_option maxHeartbeats 1000000 in
theorem grow_nil (n : Nat) (w : World) (hn : n ≤ 1099511627776) :
    Calls Tryd.prog 57 #[.slice none 0 0, .int .i64 n] w fun e w' => ∃ v, e = .returned v ∧ Row w' w.heap.size 5 .u8 v 0 [] ∧ Below w.heap.size w w' := by
  obtain ⟨i0, hi, hz0, hz1, hz2⟩ := info_parts Tryd.infoU8
  have hd0 : decide ((n : Int) < 0) = false := by simp
  by_cases h0 : n = 0
  · subst h0
    go_enter Tryd.func57, Tryd.ntmps57
    go_wp2_with fail
    go_ret
    exact ⟨_, rfl, nil_row _ _ _ _, Below.refl _ _⟩
  · have hd1 : decide ((0 : Int) < n) = true := by simp; omega
    have h0' : 0 < n := by omega
    clear h0
    go_enter Tryd.func57, Tryd.ntmps57
    go_wp2_with (at_builtin; refine wpList_appz _ rfl (.tmp 20) (.tmp 21) 22 3 rfl w.heap.size 5 i0 .u8 .i64 .i64 Tryd.underlying22 Tryd.underlying3 hi hz0 hz1 hz2 (.slice none 0 0) 0 n [] rfl (nil_row _ _ _ _) _ rfl rfl (by omega) (Nat.le_refl _) ?_; intro v1 w1 hR1 hg1; have hb1 : Below w.heap.size w w1 := (Below.refl _ _).grown hg1 (Nat.le_refl _) (fun r hr => by cases hr); have HR1 := Lib.hid hR1; clear hR1 hg1)
    obtain ⟨g, c, rfl, hg⟩ := HR1.out.at_ (by omega)
    obtain ⟨_, _, hv, hc, hcm⟩ := HR1.out.cut
    injection hv with _ _ hv
    subst hv
    have hsl : ∀ W : World, (Instr.slice 22 (.slice (some ⟨g, 0, none⟩) (0 + n) c) none (some (.int .i64 0)) none).run Tryd.prog W = .ok (.slice (some ⟨g, 0, none⟩) 0 c) W := fun W => slice_to (some ⟨g, 0, none⟩) (0 + n) c 0 (by omega) W
    have HR2 := Lib.hid (HR1.out.cutTo (m := 0) (by omega) (by simp))
    go_wp2_with fail
    go_ret
    refine ⟨_, rfl, ?_, hb1⟩
    have h := HR2.out
    rw [List.take_zero] at h
    have ha := ‹some (⟨g, 0, none⟩ : Addr) = _›
    subst ha
    exact h

set_option maxRecDepth 100000 in
set_option maxHeartbeats 2000000 in
theorem concat_any (A : Option Addr) (n c : Nat) (fs : List (List Int)) (w : World) (hs : Fields w w.heap.size A n fs) (hn : n ≤ 1048576) (ht : tot fs ≤ 1099511627776) :
    Calls Tryd.prog 39 #[.slice A n c] w fun e w' => ∃ v, e = .returned v ∧ Row w' w.heap.size 5 .u8 v (tot fs) fs.flatten ∧ Below w.heap.size w w' := by
  obtain ⟨i0, hi, hz0, hz1, hz2⟩ := info_parts Tryd.infoU8
  have HS := Lib.hid hs
  have HLN := Lib.hid hs.1
  have HTOT := Lib.hid ht
  clear hs ht
  go_enter Tryd.func39, Tryd.ntmps39
  go_wp2_with fail
  go_loop [3, 11] (fun s i => ∃ k : Nat, k ≤ n ∧ i = .int .i64 k ∧ s = .int .i64 ((tot (fs.take k) : Nat) : Int)) (fun _ i => n - (intOf i).toNat)
  case atStart => exact ⟨0, by omega, rfl, rfl⟩
  case round =>
    obtain ⟨k, hk, rfl, rfl⟩ := hrel
    obtain ⟨s, hsz⟩ : ∃ s, Hid (tot (fs.take k) = s) := ⟨_, rfl⟩
    rw [hsz.out]
    have hsb : s ≤ 1099511627776 := by have := tot_take_le fs k; have := hsz.out; have := HTOT.out; omega
    by_cases hlt : k < n
    · obtain ⟨b, off, rfl, _, hc⟩ := HS.out.2 (by omega)
      obtain ⟨A', n', c', h1, h2, _, _⟩ := hc k hlt
      have hn' : n' ≤ 1099511627776 := by have := h2.1; have := tot_get_le fs k (by rw [HLN.out]; exact hlt); have := HTOT.out; omega
      have HL := Lib.hid h2.1
      have hd : decide ((k : Int) < n) = true := by simp; omega
      have hd2 : decide ((s : Int) + n' < 0) = false := by simp; omega
      clear hc h2
      go_wp2_with fail
      go_round
      case measure => simp [intOf]; omega
      case rel =>
        refine ⟨k + 1, by omega, by go_num, ?_⟩
        have h := tot_take fs k (by rw [HLN.out]; exact hlt)
        have h3 := HL.out
        have h4 := hsz.out
        rw [h, h3]
        congr 1
        omega
    · have hd : decide ((k : Int) < n) = false := by simp; omega
      have hkn : k = n := by omega
      have HST : Hid (tot fs = s) := by
        show _ = _
        rw [← hsz.out, hkn, List.take_of_length_le (by rw [HLN.out]; omega)]
      clear hkn
      go_wp2_with (go_at_call 57; refine (grow_nil s w hsb).mono ?_; rintro e w1 ⟨v1, rfl, hR1, hb1⟩; have HR1 := Lib.hid hR1; clear hR1)
      go_loopw [6, 27] (fun v i wr => ∃ k : Nat, k ≤ n ∧ i = .int .i64 k ∧ Hid (Row wr w.heap.size 5 .u8 v (tot (fs.take k)) (fs.take k).flatten) ∧ Below w.heap.size w wr) (fun _ i _ => n - (intOf i).toNat)
      case atStart => exact ⟨0, by omega, rfl, HR1, hb1⟩
      case round =>
        clear hb1 HR1
        obtain ⟨j, hj, rfl, hR, hb⟩ := hrel
        have hz := hb.size
        have HRL := Lib.hid hR.out.length
        have HRB : Hid (tot (fs.take j) ≤ 1099511627776) := by
          have := tot_take_le fs j
          have := HTOT.out
          show _ ≤ _
          omega
        by_cases hjt : j < n
        · obtain ⟨b, off, rfl, hbl, hc⟩ := HS.out.2 (by omega)
          obtain ⟨A', n', c', h1, h2, hnc, hcm⟩ := hc j hjt
          have hn' : n' ≤ 1099511627776 := by have := h2.1; have := tot_get_le fs j (by rw [HLN.out]; exact hjt); have := HTOT.out; omega
          have h1r := (hb.cell (p := ⟨b, off + j, none⟩) hbl).trans h1
          have HFS := Lib.hid (h2.below hb (Nat.le_refl _))
          have HF := Lib.hid h2.1
          have hd : decide ((j : Int) < n) = true := by simp; omega
          clear hc h2 h1
          go_wp2_with (at_builtin; refine wpList_app _ rfl (.tmp 31) (.tmp 32) 22 rfl w.heap.size 5 i0 (.int .u8 0) 1 Tryd.underlying22 hi hz0 hz1 hz2 rfl .u8 _ _ rfl hR.out.own _ A' n' c' _ rfl HFS.out (by rw [HRL.out]; have := HRB.out; unfold maxLen; omega) (by rw [HRL.out]; have := HRB.out; omega) hz ?_; intro v5 w5 hown5 hg5 hor5; have hb5 : Below w.heap.size w w5 := own_below hR.out.own hg5 hb hz; have HR5 := Lib.hid hown5; clear hg5 hor5 hown5)
          refine ⟨⟨j + 1, by omega, by go_num, ?_, hb5⟩, by simp [intOf]; omega⟩
          show Row _ _ _ _ _ _ _
          have e : fs.take (j + 1) = fs.take j ++ [fs.getD j []] := by rw [List.take_add_one, List.getElem?_eq_getElem (by rw [HLN.out]; exact hjt)]; simp [List.getD, show j < fs.length by rw [HLN.out]; exact hjt]
          have hfl : (fs.take (j + 1)).flatten = (fs.take j).flatten ++ fs.getD j [] := by rw [e]; simp
          rw [hfl, tot_take fs j (by rw [HLN.out]; exact hjt)]
          exact Own.row HR5.out (by rw [List.length_append, HRL.out])
        · have hd : decide ((j : Int) < n) = false := by simp; omega
          have hR' := hR.out
          rw [List.take_of_length_le (by rw [HLN.out]; omega)] at hR'
          have HR' := Lib.hid hR'
          clear hR'
          go_wp2_with fail
          go_ret
          exact ⟨_, rfl, HR'.out, hb⟩

set_option maxRecDepth 100000 in
set_option maxHeartbeats 1000000 in
theorem clone_any (A : Option Addr) (n c : Nat) (xs : List Int) (w : World) (hs : Seg w w.heap.size .u8 A n xs) (hn : n ≤ 1099511627776) :
    Calls Tryd.prog 44 #[.slice A n c] w fun e w' => ∃ v, e = .returned v ∧ Row w' w.heap.size 5 .u8 v n xs ∧ Below w.heap.size w w' := by
  obtain ⟨i0, hi, hz0, hz1, hz2⟩ := info_parts Tryd.infoU8
  have hq : ∀ (w : World) (a : Option Addr) (n c n' c' : Nat), (binOp .eql 22 (.slice a n c) (.slice none n' c')).run Tryd.prog w = .ok (.bool a.isNone) w := fun w a n c n' c' => Lib.run_eql_slice_nil w _ _ a n c n' c' Tryd.underlying22
  have HL := Lib.hid hs.1
  have hb0 : Below w.heap.size w (w.alloc (.cells #[] 5)) := (Below.refl _ _).alloc (Nat.le_refl _) _
  have HS0 := Lib.hid (hs.below hb0 (Nat.le_refl _))
  have HO := Lib.hid (own_empty w 5 .u8 w.heap.size (Nat.le_refl _))
  have hz := hb0.size
  have HN : Hid (A = none → n = 0) := by
    intro h
    rcases Nat.eq_zero_or_pos n with h0 | h0
    · exact h0
    · obtain ⟨_, _, h1, _⟩ := hs.2 h0
      rw [h] at h1
      cases h1
  clear hs
  cases A with
  | none =>
    have h0 := HN.out rfl
    subst h0
    have hx : xs = [] := List.eq_nil_of_length_eq_zero HL.out
    subst hx
    clear HN
    go_enter Tryd.func44, Tryd.ntmps44
    go_wp2_with fail
    go_ret
    exact ⟨_, rfl, nil_row _ _ _ _, Below.refl _ _⟩
  | some a =>
    clear HN
    go_enter Tryd.func44, Tryd.ntmps44
    go_wp2_with (at_builtin; refine wpList_app _ rfl (.tmp 5) (.tmp 6) 22 rfl w.heap.size 5 i0 (.int .u8 0) 1 Tryd.underlying22 hi hz0 hz1 hz2 rfl .u8 (.slice (some ⟨w.heap.size, 0, none⟩) 0 0) [] rfl HO.out w.heap.size (some a) n c xs rfl HS0.out (by unfold maxLen; simp; omega) (by simp; omega) hz ?_; intro v2 w2 hown2 hg2 hor2; have hb2 := own_below (k := .u8) (xs := []) HO.out hg2 hb0 hz; clear hg2 hor2)
    go_ret
    exact ⟨_, rfl, Own.row hown2 HL.out, hb2⟩
end Go.Proofs.YtcmbnldeojlhbaaDoor
namespace Go.Proofs.YtcmbnldeojlhbaaDoor
open Go.RowKit

theorem Seg.but2 {w w' : World} {B g : Nat} {k : IntKind} {A : Option Addr} {n : Nat} {xs : List Int} (h : Seg w B k A n xs) (hb : But w w' g) (hB : B ≤ g) : Seg w' B k A n xs :=
  ⟨h.1, fun hn => by
    obtain ⟨b, off, e, hlt, hc⟩ := h.2 hn
    refine ⟨b, off, e, hlt, fun j hj => ?_⟩
    have h1 := hc j hj
    exact (World.cell?_of_block (w := w) (w' := w') (a := ⟨b, off + j, none⟩) (hb.block b (block_lt_of_cell h1) (by intro e; injection e with e; omega))).trans h1⟩

/-- A Reader of two cells: what has not been read of xs (p bytes of them have), its error. The bytes lie below it. -/
def WRdr (w : World) (g : Nat) (T : TypeId) (xs : List Int) (p : Nat) (err : Int) : Prop :=
  ∃ A n c, w.heap[g]? = some (.cells #[.slice A n c, .int .i64 err] T (0, 0)) ∧ Seg w g .u8 A n (xs.drop p) ∧ p + n = xs.length ∧ n ≤ c ∧ c ≤ 9223372036854775807
section
variable {w w' : World} {g p : Nat} {T : TypeId} {xs : List Int} {err : Int}
theorem WRdr.lt (h : WRdr w g T xs p err) : g < w.heap.size := by
  obtain ⟨_, _, _, h, _⟩ := h
  exact (Array.getElem?_eq_some_iff.1 h).1
theorem WRdr.drewN (h : WRdr w g T xs p err) (q : Nat) : WRdr (w.drewN q) g T xs p err := h
theorem WRdr.below {B : Nat} (h : WRdr w g T xs p err) (hb : Below B w w') (hg : g < B) : WRdr w' g T xs p err := by
  obtain ⟨A, n, c, h1, h2, h3⟩ := h
  exact ⟨A, n, c, (hb.block g hg).trans h1, h2.below hb (Nat.le_of_lt hg), h3⟩
theorem WRdr.but {g' : Nat} (h : WRdr w g T xs p err) (hb : But w w' g') (hg : g < g') : WRdr w' g T xs p err := by
  have hl := h.lt
  obtain ⟨A, n, c, h1, h2, h3⟩ := h
  exact ⟨A, n, c, (hb.block g hl (by intro e; injection e with e; omega)).trans h1, h2.but2 hb (Nat.le_of_lt hg), h3⟩
theorem WRdr.le (h : WRdr w g T xs p err) : p ≤ xs.length := by
  obtain ⟨_, _, _, _, _, h, _⟩ := h
  omega
end

set_option maxRecDepth 100000 in
set_option maxHeartbeats 1000000 in
theorem wnew_any (A : Option Addr) (n c : Nat) (xs : List Int) (w : World) (hs : Seg w w.heap.size .u8 A n xs) (hn : n ≤ 1099511627776) :
    Calls Tryd.prog 25 #[.slice A n c] w fun e w' => ∃ g, e = .returned (.pointer (some ⟨g, 0, none⟩)) ∧ w.heap.size ≤ g ∧ WRdr w' g 53 xs 0 0 ∧ Below w.heap.size w w' := by
  have HL := Lib.hid hs.1
  have HS := Lib.hid hs
  clear hs
  go_enter Tryd.func25, Tryd.ntmps25
  go_wp2_with fail
  refine (clone_any A n c xs w HS.out hn).mono ?_
  rintro e w1 ⟨v1, rfl, hR1, hb1⟩
  obtain ⟨A1, c1, rfl, hc1, hcm1⟩ := hR1.cut
  have HR1 := Lib.hid hR1
  have hz1 := hb1.size
  clear hR1
  go_wp2_with fail
  go_ret
  refine ⟨_, rfl, hz1, ⟨A1, n, c1, heap_alloc_new w1 _, ?_, by have := HL.out; omega, hc1, by unfold maxLen at hcm1; omega⟩, hb1.alloc hz1 _⟩
  exact HR1.out.seg.below ((Below.refl _ _).alloc (Nat.le_refl _) _) (Nat.le_refl _)

set_option maxHeartbeats 1000000 in
theorem wleft_any (g p : Nat) (xs : List Int) (err : Int) (w : World) (h : WRdr w g 53 xs p err) :
    Calls Tryd.prog 49 #[.pointer (some ⟨g, 0, none⟩)] w fun e w' => e = .returned (.int .i64 (leftR xs p)) ∧ w = w' := by
  obtain ⟨A, n, c, h1, h2, h3, h4, h5⟩ := h
  have c0 : w.cell? ⟨g, 0, none⟩ = some (.slice A n c) := cell_of_row w g 0 _ _ (0, 0) h1
  have HE : Hid (leftR xs p = (n : Int)) := by show _ = _; unfold leftR; omega
  clear h1 h2 h3
  go_enter Tryd.func49, Tryd.ntmps49
  go_wp2_with fail
  go_ret
  exact ⟨by rw [HE.out]; rfl, rfl⟩

set_option maxHeartbeats 1000000 in
theorem werr_any (g p : Nat) (xs : List Int) (err : Int) (w : World) (h : WRdr w g 53 xs p err) :
    Calls Tryd.prog 48 #[.pointer (some ⟨g, 0, none⟩)] w fun e w' => e = .returned (.int .i64 err) ∧ w = w' := by
  obtain ⟨A, n, c, h1, h2, h3, h4, h5⟩ := h
  have c1 : w.cell? ⟨g, 1, none⟩ = some (.int .i64 err) := cell_of_row w g 1 _ _ (0, 0) h1
  clear h1 h2 h3
  go_enter Tryd.func48, Tryd.ntmps48
  go_wp2_with fail
  go_ret
  exact ⟨rfl, rfl⟩

set_option maxHeartbeats 1000000 in
theorem wend_any (g p : Nat) (xs : List Int) (err : Int) (w : World) (h : WRdr w g 53 xs p err) :
    Calls Tryd.prog 28 #[.pointer (some ⟨g, 0, none⟩)] w fun e w' => e = .returned (.int .i64 (endR xs p err)) ∧ w = w' := by
  have H := Lib.hid h
  clear h
  by_cases he : err = 0
  · subst he
    by_cases hl : 0 < leftR xs p
    · have hE : Hid (endR xs p 0 = 3) := by show _ = _; rw [endR, if_pos ⟨rfl, hl⟩]
      have hd : decide (0 < leftR xs p) = true := by simpa using hl
      clear hl
      go_enter Tryd.func28, Tryd.ntmps28
      go_wp2_with (first
        | (go_at_call 49; refine (wleft_any g p xs _ w H.out).mono ?_; rintro e w' ⟨rfl, rfl⟩)
        | (go_at_call 48; refine (werr_any g p xs _ w H.out).mono ?_; rintro e w' ⟨rfl, rfl⟩))
      go_ret
      exact ⟨by rw [hE.out]; rfl, rfl⟩
    · have hE : Hid (endR xs p 0 = 0) := by show _ = _; rw [endR, if_neg (fun h => hl h.2)]
      have hd : decide (0 < leftR xs p) = false := by simpa using hl
      clear hl
      go_enter Tryd.func28, Tryd.ntmps28
      go_wp2_with (first
        | (go_at_call 49; refine (wleft_any g p xs _ w H.out).mono ?_; rintro e w' ⟨rfl, rfl⟩)
        | (go_at_call 48; refine (werr_any g p xs _ w H.out).mono ?_; rintro e w' ⟨rfl, rfl⟩))
      go_ret
      exact ⟨by rw [hE.out]; rfl, rfl⟩
  · have hE : Hid (endR xs p err = err) := by show _ = _; rw [endR, if_neg (fun h => he h.1)]
    have hd : (err == 0) = false := by simpa using he
    clear he
    go_enter Tryd.func28, Tryd.ntmps28
    go_wp2_with (first
      | (go_at_call 49; refine (wleft_any g p xs _ w H.out).mono ?_; rintro e w' ⟨rfl, rfl⟩)
      | (go_at_call 48; refine (werr_any g p xs _ w H.out).mono ?_; rintro e w' ⟨rfl, rfl⟩))
    go_ret
    exact ⟨by rw [hE.out]; rfl, rfl⟩

/-! The same, met in a region that draws its order. -/
theorem wleft_q (g p : Nat) (xs : List Int) (err : Int) (w : World) (h : WRdr w g 53 xs p err) (n : Nat) :
    Calls Tryd.prog 49 #[.pointer (some ⟨g, 0, none⟩)] (w.drewN n) fun e w'' => e = .returned (.int .i64 (leftR xs p)) ∧ ∃ m, w'' = w.drewN m :=
  (wleft_any g p xs err _ (h.drewN n)).mono fun _ _ ⟨he, hw⟩ => ⟨he, n, hw.symm⟩
theorem werr_q (g p : Nat) (xs : List Int) (err : Int) (w : World) (h : WRdr w g 53 xs p err) (n : Nat) :
    Calls Tryd.prog 48 #[.pointer (some ⟨g, 0, none⟩)] (w.drewN n) fun e w'' => e = .returned (.int .i64 err) ∧ ∃ m, w'' = w.drewN m :=
  (werr_any g p xs err _ (h.drewN n)).mono fun _ _ ⟨he, hw⟩ => ⟨he, n, hw.symm⟩
theorem wend_q (g p : Nat) (xs : List Int) (err : Int) (w : World) (h : WRdr w g 53 xs p err) (n : Nat) :
    Calls Tryd.prog 28 #[.pointer (some ⟨g, 0, none⟩)] (w.drewN n) fun e w'' => e = .returned (.int .i64 (endR xs p err)) ∧ ∃ m, w'' = w.drewN m :=
  (wend_any g p xs err _ (h.drewN n)).mono fun _ _ ⟨he, hw⟩ => ⟨he, n, hw.symm⟩
end Go.Proofs.YtcmbnldeojlhbaaDoor
namespace Go.Proofs.YtcmbnldeojlhbaaDoor
open Go.RowKit

theorem valid_any (size : Int) (b : Bool) (hb : decide (1 ≤ size ∧ size ≤ 8) = b) (w : World) :
    Calls Tryd.prog 58 #[.int .i64 size] w fun e w' => e = .returned (.bool b) ∧ w = w' := by
  by_cases h1 : 1 ≤ size
  · have hd : decide (1 ≤ size) = true := by simpa using h1
    have hb' : decide (size ≤ 8) = b := by simpa [h1] using hb
    clear hb
    go_enter Tryd.func58, Tryd.ntmps58
    go_wp2_with fail
    go_ret
    exact ⟨rfl, rfl⟩
  · have hd : decide (1 ≤ size) = false := by simpa using h1
    have hb' : b = false := by rw [← hb]; simp; omega
    subst hb'
    clear hb
    go_enter Tryd.func58, Tryd.ntmps58
    go_wp2_with fail
    go_ret
    exact ⟨rfl, rfl⟩

/-- The size lowest bytes, none for a wrong size. -/
def lowB (size n : Int) : List Int := if size < 1 ∨ 8 < size then [] else beI size.toNat n
theorem uintB_low (b : List Int) (size n : Int) : uintB b size n = b ++ lowB size n := by
  unfold uintB lowB
  split <;> simp
/-- The lowest bytes as they are laid from the end: k of them laid. -/
def layI (s : Nat) (n : Int) (k : Nat) : List Int := List.replicate (s - k) 0 ++ (beI s n).drop (s - k)
theorem layI_zero (s : Nat) (n : Int) : layI s n 0 = List.replicate s 0 := by simp [layI, beI_length]
theorem layI_all (s : Nat) (n : Int) : layI s n s = beI s n := by simp [layI]
theorem layI_next (s k : Nat) (n : Int) (hk : k < s) : layI s n (k + 1) = (layI s n k).set (s - 1 - k) (n % 18446744073709551616 / 2 ^ (8 * k) % 256) := by
  have hb : (beI s n).drop (s - (k + 1)) = (n % 18446744073709551616 / 2 ^ (8 * k) % 256) :: (beI s n).drop (s - k) := by
    rw [List.drop_eq_getElem_cons (by rw [beI_length]; omega), show s - (k + 1) + 1 = s - k by omega]
    congr 1
    simp only [beI, List.getElem_map, List.getElem_range]
    rw [show s - 1 - (s - (k + 1)) = k by omega]
  have hr : List.replicate (s - k) (0 : Int) = List.replicate (s - 1 - k) 0 ++ [0] := by rw [show s - k = (s - 1 - k) + 1 by omega, List.replicate_succ']
  rw [layI, layI, hb, hr, show s - (k + 1) = s - 1 - k by omega, List.append_assoc, List.set_append_right _ _ (by simp)]
  simp

theorem low_digit (n : Int) (k : Nat) (hk : k ≤ 7) : n / 2 ^ (8 * k) % 256 = n % 18446744073709551616 / 2 ^ (8 * k) % 256 := by
  rcases (by omega : k = 0 ∨ k = 1 ∨ k = 2 ∨ k = 3 ∨ k = 4 ∨ k = 5 ∨ k = 6 ∨ k = 7) with rfl | rfl | rfl | rfl | rfl | rfl | rfl | rfl <;> simp only [Nat.mul_zero, Nat.reduceMul, Int.reducePow] <;> omega

set_option maxRecDepth 100000 in
set_option maxHeartbeats 2000000 in
theorem lowest_any (size n : Int) (w : World) :
    Calls Tryd.prog 40 #[.int .i64 size, .int .i64 n] w
      fun e w' => ∃ v k, e = .returned v ∧ k ≤ 8 ∧ Row w' w.heap.size 5 .u8 v k (lowB size n) ∧ Below w.heap.size w w' := by
  obtain ⟨i0, hi, hz0, hz1, hz2⟩ := info_parts Tryd.infoU8
  by_cases hsz : size < 1 ∨ 8 < size
  · have HU : Hid (lowB size n = []) := by show _ = _; rw [lowB, if_pos hsz]
    have hv : decide (1 ≤ size ∧ size ≤ 8) = false := by simp; omega
    have HV := Lib.hid hv
    clear hv hsz
    go_enter Tryd.func40, Tryd.ntmps40
    go_wp2_with (go_at_call 58; refine (valid_any size false HV.out w).mono ?_; rintro e w' ⟨rfl, rfl⟩)
    go_ret
    refine ⟨_, 0, rfl, by omega, ?_, Below.refl _ _⟩
    rw [HU.out]
    exact nil_row _ _ _ _
  · obtain ⟨s, rfl⟩ : ∃ s : Nat, size = s := ⟨size.toNat, by omega⟩
    have HU : Hid (lowB s n = beI s n) := by show _ = _; rw [lowB, if_neg hsz, Int.toNat_natCast]
    have hs1 : 1 ≤ s := by omega
    have hs8 : s ≤ 8 := by omega
    have hv : decide (1 ≤ (s : Int) ∧ (s : Int) ≤ 8) = true := by simp; omega
    have HV := Lib.hid hv
    clear hv hsz
    go_enter Tryd.func40, Tryd.ntmps40
    go_wp2_with (first
      | (go_at_call 58; refine (valid_any s true HV.out w).mono ?_; rintro e w' ⟨rfl, rfl⟩)
      | (at_make; refine wpList_make_cap rfl _ _ 22 rfl w.heap.size 5 i0 .u8 Tryd.underlying22 hi hz0 hz1 hz2 .i64 .i64 s s _ _ rfl rfl rfl rfl (Nat.le_refl _) (by omega) (Nat.le_refl _) ?_; intro w1 hR1 hb1 hs1'; have HR1 := Lib.hid hR1; clear hR1 hs1'))
    have hlay := layI_zero s n
    rw [← hlay] at HR1
    clear hlay
    go_loopw [14] (fun i wr => ∃ k : Nat, k ≤ s ∧ i = .int .i64 k ∧ Hid (Row wr w.heap.size 5 .u8 (.slice (some ⟨w.heap.size, 0, none⟩) s s) s (layI s n k)) ∧ Below w.heap.size w wr) (fun i _ => s - (intOf i).toNat)
    case atStart => exact ⟨0, by omega, rfl, HR1, hb1⟩
    case round =>
      clear HR1 hb1
      obtain ⟨k, hk, rfl, hR, hb⟩ := hrel
      have hz := hb.size
      by_cases hlt : k < s
      · have hd : decide ((k : Int) < s) = true := by simp; omega
        obtain ⟨q, hq⟩ : ∃ q : Nat, (s : Int) - 1 - k = q := ⟨s - 1 - k, by omega⟩
        have HQ := Lib.hid hq
        have hqs : q < s := by omega
        have hc := hR.out.cell q hqs
        have hf := hR.out.frozen q
        obtain ⟨y, hy⟩ : ∃ y, Hid ((layI s n k).getD q 0 = y) := ⟨_, rfl⟩
        rw [hy.out] at hc
        go_wp2_with fail
        go_roundw
        case measure => simp [intOf]; omega
        case rel =>
          refine ⟨k + 1, by omega, by go_num, ?_, hb.setCell (Nat.le_refl _) _⟩
          show Row _ _ _ _ _ _ _
          have hq' := HQ.out
          rw [layI_next s k n hlt, show s - 1 - k = q by omega, ← low_digit n k (by omega)]
          exact hR.out.set_ q _
      · have hd : decide ((k : Int) < s) = false := by simp; omega
        have hR' := hR.out
        rw [show k = s by omega, layI_all] at hR'
        have HR' := Lib.hid hR'
        clear hR'
        go_wp2_with fail
        go_ret
        refine ⟨_, s, rfl, hs8, ?_, hb⟩
        rw [HU.out]
        exact HR'.out
end Go.Proofs.YtcmbnldeojlhbaaDoor
namespace Go.Proofs.YtcmbnldeojlhbaaDoor
open Go.RowKit

/-- What bytes hands back: the bytes that rawR says, or its error. -/
def GotRaw (w : World) (g : Nat) (xs : List Int) (r : List Int × Nat × Int) (e : Ending) (w' : World) : Prop :=
  ∃ A k c, e = .returned (.tuple #[.slice A k c, .int .i64 r.2.2]) ∧ Seg w' g .u8 A k r.1 ∧ k ≤ xs.length ∧ k ≤ c ∧ c ≤ 9223372036854775807 ∧ WRdr w' g 53 xs r.2.1 0 ∧ But w w' g

set_option maxRecDepth 100000 in
set_option maxHeartbeats 1000000 in
theorem wbytes_any (g p : Nat) (xs : List Int) (m : Int) (w : World) (h : WRdr w g 53 xs p 0) (hxl : xs.length ≤ 1099511627776) :
    Calls Tryd.prog 47 #[.pointer (some ⟨g, 0, none⟩), .int .i64 m] w (GotRaw w g xs (rawR xs p 0 m)) := by
  have H := Lib.hid h
  obtain ⟨A, n, c, h1, h2, h3, h4, h5⟩ := h
  have c0 : w.cell? ⟨g, 0, none⟩ = some (.slice A n c) := cell_of_row w g 0 _ _ (0, 0) h1
  have f0 : w.frozen? ⟨g, 0, none⟩ = false := frozen_of_row w g 0 _ _ h1
  have H1 := Lib.hid h1
  have HS := Lib.hid h2
  have H3 := Lib.hid h3
  have hn : n ≤ 1099511627776 := by omega
  clear h1 h2 h3 hxl
  by_cases hm : m < 0
  · have HU : Hid (rawR xs p 0 m = ([], p, 1)) := by show _ = _; rw [rawR, if_neg (by omega), if_pos hm]
    have hd : decide (m < 0) = true := by simpa using hm
    rw [HU.out]
    go_enter Tryd.func47, Tryd.ntmps47
    go_wp2_with fail
    go_ret2
    exact ⟨none, 0, 0, rfl, Seg.nil _ _ _ _, Nat.zero_le _, Nat.le_refl _, by omega, H.out, but_refl w g⟩
  · have hd : decide (m < 0) = false := by simpa using hm
    obtain ⟨s, rfl⟩ : ∃ s : Nat, m = s := ⟨m.toNat, by omega⟩
    by_cases hlen : n < s
    · have HU : Hid (rawR xs p 0 s = ([], p, 2)) := by show _ = _; rw [rawR, if_neg (by omega), if_neg hm, if_pos (by have := H3.out; omega)]
      have hd2 : decide (n < s) = true := by simpa using hlen
      rw [HU.out]
      clear hlen
      go_enter Tryd.func47, Tryd.ntmps47
      go_wp2_with fail
      go_ret2
      exact ⟨none, 0, 0, rfl, Seg.nil _ _ _ _, Nat.zero_le _, Nat.le_refl _, by omega, H.out, but_refl w g⟩
    · have hd2 : decide (n < s) = false := by simpa using hlen
      have HU : Hid (rawR xs p 0 s = ((xs.drop p).take s, p + s, 0)) := by
        show _ = _
        rw [rawR, if_neg (by omega), if_neg hm, if_neg (by have := H3.out; omega), Int.toNat_natCast]
      have hsn : s ≤ n := by omega
      have hs1 := slice_hm A n c s (by omega)
      have hs2 := slice_from A n c s hsn
      obtain ⟨A2, hA2⟩ : ∃ A2, Hid ((if c = s then A else A.map (·.add s)) = A2) := ⟨_, rfl⟩
      rw [hA2.out] at hs2
      rw [HU.out]
      clear hlen hm
      go_enter Tryd.func47, Tryd.ntmps47
      go_wp2_with fail
      go_ret2
      have hb : But w (w.setCell ⟨g, 0, none⟩ (.slice A2 (n - s) (c - s))) g := (but_refl w g).set_ 0 _
      refine ⟨A, s, s, rfl, (HS.out.take hsn).but hb, by have := H3.out; omega, Nat.le_refl _, by omega, ⟨A2, n - s, c - s, ?_, ?_, by have := H3.out; show p + s + (n - s) = _; omega, by omega, by omega⟩, hb⟩
      · have := heap_setCell_same w g 0 _ _ (.slice A2 (n - s) (c - s)) H1.out
        simpa using this
      · have h := (HS.out.drop (i := s) (cap := c) hsn h4).but hb
        rw [hA2.out, List.drop_drop] at h
        exact h

/-- A try: the number that r says (or none), or its error; on success as many bytes taken as r says. -/
def GotNum (w : World) (g : Nat) (xs : List Int) (r : Int × Nat × Int) (e : Ending) (w' : World) : Prop :=
  ∃ q, e = .returned (.tuple #[.int .i64 r.1, .int .i64 r.2.2]) ∧ WRdr w' g 53 xs q 0 ∧ But w w' g ∧ (r.2.2 = 0 → q = r.2.1)

set_option maxRecDepth 100000 in
set_option maxHeartbeats 4000000 in
theorem wnumber_any (g p : Nat) (xs : List Int) (size : Int) (w : World) (h : WRdr w g 53 xs p 0) (hxl : xs.length ≤ 1099511627776) (hx : InB xs) :
    Calls Tryd.prog 63 #[.pointer (some ⟨g, 0, none⟩), .int .i64 size] w (GotNum w g xs (uintR xs p 0 size)) := by
  have H := Lib.hid h
  have HX := Lib.hid hx
  have hp := h.le
  clear h hx
  by_cases hsz : size < 1 ∨ 8 < size
  · have HU : Hid (uintR xs p 0 size = (0, p, 1)) := by show _ = _; rw [uintR, if_neg (by omega), if_pos hsz]
    have hv : decide (1 ≤ size ∧ size ≤ 8) = false := by simp; omega
    have HV := Lib.hid hv
    rw [HU.out]
    clear hv hsz
    go_enter Tryd.func63, Tryd.ntmps63
    go_wp2_with (go_at_call 58; refine (valid_any size false HV.out w).mono ?_; rintro e w' ⟨rfl, rfl⟩)
    go_ret2
    exact ⟨p, rfl, H.out, but_refl w g, fun _ => rfl⟩
  · obtain ⟨s, rfl⟩ : ∃ s : Nat, size = s := ⟨size.toNat, by omega⟩
    have hv : decide (1 ≤ (s : Int) ∧ (s : Int) ≤ 8) = true := by simp; omega
    have HV := Lib.hid hv
    have hs8 : s ≤ 8 := by omega
    have HB := Lib.hid (wbytes_any g p xs s w H.out hxl)
    by_cases hlen : xs.length < p + s
    · have HU : Hid (uintR xs p 0 s = (0, p, 2)) := by show _ = _; rw [uintR, if_neg (by omega), if_neg hsz, if_pos (by omega)]
      have HR : Hid (rawR xs p 0 s = ([], p, 2)) := by show _ = _; rw [rawR, if_neg (by omega), if_neg (by omega), if_pos (by omega)]
      rw [HR.out] at HB
      rw [HU.out]
      clear hv hsz hlen
      go_enter Tryd.func63, Tryd.ntmps63
      go_wp2_with (first
        | (go_at_call 58; refine (valid_any s true HV.out w).mono ?_; rintro e w' ⟨rfl, rfl⟩)
        | (go_at_call 47; refine HB.out.mono ?_; rintro e w1 ⟨A1, k1, c1, rfl, hS1, hk1, hc1, hcm1, hW1, hB1⟩))
      go_ret2
      exact ⟨p, rfl, hW1, hB1, fun _ => rfl⟩
    · obtain ⟨D, HD⟩ : ∃ D, Hid ((xs.drop p).take s = D) := ⟨_, rfl⟩
      have HDL : Hid (D.length = s) := by show _ = _; rw [← HD.out, List.length_take, List.length_drop]; omega
      have HDB : Hid (InB D) := by show InB D; rw [← HD.out]; exact fun y hy => HX.out y (List.mem_of_mem_drop (List.mem_of_mem_take hy))
      have HU : Hid (uintR xs p 0 s = if 9223372036854775808 ≤ numI D then (0, p, 4) else (numI D, p + s, 0)) := by
        show _ = _
        rw [uintR, if_neg (by omega), if_neg hsz, if_neg (by omega), Int.toNat_natCast, HD.out]
      have HR : Hid (rawR xs p 0 s = (D, p + s, 0)) := by show _ = _; rw [rawR, if_neg (by omega), if_neg (by omega), if_neg (by omega), Int.toNat_natCast, HD.out]
      rw [HR.out] at HB
      clear hv hsz hlen
      go_enter Tryd.func63, Tryd.ntmps63
      go_wp2_with (first
        | (go_at_call 58; refine (valid_any s true HV.out w).mono ?_; rintro e w' ⟨rfl, rfl⟩)
        | (go_at_call 47; refine HB.out.mono ?_; rintro e w1 ⟨A1, k1, c1, rfl, hS1, hk1, hc1, hcm1, hW1, hB1⟩; have hks : k1 = s := (by rw [← hS1.1, HDL.out]); have HS1 := Lib.hid hS1; have HW1 := Lib.hid hW1; subst hks; clear hS1 hW1))
      go_loop [8, 25] (fun v i => ∃ k : Nat, k ≤ k1 ∧ i = .int .i64 k ∧ v = .int .u64 (numI (D.take k))) (fun _ i => k1 - (intOf i).toNat)
      case atStart => exact ⟨0, by omega, rfl, rfl⟩
      case round =>
        obtain ⟨k, hk, rfl, rfl⟩ := hrel
        by_cases hlt : k < k1
        · have hd : decide ((k : Int) < k1) = true := by simp; omega
          obtain ⟨b, off, rfl, _, hc⟩ := HS1.out.2 (by omega)
          have hcx := hc k hlt
          obtain ⟨x, hx⟩ : ∃ x, Hid (D.getD k 0 = x) := ⟨_, rfl⟩
          obtain ⟨hx0, hx1⟩ := inB_getD HDB.out k (by rw [HDL.out]; exact hlt)
          rw [hx.out] at hcx hx0 hx1
          obtain ⟨N, hN⟩ : ∃ N, Hid (numI (D.take k) = N) := ⟨_, rfl⟩
          rw [hN.out]
          clear hc
          go_wp2_with fail
          go_round
          case measure => simp [intOf]; omega
          case rel =>
            refine ⟨k + 1, by omega, by go_num, ?_⟩
            have hb := num_small HDB.out k (by omega)
            rw [hN.out] at hb
            rw [num_take D k (by rw [HDL.out]; omega), hN.out, hx.out, join8 N x hb.1 hb.2 hx0 hx1]
        · have hd : decide ((k : Int) < k1) = false := by simp; omega
          have hks : k = k1 := by omega
          obtain ⟨N, hN⟩ : ∃ N, Hid (numI (D.take k) = N) := ⟨_, rfl⟩
          have hN0 : 0 ≤ N := by rw [← hN.out]; exact (numI_bound _ (HDB.out.take k)).1
          have HU2 : Hid (uintR xs p 0 k1 = if 9223372036854775808 ≤ N then (0, p, 4) else (N, p + k1, 0)) := by
            show _ = _
            rw [HU.out, ← hN.out, List.take_of_length_le (by rw [HDL.out]; omega)]
          rw [hN.out]
          clear hks
          by_cases hbig : 9223372036854775808 ≤ N
          · have hdb : decide (9223372036854775807 < N) = true := by simp; omega
            have HU3 : Hid (uintR xs p 0 k1 = (0, p, 4)) := by show _ = _; rw [HU2.out, if_pos hbig]
            clear hbig
            go_wp2_with fail
            go_ret2
            rw [HU3.out]
            exact ⟨_, rfl, HW1.out, hB1, fun h => by cases h⟩
          · have hdb : decide (9223372036854775807 < N) = false := by simp; omega
            have HU3 : Hid (uintR xs p 0 k1 = (N, p + k1, 0)) := by show _ = _; rw [HU2.out, if_neg hbig]
            have hN1 : N < 9223372036854775808 := by omega
            clear hbig
            go_wp2_with fail
            go_ret2
            rw [HU3.out]
            exact ⟨_, rfl, HW1.out, hB1, fun _ => rfl⟩
end Go.Proofs.YtcmbnldeojlhbaaDoor
namespace Go.Proofs.YtcmbnldeojlhbaaDoor
open Go.RowKit

/-- What a try for bytes hands back. -/
def GotBlob (w : World) (g : Nat) (xs : List Int) (r : List Int × Nat × Int) (e : Ending) (w' : World) : Prop :=
  ∃ A k c q, e = .returned (.tuple #[.slice A k c, .int .i64 r.2.2]) ∧ Seg w' g .u8 A k r.1 ∧ k ≤ xs.length ∧ k ≤ c ∧ c ≤ 9223372036854775807 ∧ WRdr w' g 53 xs q 0 ∧ But w w' g ∧ (r.2.2 = 0 → q = r.2.1)
theorem GotRaw.blob {w w' : World} {g : Nat} {xs : List Int} {r : List Int × Nat × Int} {e : Ending} (h : GotRaw w g xs r e w') : GotBlob w g xs r e w' := by
  obtain ⟨A, k, c, h1, h2, h3, h4, h5, h6, h7⟩ := h
  exact ⟨A, k, c, _, h1, h2, h3, h4, h5, h6, h7, fun _ => rfl⟩

set_option maxRecDepth 100000 in
set_option maxHeartbeats 2000000 in
theorem wblobt_any (g p : Nat) (xs : List Int) (m : Int) (w : World) (h : WRdr w g 53 xs p 0) (hxl : xs.length ≤ 1099511627776) (hx : InB xs) :
    Calls Tryd.prog 46 #[.pointer (some ⟨g, 0, none⟩), .int .i64 m] w (GotBlob w g xs (blobR xs p 0 m)) := by
  have H := Lib.hid h
  have hp := h.le
  have HN := Lib.hid (wnumber_any g p xs 2 w h hxl hx)
  have HX := Lib.hid hx
  clear h hx
  by_cases hlen : xs.length < p + 2
  · have HU : Hid (blobR xs p 0 m = ([], p, 2)) := by show _ = _; rw [blobR, if_neg (by omega), if_pos (by omega)]
    have HR : Hid (uintR xs p 0 2 = (0, p, 2)) := by show _ = _; rw [uintR, if_neg (by omega), if_neg (by omega), if_pos (by omega)]
    rw [HR.out] at HN
    rw [HU.out]
    clear hlen
    go_enter Tryd.func46, Tryd.ntmps46
    go_wp2_with (go_at_call 63; refine HN.out.mono ?_; rintro e w1 ⟨q, rfl, hW1, hB1, hq⟩)
    go_ret2
    exact ⟨none, 0, 0, q, rfl, Seg.nil _ _ _ _, Nat.zero_le _, Nat.le_refl _, by omega, hW1, hB1, fun h => by cases h⟩
  · obtain ⟨D, HD⟩ : ∃ D, Hid ((xs.drop p).take 2 = D) := ⟨_, rfl⟩
    have HDB : Hid (InB D) := by show InB D; rw [← HD.out]; exact fun y hy => HX.out y (List.mem_of_mem_drop (List.mem_of_mem_take hy))
    have hDl : D.length = 2 := by rw [← HD.out, List.length_take, List.length_drop]; omega
    have hNb := numI_bound D HDB.out
    rw [hDl] at hNb
    obtain ⟨N, hN⟩ : ∃ N : Nat, numI D = N := ⟨(numI D).toNat, by omega⟩
    have hN6 : N < 65536 := by have := hNb.2; rw [hN] at this; omega
    have HR : Hid (uintR xs p 0 2 = ((N : Int), p + 2, 0)) := by
      show _ = _
      rw [uintR, if_neg (by omega), if_neg (by omega), if_neg (by omega), show (2 : Int).toNat = 2 from rfl, HD.out, hN, if_neg (by omega)]
    have HU : Hid (blobR xs p 0 m = if m < (N : Int) then ([], p, 4) else if (xs.length : Int) - p < 2 + (N : Int) then ([], p, 2) else ((xs.drop (p + 2)).take N, p + 2 + N, 0)) := by
      show _ = _
      rw [blobR, if_neg (by omega), if_neg (by omega), HD.out, hN, Int.toNat_natCast]
    rw [HR.out] at HN
    clear hNb hN hDl
    by_cases hm : m < (N : Int)
    · have hd : decide (m < (N : Int)) = true := by simpa using hm
      have HU2 : Hid (blobR xs p 0 m = ([], p, 4)) := by show _ = _; rw [HU.out, if_pos hm]
      rw [HU2.out]
      clear hm hlen
      go_enter Tryd.func46, Tryd.ntmps46
      go_wp2_with (go_at_call 63; refine HN.out.mono ?_; rintro e w1 ⟨q, rfl, hW1, hB1, hq⟩; clear hq)
      go_ret2
      exact ⟨none, 0, 0, q, rfl, Seg.nil _ _ _ _, Nat.zero_le _, Nat.le_refl _, by omega, hW1, hB1, fun h => by cases h⟩
    · have hd : decide (m < (N : Int)) = false := by simpa using hm
      have HB : Hid (∀ W : World, WRdr W g 53 xs (p + 2) 0 → Calls Tryd.prog 47 #[.pointer (some ⟨g, 0, none⟩), .int .i64 (N : Int)] W (GotRaw W g xs (rawR xs (p + 2) 0 N))) := fun W hW => wbytes_any g (p + 2) xs N W hW hxl
      by_cases hl2 : (xs.length : Int) - p < 2 + (N : Int)
      focus
        have HU2 : Hid (blobR xs p 0 m = ([], p, 2)) := by show _ = _; rw [HU.out, if_neg hm, if_pos hl2]
        have HRR : Hid (rawR xs (p + 2) 0 N = ([], p + 2, 2)) := by show _ = _; rw [rawR, if_neg (by omega), if_neg (by omega), if_pos (by omega)]
        rw [HRR.out] at HB
      rotate_left
      focus
        have HU2 : Hid (blobR xs p 0 m = ((xs.drop (p + 2)).take N, p + 2 + N, 0)) := by show _ = _; rw [HU.out, if_neg hm, if_neg hl2]
        have HRR : Hid (rawR xs (p + 2) 0 N = ((xs.drop (p + 2)).take N, p + 2 + N, 0)) := by show _ = _; rw [rawR, if_neg (by omega), if_neg (by omega), if_neg (by omega), Int.toNat_natCast]
        rw [HRR.out] at HB
      rotate_left
      all_goals
        rw [HU2.out]
        clear hm hlen hl2 HRR HU HU2 HR
        go_enter Tryd.func46, Tryd.ntmps46
        go_wp2_with (first
          | (go_at_call 47; refine (HB.out w1 HW1.out).mono ?_; rintro e w2 ⟨A2, k2, c2, rfl, hS2, hk2, hc2, hcm2, hW2, hB2⟩)
          | (go_at_call 63; refine HN.out.mono ?_; rintro e w1 ⟨q, rfl, hW1, hB1, hq⟩; have hq2 := hq rfl; rw [hq2] at hW1; have HW1 := Lib.hid hW1; clear hq hq2 hW1))
        go_ret2
        exact ⟨A2, k2, c2, _, rfl, hS2, hk2, hc2, hcm2, hW2, hB1.trans hB2, fun h => (by first | rfl | cases h)⟩

theorem rdr_back {w w1 : World} {g p q : Nat} {T : TypeId} {xs : List Int} {A : Option Addr} {n c : Nat} (err : Int) (h2 : Seg w g .u8 A n (xs.drop p)) (h3 : p + n = xs.length) (h4 : n ≤ c) (h5 : c ≤ 9223372036854775807)
    (hW : WRdr w1 g T xs q 0) (hB : But w w1 g) : WRdr ((w1.setCell ⟨g, 0, none⟩ (.slice A n c)).setCell ⟨g, 1, none⟩ (.int .i64 err)) g T xs p err ∧ But w ((w1.setCell ⟨g, 0, none⟩ (.slice A n c)).setCell ⟨g, 1, none⟩ (.int .i64 err)) g := by
  obtain ⟨A1, n1, c1, e1, _⟩ := hW
  have hB2 : But w ((w1.setCell ⟨g, 0, none⟩ (.slice A n c)).setCell ⟨g, 1, none⟩ (.int .i64 err)) g := (hB.set_ 0 _).set_ 1 _
  refine ⟨⟨A, n, c, ?_, h2.but hB2, h3, h4, h5⟩, hB2⟩
  have s1 := heap_setCell_same w1 g 0 _ T (.slice A n c) e1
  have s2 := heap_setCell_same (w1.setCell ⟨g, 0, none⟩ (.slice A n c)) g 1 _ T (.int .i64 err) s1
  simpa using s2

set_option maxRecDepth 100000 in
set_option maxHeartbeats 2000000 in
theorem trybytes_err (g p : Nat) (xs : List Int) (err : Int) (he : err ≠ 0) (f : Value) (m : Int) (w : World) (h : WRdr w g 53 xs p err) :
    Calls Tryd.prog 45 #[.pointer (some ⟨g, 0, none⟩), f, .int .i64 m] w fun e w' => e = .returned (.slice none 0 0) ∧ w = w' := by
  obtain ⟨A, n, c, h1, h2, h3, h4, h5⟩ := h
  have c1 : w.cell? ⟨g, 1, none⟩ = some (.int .i64 err) := cell_of_row w g 1 _ _ (0, 0) h1
  have hd : (err != 0) = true := by simpa using he
  clear h1 h2 h3 he
  go_enter Tryd.func45, Tryd.ntmps45
  go_wp2_with fail
  go_ret
  exact ⟨rfl, rfl⟩

set_option maxRecDepth 100000 in
set_option maxHeartbeats 2000000 in
theorem trybytes_ok (K : FuncId) (hcf : ∀ args W, (callFunc K args).run Tryd.prog W = .ok (.enter K args) W) (g p : Nat) (xs : List Int) (m : Int) (r : List Int × Nat × Int) (w : World) (h : WRdr w g 53 xs p 0)
    (hK : Calls Tryd.prog K #[.pointer (some ⟨g, 0, none⟩), .int .i64 m] w (GotBlob w g xs r)) (hr : r.2.2 ≠ 0 → r.1 = [] ∧ r.2.1 = p) :
    Calls Tryd.prog 45 #[.pointer (some ⟨g, 0, none⟩), .func (.func K) #[.pointer (some ⟨g, 0, none⟩)] #[], .int .i64 m] w
      fun e w' => ∃ A k c, e = .returned (.slice A k c) ∧ Seg w' g .u8 A k r.1 ∧ k ≤ xs.length ∧ k ≤ c ∧ c ≤ 9223372036854775807 ∧ WRdr w' g 53 xs r.2.1 r.2.2 ∧ But w w' g := by
  obtain ⟨A, n, c, h1, h2, h3, h4, h5⟩ := h
  have c0 : w.cell? ⟨g, 0, none⟩ = some (.slice A n c) := cell_of_row w g 0 _ _ (0, 0) h1
  have c1 : w.cell? ⟨g, 1, none⟩ = some (.int .i64 0) := cell_of_row w g 1 _ _ (0, 0) h1
  have HS := Lib.hid h2
  have H3 := Lib.hid h3
  have HK := Lib.hid hK
  have HR := Lib.hid hr
  clear h1 h2 h3 hK hr
  obtain ⟨x, q, er⟩ := r
  by_cases he : er = 0
  · subst he
    go_enter Tryd.func45, Tryd.ntmps45
    go_wp2_with fail
    refine HK.out.mono ?_
    rintro e w1 ⟨A2, k2, c2, q1, rfl, hS2, hk2, hc2, hcm2, hW1, hB1, hq⟩
    have HW1 := Lib.hid hW1
    have HQ := Lib.hid (hq rfl)
    have HS2 := Lib.hid hS2
    clear hq hW1 hS2
    go_wp2_with fail
    go_ret
    refine ⟨_, _, _, rfl, HS2.out, hk2, hc2, hcm2, ?_, hB1⟩
    have h := HW1.out
    rw [HQ.out] at h
    exact h
  · have hd : (er != 0) = true := by simpa using he
    have HE : Hid (x = [] ∧ q = p) := HR.out he
    clear he
    go_enter Tryd.func45, Tryd.ntmps45
    go_wp2_with fail
    refine HK.out.mono ?_
    rintro e w1 ⟨A2, k2, c2, q1, rfl, hS2, hk2, hc2, hcm2, hW1, hB1, hq⟩
    have HW1 := Lib.hid hW1
    obtain ⟨A1, n1, c1', e1, _⟩ := hW1
    have d0 : w1.cell? ⟨g, 0, none⟩ = some (.slice A1 n1 c1') := cell_of_row w1 g 0 _ _ (0, 0) e1
    have d1 : w1.cell? ⟨g, 1, none⟩ = some (.int .i64 0) := cell_of_row w1 g 1 _ _ (0, 0) e1
    have f0 := frozen_of_row w1 g 0 _ _ e1
    have f1 := frozen_of_row w1 g 1 _ _ e1
    clear hq e1 hS2
    go_wp2_with fail
    go_ret
    obtain ⟨hx, hq⟩ := HE.out
    subst hx hq
    have h := rdr_back er HS.out H3.out h4 h5 HW1.out hB1
    exact ⟨none, 0, 0, rfl, Seg.nil _ _ _ _, Nat.zero_le _, Nat.le_refl _, by omega, h.1, h.2⟩

theorem uintR_back (xs : List Int) (p : Nat) (size : Int) : (uintR xs p 0 size).2.2 ≠ 0 → (uintR xs p 0 size).1 = 0 ∧ (uintR xs p 0 size).2.1 = p := by
  unfold uintR
  rw [if_neg (by omega)]
  split
  · exact fun _ => ⟨rfl, rfl⟩
  split
  · exact fun _ => ⟨rfl, rfl⟩
  split
  · exact fun _ => ⟨rfl, rfl⟩
  · intro h; exact absurd rfl h
theorem rawR_back (xs : List Int) (p : Nat) (m : Int) : (rawR xs p 0 m).2.2 ≠ 0 → (rawR xs p 0 m).1 = [] ∧ (rawR xs p 0 m).2.1 = p := by
  unfold rawR
  rw [if_neg (by omega)]
  split
  · exact fun _ => ⟨rfl, rfl⟩
  split
  · exact fun _ => ⟨rfl, rfl⟩
  · intro h; exact absurd rfl h
theorem blobR_back (xs : List Int) (p : Nat) (m : Int) : (blobR xs p 0 m).2.2 ≠ 0 → (blobR xs p 0 m).1 = [] ∧ (blobR xs p 0 m).2.1 = p := by
  unfold blobR
  rw [if_neg (by omega)]
  split
  · exact fun _ => ⟨rfl, rfl⟩
  split
  · exact fun _ => ⟨rfl, rfl⟩
  split
  · exact fun _ => ⟨rfl, rfl⟩
  · intro h; exact absurd rfl h
theorem uintR_err (xs : List Int) (p : Nat) (err size : Int) (he : err ≠ 0) : uintR xs p err size = (0, p, err) := by rw [uintR, if_pos he]
theorem rawR_err (xs : List Int) (p : Nat) (err m : Int) (he : err ≠ 0) : rawR xs p err m = ([], p, err) := by rw [rawR, if_pos he]
theorem blobR_err (xs : List Int) (p : Nat) (err m : Int) (he : err ≠ 0) : blobR xs p err m = ([], p, err) := by rw [blobR, if_pos he]
end Go.Proofs.YtcmbnldeojlhbaaDoor
namespace Go.Proofs.YtcmbnldeojlhbaaDoor
open Go.RowKit

set_option maxRecDepth 100000 in
set_option maxHeartbeats 1000000 in
theorem wrraw_any (g p : Nat) (xs : List Int) (err m : Int) (w : World) (h : WRdr w g 53 xs p err) (hxl : xs.length ≤ 1099511627776) :
    Calls Tryd.prog 27 #[.pointer (some ⟨g, 0, none⟩), .int .i64 m] w
      fun e w' => ∃ A k c, e = .returned (.slice A k c) ∧ Seg w' g .u8 A k (rawR xs p err m).1 ∧ k ≤ xs.length ∧ k ≤ c ∧ c ≤ 9223372036854775807 ∧ WRdr w' g 53 xs (rawR xs p err m).2.1 (rawR xs p err m).2.2 ∧ But w w' g := by
  have hmf : ∀ (fn : Fn) (first cap : Array Value) (w : World), (Instr.makeFunc fn first cap).run Tryd.prog w = .ok (.func fn first cap) w := fun _ _ _ _ => rfl
  by_cases he : err = 0
  · subst he
    have HT := Lib.hid (trybytes_ok 47 (fun _ _ => rfl) g p xs m _ w h ((wbytes_any g p xs m w h hxl).mono fun _ _ h => h.blob) (rawR_back xs p m))
    clear h
    go_enter Tryd.func27, Tryd.ntmps27
    go_wp2_with fail
    refine HT.out.mono ?_
    rintro e w1 ⟨A1, k1, c1, rfl, hS1, hk1, hc1, hcm1, hW1, hB1⟩
    go_wp2_with fail
    go_ret
    exact ⟨_, _, _, rfl, hS1, hk1, hc1, hcm1, hW1, hB1⟩
  · rw [rawR_err xs p err m he]
    have H := Lib.hid h
    have HT := Lib.hid (fun f => trybytes_err g p xs err he f m w h)
    clear h he
    go_enter Tryd.func27, Tryd.ntmps27
    go_wp2_with fail
    refine (HT.out _).mono ?_
    rintro e w1 ⟨rfl, rfl⟩
    go_wp2_with fail
    go_ret
    exact ⟨none, 0, 0, rfl, Seg.nil _ _ _ _, Nat.zero_le _, Nat.le_refl _, by omega, H.out, but_refl w g⟩
end Go.Proofs.YtcmbnldeojlhbaaDoor
namespace Go.Proofs.YtcmbnldeojlhbaaDoor
open Go.RowKit

set_option maxRecDepth 100000 in
set_option maxHeartbeats 1000000 in
theorem wrblob_any (g p : Nat) (xs : List Int) (err m : Int) (w : World) (h : WRdr w g 53 xs p err) (hxl : xs.length ≤ 1099511627776) (hx : InB xs) :
    Calls Tryd.prog 26 #[.pointer (some ⟨g, 0, none⟩), .int .i64 m] w
      fun e w' => ∃ A k c, e = .returned (.slice A k c) ∧ Seg w' g .u8 A k (blobR xs p err m).1 ∧ k ≤ xs.length ∧ k ≤ c ∧ c ≤ 9223372036854775807 ∧ WRdr w' g 53 xs (blobR xs p err m).2.1 (blobR xs p err m).2.2 ∧ But w w' g := by
  have hmf : ∀ (fn : Fn) (first cap : Array Value) (w : World), (Instr.makeFunc fn first cap).run Tryd.prog w = .ok (.func fn first cap) w := fun _ _ _ _ => rfl
  by_cases he : err = 0
  · subst he
    have HT := Lib.hid (trybytes_ok 46 (fun _ _ => rfl) g p xs m _ w h (wblobt_any g p xs m w h hxl hx) (blobR_back xs p m))
    clear h
    go_enter Tryd.func26, Tryd.ntmps26
    go_wp2_with fail
    refine HT.out.mono ?_
    rintro e w1 ⟨A1, k1, c1, rfl, hS1, hk1, hc1, hcm1, hW1, hB1⟩
    go_wp2_with fail
    go_ret
    exact ⟨_, _, _, rfl, hS1, hk1, hc1, hcm1, hW1, hB1⟩
  · rw [blobR_err xs p err m he]
    have H := Lib.hid h
    have HT := Lib.hid (fun f => trybytes_err g p xs err he f m w h)
    clear h he
    go_enter Tryd.func26, Tryd.ntmps26
    go_wp2_with fail
    refine (HT.out _).mono ?_
    rintro e w1 ⟨rfl, rfl⟩
    go_wp2_with fail
    go_ret
    exact ⟨none, 0, 0, rfl, Seg.nil _ _ _ _, Nat.zero_le _, Nat.le_refl _, by omega, H.out, but_refl w g⟩
end Go.Proofs.YtcmbnldeojlhbaaDoor
namespace Go.Proofs.YtcmbnldeojlhbaaDoor
open Go.RowKit

set_option maxRecDepth 100000 in
set_option maxHeartbeats 2000000 in
theorem wblob_any (A A2 : Option Addr) (l c l2 c2 : Nat) (b x : List Int) (w : World) (hs : Seg w w.heap.size .u8 A l b) (hl : l ≤ 549755813888) (hc : l ≤ c) (hcm : c ≤ 9223372036854775807) (ht : Seg w w.heap.size .u8 A2 l2 x) (hl2 : l2 ≤ 549755813888) (hc2 : l2 ≤ c2) (hcm2 : c2 ≤ 9223372036854775807) :
    Calls Tryd.prog 21 #[.slice A l c, .slice A2 l2 c2] w
      fun e w' => ∃ v k, e = .returned v ∧ k ≤ l + 65545 ∧ Row w' w.heap.size 5 .u8 v k (blobB b x) ∧ Below w.heap.size w w' := by
  have HS := Lib.hid hs
  have HX0 := Lib.hid ht
  clear hs ht
  obtain ⟨m, HM⟩ : ∃ m : Nat, Hid (min l2 65535 = m) := ⟨_, rfl⟩
  have hm : m ≤ l2 := by have := HM.out; omega
  have hm2 : m ≤ 65535 := by have := HM.out; omega
  obtain ⟨X, HXX⟩ : ∃ X, Hid (x.take 65535 = X) := ⟨_, rfl⟩
  have HX : Hid (Seg w w.heap.size .u8 A2 m X) := by
    show Seg _ _ _ _ _ _
    have h := HX0.out.take (i := m) hm
    have e : x.take m = X := by
      rw [← HXX.out, ← HM.out, ← HX0.out.1, Nat.min_comm, ← List.take_eq_take_min]
    rw [e] at h
    exact h
  have HB : Hid (blobB b x = b ++ lowB 2 (m : Int) ++ X) := by
    show _ = _
    rw [blobB, HXX.out, uintB_low, HX.out.1]
  have hmin : min (l2 : Int) 65535 = (m : Int) := by have := HM.out; omega
  have hsl := slice_to A2 l2 c2 m (by omega)
  go_enter Tryd.func21, Tryd.ntmps21
  go_wp2_with fail
  refine (lowest_any 2 m w).mono ?_
  rintro e w1 ⟨v1, k1, rfl, hk1, hR1, hb1⟩
  obtain ⟨A1, c1, rfl, hc1, hcm1⟩ := hR1.cut
  have HR1 := Lib.hid hR1
  have hz1 := hb1.size
  clear hR1
  go_wp2_with fail
  have hba : Below w1.heap.size w1 (w1.alloc (.cells #[.slice A l c, .slice A1 k1 c1, .slice A2 m c2] 22)) := (Below.refl _ _).alloc (Nat.le_refl _) _
  have HF : Hid (Fields (w1.alloc (.cells #[.slice A l c, .slice A1 k1 c1, .slice A2 m c2] 22)) (w1.alloc (.cells #[.slice A l c, .slice A1 k1 c1, .slice A2 m c2] 22)).heap.size (some ⟨w1.heap.size, 0, none⟩) 3 [b, lowB 2 m, X]) :=
    fields3 _ _ A A1 A2 l c k1 c1 m c2 b (lowB 2 m) X (cell_made w1 _ _ _ 0 _ rfl rfl) (cell_made w1 _ _ _ 1 _ rfl rfl) (cell_made w1 _ _ _ 2 _ rfl rfl)
      (((HS.out.below hb1 (Nat.le_refl _)).more hz1 |>.below hba (Nat.le_refl _)).more hba.size) ((HR1.out.seg.below hba (Nat.le_refl _)).more hba.size)
      (((HX.out.below hb1 (Nat.le_refl _)).more hz1 |>.below hba (Nat.le_refl _)).more hba.size) hc (by unfold maxLen; omega) hc1 hcm1 (by omega) (by unfold maxLen; omega)
  have hbw : Below w.heap.size w (w1.alloc (.cells #[.slice A l c, .slice A1 k1 c1, .slice A2 m c2] 22)) := hb1.trans (hba.mono hz1)
  have HT : Hid (tot [b, lowB 2 m, X] = l + k1 + m) := by show _ = _; simp [tot, HS.out.1, HR1.out.length, HX.out.1]; omega
  have HE : Hid ([b, lowB 2 m, X].flatten = blobB b x) := by show _ = _; rw [HB.out]; simp
  generalize hwa : World.alloc _ _ = wa at HF hbw ⊢
  clear hwa hba
  refine (concat_any _ 3 3 _ wa HF.out (by omega) (by rw [HT.out]; omega)).mono ?_
  rintro e w2 ⟨v2, rfl, hR2, hb2⟩
  rw [HT.out, HE.out] at hR2
  have HR2 := Lib.hid hR2
  have hz2 := hbw.size
  have hbw2 := hbw.trans (hb2.mono hz2)
  clear hR2
  go_wp2_with fail
  go_ret
  exact ⟨_, l + k1 + m, rfl, by omega, Row.less HR2.out hz2, hbw2⟩
end Go.Proofs.YtcmbnldeojlhbaaDoor
namespace Go.Proofs.YtcmbnldeojlhbaaDoor
open Go.RowKit

theorem byte_inj {x y : Int} (hx : 0 ≤ x ∧ x < 256) (hy : 0 ≤ y ∧ y < 256) (h : UInt8.ofNat x.toNat = UInt8.ofNat y.toNat) : x = y := by
  have h1 := congrArg UInt8.toNat h
  simp only [UInt8.toNat_ofNat'] at h1
  omega
theorem bytesOf_inj : ∀ (xs ys : List Int), InB xs → InB ys → Lib.bytesOf xs = Lib.bytesOf ys → xs = ys
  | [], [], _, _, _ => rfl
  | [], _ :: _, _, _, h => by simp [Lib.bytesOf] at h
  | _ :: _, [], _, _, h => by simp [Lib.bytesOf] at h
  | x :: xs, y :: ys, hx, hy, h => by
    simp only [Lib.bytesOf, List.map_cons, List.cons.injEq] at h
    rw [byte_inj (hx x (by simp)) (hy y (by simp)) h.1, bytesOf_inj xs ys (fun a ha => hx a (by simp [ha])) (fun a ha => hy a (by simp [ha])) h.2]
theorem sameB_bytes {xs ys : List Int} (hx : InB xs) (hy : InB ys) : (Lib.bytesOf xs == Lib.bytesOf ys) = sameB xs ys := by
  unfold sameB
  rw [Bool.eq_iff_iff]
  simp only [beq_iff_eq, decide_eq_true_eq]
  exact ⟨bytesOf_inj xs ys hx hy, fun h => by rw [h]⟩

theorem conv_seg (A : Option Addr) (n c B : Nat) (xs : List Int) (w : World) (hs : Seg w B .u8 A n xs) : (convert 22 9 (.slice A n c)).run Tryd.prog w = .ok (.string (strOfNums xs)) w := by
  cases A with
  | none =>
    have h0 : n = 0 := by
      rcases Nat.eq_zero_or_pos n with h | h
      · exact h
      · obtain ⟨_, _, h1, _⟩ := hs.2 h
        cases h1
    have hx : xs = [] := List.eq_nil_of_length_eq_zero (by rw [hs.1, h0])
    rw [run_convert_bytes_nil (P := Tryd.prog) w 22 5 Tryd.underlying22 Tryd.underlying5 n c 9 Tryd.underlying9, hx]
    rfl
  | some a =>
    rcases Nat.eq_zero_or_pos n with h | h
    · have hx : xs = [] := List.eq_nil_of_length_eq_zero (by rw [hs.1, h])
      rw [hx, h, run_convert_bytes_string w 22 9 5 _ 0 c Tryd.underlying22 Tryd.underlying5 Tryd.underlying9, run_bytesToString w a 0 c [] (by simp [loadCells]; try rfl)]
      rfl
    · obtain ⟨b, off, h1, _, hc⟩ := hs.2 h
      injection h1 with h1
      subst h1
      exact run_convert_bytes_arg (P := Tryd.prog) w 22 5 Tryd.underlying22 Tryd.underlying5 b off n c xs hs.1 hc 9 Tryd.underlying9

set_option maxHeartbeats 1000000 in
theorem equal_any (A A2 : Option Addr) (n c n2 c2 B B2 : Nat) (xs ys : List Int) (w : World) (hs : Seg w B .u8 A n xs) (ht : Seg w B2 .u8 A2 n2 ys) (hx : InB xs) (hy : InB ys) :
    Calls Tryd.prog 50 #[.slice A n c, .slice A2 n2 c2] w fun e w' => e = .returned (.bool (sameB xs ys)) ∧ w = w' := by
  have h1 := conv_seg A n c B xs w hs
  have h2 := conv_seg A2 n2 c2 B2 ys w ht
  rw [← sameB_bytes hx hy, ← Lib.strOfNums_toList, ← Lib.strOfNums_toList]
  clear hs ht hx hy
  go_enter Tryd.func50, Tryd.ntmps50
  go_wp2
  go_ret
  exact ⟨rfl, rfl⟩

end Go.Proofs.YtcmbnldeojlhbaaDoor
namespace Go.Proofs.YtcmbnldeojlhbaaDoor
open Go.RowKit

theorem mequal_any (A A2 : Option Addr) (n c n2 c2 B B2 : Nat) (xs ys : List Int) (w : World) (hs : Seg w B .u8 A n xs) (ht : Seg w B2 .u8 A2 n2 ys) (hx : InB xs) (hy : InB ys) :
    Calls Tryd.prog 29 #[.slice A n c, .slice A2 n2 c2] w fun e w' => e = .returned (.bool (sameB xs ys)) ∧ w = w' := by
  have HE := Lib.hid (equal_any A A2 n c n2 c2 B B2 xs ys w hs ht hx hy)
  clear hs ht hx hy
  go_enter Tryd.func29, Tryd.ntmps29
  go_wp2_with fail
  refine HE.out.mono ?_
  rintro e w1 ⟨rfl, rfl⟩
  go_wp2_with fail
  go_ret
  exact ⟨rfl, rfl⟩
end Go.Proofs.YtcmbnldeojlhbaaDoor
