/-
  Lists of byte strings in memory.
  How long a frame is.
  The first sixteen bytes of the hash of a frame, on lists.
  One-time signatures as Lean functions on lists of integers, written after chapter 5 of the document.
  The program's length of a digest.
  The program's key derivation.
  Small facts on what a call hands back: a row of bytes that is not empty lies in a block; lengths of digests; the digest of abc.
  The reference's padding, its table and the bytes of words.
  The reference's bytes of words and its table.
-/
import Derived.Test.YtmpalhejjmjmeaaDoorBase1
import Derived.Test.YtmpalhejjmjmeaaDoorBase3
import Derived.Lib.SlBytesConst
import Derived.Deep.RegionHeld3
import Derived.Great.BuildSlice
namespace Go.Proofs.YtmpalhejjmjmeaaDoor
open Go.RowKit

/-- A slice of slices of bytes that reads as a list of lists. -/
def Fields (w : World) (B : Nat) (A : Option Addr) (n : Nat) (fs : List (List Int)) : Prop :=
  fs.length = n ∧ (0 < n → ∃ b off, A = some ⟨b, off, none⟩ ∧ b < B ∧ ∀ j, j < n → ∃ A' n' c', w.cell? ⟨b, off + j, none⟩ = some (.slice A' n' c') ∧ Seg w B .u8 A' n' (fs.getD j []) ∧ n' ≤ c' ∧ c' ≤ maxLen)
theorem Fields.below {w w' : World} {B B' : Nat} {A : Option Addr} {n : Nat} {fs : List (List Int)} (h : Fields w B A n fs) (hb : Below B' w w') (hB : B ≤ B') : Fields w' B A n fs :=
  ⟨h.1, fun hn => by
    obtain ⟨b, off, e, hlt, hc⟩ := h.2 hn
    refine ⟨b, off, e, hlt, fun j hj => ?_⟩
    obtain ⟨A', n', c', h1, h2, h3, h4⟩ := hc j hj
    exact ⟨A', n', c', (hb.cell (p := ⟨b, off + j, none⟩) (by show b < B'; omega)).trans h1, h2.below hb hB, h3, h4⟩⟩
theorem Fields.more {w : World} {B B' : Nat} {A : Option Addr} {n : Nat} {fs : List (List Int)} (h : Fields w B A n fs) (hB : B ≤ B') : Fields w B' A n fs :=
  ⟨h.1, fun hn => by
    obtain ⟨b, off, e, hlt, hc⟩ := h.2 hn
    refine ⟨b, off, e, by omega, fun j hj => ?_⟩
    obtain ⟨A', n', c', h1, h2, h3, h4⟩ := hc j hj
    exact ⟨A', n', c', h1, h2.more hB, h3, h4⟩⟩

/-- How many bytes the first fields hold. -/
def tot (fs : List (List Int)) : Nat := (fs.map List.length).sum
theorem tot_take (fs : List (List Int)) (k : Nat) (h : k < fs.length) : tot (fs.take (k + 1)) = tot (fs.take k) + (fs.getD k []).length := by
  have : fs.take (k + 1) = fs.take k ++ [fs.getD k []] := by rw [List.take_add_one, List.getElem?_eq_getElem h]; simp [List.getD, h]
  rw [this]
  simp [tot]
theorem tot_take_le (fs : List (List Int)) (k : Nat) : tot (fs.take k) ≤ tot fs := by
  have h : tot fs = tot (fs.take k) + tot (fs.drop k) := by
    have e : tot (fs.take k ++ fs.drop k) = tot (fs.take k) + tot (fs.drop k) := by simp only [tot, List.map_append, List.sum_append]
    rw [List.take_append_drop] at e
    exact e
  omega
theorem tot_get_le (fs : List (List Int)) (k : Nat) (h : k < fs.length) : (fs.getD k []).length ≤ tot fs := by
  have h1 := tot_take fs k h
  have h2 := tot_take_le fs (k + 1)
  omega
/-- A list of two fields that the call itself has laid. -/
theorem fields2 (W : World) (g : Nat) (A1 A2 : Option Addr) (n1 c1 n2 c2 : Nat) (xs ys : List Int) (hc0 : W.cell? ⟨g, 0, none⟩ = some (.slice A1 n1 c1)) (hc1 : W.cell? ⟨g, 1, none⟩ = some (.slice A2 n2 c2))
    (h1 : Seg W W.heap.size .u8 A1 n1 xs) (h2 : Seg W W.heap.size .u8 A2 n2 ys) (b1 : n1 ≤ c1) (m1 : c1 ≤ maxLen) (b2 : n2 ≤ c2) (m2 : c2 ≤ maxLen) : Fields W W.heap.size (some ⟨g, 0, none⟩) 2 [xs, ys] :=
  ⟨rfl, fun _ => ⟨g, 0, rfl, block_lt_of_cell hc0, fun j hj => by
    rcases (by omega : j = 0 ∨ j = 1) with rfl | rfl
    · exact ⟨A1, n1, c1, hc0, h1, b1, m1⟩
    · exact ⟨A2, n2, c2, hc1, h2, b2, m2⟩⟩⟩
theorem fields1 (W : World) (g : Nat) (A1 : Option Addr) (n1 c1 : Nat) (xs : List Int) (hc0 : W.cell? ⟨g, 0, none⟩ = some (.slice A1 n1 c1))
    (h1 : Seg W W.heap.size .u8 A1 n1 xs) (b1 : n1 ≤ c1) (m1 : c1 ≤ maxLen) : Fields W W.heap.size (some ⟨g, 0, none⟩) 1 [xs] :=
  ⟨rfl, fun _ => ⟨g, 0, rfl, block_lt_of_cell hc0, fun j hj => by
    obtain rfl : j = 0 := by omega
    exact ⟨A1, n1, c1, hc0, h1, b1, m1⟩⟩⟩
/-- A list of three fields that the call itself has laid. -/
theorem fields3 (W : World) (g : Nat) (A1 A2 A3 : Option Addr) (n1 c1 n2 c2 n3 c3 : Nat) (xs ys zs : List Int) (hc0 : W.cell? ⟨g, 0, none⟩ = some (.slice A1 n1 c1)) (hc1 : W.cell? ⟨g, 1, none⟩ = some (.slice A2 n2 c2)) (hc2 : W.cell? ⟨g, 2, none⟩ = some (.slice A3 n3 c3))
    (h1 : Seg W W.heap.size .u8 A1 n1 xs) (h2 : Seg W W.heap.size .u8 A2 n2 ys) (h3 : Seg W W.heap.size .u8 A3 n3 zs) (b1 : n1 ≤ c1) (m1 : c1 ≤ maxLen) (b2 : n2 ≤ c2) (m2 : c2 ≤ maxLen) (b3 : n3 ≤ c3) (m3 : c3 ≤ maxLen) : Fields W W.heap.size (some ⟨g, 0, none⟩) 3 [xs, ys, zs] :=
  ⟨rfl, fun _ => ⟨g, 0, rfl, block_lt_of_cell hc0, fun j hj => by
    rcases (by omega : j = 0 ∨ j = 1 ∨ j = 2) with rfl | rfl | rfl
    · exact ⟨A1, n1, c1, hc0, h1, b1, m1⟩
    · exact ⟨A2, n2, c2, hc1, h2, b2, m2⟩
    · exact ⟨A3, n3, c3, hc2, h3, b3, m3⟩⟩⟩
end Go.Proofs.YtmpalhejjmjmeaaDoor
namespace Go.Proofs.YtmpalhejjmjmeaaDoor
open Go.RowKit

theorem frameI_take (tag : Int) (fs : List (List Int)) (k : Nat) (h : k < fs.length) : frameI tag (fs.take (k + 1)) = frameI tag (fs.take k) ++ be4 (((fs.getD k []).length : Int) % 4294967296) ++ fs.getD k [] := by
  have : fs.take (k + 1) = fs.take k ++ [fs.getD k []] := by rw [List.take_add_one, List.getElem?_eq_getElem h]; simp [List.getD, h]
  rw [this]
  simp [frameI]
theorem frameI_length (tag : Int) (fs : List (List Int)) : (frameI tag fs).length = 1 + 4 * fs.length + tot fs := by
  induction fs with
  | nil => rfl
  | cons f l ih => simp [frameI, tot, be4] at ih ⊢; omega
end Go.Proofs.YtmpalhejjmjmeaaDoor
namespace Go.Proofs.YtmpalhejjmjmeaaDoor
open Go.RowKit

/-- The first sixteen bytes of the hash of a frame. -/
def hash16 (tag : Int) (fs : List (List Int)) : List Int := (sha256 (frameI tag fs)).take 16
theorem hash16_length (tag : Int) (fs : List (List Int)) : (hash16 tag fs).length = 16 := by rw [hash16, List.length_take, sha256_length]; rfl
end Go.Proofs.YtmpalhejjmjmeaaDoor
namespace Go.Proofs.YtmpalhejjmjmeaaDoor
open Go.RowKit

/-- The halves of bytes, and what they lack of fifteen. -/
def halves (m : List Int) : List Int := (m.map fun x => [x / 16, x % 16]).flatten
def lacks (m : List Int) : Int := (m.map fun x => 30 - x / 16 - x % 16).sum
def digitsOf (m : List Int) : List Int := halves m ++ [lacks m / 256, lacks m / 16 % 16, lacks m % 16]
def digitsI (message : List Int) : List Int := digitsOf (hash16 4 [message])
/-- One step of a chain; several. -/
def stepC (leaf c p : Int) (x : List Int) : List Int := hash16 1 [[leaf % 256, c % 256, p % 256], x]
def chainI (leaf c p : Int) (x : List Int) : Nat → List Int
  | 0 => x
  | j + 1 => stepC leaf c (p + j) (chainI leaf c p x j)
def labelC : ByteArray := { data := #[99, 104, 97, 105, 110] }
def startI (seed : List Int) (leaf c : Int) : List Int := deriveI seed (strI labelC) [leaf % 256, c % 256] 16
def valueI (leaf : Int) (ends : List Int) : List Int := hash16 2 [[leaf % 256], ends]
/-- The first k of the bytes that f gives for 0, 1, 2 .. -/
def catI (f : Nat → List Int) : Nat → List Int
  | 0 => []
  | k + 1 => catI f k ++ f k
def publicI (seed : List Int) (leaf : Int) : List Int := if leaf < 0 ∨ 255 < leaf then [] else valueI leaf (catI (fun c => chainI leaf c 0 (startI seed leaf c) 15) 35)
def signI (seed : List Int) (leaf : Int) (message : List Int) : List Int :=
  if leaf < 0 ∨ 255 < leaf then [] else catI (fun c => chainI leaf c 0 (startI seed leaf c) ((digitsI message).getD c 0).toNat) 35
def recoverI (leaf : Int) (message sig : List Int) : List Int × Bool :=
  if leaf < 0 ∨ 255 < leaf ∨ sig.length ≠ 560 then ([], false)
  else (valueI leaf (catI (fun c => chainI leaf c ((digitsI message).getD c 0) ((sig.drop (16 * c)).take 16) (15 - ((digitsI message).getD c 0).toNat)) 35), true)

theorem stepC_length (leaf c p : Int) (x : List Int) : (stepC leaf c p x).length = 16 := hash16_length _ _
theorem chainI_length (leaf c p : Int) (x : List Int) (hx : x.length = 16) (j : Nat) : (chainI leaf c p x j).length = 16 := by
  cases j with
  | zero => exact hx
  | succ j => exact stepC_length _ _ _ _
theorem catI_length (f : Nat → List Int) (k : Nat) (h : ∀ c, c < k → (f c).length = 16) : (catI f k).length = 16 * k := by
  induction k with
  | zero => rfl
  | succ k ih => rw [catI, List.length_append, ih (fun c hc => h c (by omega)), h k (by omega)]; omega
theorem startI_length (seed : List Int) (leaf c : Int) : (startI seed leaf c).length = 16 := by
  have := deriveI_length seed (strI labelC) [leaf % 256, c % 256] 16
  unfold startI
  simp at this
  omega
/-- Two parts of a chain, one after the other. -/
theorem chainI_add (leaf c p : Int) (x : List Int) (i j : Nat) : chainI leaf c (p + i) (chainI leaf c p x i) j = chainI leaf c p x (i + j) := by
  induction j with
  | zero => rfl
  | succ j ih =>
    rw [chainI, ih, ← Nat.add_assoc, chainI]
    congr 1
    omega
theorem digitsI_length (message : List Int) : (digitsI message).length = 35 := by
  have h := hash16_length 4 [message]
  have e : ∀ m : List Int, (halves m).length = 2 * m.length := fun m => by
    induction m with
    | nil => rfl
    | cons x m ih => simp [halves] at ih ⊢; omega
  rw [digitsI, digitsOf, List.length_append, e, h]
  rfl
end Go.Proofs.YtmpalhejjmjmeaaDoor
namespace Go.Proofs.YtmpalhejjmjmeaaDoor
open Go.RowKit

theorem size_any (alg : Int) (w : World) :
    Calls Tryd.prog 50 #[.int .i64 alg] w fun e w' => e = .returned (.int .i64 (sizeI alg)) ∧ w = w' := by
  by_cases h0 : alg = 0
  · subst h0
    go_enter Tryd.func50, Tryd.ntmps50
    go_wp2
    go_ret
    exact ⟨rfl, rfl⟩
  · by_cases h1 : alg = 1
    · subst h1
      go_enter Tryd.func50, Tryd.ntmps50
      go_wp2
      go_ret
      exact ⟨rfl, rfl⟩
    · have e0 : (alg == 0) = false := by simpa using h0
      have e1 : (alg == 1) = false := by simpa using h1
      have hd : sizeI alg = 0 := by simp [sizeI, h0, h1]
      have HD := Lib.hid hd
      clear hd
      go_enter Tryd.func50, Tryd.ntmps50
      go_wp2
      go_ret
      exact ⟨by rw [HD.out]; rfl, rfl⟩
end Go.Proofs.YtmpalhejjmjmeaaDoor
namespace Go.Proofs.YtmpalhejjmjmeaaDoor
open Go.RowKit

set_option maxRecDepth 100000 in
set_option maxHeartbeats 2000000 in
theorem derive_out (A A2 : Option Addr) (n c n2 c2 : Nat) (label : ByteArray) (m : Int) (w : World) (hm : m < 1 ∨ 1024 < m) :
    Calls Tryd.prog 37 #[.slice A n c, .string label, .slice A2 n2 c2, .int .i64 m] w
      fun e w' => e = .returned (.slice none 0 0) ∧ Below w.heap.size w w' := by
  go_enter Tryd.func37, Tryd.ntmps37
  have hb : ∀ o1 o2 o3 o4 : Obj, Below w.heap.size w ((((w.alloc o1).alloc o2).alloc o3).alloc o4) := fun o1 o2 o3 o4 =>
    ((((Below.refl _ _).alloc (Nat.le_refl _) _).alloc (by simp) _).alloc (by simp; omega) _).alloc (by simp; omega) _
  rcases hm with hm | hm
  · have hd : decide (m < 1) = true := by simpa using hm
    go_wp2_with fail
    go_ret
    exact ⟨rfl, hb _ _ _ _⟩
  · have hd : decide (m < 1) = false := by simp; omega
    have hd2 : decide (1024 < m) = true := by simpa using hm
    go_wp2_with fail
    go_ret
    exact ⟨rfl, hb _ _ _ _⟩

set_option maxRecDepth 100000 in
set_option maxHeartbeats 2000000 in
theorem derive_in (A A2 : Option Addr) (n c n2 c2 : Nat) (key ctx : List Int) (label : ByteArray) (m : Nat) (w : World) (hs : Seg w w.heap.size .u8 A n key) (hn : n ≤ 1048576) (hc : n ≤ c) (hcm : c ≤ 9223372036854775807)
    (ht : Seg w w.heap.size .u8 A2 n2 ctx) (hn2 : n2 ≤ 1048576) (hlab : label.size ≤ 1048576) (hm0 : 1 ≤ m) (hm1 : m ≤ 1024) (hK : Tab w 0 .u32 kay256) :
    Calls Tryd.prog 37 #[.slice A n c, .string label, .slice A2 n2 c2, .int .i64 (m : Int)] w
      fun e w' => ∃ v, e = .returned v ∧ (∃ A', v = .slice A' m m ∧ Seg w' w'.heap.size .u8 A' m (deriveI key (strI label) ctx m)) ∧ Below w.heap.size w w' := by
  obtain ⟨i0, hi, hz0, hz1, hz2⟩ := info_parts Tryd.infoU8
  have HS := Lib.hid hs
  have HT := Lib.hid ht
  have HK := Lib.hid hK
  have h0 : 0 < w.heap.size := hK.lt
  have hd : decide ((m : Int) < 1) = false := by simp; omega
  have hd2 : decide ((1024 : Int) < m) = false := by simp; omega
  have CS : Hid (∀ W, Calls Tryd.prog 50 #[.int .i64 1] W fun e w' => e = .returned (.int .i64 32) ∧ W = w') := fun W => size_any 1 W
  obtain ⟨P, HP⟩ : ∃ P : Nat, Hid (P = (m + 31) / 32) := ⟨_, rfl⟩
  have hP : ((m : Int) + 32 - 1) / 32 = (P : Int) := by rw [HP.out]; omega
  have hPb : 32 * P < m + 32 := by rw [HP.out]; omega
  have hPm : m ≤ 32 * P := by rw [HP.out]; omega
  clear hs ht hK
  go_enter Tryd.func37, Tryd.ntmps37
  go_wp2_with (first
    | (go_at_call 50; refine (CS.out _).mono ?_; rintro e w' ⟨rfl, rfl⟩)
    | (at_make; generalize hw0 : World.alloc _ _ = w0; refine wpList_make_own _ rfl _ _ 22 rfl w0.heap.size 5 i0 (.int .u8 0) 1 Tryd.underlying22 hi hz0 hz1 .i64 .i64 _ (P * 32) rfl rfl (by omega) (by rw [hz2]; omega) (by unfold maxLen; omega) (Nat.le_refl _) ?_; intro w1 hown1 hg1))
  have hb0 : Below w.heap.size w w0 := by
    rw [← hw0]
    exact ((((Below.refl _ _).alloc (Nat.le_refl _) _).alloc (by simp) _).alloc (by simp; omega) _).alloc (by simp; omega) _
  obtain ⟨hc0, hc1, hc2', hc3⟩ := four_boxes w (.slice A n c) (.string label) (.slice A2 n2 c2) (.int .i64 m) 22 9 22 3
  rw [hw0] at hc0 hc1 hc2' hc3
  obtain ⟨gn, HGN⟩ : ∃ g, Hid (w.heap.size + 1 + 1 + 1 = g) := ⟨_, rfl⟩
  obtain ⟨gc, HGC⟩ : ∃ g, Hid (w.heap.size + 1 + 1 = g) := ⟨_, rfl⟩
  obtain ⟨gl, HGL⟩ : ∃ g, Hid (w.heap.size + 1 = g) := ⟨_, rfl⟩
  rw [HGN.out] at hc3 ⊢
  rw [HGC.out] at hc2' ⊢
  rw [HGL.out] at hc1 ⊢
  have bk := block_lt_of_cell hc0
  have bl := block_lt_of_cell hc1
  have bc := block_lt_of_cell hc2'
  have bn := block_lt_of_cell hc3
  have H0 := Lib.hid hc0
  have H1 := Lib.hid hc1
  have H2 := Lib.hid hc2'
  have H3 := Lib.hid hc3
  have hb1 : Below w0.heap.size w0 w1 := (Below.refl _ _).grown hg1 (Nat.le_refl _) (fun r hr => by cases hr)
  have hz0' := hb0.size
  have HS0 := Lib.hid (HS.out.below hb0 (Nat.le_refl _))
  have HT0 := Lib.hid (HT.out.below hb0 (Nat.le_refl _))
  have HK0 := Lib.hid (HK.out.below hb0 h0)
  clear hc0 hc1 hc2' hc3 hw0 hg1
  go_loopw [12, 33] (fun v i wr => ∃ k : Nat, k ≤ P ∧ i = .int .i64 k ∧ Hid (Row wr w0.heap.size 5 .u8 v (32 * k) (partsI key (strI label) ctx m k)) ∧ Below w0.heap.size w0 wr) (fun _ i _ => P - (intOf i).toNat)
  case atStart => exact ⟨0, by omega, rfl, hown1, hb1⟩
  case round =>
    clear hown1 hb1
    obtain ⟨k, hk, rfl, hR, hb⟩ := hrel
    have hz := hb.size
    by_cases hlt : k < P
    · have hdk : decide ((k : Int) < P) = true := by simp; omega
      have HSr := Lib.hid ((HS0.out.below hb hz0').more (Nat.le_trans hz0' hz))
      have HTr := Lib.hid ((HT0.out.below hb hz0').more (Nat.le_trans hz0' hz))
      have HKr := Lib.hid (HK0.out.below hb HK0.out.lt)
      go_wp2_with fail
      refine (part_any ((k : Int) + 1) gl gc w.heap.size gn label A A2 n c n2 c2 key ctx m wr ((hb.cell (p := ⟨gl, 0, none⟩) bl).trans H1.out) ((hb.cell (p := ⟨gc, 0, none⟩) bc).trans H2.out) ((hb.cell (p := ⟨w.heap.size, 0, none⟩) bk).trans H0.out) ((hb.cell (p := ⟨gn, 0, none⟩) bn).trans H3.out) HSr.out hn hc hcm HTr.out hn2 hlab (by omega) (by omega) (by omega) (by omega) HKr.out).mono ?_
      rintro e w2 ⟨v2, rfl, hR2, hb2⟩
      have HR2 := Lib.hid hR2
      obtain ⟨A3, c3, rfl, _, _⟩ := hR2.cut
      have hbw2 := hb.trans (hb2.mono hz)
      have hzw2 := hbw2.size
      have HO := Lib.hid (hR.out.below hb2)
      have HOL := Lib.hid hR.out.length
      clear hR2
      go_wp2_with (at_builtin; refine wpList_app _ rfl (.tmp 36) (.tmp 40) 22 rfl w0.heap.size 5 i0 (.int .u8 0) 1 Tryd.underlying22 hi hz0 hz1 hz2 rfl .u8 _ (partsI key (strI label) ctx m k) rfl HO.out.own w2.heap.size A3 32 c3 (partI key (strI label) ctx m ((k : Int) + 1)) rfl HR2.out.seg (by unfold maxLen; rw [HOL.out]; omega) (by rw [HOL.out]; omega) hzw2 ?_; intro v4 w4 hown4 hg4 hor4; have hb4 : Below w0.heap.size w0 w4 := own_below HO.out.own hg4 hbw2 hzw2)
      go_roundw
      case measure => simp [intOf]; omega
      case rel => exact ⟨k + 1, by omega, by go_num, hown4.row (by rw [List.length_append, HOL.out, partI_length]; omega), hb4⟩
    · have hdk : decide ((k : Int) < P) = false := by simp; omega
      have hkP : k = P := by omega
      rw [hkP] at hR
      obtain ⟨A5, c5, rfl, hc5, hcm5⟩ := hR.out.cut
      have hrun := fun W => slice_hm A5 (32 * P) c5 m (by omega) W
      have hn3 := (hb.cell (p := ⟨gn, 0, none⟩) bn).trans H3.out
      clear hkP
      have hD : deriveI key (strI label) ctx m = (partsI key (strI label) ctx m P).take m := by
        rw [deriveI, if_neg (by omega), Int.toNat_natCast, HP.out]
      have HD := Lib.hid hD
      clear hD
      go_wp2_with fail
      go_ret
      refine ⟨_, rfl, ⟨A5, rfl, ?_⟩, hb0.trans (hb.mono hz0')⟩
      rw [HD.out]
      exact hR.out.seg.take hPm

/-- Key derivation for any number of bytes. -/
theorem derive_any (A A2 : Option Addr) (n c n2 c2 : Nat) (key ctx : List Int) (label : ByteArray) (m : Int) (w : World) (hs : Seg w w.heap.size .u8 A n key) (hn : n ≤ 1048576) (hc : n ≤ c) (hcm : c ≤ 9223372036854775807)
    (ht : Seg w w.heap.size .u8 A2 n2 ctx) (hn2 : n2 ≤ 1048576) (hlab : label.size ≤ 1048576) (hK : Tab w 0 .u32 kay256) :
    Calls Tryd.prog 37 #[.slice A n c, .string label, .slice A2 n2 c2, .int .i64 m] w
      fun e w' => ∃ A' k c', e = .returned (.slice A' k c') ∧ (k ≤ 1024 ∧ k ≤ c' ∧ c' ≤ maxLen) ∧ Seg w' w'.heap.size .u8 A' k (deriveI key (strI label) ctx m) ∧ Below w.heap.size w w' := by
  by_cases hm : m < 1 ∨ 1024 < m
  · refine (derive_out A A2 n c n2 c2 label m w hm).mono ?_
    rintro e w' ⟨rfl, hb⟩
    refine ⟨none, 0, 0, rfl, ⟨by omega, by omega, by unfold maxLen; omega⟩, ?_, hb⟩
    rw [deriveI, if_pos hm]
    exact Seg.nil _ _ _ _
  · obtain ⟨q, rfl⟩ : ∃ q : Nat, m = q := ⟨m.toNat, by omega⟩
    refine (derive_in A A2 n c n2 c2 key ctx label q w hs hn hc hcm ht hn2 hlab (by omega) (by omega) hK).mono ?_
    rintro e w' ⟨v, rfl, ⟨A', rfl, h⟩, hb⟩
    exact ⟨A', q, q, rfl, ⟨by omega, by omega, by unfold maxLen; omega⟩, h, hb⟩
end Go.Proofs.YtmpalhejjmjmeaaDoor
namespace Go.Proofs.YtmpalhejjmjmeaaDoor
open Go.RowKit

set_option maxRecDepth 1000000 in
theorem sha256_abc : sha256 [97, 98, 99] = [186, 120, 22, 191, 143, 1, 207, 234, 65, 65, 64, 222, 93, 174, 34, 35, 176, 3, 97, 163, 150, 23, 122, 156, 180, 16, 255, 97, 242, 0, 21, 173] := by decide +kernel
theorem digestI_length (alg : Int) (xs : List Int) : ((digestI alg xs).length : Int) = sizeI alg := by
  unfold digestI sizeI
  split
  · rw [sha1_length]; rfl
  · split
    · rw [sha256_length]; rfl
    · rfl

end Go.Proofs.YtmpalhejjmjmeaaDoor
namespace Go.Proofs.YtmpalhejjmjmeaaDoor
open Go.RowKit

/-- The eight bytes of a length. -/
def be8 (x : Int) (k : Nat) : List Int := (List.range k).map fun j => x / 2 ^ (8 * (7 - j)) % 256
theorem be8_next (x : Int) (k : Nat) : be8 x (k + 1) = be8 x k ++ [x / 2 ^ (8 * (7 - k)) % 256] := by simp [be8, List.range_succ]
theorem be8_full (n : Nat) (hn : n ≤ 1099511627776) : be8 ((n : Int) * 8) 8 = tail8 n := by
  simp only [be8, tail8, be4, List.range, List.range.loop, List.map, List.cons_append, List.nil_append, List.cons.injEq, and_true]
  omega

set_option maxRecDepth 100000 in
set_option maxHeartbeats 2000000 in
theorem rpad_any (A : Option Addr) (n c : Nat) (xs : List Int) (w : World) (hs : Seg w w.heap.size .u8 A n xs) (hn : n ≤ 1099511627776) :
    Calls Tryd.prog 43 #[.slice A n c] w fun e w' => ∃ v, e = .returned v ∧ Own w' w.heap.size 5 .u8 v (padded xs) ∧ Below w.heap.size w w' := by
  obtain ⟨i0, hi, hz0, hz1, hz2⟩ := info_parts Tryd.infoU8
  have HS := Lib.hid hs
  have hxl : xs.length = n := hs.1
  clear hs
  have hown0 : (w.alloc (.cells #[] 5)).ownsRow w.heap.size 5 1 (.slice (some ⟨w.heap.size, 0, none⟩) 0 0) 0 [] :=
    ⟨rfl, .inr ⟨w.heap.size, 0, #[], rfl, Nat.le_refl _, heap_alloc_new w _, Nat.le_refl _, by unfold maxLen; omega, rfl, rfl⟩⟩
  have hb0 : Below w.heap.size w (w.alloc (.cells #[] 5)) := (Below.refl _ _).alloc (Nat.le_refl _) _
  have hs0 := HS.out.below hb0 (Nat.le_refl _)
  go_enter Tryd.func43, Tryd.ntmps43
  go_wp2_with (first
    | (at_builtin; refine wpList_app _ rfl (.tmp 6) (.tmp 7) 22 rfl w.heap.size 5 i0 (.int .u8 0) 1 Tryd.underlying22 hi hz0 hz1 hz2 rfl .u8 _ [] rfl hown0 _ A n c xs rfl hs0 (by unfold maxLen; simp; omega) (by simp; omega) hb0.size ?_; intro v2 w2 hown2 hg2 hor2; have hb2 := own_below (k := .u8) (xs := []) hown0 hg2 hb0 hb0.size; have hz2' := hb2.size; clear hg2 hor2)
    | (at_builtin; refine wpList_app _ rfl (.tmp 8) (.tmp 9) 22 rfl w.heap.size 5 i0 (.int .u8 0) 1 Tryd.underlying22 hi hz0 hz1 hz2 rfl .u8 _ ([] ++ xs) rfl (hown2.alloc _) (w2.heap.size + 1) (some ⟨w2.heap.size, 0, none⟩) 1 1 [128] rfl ((Seg.of_blk (Blk.new w2 5 .u8 [128])).more (by simp)) (by unfold maxLen; simp; omega) (by simp; omega) (by simp; omega) ?_; intro v3 w3 hown3 hg3 hor3; have hb3 := own_below (hown2.alloc _) hg3 (hb2.alloc hz2' _) (by simp; omega); have hz3' := hb3.size; clear hg3 hown2 hor3))
  clear hb0 hs0 hown0 hb2 hz2'
  go_loopw [3] (fun v wr => ∃ (j : Nat) (A' : Option Addr) (c' : Nat), j ≤ (119 - n % 64) % 64 ∧ v = .slice A' (n + 1 + j) c' ∧ Own wr w.heap.size 5 .u8 v (xs ++ 128 :: List.replicate j 0) ∧ Below w.heap.size w wr)
    (fun v _ => n + 1 + 64 - lenOf v)
  case atStart =>
    obtain ⟨A', c', hv, _, _⟩ := Own.cut hown3
    exact ⟨0, A', c', by omega, by rw [hv]; simp [hxl], by simpa using hown3, hb3⟩
  case round =>
    clear hown3 hb3 hz3'
    obtain ⟨j, A', c', hj, rfl, hown, hb⟩ := hrel
    have hz := hb.size
    have hln : (xs ++ 128 :: List.replicate j 0).length = n + 1 + j := by simp [hxl]; omega
    have HL := Lib.hid hln
    clear hln
    by_cases hlt : j < (119 - n % 64) % 64
    · have hne : (((n : Int) + 1 + j) % 64 != 56) = true := by rw [bne_iff_ne]; omega
      have hl2 := HL.out
      go_wp2_with (at_builtin; refine wpList_app _ rfl (.tmp 15) (.tmp 16) 22 rfl w.heap.size 5 i0 (.int .u8 0) 1 Tryd.underlying22 hi hz0 hz1 hz2 rfl .u8 _ (xs ++ 128 :: List.replicate j 0) rfl (hown.alloc _) (wr.heap.size + 1) (some ⟨wr.heap.size, 0, none⟩) 1 1 [0] rfl ((Seg.of_blk (Blk.new wr 5 .u8 [0])).more (by simp)) (by unfold maxLen; rw [HL.out]; omega) (by rw [HL.out]; omega) (by simp; omega) ?_; intro v3 w3 hown3 hg3 hor3; have hb3 := own_below (hown.alloc _) hg3 (hb.alloc hz _) (by simp; omega); clear hg3 hor3)
      obtain ⟨A3, c3, hv3, _, _⟩ := Own.cut hown3
      have hl3 : (xs ++ 128 :: List.replicate j 0 ++ [0]).length = n + 1 + (j + 1) := by rw [List.length_append, hl2]; rfl
      rw [hl3] at hv3
      refine ⟨⟨j + 1, A3, c3, by omega, hv3, ?_, hb3⟩, by rw [hv3]; simp only [lenOf]; omega⟩
      have e : xs ++ 128 :: List.replicate (j + 1) 0 = xs ++ 128 :: List.replicate j 0 ++ [(0 : Int)] := by rw [List.replicate_succ']; simp
      rw [e]
      exact hown3
    · have hne : (((n : Int) + 1 + j) % 64 != 56) = false := by rw [bne_eq_false_iff_eq]; omega
      have hjz : (119 - n % 64) % 64 = j := by omega
      have HJ := Lib.hid hjz
      have hjb : j < 64 := by omega
      clear hjz hj hlt
      go_wp2_with fail
      go_loopw [3, 5] (fun v i wr => ∃ k : Nat, k ≤ 8 ∧ i = .int .i64 (7 - (k : Int)) ∧ Own wr w.heap.size 5 .u8 v (xs ++ 128 :: List.replicate j 0 ++ be8 ((n : Int) * 8) k) ∧ Below w.heap.size w wr)
        (fun _ i _ => (intOf i + 1).toNat)
      case atStart => exact ⟨0, by omega, rfl, by simpa [be8] using hown, hb⟩
      case round =>
        clear hown hb hz
        obtain ⟨k, hk, rfl, hown, hb⟩ := hrel
        have hz := hb.size
        have hlk : (xs ++ 128 :: List.replicate j 0 ++ be8 ((n : Int) * 8) k).length = n + 1 + j + k := by rw [List.length_append, HL.out]; simp [be8]
        have HLK := Lib.hid hlk
        clear hlk
        by_cases hk8 : k < 8
        · obtain ⟨q, hq⟩ : ∃ q : Nat, (7 - (k : Int)) = q := ⟨7 - k, by omega⟩
          have hq7 : q ≤ 7 := by omega
          have hqk : 7 - k = q := by omega
          rw [hq]
          have HQ := Lib.hid hq
          have HQK := Lib.hid hqk
          clear hq hqk
          have hd : decide ((0 : Int) ≤ q) = true := by simp
          go_wp2_with (at_builtin; refine wpList_app _ rfl (.tmp 26) (.tmp 33) 22 rfl w.heap.size 5 i0 (.int .u8 0) 1 Tryd.underlying22 hi hz0 hz1 hz2 rfl .u8 _ (xs ++ 128 :: List.replicate j 0 ++ be8 ((n : Int) * 8) k) rfl (hown.alloc _) (wr.heap.size + 1) (some ⟨wr.heap.size, 0, none⟩) 1 1 [(n : Int) * 8 / 2 ^ (8 * q) % 256] rfl ((Seg.of_blk (Blk.new wr 5 .u8 [(n : Int) * 8 / 2 ^ (8 * q) % 256])).more (by simp)) (by unfold maxLen; rw [HLK.out]; omega) (by rw [HLK.out]; omega) (by simp; omega) ?_; intro v3 w3 hown3 hg3 hor3; have hb3 := own_below (hown.alloc _) hg3 (hb.alloc hz _) (by simp; omega); clear hg3 hor3)
          go_roundw
          case measure => simp [intOf]
          case rel =>
            refine ⟨k + 1, by omega, ?_, ?_, hb3⟩
            · have := HQ.out
              congr 1
              omega
            · rw [be8_next, HQK.out, ← List.append_assoc]
              exact hown3
        · obtain rfl : k = 8 := by omega
          have hd : decide ((0 : Int) ≤ 7 - (8 : Nat)) = false := by decide
          have e : padded xs = xs ++ 128 :: List.replicate j 0 ++ be8 ((n : Int) * 8) 8 := by
            rw [be8_full n hn]
            simp only [padded, tailI, hxl, HJ.out]
            simp
          have HE := Lib.hid e
          clear e
          go_wp2_with fail
          go_ret
          refine ⟨_, rfl, ?_, hb⟩
          rw [HE.out]
          exact hown
end Go.Proofs.YtmpalhejjmjmeaaDoor
namespace Go.Proofs.YtmpalhejjmjmeaaDoor
open Go.RowKit

set_option maxRecDepth 100000 in
set_option maxHeartbeats 1000000 in
theorem rbytes_any (A : Option Addr) (n c : Nat) (ws : List Int) (w : World) (hs : Seg w w.heap.size .u32 A n ws) (hn : n ≤ 1024) :
    Calls Tryd.prog 46 #[.slice A n c] w fun e w' => ∃ v, e = .returned v ∧ Own w' w.heap.size 5 .u8 v (bytesI ws) ∧ Below w.heap.size w w' := by
  obtain ⟨i0, hi, hz0, hz1, hz2⟩ := info_parts Tryd.infoU8
  have HS := Lib.hid hs
  clear hs
  go_enter Tryd.func46, Tryd.ntmps46
  go_wp2_with fail
  go_loopw [3, 4] (fun v i wr => ∃ k : Nat, k ≤ n ∧ i = .int .i64 k ∧ Own wr w.heap.size 5 .u8 v (bytesI (ws.take k)) ∧ Below w.heap.size w wr)
    (fun _ i _ => n - (intOf i).toNat)
  case atStart => exact ⟨0, by omega, rfl, World.ownsRow_nil _ _ _ _, Below.refl _ _⟩
  case round =>
    obtain ⟨k, hk, rfl, hown, hb⟩ := hrel
    by_cases hlt : k < n
    · have hd : decide ((k : Int) < n) = true := by simp; omega
      obtain ⟨b, off, rfl, hbl, hcell⟩ := HS.out.2 (by omega)
      obtain ⟨x, hx⟩ : ∃ x, Hid (ws.getD k 0 = x) := ⟨_, rfl⟩
      have hcw := hcell k hlt
      have hc1 := (hb.cell (p := ⟨b, off + k, none⟩) hbl).trans hcw
      rw [hx.out] at hc1 hcw
      clear hcell
      have hl : (bytesI (ws.take k)).length ≤ 4096 := by rw [bytesI_length, List.length_take]; omega
      have hz := hb.size
      have hki : (k : Int) < n := by omega
      go_wp2_with fail
      have hk0 : (0 : Int) ≤ (k : Int) := Int.natCast_nonneg _
      go_region_held3 (fun w' => w'.cell? ⟨b, off + k, none⟩ = some (.int .u32 x))
        (first
          | go_keep
          | exact (hb3.cell (p := ⟨b, off + k, none⟩) hbl).trans hcw)
        ((refine step_app _ (by rfl) (.tmp 11) (.tmp 35) 22 (by rfl) w.heap.size 5 i0 (.int .u8 0) 1 Tryd.underlying22 hi hz0 hz1 hz2 (by rfl) .u8 u3 (bytesI (ws.take k)) (by rfl) ((hown.alloc _).drew) (wr.heap.size + 1) (some ⟨wr.heap.size, 0, none⟩) 4 4 (be4 x) (by rfl) ((Seg.of_blk (Blk.new wr 5 .u8 (be4 x))).more (by simp)) (by unfold maxLen; omega) (by omega) (by simp; omega) ?_; intro v3 w3 hown3 hg3 hor3; have hb3 := own_below ((hown.alloc _).drew) hg3 ((hb.alloc hz _).drew) (by simp; omega)))
      clear hg3 hor3
      go_wp2
      go_roundw
      case measure => simp [intOf]; omega
      case rel =>
        refine ⟨k + 1, by omega, by go_num, ?_, hb3⟩
        rw [bytesI_take _ _ (by rw [HS.out.1]; exact hlt), hx.out]
        exact hown3
    · have hd : decide ((k : Int) < n) = false := by simp; omega
      have hw : ws.take k = ws := List.take_of_length_le (by rw [HS.out.1]; omega)
      rw [hw] at hown
      clear hw
      go_wp2_with fail
      go_ret
      exact ⟨_, rfl, hown, hb⟩

theorem zeroElem64 : ((Tryd.prog.info? 53).bind (·.zero)).map (·.cells.size) = some kay256.length := by kernel_rfl
theorem size1elem : (Tryd.prog.info? 52).map (·.size) = some 1 := by kernel_rfl
set_option maxRecDepth 100000 in
set_option maxHeartbeats 1000000 in
theorem constants_any (w : World) :
    Calls Tryd.prog 42 #[] w fun e w' => e = .returned (.agg (ints .u32 kay256).toArray) ∧ Below w.heap.size w w' := by
  have hz64 := Tryd.zero64
  go_enter Tryd.func42, Tryd.ntmps42
  have hz64b := Blk.new w 53 .u32 (List.replicate 64 0)
  go_wp2_with (first
    | (with_reducible refine wpList_buildFlatArr rfl 53 52 64 _ rfl .u32 kay256 Tryd.underlying53 size1elem zeroElem64 (by kernel_rfl) ?_)
    | (refine wpList_storeInts rfl 53 (.tmp 0) (.tmp 1) rfl w.heap.size rfl 53 .u32 _ kay256 rfl hz64b 64 Tryd.size64 (by simp) rfl ?_))
  refine bodyPost_ret (((Blk.new w 53 .u32 (List.replicate 64 0)).setRow kay256).result rfl _ rfl 64 52 Tryd.underlying53 Tryd.size64 rfl) rfl ⟨rfl, below_setRow' ((Below.refl _ _).alloc (Nat.le_refl _) _) (Nat.le_refl _) _⟩
end Go.Proofs.YtmpalhejjmjmeaaDoor
