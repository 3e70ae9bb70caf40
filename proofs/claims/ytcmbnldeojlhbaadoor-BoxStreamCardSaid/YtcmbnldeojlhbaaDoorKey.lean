/-
  HMAC-SHA-256 as a Lean function on lists of integers, written after chapter 2 of the document, and the program's key of one block.
-/
import Derived.Test.YtcmbnldeojlhbaaDoorSum
import Derived.Laws.CopyOwn
namespace Go.Proofs.YtcmbnldeojlhbaaDoor
open Go.RowKit

/-- The key of one block: the key, or its digest if it is longer, filled up with zero bytes. -/
def keyOf (xs : List Int) : List Int := if 64 < xs.length then sha256 xs else xs
def keyI (xs : List Int) : List Int := keyOf xs ++ List.replicate (64 - (keyOf xs).length) 0
def maskI (m : Int) (xs : List Int) : List Int := xs.map fun x => bits .xor .u8 x m
def innerI (key b : List Int) : List Int := maskI 54 (keyI key) ++ b
def macI (key b : List Int) : List Int := sha256 (maskI 92 (keyI key) ++ sha256 (innerI key b))
theorem keyOf_length (xs : List Int) : (keyOf xs).length ≤ 64 := by
  unfold keyOf; split
  · rw [sha256_length]; omega
  · omega
theorem keyI_length (xs : List Int) : (keyI xs).length = 64 := by
  have := keyOf_length xs
  simp [keyI]; omega
theorem maskI_length (m : Int) (xs : List Int) : (maskI m xs).length = xs.length := by simp [maskI]
theorem macI_length (key b : List Int) : (macI key b).length = 32 := sha256_length _

section
variable {P : Program} {w : World} {ops : Array Oper} {rest : List Oper} {o : Oper} {a : Act} {Q : Exit → Act → World → Prop}
theorem ints_splice (k : IntKind) (xs ys : List Int) (off : Nat) : splice (ints k xs) off (ints k ys) = ints k (splice xs off ys) := by
  simp [splice, ints, List.map_take, List.map_drop]
/-- copy(dst, src): dst in a block that is known, src a slice that is read as numbers. -/
theorem wpList_copySeg (hgd : o.guard = none) (d s : Operand) (dT sT : TypeId)
    (ho : o.op = .call { callee := .builtin .copy, args := #[d, s], argTypes := #[dT, sT] }) (elem : TypeId) (hu : P.underlying dT = some (.slice elem)) (hsz : (P.info? elem).map (·.size) = some 1)
    (g off dLen dCap : Nat) (hd : a.eval d = .slice (some ⟨g, off, none⟩) dLen dCap) (A : Option Addr) (n c : Nat) (hs : a.eval s = .slice A n c)
    (t : TypeId) (k : IntKind) (old xs : List Int) (hB : Blk w g t k old) (B' : Nat) (hS : Seg w B' k A n xs) (m : Nat) (hm : Nat.min n dLen = m) (hfit : off + m ≤ old.length)
    (B : Nat) (w0 : World) (hb : Below B w0 w) (hBg : B ≤ g)
    (h : ∀ w', Hid (Blk w' g t k (splice old off (xs.take m))) → Below B w0 w' → wpList P ops Q rest (a.put o.dst (goInt m)) w') :
    wpList P ops Q (o :: rest) a w := by
  have hmn : m ≤ n := by rw [← hm]; exact Nat.min_le_left _ _
  have hl : (ints k (xs.take m)).length = m := by rw [ints_length, List.length_take, hS.1]; omega
  refine wpList_copy_splice hgd d s dT sT ho elem hu hsz _ A dLen dCap n c hd hs g off (ints k old) t hB (ints k (xs.take m)) (by rw [hl, ← hm]) ?_ (by rw [hl, ints_length]; exact hfit) (ints_oneCell k _) B w0 hb hBg ?_
  · intro h0
    rw [hl] at h0
    refine ⟨rfl, ?_⟩
    obtain ⟨b, o', rfl, _, hc⟩ := hS.2 (by omega)
    refine ⟨_, rfl, fun j v hj => ?_⟩
    have hjm : j < m := by
      rcases Nat.lt_or_ge j m with h1 | h1
      · exact h1
      · rw [List.getElem?_eq_none (by rw [hl]; exact h1)] at hj; cases hj
    rw [ints_at k _ j (by rw [List.length_take, hS.1]; omega)] at hj
    injection hj with hj
    subst hj
    rw [addr_add, hc j (by omega)]
    simp [List.getD, hjm]
  · intro w' hw hb'
    rw [ints_splice] at hw
    rw [hl]
    exact h w' hw hb'
end
theorem splice_zero (xs : List Int) (L : Nat) : splice (List.replicate L 0) 0 (xs.take xs.length) = xs ++ List.replicate (L - xs.length) 0 := by
  simp [splice]

theorem Tryd.sizeK64 : (Tryd.prog.info? 65).map (·.size) = some 64 := by kernel_rfl
theorem Tryd.zeroK64 (w : World) : (zeroValue 65).run Tryd.prog w = .ok (.agg (ints .u8 (List.replicate 64 0)).toArray) w := by kernel_rfl
theorem Tryd.sizeU8 : (Tryd.prog.info? 5).map (·.size) = some 1 := by kernel_rfl

set_option maxRecDepth 100000 in
set_option maxHeartbeats 2000000 in
theorem blockKey_any (A : Option Addr) (n c : Nat) (xs : List Int) (w : World) (hs : Seg w w.heap.size .u8 A n xs) (hn : n ≤ 1099511627776) (hc : n ≤ c) (hcm : c ≤ 9223372036854775807) (hK : Tab w 0 .u32 kay256) :
    Calls Tryd.prog 59 #[.slice A n c] w fun e w' => e = .returned (.agg (ints .u8 (keyI xs)).toArray) ∧ Below w.heap.size w w' := by
  have HS := Lib.hid hs
  have HK := Lib.hid hK
  have HL := Lib.hid hs.1
  have hz64 := Tryd.zeroK64
  clear hs hK
  obtain ⟨Y, HY⟩ : ∃ Y, Hid (keyI xs = Y) := ⟨_, rfl⟩
  have HYL : Hid (Y.length = 64) := by rw [← HY.out]; exact keyI_length xs
  rw [HY.out]
  by_cases hlong : 64 < n
  · have hd : decide ((64 : Int) < n) = true := by simp; omega
    go_enter Tryd.func59, Tryd.ntmps59
    go_wp2_with fail
    generalize hw1 : World.alloc _ _ = w1
    have hb1 : Below w.heap.size w w1 := by rw [← hw1]; exact (Below.refl _ _).alloc (Nat.le_refl _) _
    have hR1 : Blk w1 w.heap.size 65 .u8 (List.replicate 64 0) := by rw [← hw1]; exact Blk.new w _ .u8 _
    have hz1 := hR1.lt
    clear hw1
    refine (sum_any 1 A n c xs w1 ((HS.out.below hb1 (Nat.le_refl _)).more hb1.size) hn hc hcm (HK.out.below hb1 HK.out.lt)).mono ?_
    rintro e w2 ⟨v2, rfl, hown2, hb2⟩
    rw [show digestI 1 xs = sha256 xs from rfl] at hown2
    obtain ⟨A2, c2, rfl, _, _⟩ := Own.cut hown2
    have hR2 := hR1.below hb2 hR1.lt
    have hbw2 : Below w.heap.size w w2 := hb1.trans (hb2.mono hb1.size)
    have HS2 := Lib.hid (Seg.of_own hown2)
    have hz2 := hbw2.size
    have h32 : (sha256 xs).length = 32 := sha256_length xs
    rw [h32] at HS2 ⊢
    have hz3 := hR2.lt
    have HYE : Hid (keyI xs = splice (List.replicate 64 0) 0 ((sha256 xs).take 32)) := by
      show _ = _
      rw [← h32, splice_zero, keyI, keyOf, if_pos (by rw [HL.out]; exact hlong)]
    clear hown2 hR1 hb1 hb2 h32 hz1
    have HR2 := Lib.hid hR2
    clear hR2
    go_wp2_with (first
      | (with_reducible refine wpList_copySeg rfl (.tmp 9) (.tmp 10) 22 22 rfl 5 Tryd.underlying22 Tryd.sizeU8 w2.heap.size 0 64 64 rfl A2 32 c2 rfl 65 .u8 (List.replicate 64 0) (sha256 xs) (Blk.new w2 _ .u8 _) (w2.heap.size + 1) ((HS2.out.below ((Below.refl w2.heap.size w2).alloc (Nat.le_refl _) _) (Nat.le_refl _)).more (by omega)) 32 rfl (by simp) w2.heap.size w2 ((Below.refl w2.heap.size w2).alloc (Nat.le_refl _) _) (Nat.le_refl _) ?_; intro w4 HB4 hb4; rw [← HYE.out, HY.out] at HB4; have HR4 := Lib.hid (HR2.out.below hb4 hz3))
      | (with_reducible refine wpList_loadInts rfl 65 (.tmp 3) rfl w2.heap.size rfl 65 .u8 _ HB4.out 64 5 Tryd.underlying65 Tryd.sizeK64 HYL.out ?_)
      | (with_reducible refine wpList_storeInts rfl 65 (.tmp 2) (.tmp 12) rfl w.heap.size rfl 65 .u8 _ Y rfl HR4.out 64 Tryd.sizeK64 (by simp) HYL.out ?_))
    refine bodyPost_ret ((HR4.out.setRow Y).result rfl _ rfl 64 5 Tryd.underlying65 Tryd.sizeK64 HYL.out) rfl ⟨rfl, below_setRow' (hbw2.trans (hb4.mono hz2)) (Nat.le_refl _) _⟩
  · have hd : decide ((64 : Int) < n) = false := by simp; omega
    have hn64 : n ≤ 64 := by omega
    have HYE : Hid (keyI xs = splice (List.replicate 64 0) 0 (xs.take n)) := by
      show _ = _
      have h := HL.out
      rw [← h, splice_zero, keyI, keyOf, if_neg (by omega)]
    have HMIN : Hid (Nat.min n 64 = n) := Nat.min_eq_left hn64
    go_enter Tryd.func59, Tryd.ntmps59
    go_wp2_with (first
      | ((with_reducible refine wpList_copySeg rfl (.tmp 9) (.tmp 10) 22 22 rfl 5 Tryd.underlying22 Tryd.sizeU8 (w.heap.size + 1) 0 64 64 rfl A n c rfl 65 .u8 (List.replicate 64 0) xs (Blk.new' _ _ .u8 _ _ (by simp)) w.heap.size (HS.out.below (((Below.refl w.heap.size w).alloc (Nat.le_refl _) _).alloc (by simp) _) (Nat.le_refl _)) n HMIN.out (by simp; omega) (w.heap.size + 1) _ (Below.refl _ _) (Nat.le_refl _) ?_); intro w4 HB4 hb4; rw [← HYE.out, HY.out] at HB4; have HR4 : Hid (Blk w4 w.heap.size 65 .u8 (List.replicate 64 0)) := ((Blk.new w _ .u8 _).alloc _).below hb4 (by omega); have hbw4 : Below w.heap.size w w4 := (((Below.refl w.heap.size w).alloc (Nat.le_refl _) _).alloc (by simp) _).trans (hb4.mono (by omega)))
      | (with_reducible refine wpList_loadInts rfl 65 (.tmp 3) rfl (w.heap.size + 1) rfl 65 .u8 _ HB4.out 64 5 Tryd.underlying65 Tryd.sizeK64 HYL.out ?_)
      | (with_reducible refine wpList_storeInts rfl 65 (.tmp 2) (.tmp 12) rfl w.heap.size rfl 65 .u8 _ Y rfl HR4.out 64 Tryd.sizeK64 (by simp) HYL.out ?_))
    refine bodyPost_ret ((HR4.out.setRow Y).result rfl _ rfl 64 5 Tryd.underlying65 Tryd.sizeK64 HYL.out) rfl ⟨rfl, below_setRow' hbw4 (Nat.le_refl _) _⟩
end Go.Proofs.YtcmbnldeojlhbaaDoor
