/-
  The end of a message (pad) and the bytes of words (join).
  What the closure of sum1 does with a block.
  Every block of a padded message, one after the other: the program's eachBlock, over any closure that keeps a state in one block of memory.
  The program's sum256 and sum1, Sum and Size: they return the digests of the specification.
  copy into a block that is known.
  HMAC-SHA-256 as a Lean function on lists of integers, written after chapter 2 of the document, and the program's key of one block.
-/
import Derived.Test.YtljkkejjnimjcaaDoorBase2
import Derived.Test.YtljkkejjnimjcaaDoorBase1
import Derived.Laws.CopyOwn
namespace Go.Proofs.YtljkkejjnimjcaaDoor
open Go.RowKit

theorem bytesI_take (ws : List Int) (k : Nat) (h : k < ws.length) : bytesI (ws.take (k + 1)) = bytesI (ws.take k) ++ be4 (ws.getD k 0) := by
  have : ws.take (k + 1) = ws.take k ++ [ws.getD k 0] := by rw [List.take_add_one, List.getElem?_eq_getElem h]; simp [List.getD, h]
  rw [this]
  simp [bytesI]
set_option maxRecDepth 100000 in
set_option maxHeartbeats 1000000 in
theorem join_any (A : Option Addr) (n c : Nat) (ws : List Int) (w : World) (hs : Seg w w.heap.size .u32 A n ws) (hn : n ≤ 1024) :
    Calls Tryd.prog 87 #[.slice A n c] w fun e w' => ∃ v, e = .returned v ∧ Own w' w.heap.size 5 .u8 v (bytesI ws) ∧ Below w.heap.size w w' := by
  obtain ⟨i0, hi, hz0, hz1, hz2⟩ := info_parts Tryd.infoU8
  have HS := Lib.hid hs
  clear hs
  go_enter Tryd.func87, Tryd.ntmps87
  go_wp2_with (at_make; refine wpList_make_own _ rfl _ _ 22 rfl w.heap.size 5 i0 (.int .u8 0) 1 Tryd.underlying22 hi hz0 hz1 .i64 .i64 _ (4 * n) rfl rfl (by omega) (by rw [hz2]; omega) (by unfold maxLen; omega) (Nat.le_refl _) ?_; intro w1 hown hg)
  have hb1 : Below w.heap.size w w1 := (Below.refl _ _).grown hg (Nat.le_refl _) (fun r hr => by cases hr)
  go_wp2_with fail
  go_loopw [3, 12] (fun v i wr => ∃ k : Nat, k ≤ n ∧ i = .int .i64 k ∧ Own wr w.heap.size 5 .u8 v (bytesI (ws.take k)) ∧ Below w.heap.size w wr)
    (fun _ i _ => n - (intOf i).toNat)
  case atStart => exact ⟨0, by omega, rfl, by rw [List.take_zero]; exact hown, hb1⟩
  case round =>
    clear hown hg hb1
    obtain ⟨k, hk, rfl, hown, hb⟩ := hrel
    by_cases hlt : k < n
    · have hd : decide ((k : Int) < n) = true := by simp; omega
      obtain ⟨b, off, rfl, hbl, hcell⟩ := HS.out.2 (by omega)
      obtain ⟨x, hx⟩ : ∃ x, Hid (ws.getD k 0 = x) := ⟨_, rfl⟩
      have hc1 := (hb.cell (p := ⟨b, off + k, none⟩) hbl).trans (hcell k hlt)
      rw [hx.out] at hc1
      clear hcell
      have hl : (bytesI (ws.take k)).length ≤ 4096 := by rw [bytesI_length, List.length_take]; omega
      have HA := Lib.hid (appendWord_any w.heap.size _ _ x wr hown (by omega) hb.size)
      clear hl
      go_wp2_with (go_at_call 77; refine HA.out.mono ?_; rintro e w2 ⟨v2, rfl, hown2, hg2⟩)
      go_roundw
      case measure => simp [intOf]; omega
      case rel =>
        refine ⟨k + 1, by omega, by go_num, ?_, own_below hown hg2 hb hb.size⟩
        rw [bytesI_take _ _ (by rw [HS.out.1]; exact hlt), hx.out]
        exact hown2
    · have hd : decide ((k : Int) < n) = false := by simp; omega
      have hw : ws.take k = ws := List.take_of_length_le (by rw [HS.out.1]; omega)
      rw [hw] at hown
      clear hw
      go_wp2_with fail
      go_ret
      exact ⟨_, rfl, hown, hb⟩

theorem tail8_length (n : Nat) : (tail8 n).length = 8 := rfl
set_option maxRecDepth 100000 in
set_option maxHeartbeats 2000000 in
theorem pad_any (A : Option Addr) (n c m : Nat) (xs : List Int) (w : World) (hs : Seg w w.heap.size .u8 A n xs) (hn : n < 64) (hm : m % 64 = n) (hm2 : m ≤ 1099511627776) :
    Calls Tryd.prog 91 #[.slice A n c, .int .i64 m] w fun e w' => ∃ v, e = .returned v ∧ Own w' w.heap.size 5 .u8 v (xs ++ tailI m) ∧ Below w.heap.size w w' := by
  obtain ⟨i0, hi, hz0, hz1, hz2⟩ := info_parts Tryd.infoU8
  have HS := Lib.hid hs
  have hxl : xs.length = n := hs.1
  clear hs
  go_enter Tryd.func91, Tryd.ntmps91
  go_wp2_with (first
    | (at_make; refine wpList_make_own _ rfl _ _ 22 rfl w.heap.size 5 i0 (.int .u8 0) 1 Tryd.underlying22 hi hz0 hz1 .i64 .i64 _ 128 rfl rfl (by omega) (by rw [hz2]; omega) (by unfold maxLen; omega) (Nat.le_refl _) ?_; intro w1 hown1 hg1; have hb1 : Below w.heap.size w w1 := (Below.refl _ _).grown hg1 (Nat.le_refl _) (fun r hr => by cases hr); have hs1 := HS.out.below hb1 (Nat.le_refl _); have hz1' := hb1.size)
    | (at_builtin; refine wpList_app _ rfl (.tmp 8) (.tmp 9) 22 rfl w.heap.size 5 i0 (.int .u8 0) 1 Tryd.underlying22 hi hz0 hz1 hz2 rfl .u8 _ [] rfl hown1 _ A n c xs rfl hs1 (by unfold maxLen; simp; omega) (by simp; omega) hz1' ?_; intro v2 w2 hown2 hg2 hor2; have hb2 := own_below (k := .u8) (xs := []) hown1 hg2 hb1 hz1'; have hz2' := hb2.size; clear hg2 hs1 hown1 hg1 hor2)
    | (at_builtin; refine wpList_app _ rfl (.tmp 11) (.tmp 12) 22 rfl w.heap.size 5 i0 (.int .u8 0) 1 Tryd.underlying22 hi hz0 hz1 hz2 rfl .u8 _ ([] ++ xs) rfl (hown2.alloc _) (w2.heap.size + 1) (some ⟨w2.heap.size, 0, none⟩) 1 1 [128] rfl ((Seg.of_blk (Blk.new w2 5 .u8 [128])).more (by simp)) (by unfold maxLen; simp; omega) (by simp; omega) (by simp; omega) ?_; intro v3 w3 hown3 hg3 hor3; have hb3 := own_below (hown2.alloc _) hg3 (hb2.alloc hz2' _) (by simp; omega); have hz3' := hb3.size; clear hg3 hown2 hor3))
  clear hb1 hz1' hb2 hz2'
  go_loopw [5] (fun v wr => ∃ (j : Nat) (A' : Option Addr) (c' : Nat), j ≤ (119 - n) % 64 ∧ v = .slice A' (n + 1 + j) c' ∧ Own wr w.heap.size 5 .u8 v (xs ++ 128 :: List.replicate j 0) ∧ Below w.heap.size w wr)
    (fun v _ => n + 1 + 64 - lenOf v)
  case atStart =>
    obtain ⟨A', c', hv, _, _⟩ := Own.cut hown3
    exact ⟨0, A', c', by omega, by rw [hv]; simp [hxl], by simpa using hown3, hb3⟩
  case round =>
    clear hown3 hb3 hz3'
    obtain ⟨j, A', c', hj, rfl, hown, hb⟩ := hrel
    have hz := hb.size
    have hln : (xs ++ 128 :: List.replicate j 0).length = n + 1 + j := by simp [hxl]; omega
    have HL := Lib.hid hln
    clear hln
    by_cases hlt : j < (119 - n) % 64
    · have hne : (((n : Int) + 1 + j) % 64 != 56) = true := by rw [bne_iff_ne]; omega
      have hl2 := HL.out
      go_wp2_with (at_builtin; refine wpList_app _ rfl (.tmp 18) (.tmp 19) 22 rfl w.heap.size 5 i0 (.int .u8 0) 1 Tryd.underlying22 hi hz0 hz1 hz2 rfl .u8 _ (xs ++ 128 :: List.replicate j 0) rfl (hown.alloc _) (wr.heap.size + 1) (some ⟨wr.heap.size, 0, none⟩) 1 1 [0] rfl ((Seg.of_blk (Blk.new wr 5 .u8 [0])).more (by simp)) (by unfold maxLen; rw [HL.out]; omega) (by rw [HL.out]; omega) (by simp; omega) ?_; intro v3 w3 hown3 hg3 hor3; have hb3 := own_below (hown.alloc _) hg3 (hb.alloc hz _) (by simp; omega); clear hg3 hor3)
      obtain ⟨A3, c3, hv3, _, _⟩ := Own.cut hown3
      have hl3 : (xs ++ 128 :: List.replicate j 0 ++ [0]).length = n + 1 + (j + 1) := by rw [List.length_append, hl2]; rfl
      rw [hl3] at hv3
      refine ⟨⟨j + 1, A3, c3, by omega, hv3, ?_, hb3⟩, by rw [hv3]; simp only [lenOf]; omega⟩
      have e : xs ++ 128 :: List.replicate (j + 1) 0 = xs ++ 128 :: List.replicate j 0 ++ [(0 : Int)] := by rw [List.replicate_succ']; simp
      rw [e]
      exact hown3
    · have hne : (((n : Int) + 1 + j) % 64 != 56) = false := by rw [bne_eq_false_iff_eq]; omega
      have hn8 : (m : Int) * 8 / 4294967296 % 4294967296 = (m : Int) * 8 / 4294967296 := by omega
      have HN8 := Lib.hid hn8
      have hjz : (119 - m % 64) % 64 = j := by omega
      have HJ := Lib.hid hjz
      have hjb : j < 64 := by omega
      clear hn8 hjz hj hlt
      go_wp2_with fail
      refine (appendWord_any w.heap.size _ _ _ _ hown (by rw [HL.out]; omega) hz).mono ?_
      rintro e1 w4 ⟨v4, rfl, hown4, hg4⟩
      have hb4 := own_below hown hg4 hb hz
      clear hg4 hown
      go_wp2_with fail
      refine (appendWord_any w.heap.size _ _ _ _ hown4 (by rw [List.length_append, HL.out]; simp [be4]; omega) hb4.size).mono ?_
      rintro e2 w5 ⟨v5, rfl, hown5, hg5⟩
      have hb5 := own_below hown4 hg5 hb4 hb4.size
      clear hg5 hown4
      go_wp2
      go_ret
      refine ⟨_, rfl, ?_, hb5⟩
      have e : xs ++ tailI m = xs ++ 128 :: List.replicate j 0 ++ be4 ((m : Int) * 8 / 4294967296) ++ be4 ((m : Int) * 8 % 4294967296) := by
        simp only [tailI, tail8, HJ.out, HN8.out]
        simp
      rw [e]
      exact hown5
end Go.Proofs.YtljkkejjnimjcaaDoor
namespace Go.Proofs.YtljkkejjnimjcaaDoor
open Go.RowKit

set_option maxRecDepth 100000 in
set_option maxHeartbeats 2000000 in
theorem block1_any (b off cap g : Nat) (xs S : List Int) (w : World) (hcap : 64 ≤ cap) (hcm : cap ≤ 9223372036854775807) (hb : b < w.heap.size)
    (hx : ∀ j, j < 64 → w.cell? ⟨b, off + j, none⟩ = some (.int .u8 (xs.getD j 0))) (hS : S.length = 5) (hg : Blk w g 75 .u32 S) :
    Calls Tryd.prog 84 #[.slice (some ⟨b, off, none⟩) 64 cap, .pointer (some ⟨g, 0, none⟩)] w fun e w' => e = .returned (.tuple #[]) ∧ Blk w' g 75 .u32 (step1 S xs) ∧ But w w' g := by
  obtain ⟨s0, s1, s2, s3, s4, rfl⟩ := five hS
  have HE := Lib.hid (fun (W : World) (h : Below w.heap.size w W) => expand1_any b off cap xs W hcap hcm (Nat.lt_of_lt_of_le hb h.size) (fun j hj => (h.cell (p := ⟨b, off + j, none⟩) hb).trans (hx j hj)))
  have HC := Lib.hid (fun (W : World) (_ : Below w.heap.size w W) => compress1_any [s0, s1, s2, s3, s4] (sch (wordAtI xs) next1 80) W rfl (sch_length _ _ _))
  have hgl := hg.lt
  have HG := Lib.hid hg
  have HX := Lib.hid hx
  clear hx hg hS
  obtain ⟨W64, HW⟩ : ∃ l, Hid (sch (wordAtI xs) next1 80 = l) := ⟨_, rfl⟩
  rw [HW.out] at HE HC
  have hcells : ∀ W, Below w.heap.size w W → W.cell? ⟨g, 0, none⟩ = some (.int .u32 s0) ∧ W.cell? ⟨g, 1, none⟩ = some (.int .u32 s1) ∧ W.cell? ⟨g, 2, none⟩ = some (.int .u32 s2) ∧ W.cell? ⟨g, 3, none⟩ = some (.int .u32 s3) ∧
      W.cell? ⟨g, 4, none⟩ = some (.int .u32 s4) := fun W h => by
    have hb := HG.out.below h hgl
    exact ⟨hb.cell 0 (by simp), hb.cell 1 (by simp), hb.cell 2 (by simp), hb.cell 3 (by simp), hb.cell 4 (by simp)⟩
  have HCL := Lib.hid hcells
  have HFR := Lib.hid (fun (W : World) (h : Below w.heap.size w W) (i : Nat) => (HG.out.below h hgl).frozen i)
  obtain ⟨c0, c1, c2, c3, c4⟩ := hcells w (Below.refl _ _)
  clear hcells
  obtain ⟨r0, r1, r2, r3, r4, hR⟩ := five (s := comp1 W64 [s0, s1, s2, s3, s4]) (by simp [comp1, rounds1_length])
  have HR := Lib.hid hR
  have HC2 : Hid (∀ W, Below w.heap.size w W → Calls Tryd.prog 85 #[.agg #[.int .u32 s0, .int .u32 s1, .int .u32 s2, .int .u32 s3, .int .u32 s4], .agg (ints .u32 W64).toArray] W fun e w' =>
      e = .returned (.agg #[.int .u32 r0, .int .u32 r1, .int .u32 r2, .int .u32 r3, .int .u32 r4]) ∧ Below W.heap.size W w') := fun W h => by
    have := HC.out W h
    rw [hR] at this
    exact this
  clear hR HC
  go_enter Tryd.func84, Tryd.ntmps84
  go_wp2_with fail
  go_region_with (first
    | (go_at_call 86; refine (HE.out _ ?_).mono ?_; exact (Below.refl _ _).drew; rintro e w1 ⟨rfl, hb1⟩; have hbw1 : Below w.heap.size w w1 := (Below.refl _ _).drew.trans hb1; obtain ⟨d0, d1, d2, d3, d4⟩ := HCL.out w1 hbw1; clear hb1)
    | (go_at_call 85; refine (HC2.out _ ?_).mono ?_; assumption; rintro e w2 ⟨rfl, hb2⟩; have hbw2 : Below w.heap.size w w2 := hbw1.trans (hb2.mono hbw1.size); obtain ⟨e0, e1, e2, e3, e4⟩ := HCL.out w2 hbw2; have ef := HFR.out w2 hbw2; clear hb2))
  all_goals
    go_wp2
    go_end0
    refine ⟨rfl, ?_, ?_⟩
    · have hB := (((((HG.out.below hbw2 hgl).set_ 0 r0).set_ 1 r1).set_ 2 r2).set_ 3 r3).set_ 4 r4
      show Blk _ g 75 .u32 (comp1 (sch (wordAtI xs) next1 80) [s0, s1, s2, s3, s4])
      rw [HW.out, HR.out]
      exact hB
    · exact (((((but_of_below hbw2 g).set_ 0 _).set_ 1 _).set_ 2 _).set_ 3 _).set_ 4 _
end Go.Proofs.YtljkkejjnimjcaaDoor
namespace Go.Proofs.YtljkkejjnimjcaaDoor
open Go.RowKit

/-- A slice that reads as a list, and that does not lie in block g. -/
def SegN (w : World) (g : Nat) (k : IntKind) (A : Option Addr) (n : Nat) (xs : List Int) : Prop :=
  xs.length = n ∧ (0 < n → ∃ b off, A = some ⟨b, off, none⟩ ∧ b ≠ g ∧ b < w.heap.size ∧ ∀ j, j < n → w.cell? ⟨b, off + j, none⟩ = some (.int k (xs.getD j 0)))
section
variable {w w' : World} {g : Nat} {k : IntKind} {A : Option Addr} {n : Nat} {xs : List Int}
theorem SegN.seg (h : SegN w g k A n xs) : Seg w w.heap.size k A n xs :=
  ⟨h.1, fun hn => by
    obtain ⟨b, off, e, _, hlt, hc⟩ := h.2 hn
    exact ⟨b, off, e, hlt, hc⟩⟩
theorem SegN.of_seg {B : Nat} (h : Seg w B k A n xs) (hB : B ≤ g) (hB2 : B ≤ w.heap.size) : SegN w g k A n xs :=
  ⟨h.1, fun hn => by
    obtain ⟨b, off, e, hlt, hc⟩ := h.2 hn
    exact ⟨b, off, e, by omega, by omega, hc⟩⟩
theorem SegN.of_own {B : Nat} {e : TypeId} {c : Nat} (h : w.ownsRow B e 1 (.slice A n c) n (ints k xs)) (hB : g < B) : SegN w g k A n xs := by
  have hs := Seg.of_own h
  refine ⟨hs.1, fun hn => ?_⟩
  obtain ⟨b, off, e', hlt, hc⟩ := hs.2 hn
  have hb : B ≤ b := by
    have := (h.lt b (by rw [e']; rfl)).1
    exact this
  exact ⟨b, off, e', by omega, hlt, hc⟩
theorem SegN.but (h : SegN w g k A n xs) (hb : But w w' g) : SegN w' g k A n xs :=
  ⟨h.1, fun hn => by
    obtain ⟨b, off, e, hne, hlt, hc⟩ := h.2 hn
    exact ⟨b, off, e, hne, Nat.lt_of_lt_of_le hlt hb.size, fun j hj => (World.cell?_of_block (w := w) (hb.block b hlt (by intro he; injection he with he; exact hne he))).trans (hc j hj)⟩⟩
theorem SegN.drop (h : SegN w g k A n xs) {i cap : Nat} (hi : i ≤ n) (hc : n ≤ cap) : SegN w g k (if cap = i then A else A.map (·.add i)) (n - i) (xs.drop i) := by
  refine ⟨by rw [List.length_drop, h.1], fun hn => ?_⟩
  obtain ⟨b, off, rfl, hne, hb, hcell⟩ := h.2 (by omega)
  rw [if_neg (by omega)]
  refine ⟨b, off + i, by simp [addr_add], hne, hb, fun j hj => ?_⟩
  rw [show off + i + j = off + (i + j) by omega, hcell _ (by omega)]
  simp [List.getD]
end

/-- What a closure does with a block: it turns the state that block g holds. -/
def StepOf (F : FuncId) (T : TypeId) (g : Nat) (L : Nat) (step : List Int → List Int → List Int) (inv : World → Prop) : Prop :=
  ∀ (b off cap : Nat) (ys S : List Int) (W : World), 64 ≤ cap → cap ≤ 9223372036854775807 → b < W.heap.size → (∀ j, j < 64 → W.cell? ⟨b, off + j, none⟩ = some (.int .u8 (ys.getD j 0))) → S.length = L → Blk W g T .u32 S → inv W →
    Calls Tryd.prog F #[.slice (some ⟨b, off, none⟩) 64 cap, .pointer (some ⟨g, 0, none⟩)] W fun e w' => e = .returned (.tuple #[]) ∧ Blk w' g T .u32 (step S ys) ∧ But W w' g

theorem getD_take64 (ys : List Int) (k j : Nat) (hj : j < 64) : ((ys.drop k).take 64).getD j 0 = (ys.drop k).getD j 0 := by simp [List.getD, hj]

/-- Behind k blocks of a message. -/
def Rest (T : TypeId) (g : Nat) (step : List Int → List Int → List Int) (inv : World → Prop) (w0 : World) (S xs : List Int) (v : Value) (wr : World) : Prop :=
  ∃ (k m : Nat) (A' : Option Addr) (c' : Nat), xs.length = 64 * k + m ∧ v = .slice A' m c' ∧ SegN wr g .u8 A' m (xs.drop (64 * k)) ∧ m ≤ c' ∧ c' ≤ 9223372036854775807 ∧ Blk wr g T .u32 (run step S xs k) ∧ But w0 wr g ∧ inv wr

set_option maxRecDepth 100000 in
set_option maxHeartbeats 2000000 in
theorem each_any (F : FuncId) (T : TypeId) (g L : Nat) (step : List Int → List Int → List Int) (inv : World → Prop) (hF : StepOf F T g L step inv) (hcf : ∀ args W, (callFunc F args).run Tryd.prog W = .ok (.enter F args) W) (hL : ∀ s ys, s.length = L → (step s ys).length = L)
    (hinv : ∀ W W', inv W → But W W' g → inv W')
    (A : Option Addr) (n c : Nat) (xs S : List Int) (w : World) (hs : SegN w g .u8 A n xs) (hn : n ≤ 1099511627776) (hc : n ≤ c) (hcm : c ≤ 9223372036854775807) (hg : Blk w g T .u32 S) (hS : S.length = L) (hi : inv w) :
    Calls Tryd.prog 83 #[.slice A n c, .func (.func F) #[] #[.pointer (some ⟨g, 0, none⟩)]] w fun e w' =>
      e = .returned (.tuple #[]) ∧ Blk w' g T .u32 (run step S (padded xs) ((padded xs).length / 64)) ∧ But w w' g := by
  have HF := Lib.hid hF
  have HL := Lib.hid hL
  have HI := Lib.hid hinv
  have HS := Lib.hid hs
  have hxl : xs.length = n := hs.1
  have HSL := Lib.hid hS
  clear hF hL hinv hs hS
  go_enter Tryd.func83, Tryd.ntmps83
  go_wp2_with fail
  go_loopw [4] (fun v wr => Rest T g step inv w S xs v wr) (fun v _ => lenOf v)
  case atStart => exact ⟨0, n, A, c, by omega, rfl, by simpa using HS.out, hc, hcm, hg, World.grownBy.refl _ _, hi⟩
  case round =>
    clear hg hi
    obtain ⟨k, m, A', c', hkm, rfl, hseg, hmc, hcc, hblk, hbut, hin⟩ := hrel
    have HX := Lib.hid hkm
    have HSG := Lib.hid hseg
    have HB := Lib.hid hblk
    have HIN := Lib.hid hin
    clear hkm hseg hblk hin
    by_cases h64 : 64 ≤ m
    · obtain ⟨b, off, rfl, hne, hlt, hcell⟩ := HSG.out.2 (by omega)
      have HC := Lib.hid (HF.out b off c' ((xs.drop (64 * k)).take 64) (run step S xs k) wr (by omega) hcc hlt (fun j hj => (hcell j (by omega)).trans (by rw [getD_take64 _ _ _ hj])) (run_length HL.out _ _ HSL.out _) HB.out HIN.out)
      clear hcell
      have hd : decide ((64 : Int) ≤ m) = true := by simp; omega
      have hseg2 := HSG.out.drop (i := 64) h64 hmc
      have HSD := Lib.hid hseg2
      clear hseg2
      by_cases h64c : c' = 64
      · subst h64c
        go_wp2_with fail
        refine HC.out.mono ?_
        rintro e w2 ⟨rfl, hb2, hbut2⟩
        go_wp2_with fail
        go_roundw
        case measure => simp only [lenOf]; omega
        case rel =>
          have h : SegN w2 g .u8 (some ⟨b, off, none⟩) (m - 64) ((xs.drop (64 * k)).drop 64) := HSD.out.but hbut2
          rw [List.drop_drop, show m - 64 = 0 by omega] at h
          refine ⟨k + 1, 0, _, _, by have := HX.out; omega, rfl, ?_, by omega, by omega, hb2, hbut.trans hbut2, HI.out _ _ HIN.out hbut2⟩
          rw [show 64 * (k + 1) = 64 * k + 64 by omega]
          exact h
      · go_wp2_with fail
        refine HC.out.mono ?_
        rintro e w2 ⟨rfl, hb2, hbut2⟩
        go_wp2_with fail
        go_roundw
        case measure => simp only [lenOf]; omega
        case rel =>
          have h := HSD.out.but hbut2
          rw [if_neg h64c, List.drop_drop] at h
          refine ⟨k + 1, m - 64, _, _, by have := HX.out; omega, rfl, ?_, by omega, by omega, hb2, hbut.trans hbut2, HI.out _ _ HIN.out hbut2⟩
          rw [show 64 * (k + 1) = 64 * k + 64 by omega]
          exact h
    · have hd : decide ((64 : Int) ≤ m) = false := by simp; omega
      have hxlen := HX.out
      have hm1 : m < 64 := by omega
      have hmod : n % 64 = m := by omega
      have hn2 : n = 64 * k + m := by omega
      have HN := Lib.hid hn2
      have HM := Lib.hid hmod
      have HXL := Lib.hid hxl
      clear hxlen hmod hxl hn2
      go_wp2_with fail
      refine (pad_any A' m c' n (xs.drop (64 * k)) wr HSG.out.seg hm1 HM.out hn).mono ?_
      rintro e w3 ⟨v3, rfl, hown3, hb3⟩
      go_wp2_with fail
      have hbutp : But w w3 g := hbut.trans (but_of_below hb3 g)
      have hblkp : Blk w3 g T .u32 (run step S xs k) := HB.out.below hb3 HB.out.lt
      have hinp := HI.out _ _ HIN.out (but_of_below hb3 g)
      obtain ⟨A3, c3, rfl, hc3, hcm3⟩ := Own.cut hown3
      have hsegp : SegN w3 g .u8 A3 (xs.drop (64 * k) ++ tailI n).length (xs.drop (64 * k) ++ tailI n) := SegN.of_own hown3 HB.out.lt
      obtain ⟨p, HP⟩ : ∃ p, Hid (xs.drop (64 * k) ++ tailI n = p) := ⟨_, rfl⟩
      rw [HP.out] at hsegp hc3
      rw [HP.out]
      obtain ⟨S2, HS2⟩ : ∃ s, Hid (run step S xs k = s) := ⟨_, rfl⟩
      rw [HS2.out] at hblkp
      have hS2 : Hid (S2.length = L) := by rw [← HS2.out]; exact run_length HL.out _ _ HSL.out _
      clear hown3 hb3 hbut hmc hcc hm1 hd
      unfold maxLen at hcm3
      go_loopw [5] (fun v wr => Rest T g step inv w S2 p v wr) (fun v _ => lenOf v)
      case atStart => exact ⟨0, p.length, A3, c3, by omega, rfl, by simpa using hsegp, hc3, by omega, hblkp, hbutp, hinp⟩
      case round =>
        clear hsegp hblkp hinp hbutp hc3 hcm3
        obtain ⟨q, m2, A', c', hkm, rfl, hseg, hmc, hcc, hblk, hbut, hin⟩ := hrel
        have HX2 := Lib.hid hkm
        have HSG2 := Lib.hid hseg
        have HB2 := Lib.hid hblk
        have HIN2 := Lib.hid hin
        clear hkm hseg hblk hin
        by_cases h64 : 64 ≤ m2
        · obtain ⟨b, off, rfl, hne, hlt, hcell⟩ := HSG2.out.2 (by omega)
          have HC := Lib.hid (HF.out b off c' ((p.drop (64 * q)).take 64) (run step S2 p q) wr (by omega) hcc hlt (fun j hj => (hcell j (by omega)).trans (by rw [getD_take64 _ _ _ hj])) (run_length HL.out _ _ hS2.out _) HB2.out HIN2.out)
          clear hcell
          have hd : decide ((64 : Int) ≤ m2) = true := by simp; omega
          have hseg2 := HSG2.out.drop (i := 64) h64 hmc
          have HSD := Lib.hid hseg2
          clear hseg2
          by_cases h64c : c' = 64
          · subst h64c
            go_wp2_with fail
            refine HC.out.mono ?_
            rintro e w2 ⟨rfl, hb2, hbut2⟩
            go_wp2_with fail
            go_roundw
            case measure => simp only [lenOf]; omega
            case rel =>
              have h : SegN w2 g .u8 (some ⟨b, off, none⟩) (m2 - 64) ((p.drop (64 * q)).drop 64) := HSD.out.but hbut2
              rw [List.drop_drop, show m2 - 64 = 0 by omega] at h
              refine ⟨q + 1, 0, _, _, by have := HX2.out; omega, rfl, ?_, by omega, by omega, hb2, hbut.trans hbut2, HI.out _ _ HIN2.out hbut2⟩
              rw [show 64 * (q + 1) = 64 * q + 64 by omega]
              exact h
          · go_wp2_with fail
            refine HC.out.mono ?_
            rintro e w2 ⟨rfl, hb2, hbut2⟩
            go_wp2_with fail
            go_roundw
            case measure => simp only [lenOf]; omega
            case rel =>
              have h := HSD.out.but hbut2
              rw [if_neg h64c, List.drop_drop] at h
              refine ⟨q + 1, m2 - 64, _, _, by have := HX2.out; omega, rfl, ?_, by omega, by omega, hb2, hbut.trans hbut2, HI.out _ _ HIN2.out hbut2⟩
              rw [show 64 * (q + 1) = 64 * q + 64 by omega]
              exact h
        · have hd : decide ((64 : Int) ≤ m2) = false := by simp; omega
          go_wp2_with fail
          go_end0
          have hq : k + q = (padded xs).length / 64 := by
            have h1 := HX2.out
            have h2 := padded_length xs
            rw [← HP.out, List.length_append, List.length_drop, tailI_length, HN.out] at h1
            have h3 := HXL.out
            have h4 := HN.out
            omega
          refine ⟨rfl, ?_, hbut⟩
          have hfin := HB2.out
          rw [← HS2.out, ← HP.out, run_append step S xs (tailI n) k (by rw [HXL.out, HN.out]; omega), hq] at hfin
          rw [padded, HXL.out]
          rw [padded, HXL.out] at hfin
          exact hfin
end Go.Proofs.YtljkkejjnimjcaaDoor
namespace Go.Proofs.YtljkkejjnimjcaaDoor
open Go.RowKit

theorem keep0 {g : Nat} (hg : 0 ≠ g) (W W' : World) (h : Tab W 0 .u32 kay256) (hb : But W W' g) : Tab W' 0 .u32 kay256 :=
  h.of_eq (hb.block 0 h.lt (by intro e; injection e with e; exact hg e))
theorem stepOf256 (g : Nat) : StepOf 88 82 g 8 step256 (fun W => Tab W 0 .u32 kay256) :=
  fun b off cap ys S W hcap hcm hb hx hS hg hi => block256_any b off cap g ys S W hcap hcm hb hx hS hg hi
theorem stepOf1 (g : Nat) : StepOf 84 75 g 5 step1 (fun _ => True) :=
  fun b off cap ys S W hcap hcm hb hx hS hg _ => block1_any b off cap g ys S W hcap hcm hb hx hS hg
theorem call256 (args : Array Value) (W : World) : (callFunc 88 args).run Tryd.prog W = .ok (.enter 88 args) W := by kernel_rfl
theorem call1 (args : Array Value) (W : World) : (callFunc 84 args).run Tryd.prog W = .ok (.enter 84 args) W := by kernel_rfl

set_option maxRecDepth 100000 in
set_option maxHeartbeats 1000000 in
theorem sum256_any (A : Option Addr) (n c : Nat) (xs : List Int) (w : World) (hs : Seg w w.heap.size .u8 A n xs) (hn : n ≤ 1099511627776) (hc : n ≤ c) (hcm : c ≤ 9223372036854775807) (hK : Tab w 0 .u32 kay256) :
    Calls Tryd.prog 76 #[.slice A n c] w fun e w' => ∃ v, e = .returned v ∧ Own w' w.heap.size 5 .u8 v (sha256 xs) ∧ Below w.heap.size w w' := by
  have HS := Lib.hid hs
  have HKK := Lib.hid hK
  clear hs hK
  go_enter Tryd.func76, Tryd.ntmps76
  go_wp2_with fail
  generalize hw1 : World.alloc _ _ = w1
  have hb : Below w.heap.size w w1 := by rw [← hw1]; exact (Below.refl _ _).alloc (Nat.le_refl _) _
  have hg : Blk w1 w.heap.size 82 .u32 init256 := by rw [← hw1]; exact Blk.new w _ .u32 init256
  have hlt : w.heap.size < w1.heap.size := hg.lt
  clear hw1
  have h0 := HKK.out.lt
  refine (each_any 88 82 w.heap.size 8 step256 _ (stepOf256 _) call256 step256_length (keep0 (by omega)) A n c xs init256 w1 (SegN.of_seg (HS.out.below hb (Nat.le_refl _)) (Nat.le_refl _) hb.size) hn hc hcm hg rfl (HKK.out.below hb h0)).mono ?_
  rintro e w2 ⟨rfl, hg2, hbut2⟩
  have hb2 : Below w.heap.size w w2 := hb.grown hbut2 hb.size (fun r hr => by injection hr with hr; omega)
  have HR := Lib.hid hg2
  go_wp2_with fail
  refine (join_any _ _ _ (state256 xs) w2 ?_ ?_).mono ?_
  · have h := Seg.of_blk HR.out
    rw [show (run step256 init256 (padded xs) ((padded xs).length / 64)).length = 8 from state256_length xs] at h
    exact h
  · omega
  rintro e w3 ⟨v, rfl, hown, hb3⟩
  go_wp2
  go_ret
  refine ⟨v, rfl, ?_, hb2.trans (hb3.mono hb2.size)⟩
  exact Own.less hown hb2.size
set_option maxRecDepth 100000 in
set_option maxHeartbeats 1000000 in
theorem sum1_any (A : Option Addr) (n c : Nat) (xs : List Int) (w : World) (hs : Seg w w.heap.size .u8 A n xs) (hn : n ≤ 1099511627776) (hc : n ≤ c) (hcm : c ≤ 9223372036854775807) :
    Calls Tryd.prog 75 #[.slice A n c] w fun e w' => ∃ v, e = .returned v ∧ Own w' w.heap.size 5 .u8 v (sha1 xs) ∧ Below w.heap.size w w' := by
  have HS := Lib.hid hs
  clear hs
  go_enter Tryd.func75, Tryd.ntmps75
  go_wp2_with fail
  generalize hw1 : World.alloc _ _ = w1
  have hb : Below w.heap.size w w1 := by rw [← hw1]; exact (Below.refl _ _).alloc (Nat.le_refl _) _
  have hg : Blk w1 w.heap.size 75 .u32 init1 := by rw [← hw1]; exact Blk.new w _ .u32 init1
  have hlt : w.heap.size < w1.heap.size := hg.lt
  clear hw1
  refine (each_any 84 75 w.heap.size 5 step1 _ (stepOf1 _) call1 step1_length (fun _ _ _ _ => trivial) A n c xs init1 w1 (SegN.of_seg (HS.out.below hb (Nat.le_refl _)) (Nat.le_refl _) hb.size) hn hc hcm hg rfl trivial).mono ?_
  rintro e w2 ⟨rfl, hg2, hbut2⟩
  have hb2 : Below w.heap.size w w2 := hb.grown hbut2 hb.size (fun r hr => by injection hr with hr; omega)
  have HR := Lib.hid hg2
  go_wp2_with fail
  refine (join_any _ _ _ (state1 xs) w2 ?_ ?_).mono ?_
  · have h := Seg.of_blk HR.out
    rw [show (run step1 init1 (padded xs) ((padded xs).length / 64)).length = 5 from state1_length xs] at h
    exact h
  · omega
  rintro e w3 ⟨v, rfl, hown, hb3⟩
  go_wp2
  go_ret
  refine ⟨v, rfl, ?_, hb2.trans (hb3.mono hb2.size)⟩
  exact Own.less hown hb2.size

/-- The digest of an algorithm; none for other numbers. -/
def digestI (alg : Int) (xs : List Int) : List Int := if alg = 0 then sha1 xs else if alg = 1 then sha256 xs else []
def sizeI (alg : Int) : Int := if alg = 0 then 20 else if alg = 1 then 32 else 0

set_option maxHeartbeats 1000000 in
theorem sum_any (alg : Int) (A : Option Addr) (n c : Nat) (xs : List Int) (w : World) (hs : Seg w w.heap.size .u8 A n xs) (hn : n ≤ 1099511627776) (hc : n ≤ c) (hcm : c ≤ 9223372036854775807) (hK : Tab w 0 .u32 kay256) :
    Calls Tryd.prog 71 #[.int .i64 alg, .slice A n c] w fun e w' => ∃ v, e = .returned v ∧ Own w' w.heap.size 5 .u8 v (digestI alg xs) ∧ Below w.heap.size w w' := by
  by_cases h0 : alg = 0
  · subst h0
    go_enter Tryd.func71, Tryd.ntmps71
    go_wp2_with (go_at_call 75; refine (sum1_any A n c xs w hs hn hc hcm).mono ?_; rintro e w2 ⟨v, rfl, hown, hb⟩)
    go_ret
    exact ⟨v, rfl, hown, hb⟩
  · by_cases h1 : alg = 1
    · subst h1
      go_enter Tryd.func71, Tryd.ntmps71
      go_wp2_with (go_at_call 76; refine (sum256_any A n c xs w hs hn hc hcm hK).mono ?_; rintro e w2 ⟨v, rfl, hown, hb⟩)
      go_ret
      exact ⟨v, rfl, hown, hb⟩
    · have e0 : (alg == 0) = false := by simpa using h0
      have e1 : (alg == 1) = false := by simpa using h1
      have hd : digestI alg xs = [] := by simp [digestI, h0, h1]
      have HD := Lib.hid hd
      clear hd hs hK
      go_enter Tryd.func71, Tryd.ntmps71
      go_wp2_with fail
      go_ret
      exact ⟨_, rfl, by rw [HD.out]; exact World.ownsRow_nil _ _ _ _, Below.refl _ _⟩
end Go.Proofs.YtljkkejjnimjcaaDoor
namespace Go.Proofs.YtljkkejjnimjcaaDoor
open Go.RowKit

section
variable {P : Program} {w : World} {ops : Array Oper} {rest : List Oper} {o : Oper} {a : Act} {Q : Exit → Act → World → Prop}
theorem ints_splice (k : IntKind) (xs ys : List Int) (off : Nat) : splice (ints k xs) off (ints k ys) = ints k (splice xs off ys) := by
  simp [splice, ints, List.map_take, List.map_drop]
/-- copy(dst, src): dst in a block that is known, src a slice that is read as numbers. -/
theorem wpList_copySeg (hgd : o.guard = none) (d s : Operand) (dT sT : TypeId)
    (ho : o.op = .call { callee := .builtin .copy, args := #[d, s], argTypes := #[dT, sT] }) (elem : TypeId) (hu : P.underlying dT = some (.slice elem)) (hsz : (P.info? elem).map (·.size) = some 1)
    (g off dLen dCap : Nat) (hd : a.eval d = .slice (some ⟨g, off, none⟩) dLen dCap) (A : Option Addr) (n c : Nat) (hs : a.eval s = .slice A n c)
    (t : TypeId) (k : IntKind) (old xs : List Int) (hB : Blk w g t k old) (B' : Nat) (hS : Seg w B' k A n xs) (m : Nat) (hm : Nat.min n dLen = m) (hfit : off + m ≤ old.length)
    (B : Nat) (w0 : World) (hb : Below B w0 w) (hBg : B ≤ g)
    (h : ∀ w', Hid (Blk w' g t k (splice old off (xs.take m))) → Below B w0 w' → wpList P ops Q rest (a.put o.dst (goInt m)) w') :
    wpList P ops Q (o :: rest) a w := by
  have hmn : m ≤ n := by rw [← hm]; exact Nat.min_le_left _ _
  have hl : (ints k (xs.take m)).length = m := by rw [ints_length, List.length_take, hS.1]; omega
  refine wpList_copy_splice hgd d s dT sT ho elem hu hsz _ A dLen dCap n c hd hs g off (ints k old) t hB (ints k (xs.take m)) (by rw [hl, ← hm]) ?_ (by rw [hl, ints_length]; exact hfit) (ints_oneCell k _) B w0 hb hBg ?_
  · intro h0
    rw [hl] at h0
    refine ⟨rfl, ?_⟩
    obtain ⟨b, o', rfl, _, hc⟩ := hS.2 (by omega)
    refine ⟨_, rfl, fun j v hj => ?_⟩
    have hjm : j < m := by
      rcases Nat.lt_or_ge j m with h1 | h1
      · exact h1
      · rw [List.getElem?_eq_none (by rw [hl]; exact h1)] at hj; cases hj
    rw [ints_at k _ j (by rw [List.length_take, hS.1]; omega)] at hj
    injection hj with hj
    subst hj
    rw [addr_add, hc j (by omega)]
    simp [List.getD, hjm]
  · intro w' hw hb'
    rw [ints_splice] at hw
    rw [hl]
    exact h w' hw hb'
end
theorem splice_zero (xs : List Int) (L : Nat) : splice (List.replicate L 0) 0 (xs.take xs.length) = xs ++ List.replicate (L - xs.length) 0 := by
  simp [splice]

theorem Tryd.sizeU8 : (Tryd.prog.info? 5).map (·.size) = some 1 := by kernel_rfl
end Go.Proofs.YtljkkejjnimjcaaDoor
namespace Go.Proofs.YtljkkejjnimjcaaDoor
open Go.RowKit

/-- The key of one block: the key, or its digest if it is longer, filled up with zero bytes. -/
def keyOf (xs : List Int) : List Int := if 64 < xs.length then sha256 xs else xs
def keyI (xs : List Int) : List Int := keyOf xs ++ List.replicate (64 - (keyOf xs).length) 0
def maskI (m : Int) (xs : List Int) : List Int := xs.map fun x => bits .xor .u8 x m
def innerI (key b : List Int) : List Int := maskI 54 (keyI key) ++ b
def macI (key b : List Int) : List Int := sha256 (maskI 92 (keyI key) ++ sha256 (innerI key b))
theorem keyOf_length (xs : List Int) : (keyOf xs).length ≤ 64 := by
  unfold keyOf; split
  · rw [sha256_length]; omega
  · omega
theorem keyI_length (xs : List Int) : (keyI xs).length = 64 := by
  have := keyOf_length xs
  simp [keyI]; omega
theorem maskI_length (m : Int) (xs : List Int) : (maskI m xs).length = xs.length := by simp [maskI]
theorem macI_length (key b : List Int) : (macI key b).length = 32 := sha256_length _

theorem Tryd.sizeK64 : (Tryd.prog.info? 65).map (·.size) = some 64 := by kernel_rfl
theorem Tryd.zeroK64 (w : World) : (zeroValue 65).run Tryd.prog w = .ok (.agg (ints .u8 (List.replicate 64 0)).toArray) w := by kernel_rfl

set_option maxRecDepth 100000 in
set_option maxHeartbeats 2000000 in
theorem blockKey_any (A : Option Addr) (n c : Nat) (xs : List Int) (w : World) (hs : Seg w w.heap.size .u8 A n xs) (hn : n ≤ 1099511627776) (hc : n ≤ c) (hcm : c ≤ 9223372036854775807) (hK : Tab w 0 .u32 kay256) :
    Calls Tryd.prog 69 #[.slice A n c] w fun e w' => e = .returned (.agg (ints .u8 (keyI xs)).toArray) ∧ Below w.heap.size w w' := by
  have HS := Lib.hid hs
  have HK := Lib.hid hK
  have HL := Lib.hid hs.1
  have hz64 := Tryd.zeroK64
  clear hs hK
  obtain ⟨Y, HY⟩ : ∃ Y, Hid (keyI xs = Y) := ⟨_, rfl⟩
  have HYL : Hid (Y.length = 64) := by rw [← HY.out]; exact keyI_length xs
  rw [HY.out]
  by_cases hlong : 64 < n
  · have hd : decide ((64 : Int) < n) = true := by simp; omega
    go_enter Tryd.func69, Tryd.ntmps69
    go_wp2_with fail
    generalize hw1 : World.alloc _ _ = w1
    have hb1 : Below w.heap.size w w1 := by rw [← hw1]; exact (Below.refl _ _).alloc (Nat.le_refl _) _
    have hR1 : Blk w1 w.heap.size 65 .u8 (List.replicate 64 0) := by rw [← hw1]; exact Blk.new w _ .u8 _
    have hz1 := hR1.lt
    clear hw1
    refine (sum_any 1 A n c xs w1 ((HS.out.below hb1 (Nat.le_refl _)).more hb1.size) hn hc hcm (HK.out.below hb1 HK.out.lt)).mono ?_
    rintro e w2 ⟨v2, rfl, hown2, hb2⟩
    rw [show digestI 1 xs = sha256 xs from rfl] at hown2
    obtain ⟨A2, c2, rfl, _, _⟩ := Own.cut hown2
    have hR2 := hR1.below hb2 hR1.lt
    have hbw2 : Below w.heap.size w w2 := hb1.trans (hb2.mono hb1.size)
    have HS2 := Lib.hid (Seg.of_own hown2)
    have hz2 := hbw2.size
    have h32 : (sha256 xs).length = 32 := sha256_length xs
    rw [h32] at HS2 ⊢
    have hz3 := hR2.lt
    have HYE : Hid (keyI xs = splice (List.replicate 64 0) 0 ((sha256 xs).take 32)) := by
      show _ = _
      rw [← h32, splice_zero, keyI, keyOf, if_pos (by rw [HL.out]; exact hlong)]
    clear hown2 hR1 hb1 hb2 h32 hz1
    have HR2 := Lib.hid hR2
    clear hR2
    go_wp2_with (first
      | (with_reducible refine wpList_copySeg rfl (.tmp 9) (.tmp 10) 22 22 rfl 5 Tryd.underlying22 Tryd.sizeU8 w2.heap.size 0 64 64 rfl A2 32 c2 rfl 65 .u8 (List.replicate 64 0) (sha256 xs) (Blk.new w2 _ .u8 _) (w2.heap.size + 1) ((HS2.out.below ((Below.refl w2.heap.size w2).alloc (Nat.le_refl _) _) (Nat.le_refl _)).more (by omega)) 32 rfl (by simp) w2.heap.size w2 ((Below.refl w2.heap.size w2).alloc (Nat.le_refl _) _) (Nat.le_refl _) ?_; intro w4 HB4 hb4; rw [← HYE.out, HY.out] at HB4; have HR4 := Lib.hid (HR2.out.below hb4 hz3))
      | (with_reducible refine wpList_loadInts rfl 65 (.tmp 3) rfl w2.heap.size rfl 65 .u8 _ HB4.out 64 5 Tryd.underlying65 Tryd.sizeK64 HYL.out ?_)
      | (with_reducible refine wpList_storeInts rfl 65 (.tmp 2) (.tmp 12) rfl w.heap.size rfl 65 .u8 _ Y rfl HR4.out 64 Tryd.sizeK64 (by simp) HYL.out ?_))
    refine bodyPost_ret ((HR4.out.setRow Y).result rfl _ rfl 64 5 Tryd.underlying65 Tryd.sizeK64 HYL.out) rfl ⟨rfl, below_setRow' (hbw2.trans (hb4.mono hz2)) (Nat.le_refl _) _⟩
  · have hd : decide ((64 : Int) < n) = false := by simp; omega
    have hn64 : n ≤ 64 := by omega
    have HYE : Hid (keyI xs = splice (List.replicate 64 0) 0 (xs.take n)) := by
      show _ = _
      have h := HL.out
      rw [← h, splice_zero, keyI, keyOf, if_neg (by omega)]
    have HMIN : Hid (Nat.min n 64 = n) := Nat.min_eq_left hn64
    go_enter Tryd.func69, Tryd.ntmps69
    go_wp2_with (first
      | ((with_reducible refine wpList_copySeg rfl (.tmp 9) (.tmp 10) 22 22 rfl 5 Tryd.underlying22 Tryd.sizeU8 (w.heap.size + 1) 0 64 64 rfl A n c rfl 65 .u8 (List.replicate 64 0) xs (Blk.new' _ _ .u8 _ _ (by simp)) w.heap.size (HS.out.below (((Below.refl w.heap.size w).alloc (Nat.le_refl _) _).alloc (by simp) _) (Nat.le_refl _)) n HMIN.out (by simp; omega) (w.heap.size + 1) _ (Below.refl _ _) (Nat.le_refl _) ?_); intro w4 HB4 hb4; rw [← HYE.out, HY.out] at HB4; have HR4 : Hid (Blk w4 w.heap.size 65 .u8 (List.replicate 64 0)) := ((Blk.new w _ .u8 _).alloc _).below hb4 (by omega); have hbw4 : Below w.heap.size w w4 := (((Below.refl w.heap.size w).alloc (Nat.le_refl _) _).alloc (by simp) _).trans (hb4.mono (by omega)))
      | (with_reducible refine wpList_loadInts rfl 65 (.tmp 3) rfl (w.heap.size + 1) rfl 65 .u8 _ HB4.out 64 5 Tryd.underlying65 Tryd.sizeK64 HYL.out ?_)
      | (with_reducible refine wpList_storeInts rfl 65 (.tmp 2) (.tmp 12) rfl w.heap.size rfl 65 .u8 _ Y rfl HR4.out 64 Tryd.sizeK64 (by simp) HYL.out ?_))
    refine bodyPost_ret ((HR4.out.setRow Y).result rfl _ rfl 64 5 Tryd.underlying65 Tryd.sizeK64 HYL.out) rfl ⟨rfl, below_setRow' hbw4 (Nat.le_refl _) _⟩
end Go.Proofs.YtljkkejjnimjcaaDoor
