/-
  The reference's padding, its table and the bytes of words.
  The reference's bytes of words and its table.
-/
import Derived.Test.YtljkkejjnimjcaaDoorBase4
import Derived.Deep.RegionHeld3
import Derived.Great.BuildSlice
namespace Go.Proofs.YtljkkejjnimjcaaDoor
open Go.RowKit

/-- The eight bytes of a length. -/
def be8 (x : Int) (k : Nat) : List Int := (List.range k).map fun j => x / 2 ^ (8 * (7 - j)) % 256
theorem be8_next (x : Int) (k : Nat) : be8 x (k + 1) = be8 x k ++ [x / 2 ^ (8 * (7 - k)) % 256] := by simp [be8, List.range_succ]
theorem be8_full (n : Nat) (hn : n ≤ 1099511627776) : be8 ((n : Int) * 8) 8 = tail8 n := by
  simp only [be8, tail8, be4, List.range, List.range.loop, List.map, List.cons_append, List.nil_append, List.cons.injEq, and_true]
  omega

set_option maxRecDepth 100000 in
set_option maxHeartbeats 2000000 in
theorem rpad_any (A : Option Addr) (n c : Nat) (xs : List Int) (w : World) (hs : Seg w w.heap.size .u8 A n xs) (hn : n ≤ 1099511627776) :
    Calls Tryd.prog 79 #[.slice A n c] w fun e w' => ∃ v, e = .returned v ∧ Own w' w.heap.size 5 .u8 v (padded xs) ∧ Below w.heap.size w w' := by
  obtain ⟨i0, hi, hz0, hz1, hz2⟩ := info_parts Tryd.infoU8
  have HS := Lib.hid hs
  have hxl : xs.length = n := hs.1
  clear hs
  have hown0 : (w.alloc (.cells #[] 5)).ownsRow w.heap.size 5 1 (.slice (some ⟨w.heap.size, 0, none⟩) 0 0) 0 [] :=
    ⟨rfl, .inr ⟨w.heap.size, 0, #[], rfl, Nat.le_refl _, heap_alloc_new w _, Nat.le_refl _, by unfold maxLen; omega, rfl, rfl⟩⟩
  have hb0 : Below w.heap.size w (w.alloc (.cells #[] 5)) := (Below.refl _ _).alloc (Nat.le_refl _) _
  have hs0 := HS.out.below hb0 (Nat.le_refl _)
  go_enter Tryd.func79, Tryd.ntmps79
  go_wp2_with (first
    | (at_builtin; refine wpList_app _ rfl (.tmp 6) (.tmp 7) 22 rfl w.heap.size 5 i0 (.int .u8 0) 1 Tryd.underlying22 hi hz0 hz1 hz2 rfl .u8 _ [] rfl hown0 _ A n c xs rfl hs0 (by unfold maxLen; simp; omega) (by simp; omega) hb0.size ?_; intro v2 w2 hown2 hg2 hor2; have hb2 := own_below (k := .u8) (xs := []) hown0 hg2 hb0 hb0.size; have hz2' := hb2.size; clear hg2 hor2)
    | (at_builtin; refine wpList_app _ rfl (.tmp 8) (.tmp 9) 22 rfl w.heap.size 5 i0 (.int .u8 0) 1 Tryd.underlying22 hi hz0 hz1 hz2 rfl .u8 _ ([] ++ xs) rfl (hown2.alloc _) (w2.heap.size + 1) (some ⟨w2.heap.size, 0, none⟩) 1 1 [128] rfl ((Seg.of_blk (Blk.new w2 5 .u8 [128])).more (by simp)) (by unfold maxLen; simp; omega) (by simp; omega) (by simp; omega) ?_; intro v3 w3 hown3 hg3 hor3; have hb3 := own_below (hown2.alloc _) hg3 (hb2.alloc hz2' _) (by simp; omega); have hz3' := hb3.size; clear hg3 hown2 hor3))
  clear hb0 hs0 hown0 hb2 hz2'
  go_loopw [3] (fun v wr => ∃ (j : Nat) (A' : Option Addr) (c' : Nat), j ≤ (119 - n % 64) % 64 ∧ v = .slice A' (n + 1 + j) c' ∧ Own wr w.heap.size 5 .u8 v (xs ++ 128 :: List.replicate j 0) ∧ Below w.heap.size w wr)
    (fun v _ => n + 1 + 64 - lenOf v)
  case atStart =>
    obtain ⟨A', c', hv, _, _⟩ := Own.cut hown3
    exact ⟨0, A', c', by omega, by rw [hv]; simp [hxl], by simpa using hown3, hb3⟩
  case round =>
    clear hown3 hb3 hz3'
    obtain ⟨j, A', c', hj, rfl, hown, hb⟩ := hrel
    have hz := hb.size
    have hln : (xs ++ 128 :: List.replicate j 0).length = n + 1 + j := by simp [hxl]; omega
    have HL := Lib.hid hln
    clear hln
    by_cases hlt : j < (119 - n % 64) % 64
    · have hne : (((n : Int) + 1 + j) % 64 != 56) = true := by rw [bne_iff_ne]; omega
      have hl2 := HL.out
      go_wp2_with (at_builtin; refine wpList_app _ rfl (.tmp 15) (.tmp 16) 22 rfl w.heap.size 5 i0 (.int .u8 0) 1 Tryd.underlying22 hi hz0 hz1 hz2 rfl .u8 _ (xs ++ 128 :: List.replicate j 0) rfl (hown.alloc _) (wr.heap.size + 1) (some ⟨wr.heap.size, 0, none⟩) 1 1 [0] rfl ((Seg.of_blk (Blk.new wr 5 .u8 [0])).more (by simp)) (by unfold maxLen; rw [HL.out]; omega) (by rw [HL.out]; omega) (by simp; omega) ?_; intro v3 w3 hown3 hg3 hor3; have hb3 := own_below (hown.alloc _) hg3 (hb.alloc hz _) (by simp; omega); clear hg3 hor3)
      obtain ⟨A3, c3, hv3, _, _⟩ := Own.cut hown3
      have hl3 : (xs ++ 128 :: List.replicate j 0 ++ [0]).length = n + 1 + (j + 1) := by rw [List.length_append, hl2]; rfl
      rw [hl3] at hv3
      refine ⟨⟨j + 1, A3, c3, by omega, hv3, ?_, hb3⟩, by rw [hv3]; simp only [lenOf]; omega⟩
      have e : xs ++ 128 :: List.replicate (j + 1) 0 = xs ++ 128 :: List.replicate j 0 ++ [(0 : Int)] := by rw [List.replicate_succ']; simp
      rw [e]
      exact hown3
    · have hne : (((n : Int) + 1 + j) % 64 != 56) = false := by rw [bne_eq_false_iff_eq]; omega
      have hjz : (119 - n % 64) % 64 = j := by omega
      have HJ := Lib.hid hjz
      have hjb : j < 64 := by omega
      clear hjz hj hlt
      go_wp2_with fail
      go_loopw [3, 5] (fun v i wr => ∃ k : Nat, k ≤ 8 ∧ i = .int .i64 (7 - (k : Int)) ∧ Own wr w.heap.size 5 .u8 v (xs ++ 128 :: List.replicate j 0 ++ be8 ((n : Int) * 8) k) ∧ Below w.heap.size w wr)
        (fun _ i _ => (intOf i + 1).toNat)
      case atStart => exact ⟨0, by omega, rfl, by simpa [be8] using hown, hb⟩
      case round =>
        clear hown hb hz
        obtain ⟨k, hk, rfl, hown, hb⟩ := hrel
        have hz := hb.size
        have hlk : (xs ++ 128 :: List.replicate j 0 ++ be8 ((n : Int) * 8) k).length = n + 1 + j + k := by rw [List.length_append, HL.out]; simp [be8]
        have HLK := Lib.hid hlk
        clear hlk
        by_cases hk8 : k < 8
        · obtain ⟨q, hq⟩ : ∃ q : Nat, (7 - (k : Int)) = q := ⟨7 - k, by omega⟩
          have hq7 : q ≤ 7 := by omega
          have hqk : 7 - k = q := by omega
          rw [hq]
          have HQ := Lib.hid hq
          have HQK := Lib.hid hqk
          clear hq hqk
          have hd : decide ((0 : Int) ≤ q) = true := by simp
          go_wp2_with (at_builtin; refine wpList_app _ rfl (.tmp 26) (.tmp 33) 22 rfl w.heap.size 5 i0 (.int .u8 0) 1 Tryd.underlying22 hi hz0 hz1 hz2 rfl .u8 _ (xs ++ 128 :: List.replicate j 0 ++ be8 ((n : Int) * 8) k) rfl (hown.alloc _) (wr.heap.size + 1) (some ⟨wr.heap.size, 0, none⟩) 1 1 [(n : Int) * 8 / 2 ^ (8 * q) % 256] rfl ((Seg.of_blk (Blk.new wr 5 .u8 [(n : Int) * 8 / 2 ^ (8 * q) % 256])).more (by simp)) (by unfold maxLen; rw [HLK.out]; omega) (by rw [HLK.out]; omega) (by simp; omega) ?_; intro v3 w3 hown3 hg3 hor3; have hb3 := own_below (hown.alloc _) hg3 (hb.alloc hz _) (by simp; omega); clear hg3 hor3)
          go_roundw
          case measure => simp [intOf]
          case rel =>
            refine ⟨k + 1, by omega, ?_, ?_, hb3⟩
            · have := HQ.out
              congr 1
              omega
            · rw [be8_next, HQK.out, ← List.append_assoc]
              exact hown3
        · obtain rfl : k = 8 := by omega
          have hd : decide ((0 : Int) ≤ 7 - (8 : Nat)) = false := by decide
          have e : padded xs = xs ++ 128 :: List.replicate j 0 ++ be8 ((n : Int) * 8) 8 := by
            rw [be8_full n hn]
            simp only [padded, tailI, hxl, HJ.out]
            simp
          have HE := Lib.hid e
          clear e
          go_wp2_with fail
          go_ret
          refine ⟨_, rfl, ?_, hb⟩
          rw [HE.out]
          exact hown
end Go.Proofs.YtljkkejjnimjcaaDoor
namespace Go.Proofs.YtljkkejjnimjcaaDoor
open Go.RowKit

set_option maxRecDepth 100000 in
set_option maxHeartbeats 1000000 in
theorem rbytes_any (A : Option Addr) (n c : Nat) (ws : List Int) (w : World) (hs : Seg w w.heap.size .u32 A n ws) (hn : n ≤ 1024) :
    Calls Tryd.prog 82 #[.slice A n c] w fun e w' => ∃ v, e = .returned v ∧ Own w' w.heap.size 5 .u8 v (bytesI ws) ∧ Below w.heap.size w w' := by
  obtain ⟨i0, hi, hz0, hz1, hz2⟩ := info_parts Tryd.infoU8
  have HS := Lib.hid hs
  clear hs
  go_enter Tryd.func82, Tryd.ntmps82
  go_wp2_with fail
  go_loopw [3, 4] (fun v i wr => ∃ k : Nat, k ≤ n ∧ i = .int .i64 k ∧ Own wr w.heap.size 5 .u8 v (bytesI (ws.take k)) ∧ Below w.heap.size w wr)
    (fun _ i _ => n - (intOf i).toNat)
  case atStart => exact ⟨0, by omega, rfl, World.ownsRow_nil _ _ _ _, Below.refl _ _⟩
  case round =>
    obtain ⟨k, hk, rfl, hown, hb⟩ := hrel
    by_cases hlt : k < n
    · have hd : decide ((k : Int) < n) = true := by simp; omega
      obtain ⟨b, off, rfl, hbl, hcell⟩ := HS.out.2 (by omega)
      obtain ⟨x, hx⟩ : ∃ x, Hid (ws.getD k 0 = x) := ⟨_, rfl⟩
      have hcw := hcell k hlt
      have hc1 := (hb.cell (p := ⟨b, off + k, none⟩) hbl).trans hcw
      rw [hx.out] at hc1 hcw
      clear hcell
      have hl : (bytesI (ws.take k)).length ≤ 4096 := by rw [bytesI_length, List.length_take]; omega
      have hz := hb.size
      have hki : (k : Int) < n := by omega
      go_wp2_with fail
      have hk0 : (0 : Int) ≤ (k : Int) := Int.natCast_nonneg _
      go_region_held3 (fun w' => w'.cell? ⟨b, off + k, none⟩ = some (.int .u32 x))
        (first
          | go_keep
          | exact (hb3.cell (p := ⟨b, off + k, none⟩) hbl).trans hcw)
        ((refine step_app _ (by rfl) (.tmp 11) (.tmp 35) 22 (by rfl) w.heap.size 5 i0 (.int .u8 0) 1 Tryd.underlying22 hi hz0 hz1 hz2 (by rfl) .u8 u3 (bytesI (ws.take k)) (by rfl) ((hown.alloc _).drew) (wr.heap.size + 1) (some ⟨wr.heap.size, 0, none⟩) 4 4 (be4 x) (by rfl) ((Seg.of_blk (Blk.new wr 5 .u8 (be4 x))).more (by simp)) (by unfold maxLen; omega) (by omega) (by simp; omega) ?_; intro v3 w3 hown3 hg3 hor3; have hb3 := own_below ((hown.alloc _).drew) hg3 ((hb.alloc hz _).drew) (by simp; omega)))
      clear hg3 hor3
      go_wp2
      go_roundw
      case measure => simp [intOf]; omega
      case rel =>
        refine ⟨k + 1, by omega, by go_num, ?_, hb3⟩
        rw [bytesI_take _ _ (by rw [HS.out.1]; exact hlt), hx.out]
        exact hown3
    · have hd : decide ((k : Int) < n) = false := by simp; omega
      have hw : ws.take k = ws := List.take_of_length_le (by rw [HS.out.1]; omega)
      rw [hw] at hown
      clear hw
      go_wp2_with fail
      go_ret
      exact ⟨_, rfl, hown, hb⟩

theorem zeroElem64 : ((Tryd.prog.info? 69).bind (·.zero)).map (·.cells.size) = some kay256.length := by kernel_rfl
theorem size1elem : (Tryd.prog.info? 60).map (·.size) = some 1 := by kernel_rfl
set_option maxRecDepth 100000 in
set_option maxHeartbeats 1000000 in
theorem constants_any (w : World) :
    Calls Tryd.prog 78 #[] w fun e w' => e = .returned (.agg (ints .u32 kay256).toArray) ∧ Below w.heap.size w w' := by
  have hz64 := Tryd.zero64
  go_enter Tryd.func78, Tryd.ntmps78
  have hz64b := Blk.new w 69 .u32 (List.replicate 64 0)
  go_wp2_with (first
    | (with_reducible refine wpList_buildFlatArr rfl 69 60 64 _ rfl .u32 kay256 Tryd.underlying69 size1elem zeroElem64 (by kernel_rfl) ?_)
    | (refine wpList_storeInts rfl 69 (.tmp 0) (.tmp 1) rfl w.heap.size rfl 69 .u32 _ kay256 rfl hz64b 64 Tryd.size64 (by simp) rfl ?_))
  refine bodyPost_ret (((Blk.new w 69 .u32 (List.replicate 64 0)).setRow kay256).result rfl _ rfl 64 60 Tryd.underlying69 Tryd.size64 rfl) rfl ⟨rfl, below_setRow' ((Below.refl _ _).alloc (Nat.le_refl _) _) (Nat.le_refl _) _⟩
end Go.Proofs.YtljkkejjnimjcaaDoor
