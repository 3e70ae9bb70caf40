/-
  The end of a message (pad) and the bytes of words (join).
-/
import Derived.Test.YtkcbbgmilaafeaaDoorBlock
namespace Go.Proofs.YtkcbbgmilaafeaaDoor
open Go.RowKit

theorem bytesI_take (ws : List Int) (k : Nat) (h : k < ws.length) : bytesI (ws.take (k + 1)) = bytesI (ws.take k) ++ be4 (ws.getD k 0) := by
  have : ws.take (k + 1) = ws.take k ++ [ws.getD k 0] := by rw [List.take_add_one, List.getElem?_eq_getElem h]; simp [List.getD, h]
  rw [this]
  simp [bytesI]
set_option maxRecDepth 100000 in
set_option maxHeartbeats 1000000 in
theorem join_any (A : Option Addr) (n c : Nat) (ws : List Int) (w : World) (hs : Seg w w.heap.size .u32 A n ws) (hn : n ≤ 1024) :
    Calls Tryd.prog 48 #[.slice A n c] w fun e w' => ∃ v, e = .returned v ∧ Own w' w.heap.size 5 .u8 v (bytesI ws) ∧ Below w.heap.size w w' := by
  obtain ⟨i0, hi, hz0, hz1, hz2⟩ := info_parts Tryd.infoU8
  have HS := Lib.hid hs
  clear hs
  go_enter Tryd.func48, Tryd.ntmps48
  go_wp2_with (at_make; refine wpList_make_own _ rfl _ _ 27 rfl w.heap.size 5 i0 (.int .u8 0) 1 Tryd.underlying27 hi hz0 hz1 .i64 .i64 _ (4 * n) rfl rfl (by omega) (by rw [hz2]; omega) (by unfold maxLen; omega) (Nat.le_refl _) ?_; intro w1 hown hg)
  have hb1 : Below w.heap.size w w1 := (Below.refl _ _).grown hg (Nat.le_refl _) (fun r hr => by cases hr)
  go_wp2_with fail
  go_loopw [3, 12] (fun v i wr => ∃ k : Nat, k ≤ n ∧ i = .int .i64 k ∧ Own wr w.heap.size 5 .u8 v (bytesI (ws.take k)) ∧ Below w.heap.size w wr)
    (fun _ i _ => n - (intOf i).toNat)
  case atStart => exact ⟨0, by omega, rfl, by rw [List.take_zero]; exact hown, hb1⟩
  case round =>
    clear hown hg hb1
    obtain ⟨k, hk, rfl, hown, hb⟩ := hrel
    by_cases hlt : k < n
    · have hd : decide ((k : Int) < n) = true := by simp; omega
      obtain ⟨b, off, rfl, hbl, hcell⟩ := HS.out.2 (by omega)
      obtain ⟨x, hx⟩ : ∃ x, Hid (ws.getD k 0 = x) := ⟨_, rfl⟩
      have hc1 := (hb.cell (p := ⟨b, off + k, none⟩) hbl).trans (hcell k hlt)
      rw [hx.out] at hc1
      clear hcell
      have hl : (bytesI (ws.take k)).length ≤ 4096 := by rw [bytesI_length, List.length_take]; omega
      have HA := Lib.hid (appendWord_any w.heap.size _ _ x wr hown (by omega) hb.size)
      clear hl
      go_wp2_with (go_at_call 43; refine HA.out.mono ?_; rintro e w2 ⟨v2, rfl, hown2, hg2⟩)
      go_roundw
      case measure => simp [intOf]; omega
      case rel =>
        refine ⟨k + 1, by omega, by go_num, ?_, own_below hown hg2 hb hb.size⟩
        rw [bytesI_take _ _ (by rw [HS.out.1]; exact hlt), hx.out]
        exact hown2
    · have hd : decide ((k : Int) < n) = false := by simp; omega
      have hw : ws.take k = ws := List.take_of_length_le (by rw [HS.out.1]; omega)
      rw [hw] at hown
      clear hw
      go_wp2_with fail
      go_ret
      exact ⟨_, rfl, hown, hb⟩

theorem tail8_length (n : Nat) : (tail8 n).length = 8 := rfl
set_option maxRecDepth 100000 in
set_option maxHeartbeats 2000000 in
theorem pad_any (A : Option Addr) (n c m : Nat) (xs : List Int) (w : World) (hs : Seg w w.heap.size .u8 A n xs) (hn : n < 64) (hm : m % 64 = n) (hm2 : m ≤ 1099511627776) :
    Calls Tryd.prog 52 #[.slice A n c, .int .i64 m] w fun e w' => ∃ v, e = .returned v ∧ Own w' w.heap.size 5 .u8 v (xs ++ tailI m) ∧ Below w.heap.size w w' := by
  obtain ⟨i0, hi, hz0, hz1, hz2⟩ := info_parts Tryd.infoU8
  have HS := Lib.hid hs
  have hxl : xs.length = n := hs.1
  clear hs
  go_enter Tryd.func52, Tryd.ntmps52
  go_wp2_with (first
    | (at_make; refine wpList_make_own _ rfl _ _ 27 rfl w.heap.size 5 i0 (.int .u8 0) 1 Tryd.underlying27 hi hz0 hz1 .i64 .i64 _ 128 rfl rfl (by omega) (by rw [hz2]; omega) (by unfold maxLen; omega) (Nat.le_refl _) ?_; intro w1 hown1 hg1; have hb1 : Below w.heap.size w w1 := (Below.refl _ _).grown hg1 (Nat.le_refl _) (fun r hr => by cases hr); have hs1 := HS.out.below hb1 (Nat.le_refl _); have hz1' := hb1.size)
    | (at_builtin; refine wpList_app _ rfl (.tmp 8) (.tmp 9) 27 rfl w.heap.size 5 i0 (.int .u8 0) 1 Tryd.underlying27 hi hz0 hz1 hz2 rfl .u8 _ [] rfl hown1 _ A n c xs rfl hs1 (by unfold maxLen; simp; omega) (by simp; omega) hz1' ?_; intro v2 w2 hown2 hg2 hor2; have hb2 := own_below (k := .u8) (xs := []) hown1 hg2 hb1 hz1'; have hz2' := hb2.size; clear hg2 hs1 hown1 hg1 hor2)
    | (at_builtin; refine wpList_app _ rfl (.tmp 11) (.tmp 12) 27 rfl w.heap.size 5 i0 (.int .u8 0) 1 Tryd.underlying27 hi hz0 hz1 hz2 rfl .u8 _ ([] ++ xs) rfl (hown2.alloc _) (w2.heap.size + 1) (some ⟨w2.heap.size, 0, none⟩) 1 1 [128] rfl ((Seg.of_blk (Blk.new w2 5 .u8 [128])).more (by simp)) (by unfold maxLen; simp; omega) (by simp; omega) (by simp; omega) ?_; intro v3 w3 hown3 hg3 hor3; have hb3 := own_below (hown2.alloc _) hg3 (hb2.alloc hz2' _) (by simp; omega); have hz3' := hb3.size; clear hg3 hown2 hor3))
  clear hb1 hz1' hb2 hz2'
  go_loopw [5] (fun v wr => ∃ (j : Nat) (A' : Option Addr) (c' : Nat), j ≤ (119 - n) % 64 ∧ v = .slice A' (n + 1 + j) c' ∧ Own wr w.heap.size 5 .u8 v (xs ++ 128 :: List.replicate j 0) ∧ Below w.heap.size w wr)
    (fun v _ => n + 1 + 64 - lenOf v)
  case atStart =>
    obtain ⟨A', c', hv, _, _⟩ := Own.cut hown3
    exact ⟨0, A', c', by omega, by rw [hv]; simp [hxl], by simpa using hown3, hb3⟩
  case round =>
    clear hown3 hb3 hz3'
    obtain ⟨j, A', c', hj, rfl, hown, hb⟩ := hrel
    have hz := hb.size
    have hln : (xs ++ 128 :: List.replicate j 0).length = n + 1 + j := by simp [hxl]; omega
    have HL := Lib.hid hln
    clear hln
    by_cases hlt : j < (119 - n) % 64
    · have hne : (((n : Int) + 1 + j) % 64 != 56) = true := by rw [bne_iff_ne]; omega
      have hl2 := HL.out
      go_wp2_with (at_builtin; refine wpList_app _ rfl (.tmp 18) (.tmp 19) 27 rfl w.heap.size 5 i0 (.int .u8 0) 1 Tryd.underlying27 hi hz0 hz1 hz2 rfl .u8 _ (xs ++ 128 :: List.replicate j 0) rfl (hown.alloc _) (wr.heap.size + 1) (some ⟨wr.heap.size, 0, none⟩) 1 1 [0] rfl ((Seg.of_blk (Blk.new wr 5 .u8 [0])).more (by simp)) (by unfold maxLen; rw [HL.out]; omega) (by rw [HL.out]; omega) (by simp; omega) ?_; intro v3 w3 hown3 hg3 hor3; have hb3 := own_below (hown.alloc _) hg3 (hb.alloc hz _) (by simp; omega); clear hg3 hor3)
      obtain ⟨A3, c3, hv3, _, _⟩ := Own.cut hown3
      have hl3 : (xs ++ 128 :: List.replicate j 0 ++ [0]).length = n + 1 + (j + 1) := by rw [List.length_append, hl2]; rfl
      rw [hl3] at hv3
      refine ⟨⟨j + 1, A3, c3, by omega, hv3, ?_, hb3⟩, by rw [hv3]; simp only [lenOf]; omega⟩
      have e : xs ++ 128 :: List.replicate (j + 1) 0 = xs ++ 128 :: List.replicate j 0 ++ [(0 : Int)] := by rw [List.replicate_succ']; simp
      rw [e]
      exact hown3
    · have hne : (((n : Int) + 1 + j) % 64 != 56) = false := by rw [bne_eq_false_iff_eq]; omega
      have hn8 : (m : Int) * 8 / 4294967296 % 4294967296 = (m : Int) * 8 / 4294967296 := by omega
      have HN8 := Lib.hid hn8
      have hjz : (119 - m % 64) % 64 = j := by omega
      have HJ := Lib.hid hjz
      have hjb : j < 64 := by omega
      clear hn8 hjz hj hlt
      go_wp2_with fail
      refine (appendWord_any w.heap.size _ _ _ _ hown (by rw [HL.out]; omega) hz).mono ?_
      rintro e1 w4 ⟨v4, rfl, hown4, hg4⟩
      have hb4 := own_below hown hg4 hb hz
      clear hg4 hown
      go_wp2_with fail
      refine (appendWord_any w.heap.size _ _ _ _ hown4 (by rw [List.length_append, HL.out]; simp [be4]; omega) hb4.size).mono ?_
      rintro e2 w5 ⟨v5, rfl, hown5, hg5⟩
      have hb5 := own_below hown4 hg5 hb4 hb4.size
      clear hg5 hown4
      go_wp2
      go_ret
      refine ⟨_, rfl, ?_, hb5⟩
      have e : xs ++ tailI m = xs ++ 128 :: List.replicate j 0 ++ be4 ((m : Int) * 8 / 4294967296) ++ be4 ((m : Int) * 8 % 4294967296) := by
        simp only [tailI, tail8, HJ.out, HN8.out]
        simp
      rw [e]
      exact hown5
end Go.Proofs.YtkcbbgmilaafeaaDoor
