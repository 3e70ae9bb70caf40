/-
  The walk of the statement on messages around the limits of blocks.
-/
import Derived.Test.YtnkcnlaijejheaaDoorAwake
import Derived.Test.YtnkcnlaijejheaaDoorSame
import Derived.Test.YtnkcnlaijejheaaDoorRefC
import Derived.Test.YtnkcnlaijejheaaDoorRefD
import Derived.Laws.OwnMore
import Derived.Deep.OwnRows
namespace Go.Proofs.YtnkcnlaijejheaaDoor
open Go.RowKit

theorem made_zeros (n : Nat) : madeCells #[.int .u8 0] n = (ints .u8 (List.replicate n 0)).toArray := by
  apply Array.ext'
  rw [toList_madeCells_one]
  simp [ints]

set_option maxRecDepth 100000 in
set_option maxHeartbeats 2000000 in
theorem lawPadding (m : Int) (x : Int) (w : World) (hK : Tab w 0 .u32 kay256) :
    Calls Tryd.prog 4 #[.int .i64 m, .int .u8 x] w fun e w' => e = .returned (.bool true) ∧ Below w.heap.size w w' := by
  have HK := Lib.hid hK
  have h0 : 0 < w.heap.size := hK.lt
  clear hK
  go_enter Tryd.func4, Tryd.ntmps4
  go_wp2_with fail
  refine (awake_any w HK.out).mono ?_
  rintro e w1 ⟨rfl, hb1⟩
  have hz1 := hb1.size
  by_cases hneg : m < 0
  · go_wp2_with fail
    go_ret
    exact ⟨rfl, hb1⟩
  by_cases hbig : 200 < m
  · go_wp2_with fail
    go_ret
    exact ⟨rfl, hb1⟩
  obtain ⟨n, rfl⟩ : ∃ n : Nat, m = n := ⟨m.toNat, by omega⟩
  have hn : n ≤ 200 := by omega
  obtain ⟨i0, hi, hi0, hi1, hi2⟩ := info_parts Tryd.infoU8
  go_wp2_with (at_make; refine wpList_make_row _ rfl _ _ 22 rfl 5 i0 (.int .u8 0) Tryd.underlying22 hi hi0 hi1 rfl .i64 .i64 n rfl rfl (by rw [hi2]; omega) (by omega) ?_)
  rw [made_zeros]
  generalize hwq : World.alloc _ _ = wq
  have hbq : Below w.heap.size w wq := by rw [← hwq]; exact hb1.alloc hz1 _
  have hBq : Blk wq w1.heap.size 5 .u8 (List.replicate n 0) := by rw [← hwq]; exact Blk.new w1 _ .u8 _
  clear hwq
  go_wp2_with fail
  go_loopw [6] (fun i wr => ∃ (k : Nat) (ys : List Int), k ≤ n ∧ i = .int .i64 k ∧ ys.length = n ∧ Blk wr w1.heap.size 5 .u8 ys ∧ Below w.heap.size w wr) (fun i _ => n - (intOf i).toNat)
  case atStart => exact ⟨0, _, by omega, rfl, by simp, hBq, hbq⟩
  case round =>
    clear hBq hbq
    obtain ⟨k, ys, hk, rfl, hlen, hB, hb⟩ := hrel
    have HL := Lib.hid hlen
    clear hlen
    have hz := hb.size
    by_cases hlt : k < n
    · have hd : decide ((k : Int) < n) = true := by simp; omega
      have hc := hB.cell k (by rw [HL.out]; exact hlt)
      have hf := hB.frozen k
      go_wp2_with fail
      go_roundw
      case measure => simp [intOf]; omega
      case rel => exact ⟨k + 1, _, by omega, by go_num, by rw [List.length_set]; exact HL.out, hB.set_ k _, hb.setCell (by exact hz1) _⟩
    · have hd : decide ((k : Int) < n) = false := by simp; omega
      have hs := Seg.of_blk hB
      rw [HL.out] at hs
      have HSr := Lib.hid hs
      have hKr := HK.out.below hb h0
      clear hs
      go_wp2_with fail
      refine (sum_any 0 _ n n ys wr HSr.out (by omega) (Nat.le_refl _) (by omega) hKr).mono ?_
      rintro e w2 ⟨v2, rfl, hown2, hb2⟩
      rw [show digestI 0 ys = sha1 ys from rfl] at hown2
      obtain ⟨A2, c2, rfl, _, _⟩ := Own.cut hown2
      have hz2 := hb2.size
      have HS2 := Lib.hid (Seg.of_own hown2)
      go_wp2_with fail
      refine (rsum1_any _ n n ys w2 ((HSr.out.below hb2 (Nat.le_refl _)).more hz2) (by omega)).mono ?_
      rintro e w3 ⟨v3, rfl, hown3, hb3⟩
      obtain ⟨A3, c3, rfl, _, _⟩ := Own.cut hown3
      have hs2 := (HS2.out.below hb3 (Nat.le_refl _)).more hb3.size
      have hs3 := Seg.of_own hown3
      go_wp2_with fail
      refine (same_any A2 A3 _ c2 _ c3 (sha1 ys) (sha1 ys) w3 hs2 hs3 (by rw [sha1_length]; omega)).mono ?_
      rintro e w4 ⟨rfl, q, hq⟩
      have hb4' : Below wr.heap.size wr w4 := by rw [hq]; exact below_drewN (hb2.trans (hb3.mono hz2)) q
      have hb4 := hb.trans (hb4'.mono hz)
      have hz4 := hb4'.size
      have HS4 := Lib.hid ((HSr.out.below hb4' (Nat.le_refl _)).more hz4)
      have hK4 := HK.out.below hb4 h0
      clear hq hs2 hs3 hown3 hown2
      rw [sameB_self]
      go_wp2_with fail
      refine (sum_any 1 _ n n ys w4 HS4.out (by omega) (Nat.le_refl _) (by omega) hK4).mono ?_
      rintro e w5 ⟨v5, rfl, hown5, hb5⟩
      rw [show digestI 1 ys = sha256 ys from rfl] at hown5
      obtain ⟨A5, c5, rfl, _, _⟩ := Own.cut hown5
      have hz5 := hb5.size
      have HS5 := Lib.hid (Seg.of_own hown5)
      go_wp2_with fail
      refine (rsum256_any _ n n ys w5 ((HS4.out.below hb5 (Nat.le_refl _)).more hz5) (by omega)).mono ?_
      rintro e w6 ⟨v6, rfl, hown6, hb6⟩
      obtain ⟨A6, c6, rfl, _, _⟩ := Own.cut hown6
      have hs5 := (HS5.out.below hb6 (Nat.le_refl _)).more hb6.size
      have hs6 := Seg.of_own hown6
      go_wp2_with fail
      refine (same_any A5 A6 _ c5 _ c6 (sha256 ys) (sha256 ys) w6 hs5 hs6 (by rw [sha256_length]; omega)).mono ?_
      rintro e w7 ⟨rfl, q, hq⟩
      have hb7 : Below w.heap.size w w7 := by rw [hq]; exact below_drewN (hb4.trans ((hb5.trans (hb6.mono hz5)).mono hb4.size)) q
      clear hq
      rw [sameB_self]
      go_wp2_with fail
      go_ret
      exact ⟨rfl, hb7⟩
end Go.Proofs.YtnkcnlaijejheaaDoor
