/-
  The reference's frame, and the walk of the statement on frames and their hashes.
-/
import Derived.Test.YtnkcnlaijejheaaDoorFew
import Derived.Test.YtnkcnlaijejheaaDoorRefC
namespace Go.Proofs.YtnkcnlaijejheaaDoor
open Go.RowKit

theorem be4_mod (x : Int) : be4 (x % 4294967296) = be4 x := by
  simp only [be4, List.cons.injEq, and_true]
  omega

set_option maxRecDepth 100000 in
set_option maxHeartbeats 2000000 in
theorem rframe_any (tag : Int) (A : Option Addr) (n c : Nat) (fs : List (List Int)) (w : World) (hs : Fields w w.heap.size A n fs) (hn : n ≤ 1048576) (ht : tot fs ≤ 1099511627776) :
    Calls Tryd.prog 19 #[.int .i64 tag, .slice A n c] w fun e w' => ∃ v, e = .returned v ∧ Own w' w.heap.size 5 .u8 v (frameI tag fs) ∧ Below w.heap.size w w' := by
  obtain ⟨i0, hi, hz0, hz1, hz2⟩ := info_parts Tryd.infoU8
  have HS := Lib.hid hs
  have HLN := Lib.hid hs.1
  clear hs
  have hown0 : Own (w.alloc (.cells #[.int .u8 (tag % 256)] 5)) w.heap.size 5 .u8 (.slice (some ⟨w.heap.size, 0, none⟩) 1 1) [tag % 256] :=
    ⟨rfl, .inr ⟨w.heap.size, 1, #[.int .u8 (tag % 256)], rfl, Nat.le_refl _, heap_alloc_new w _, Nat.le_refl _, by unfold maxLen; omega, rfl, rfl⟩⟩
  have hb0 : Below w.heap.size w (w.alloc (.cells #[.int .u8 (tag % 256)] 5)) := (Below.refl _ _).alloc (Nat.le_refl _) _
  go_enter Tryd.func19, Tryd.ntmps19
  go_wp2_with fail
  go_loopw [5, 6] (fun v i wr => ∃ k : Nat, k ≤ n ∧ i = .int .i64 k ∧ Own wr w.heap.size 5 .u8 v (frameI tag (fs.take k)) ∧ Below w.heap.size w wr) (fun _ i _ => n - (intOf i).toNat)
  case atStart => exact ⟨0, by omega, rfl, hown0, hb0⟩
  case round =>
    clear hown0 hb0
    obtain ⟨j, hj, rfl, hown, hb⟩ := hrel
    have hz := hb.size
    have hfl : (frameI tag (fs.take j)).length ≤ 1 + 4 * n + 1099511627776 := by
      rw [frameI_length]
      have := tot_take_le fs j
      have : (fs.take j).length ≤ n := by simp; omega
      omega
    by_cases hjt : j < n
    · obtain ⟨b, off, rfl, hbl, hc⟩ := HS.out.2 (by omega)
      obtain ⟨A', n', c', h1, h2, hnc, hcm⟩ := hc j hjt
      have hn' : n' ≤ 1099511627776 := by have := h2.1; have := tot_get_le fs j (by rw [HLN.out]; exact hjt); omega
      obtain ⟨f, hf⟩ : ∃ f, Hid (fs.getD j [] = f) := ⟨_, rfl⟩
      rw [hf.out] at h2
      have h1r := (hb.cell (p := ⟨b, off + j, none⟩) hbl).trans h1
      have h1q : Hid (∀ W, Below w.heap.size w W → W.cell? ⟨b, off + j, none⟩ = some (.slice A' n' c')) := fun W hW => (hW.cell (p := ⟨b, off + j, none⟩) hbl).trans h1
      have HF := Lib.hid h2
      have hd : decide ((j : Int) < n) = true := by simp; omega
      clear hc h2 h1
      go_wp2_with (first
        | (at_builtin; refine wpList_app _ rfl (.tmp 22) (.tmp 34) 22 rfl w.heap.size 5 i0 (.int .u8 0) 1 Tryd.underlying22 hi hz0 hz1 hz2 rfl .u8 _ (frameI tag (fs.take j)) rfl (hown.alloc _) (wr.heap.size + 1) (some ⟨wr.heap.size, 0, none⟩) 4 4 (be4 n') rfl ((Seg.of_blk (Blk.new wr 5 .u8 (be4 n'))).more (by simp)) (by unfold maxLen; omega) (by omega) (by simp; omega) ?_; intro v4 w4 hown4 hg4 hor4; have hb4 := own_below (hown.alloc _) hg4 (hb.alloc hz _) (by simp; omega); have hz4 := hb4.size; have hs4 := HF.out.below hb4 (Nat.le_refl _); have h14 := h1q.out _ hb4; clear hg4 hor4)
        | (at_builtin; refine wpList_app _ rfl (.tmp 36) (.tmp 40) 22 rfl w.heap.size 5 i0 (.int .u8 0) 1 Tryd.underlying22 hi hz0 hz1 hz2 rfl .u8 _ (frameI tag (fs.take j) ++ be4 n') rfl hown4 _ A' n' c' f rfl hs4 (by unfold maxLen; rw [List.length_append]; simp [be4]; omega) (by rw [List.length_append]; simp [be4]; omega) hz4 ?_; intro v5 w5 hown5 hg5 hor5; have hb5 := own_below hown4 hg5 hb4 hz4; clear hg5 hor5 hs4))
      go_roundw
      case measure => simp [intOf]; omega
      case rel =>
        refine ⟨j + 1, by omega, by go_num, ?_, hb5⟩
        rw [frameI_take _ _ _ (by rw [HLN.out]; exact hjt), hf.out, HF.out.1, be4_mod]
        exact hown5
    · have hd : decide ((j : Int) < n) = false := by simp; omega
      have hw : fs.take j = fs := List.take_of_length_le (by rw [HLN.out]; omega)
      rw [hw] at hown
      clear hw hfl
      go_wp2_with fail
      go_ret
      exact ⟨_, rfl, hown, hb⟩

set_option maxRecDepth 100000 in
set_option maxHeartbeats 2000000 in
theorem lawFrame (tag : Int) (A : Option Addr) (n c : Nat) (fs : List (List Int)) (w : World) (hs : Fields w w.heap.size A n fs) (hc : n ≤ c) (hcm : c ≤ 9223372036854775807) (hK : Tab w 0 .u32 kay256) :
    Calls Tryd.prog 6 #[.int .i64 tag, .slice A n c] w fun e w' => e = .returned (.bool true) ∧ Below w.heap.size w w' := by
  have HS := Lib.hid hs
  have HK := Lib.hid hK
  have h0 : 0 < w.heap.size := hK.lt
  clear hs hK
  go_enter Tryd.func6, Tryd.ntmps6
  go_wp2_with fail
  refine (awake_any w HK.out).mono ?_
  rintro e w1 ⟨rfl, hb1⟩
  have hz1 := hb1.size
  have HF1 := Lib.hid (few_any A n c fs w1 ((HS.out.below hb1 (Nat.le_refl _)).more hz1) (by omega))
  go_wp2_with fail
  refine HF1.out.mono ?_
  rintro e w' ⟨rfl, rfl⟩
  by_cases hfew : fewB fs = true
  · obtain ⟨hl1, ht1⟩ := fewB_true hfew
    have hn1 := HS.out.1
    have hne : n ≤ 1048576 := by omega
    have hfl : (frameI tag fs).length ≤ 1000 := by rw [frameI_length]; omega
    obtain ⟨F, HFF⟩ : ∃ F, Hid (frameI tag fs = F) := ⟨_, rfl⟩
    rw [HFF.out] at hfl
    clear hn1 hl1
    go_wp2_with fail
    refine (rframe_any tag A n c fs w1 ((HS.out.below hb1 (Nat.le_refl _)).more hz1) hne (by omega)).mono ?_
    rintro e w2 ⟨v2, rfl, hown2, hb2⟩
    rw [HFF.out] at hown2
    obtain ⟨A2, c2, rfl, hc2, hm2⟩ := Own.cut hown2
    have hb2' := hb1.trans (hb2.mono hz1)
    have hz2 := hb2'.size
    have HSeg2 := Lib.hid (Seg.of_own hown2)
    go_wp2_with fail
    refine (frame_any tag A n c fs w2 ((HS.out.below hb2' (Nat.le_refl _)).more hz2) hne (by omega)).mono ?_
    rintro e w3 ⟨v3, rfl, hown3, hb3⟩
    rw [HFF.out] at hown3
    obtain ⟨A3, c3, rfl, _, _⟩ := Own.cut hown3
    have hb3' := hb2'.trans (hb3.mono hz2)
    have hz3 := hb3'.size
    have hs2 := (HSeg2.out.below hb3 (Nat.le_refl _)).more hb3.size
    have hs3 := Seg.of_own hown3
    go_wp2_with fail
    refine (same_any A3 A2 _ c3 _ c2 F F w3 hs3 hs2 (by omega)).mono ?_
    rintro e w4 ⟨rfl, q, hq⟩
    have hb34 : Below w3.heap.size w3 w4 := by rw [hq]; exact below_drewN (Below.refl _ _) q
    clear hq
    have hb4' := hb3'.trans (hb34.mono hz3)
    have hz4 := hb4'.size
    rw [sameB_self]
    have hK4 := HK.out.below hb4' h0
    go_wp2_with fail
    refine (hash_any tag A n c fs w4 ((HS.out.below hb4' (Nat.le_refl _)).more hz4) hne (by omega) hK4).mono ?_
    rintro e w5 ⟨v5, rfl, hown5, hb5⟩
    rw [HFF.out] at hown5
    obtain ⟨A5, c5, rfl, _, _⟩ := Own.cut hown5
    have hb5' := hb4'.trans (hb5.mono hz4)
    have hz5 := hb5'.size
    have HSeg5 := Lib.hid (Seg.of_own hown5)
    have hs25 : Seg w5 w5.heap.size .u8 A2 F.length F := ((hs2.below hb34 (Nat.le_refl _)).below hb5 hb34.size).more (Nat.le_trans hb34.size hb5.size)
    go_wp2_with fail
    refine (rsum256_any A2 _ c2 F w5 hs25 (by omega)).mono ?_
    rintro e w6 ⟨v6, rfl, hown6, hb6⟩
    obtain ⟨A6, c6, rfl, _, _⟩ := Own.cut hown6
    have hb6' := hb5'.trans (hb6.mono hz5)
    have hs5 := (HSeg5.out.below hb6 (Nat.le_refl _)).more hb6.size
    have hs6 := Seg.of_own hown6
    go_wp2_with fail
    refine (same_any A5 A6 _ c5 _ c6 _ _ w6 hs5 hs6 (by rw [sha256_length]; omega)).mono ?_
    rintro e w7 ⟨rfl, q, hq⟩
    have hb7 : Below w.heap.size w w7 := by rw [hq]; exact below_drewN hb6' q
    clear hq
    rw [sameB_self]
    go_wp2_with fail
    go_ret
    exact ⟨rfl, hb7⟩
  · have hf1 : fewB fs = false := by simpa using hfew
    clear hfew
    go_wp2_with fail
    go_ret
    exact ⟨rfl, hb1⟩
end Go.Proofs.YtnkcnlaijejheaaDoor
