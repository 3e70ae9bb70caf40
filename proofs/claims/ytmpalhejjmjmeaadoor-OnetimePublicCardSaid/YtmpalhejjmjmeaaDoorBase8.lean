/-
  The program's one-time signatures: public value, signature, recovery.
-/
import Derived.Test.YtmpalhejjmjmeaaDoorBase6
import Derived.Test.YtmpalhejjmjmeaaDoorBase7
namespace Go.Proofs.YtmpalhejjmjmeaaDoor
open Go.RowKit

theorem Tryd.zero35 (w : World) : (zeroValue 40).run Tryd.prog w = .ok (.agg (ints .i64 (List.replicate 35 0)).toArray) w := by kernel_rfl

theorem zeros_get (j : Nat) : (List.replicate 35 (0 : Int)).getD j 0 = 0 := by
  rw [List.getD_eq_getElem?_getD, List.getElem?_replicate]; split <;> rfl
theorem tops_get (j : Nat) (h : j < 35) : (List.replicate 35 (15 : Int)).getD j 0 = 15 := by
  rw [List.getD_eq_getElem?_getD, List.getElem?_replicate, if_pos h]; rfl

set_option maxRecDepth 100000 in
set_option maxHeartbeats 2000000 in
theorem wpublic_new (A : Option Addr) (n c : Nat) (seed : List Int) (leaf : Int) (w : World) (hs : Seg w w.heap.size .u8 A n seed) (hn : n ≤ 1048576) (hc : n ≤ c) (hm : c ≤ 9223372036854775807) (hK : Tab w 0 .u32 kay256) :
    Calls Tryd.prog 15 #[.slice A n c, .int .i64 leaf] w fun e w' => ∃ n', n' ≤ 16 ∧ HandedN w w' n' (publicI seed leaf) e := by
  have HS := Lib.hid hs
  have HK := Lib.hid hK
  have hk0 := hK.lt
  clear hs hK
  by_cases hbad : leaf < 0 ∨ 255 < leaf
  · have hP : Hid (publicI seed leaf = []) := by show _ = _; rw [publicI, if_pos hbad]
    have HV : Hid (decide (0 ≤ leaf ∧ leaf ≤ 255) = false) := by show _ = _; simp; omega
    clear hbad
    go_enter Tryd.func15, Tryd.ntmps15
    go_wp2_with fail
    refine (wleaf_any leaf false HV.out w).mono ?_
    rintro e w1 ⟨rfl, rfl⟩
    go_wp2_with fail
    go_ret
    rw [hP.out]
    exact ⟨0, by omega, none, 0, rfl, by omega, by unfold maxLen; omega, Seg.nil _ _ _ _, Below.refl _ _, fun h => absurd h (by omega)⟩
  · have HV : Hid (decide (0 ≤ leaf ∧ leaf ≤ 255) = true) := by show _ = _; simp; omega
    obtain ⟨F, HF⟩ : ∃ F : Nat → List Int, Hid (F = fun (k : Nat) => chainI leaf k 0 (startI seed leaf k) 15) := ⟨_, rfl⟩
    have hP : Hid (publicI seed leaf = valueI leaf (catI F 35)) := by show _ = _; rw [publicI, if_neg hbad, HF.out]
    clear hbad
    have hz35 := Tryd.zero35
    go_enter Tryd.func15, Tryd.ntmps15
    go_wp2_with fail
    refine (wleaf_any leaf true HV.out w).mono ?_
    rintro e w1 ⟨rfl, rfl⟩
    go_wp2_with fail
    generalize hwq : World.alloc _ _ = wq
    have hb0 : Below w.heap.size w wq := by rw [← hwq]; exact (Below.refl _ _).alloc (Nat.le_refl _) _
    have HZ : Hid (Seg wq wq.heap.size .i64 (some ⟨w.heap.size, 0, none⟩) 35 (List.replicate 35 0)) := by show Seg _ _ _ _ _ _; rw [← hwq]; exact Seg.of_blk (Blk.new w 40 .i64 (List.replicate 35 0))
    have hzq := hb0.size
    clear hwq
    have HCT : Hid (catI (fun k => chainI leaf k ((List.replicate 35 (0 : Int)).getD k 0) (((catI (fun k => startI seed leaf k) 35).drop (16 * k)).take 16) ((List.replicate 35 (15 : Int)).getD k 0 - (List.replicate 35 (0 : Int)).getD k 0).toNat) 35 = catI F 35) := by
      show _ = _
      rw [HF.out]
      refine catI_congr _ _ _ fun k hk => ?_
      show chainI _ _ _ _ _ = chainI _ _ _ _ _
      rw [zeros_get, tops_get k hk, catI_get _ 35 k (fun c _ => startI_length _ _ _) hk]
      rfl
    have HFL : Hid ((catI F 35).length = 560) := by show _ = _; rw [catI_length F 35 (fun c _ => by rw [HF.out]; exact chainI_length _ _ _ _ (startI_length _ _ _) _)]
    obtain ⟨X, HX⟩ : ∃ X, Hid (catI (fun k => startI seed leaf k) 35 = X) := ⟨_, rfl⟩
    obtain ⟨Y, HY⟩ : ∃ Y, Hid (catI F 35 = Y) := ⟨_, rfl⟩
    rw [HX.out, HY.out] at HCT
    rw [HY.out] at hP HFL
    have HS0 := Lib.hid ((HS.out.below hb0 (Nat.le_refl _)).more hzq)
    have HK0 := Lib.hid (HK.out.below hb0 hk0)
    have hk1 := HK0.out.lt
    go_region_with (first
      | (go_at_call 25; refine (wvalue_new A4 560 c4 Y leaf w4 HS4.out (by omega) hc4 hm4 (HK.out.below hb4 hk0)).mono ?_; rintro e w5 ⟨A5, c5, rfl, hc5, hm5, hs5, hb5, hn5⟩; have HS5 := Lib.hid hs5; have HN5 := Lib.hid hn5; have HB5 := Lib.hid hb5; clear hs5 hn5 hb5)
      | (go_at_call 26; refine (wclimb_any A2 (some ⟨w.heap.size, 0, none⟩) A3 c2 35 c3 X _ _ leaf w3 HS2.out hc2 (by unfold maxLen at hm2; omega) hm2 HZ3.out HS3.out (fun j _ => by rw [zeros_get]; omega) (fun j hj => by rw [tops_get j hj]; omega) HK3.out).mono ?_; rintro e w4 ⟨v4, rfl, hR4, hb4'⟩; have hb4 : Below w.heap.size w w4 := hb3.trans (hb4'.mono hb3.size); rw [HCT.out] at hR4; obtain ⟨A4, c4, rfl, hc4, hm4⟩ := hR4.cut; have HS4 := Lib.hid hR4.seg; clear hR4 hb4')
      | (go_at_call 28; refine (wtops_any w2).mono ?_; rintro e w3 ⟨v3, rfl, hR3, hb3'⟩; have hb3 : Below w.heap.size w w3 := hb2.trans (hb3'.mono hb2.size); have HK3 := Lib.hid (HK.out.below hb3 hk0); have HS2 := Lib.hid ((HR2.out.below hb3').seg); have HZ3 := Lib.hid ((HZ2.out.below hb3' (Nat.le_refl _)).more hb3'.size); obtain ⟨A3, c3, rfl, hc3, hm3⟩ := hR3.cut; have HS3 := Lib.hid hR3.seg; clear hR3 hb3')
      | (go_at_call 27; refine (wstarts_any A n c seed leaf wq.drew HS0.out hn hc hm HK0.out).mono ?_; rintro e w2 ⟨v2, rfl, hR2, hb2'⟩; have hb2 : Below w.heap.size w w2 := hb0.drew.trans (hb2'.mono hzq); rw [HX.out] at hR2; obtain ⟨A2, c2, rfl, hc2, hm2⟩ := hR2.cut; have HR2 := Lib.hid hR2; have HZ2 := Lib.hid ((Seg.below (w := wq.drew) HZ.out hb2' (Nat.le_refl _)).more hb2'.size); clear hR2 hb2'))
    go_wp2
    go_ret
    rw [hP.out]
    exact ⟨16, by omega, A5, c5, rfl, hc5, hm5, HS5.out, hb4.trans (HB5.out.mono hb4.size), fun h a ha => Nat.le_trans hb4.size (HN5.out h a ha)⟩

theorem wpublic_any (A : Option Addr) (n c : Nat) (seed : List Int) (leaf : Int) (w : World) (hs : Seg w w.heap.size .u8 A n seed) (hn : n ≤ 1048576) (hc : n ≤ c) (hm : c ≤ 9223372036854775807) (hK : Tab w 0 .u32 kay256) :
    Calls Tryd.prog 15 #[.slice A n c, .int .i64 leaf] w fun e w' => ∃ B k d, e = .returned (.slice B k d) ∧ k ≤ 16 ∧ k ≤ d ∧ d ≤ 9223372036854775807 ∧ Seg w' w'.heap.size .u8 B k (publicI seed leaf) ∧ Below w.heap.size w w' := by
  refine (wpublic_new A n c seed leaf w hs hn hc hm hK).mono ?_
  rintro e w' ⟨k, hk, B, d, he, hd, hdm, h1, h2, _⟩
  exact ⟨B, k, d, he, hk, hd, by unfold maxLen at hdm; omega, h1, h2⟩

theorem wdigits_any (A : Option Addr) (n c : Nat) (msg : List Int) (w : World) (hs : Seg w w.heap.size .u8 A n msg) (hn : n ≤ 1048576) (hc : n ≤ c) (hm : c ≤ 9223372036854775807) (hK : Tab w 0 .u32 kay256) :
    Calls Tryd.prog 12 #[.slice A n c] w fun e w' => ∃ B d, e = .returned (.slice B 35 d) ∧ 35 ≤ d ∧ d ≤ 9223372036854775807 ∧ Seg w' w'.heap.size .i64 B 35 (digitsI msg) ∧ Below w.heap.size w w' := by
  refine (wdigits_row A n c msg w hs hn hc (by unfold maxLen; omega) hK).mono ?_
  rintro e w' ⟨v, he, hR, hb⟩
  obtain ⟨B, d, rfl, h1, h2⟩ := hR.cut
  exact ⟨B, d, he, h1, by unfold maxLen at h2; omega, hR.seg, hb⟩

set_option maxRecDepth 100000 in
set_option maxHeartbeats 2000000 in
theorem wsign_row (A A2 : Option Addr) (n c n2 c2 : Nat) (seed msg : List Int) (leaf : Int) (w : World) (hs : Seg w w.heap.size .u8 A n seed) (hn : n ≤ 1048576) (hc : n ≤ c) (hm : c ≤ 9223372036854775807) (ht : Seg w w.heap.size .u8 A2 n2 msg) (hn2 : n2 ≤ 1048576) (hc2 : n2 ≤ c2) (hm2 : c2 ≤ 9223372036854775807) (hK : Tab w 0 .u32 kay256) :
    Calls Tryd.prog 18 #[.slice A n c, .int .i64 leaf, .slice A2 n2 c2] w fun e w' => ∃ v k, e = .returned v ∧ k ≤ 560 ∧ Row w' w.heap.size 5 .u8 v k (signI seed leaf msg) ∧ Below w.heap.size w w' := by
  have HS := Lib.hid hs
  have HT := Lib.hid ht
  have HK := Lib.hid hK
  have hk0 := hK.lt
  clear hs ht hK
  by_cases hbad : leaf < 0 ∨ 255 < leaf
  · have hP : Hid (signI seed leaf msg = []) := by show _ = _; rw [signI, if_pos hbad]
    have HV : Hid (decide (0 ≤ leaf ∧ leaf ≤ 255) = false) := by show _ = _; simp; omega
    clear hbad
    go_enter Tryd.func18, Tryd.ntmps18
    go_wp2_with fail
    refine (wleaf_any leaf false HV.out w).mono ?_
    rintro e w1 ⟨rfl, rfl⟩
    go_wp2_with fail
    go_ret
    rw [hP.out]
    first
      | exact ⟨_, 0, rfl, by omega, nil_row _ _ _ _, Below.refl _ _⟩
      | exact ⟨_, rfl, 0, by omega, nil_row _ _ _ _, Below.refl _ _⟩
  · have HV : Hid (decide (0 ≤ leaf ∧ leaf ≤ 255) = true) := by show _ = _; simp; omega
    obtain ⟨D, HD⟩ : ∃ D, Hid (digitsI msg = D) := ⟨_, rfl⟩
    obtain ⟨F, HF⟩ : ∃ F : Nat → List Int, Hid (F = fun (k : Nat) => chainI leaf k 0 (startI seed leaf k) (D.getD k 0).toNat) := ⟨_, rfl⟩
    have hP : Hid (signI seed leaf msg = catI F 35) := by show _ = _; rw [signI, if_neg hbad, HF.out, HD.out]
    have HDB : Hid (∀ j, j < 35 → 0 ≤ D.getD j 0 ∧ D.getD j 0 ≤ 15) := by rw [← HD.out]; exact digits_get msg
    clear hbad
    have hz35 := Tryd.zero35
    go_enter Tryd.func18, Tryd.ntmps18
    go_wp2_with fail
    refine (wleaf_any leaf true HV.out w).mono ?_
    rintro e w1 ⟨rfl, rfl⟩
    go_wp2_with fail
    generalize hwq : World.alloc _ _ = wq
    have hb0 : Below w.heap.size w wq := by rw [← hwq]; exact (Below.refl _ _).alloc (Nat.le_refl _) _
    have HZ : Hid (Seg wq wq.heap.size .i64 (some ⟨w.heap.size, 0, none⟩) 35 (List.replicate 35 0)) := by show Seg _ _ _ _ _ _; rw [← hwq]; exact Seg.of_blk (Blk.new w 40 .i64 (List.replicate 35 0))
    have hzq := hb0.size
    clear hwq
    have HCT : Hid (catI (fun k => chainI leaf k ((List.replicate 35 (0 : Int)).getD k 0) (((catI (fun k => startI seed leaf k) 35).drop (16 * k)).take 16) (D.getD k 0 - (List.replicate 35 (0 : Int)).getD k 0).toNat) 35 = catI F 35) := by
      show _ = _
      rw [HF.out]
      refine catI_congr _ _ _ fun k hk => ?_
      show chainI _ _ _ _ _ = chainI _ _ _ _ _
      rw [zeros_get, catI_get _ 35 k (fun c _ => startI_length _ _ _) hk, Int.sub_zero]
    obtain ⟨X, HX⟩ : ∃ X, Hid (catI (fun k => startI seed leaf k) 35 = X) := ⟨_, rfl⟩
    obtain ⟨Y, HY⟩ : ∃ Y, Hid (catI F 35 = Y) := ⟨_, rfl⟩
    rw [HX.out, HY.out] at HCT
    rw [HY.out] at hP
    have HS0 := Lib.hid ((HS.out.below hb0 (Nat.le_refl _)).more hzq)
    have HK0 := Lib.hid (HK.out.below hb0 hk0)
    go_region_with (first
      | (go_at_call 26; refine (wclimb_any A3 (some ⟨w.heap.size, 0, none⟩) A4 c3 35 c4 X _ D leaf w3 HS3.out hc3 (by unfold maxLen at hm3; omega) hm3 HZ3.out HD3.out (fun j _ => by rw [zeros_get]; omega) HDB.out HK3.out).mono ?_; rintro e w4 ⟨v4, rfl, hR4, hb4⟩; rw [HCT.out] at hR4; have HR4 := Lib.hid hR4; have HB4 := Lib.hid hb4; clear hR4 hb4)
      | (go_at_call 12; refine (wdigits_row A2 n2 c2 msg w2 ((HT.out.below hb2 (Nat.le_refl _)).more hb2.size) hn2 hc2 (by unfold maxLen; omega) (HK.out.below hb2 hk0)).mono ?_; rintro e w3 ⟨v3, rfl, hR3, hb3'⟩; have hb3 : Below w.heap.size w w3 := hb2.trans (hb3'.mono hb2.size); have HK3 := Lib.hid (HK.out.below hb3 hk0); have HS3 := Lib.hid ((HR2.out.below hb3').seg); have HZ3 := Lib.hid ((HZ2.out.below hb3' (Nat.le_refl _)).more hb3'.size); rw [HD.out] at hR3; obtain ⟨A4, c4, rfl, hc4, hm4⟩ := hR3.cut; have HD3 := Lib.hid hR3.seg; clear hR3 hb3')
      | (go_at_call 27; refine (wstarts_any A n c seed leaf wq.drew HS0.out hn hc hm HK0.out).mono ?_; rintro e w2 ⟨v2, rfl, hR2, hb2'⟩; have hb2 : Below w.heap.size w w2 := hb0.drew.trans (hb2'.mono hzq); rw [HX.out] at hR2; obtain ⟨A3, c3, rfl, hc3, hm3⟩ := hR2.cut; have HR2 := Lib.hid hR2; have HZ2 := Lib.hid ((Seg.below (w := wq.drew) HZ.out hb2' (Nat.le_refl _)).more hb2'.size); clear hR2 hb2'))
    go_wp2
    go_ret
    rw [hP.out]
    first
      | exact ⟨_, 560, rfl, by omega, HR4.out.less hb3.size, hb3.trans (HB4.out.mono hb3.size)⟩
      | exact ⟨_, rfl, 560, by omega, HR4.out.less hb3.size, hb3.trans (HB4.out.mono hb3.size)⟩

theorem wsign_any (A A2 : Option Addr) (n c n2 c2 : Nat) (seed msg : List Int) (leaf : Int) (w : World) (hs : Seg w w.heap.size .u8 A n seed) (hn : n ≤ 1048576) (hc : n ≤ c) (hm : c ≤ 9223372036854775807) (ht : Seg w w.heap.size .u8 A2 n2 msg) (hn2 : n2 ≤ 1048576) (hc2 : n2 ≤ c2) (hm2 : c2 ≤ 9223372036854775807) (hK : Tab w 0 .u32 kay256) :
    Calls Tryd.prog 18 #[.slice A n c, .int .i64 leaf, .slice A2 n2 c2] w fun e w' => ∃ B k d, e = .returned (.slice B k d) ∧ k ≤ 560 ∧ k ≤ d ∧ d ≤ 9223372036854775807 ∧ Seg w' w'.heap.size .u8 B k (signI seed leaf msg) ∧ Below w.heap.size w w' := by
  refine (wsign_row A A2 n c n2 c2 seed msg leaf w hs hn hc hm ht hn2 hc2 hm2 hK).mono ?_
  rintro e w' ⟨v, k, he, hk, hR, hb⟩
  obtain ⟨B, d, rfl, h1, h2⟩ := hR.cut
  exact ⟨B, k, d, he, hk, h1, by unfold maxLen at h2; omega, hR.seg, hb⟩

set_option maxRecDepth 100000 in
set_option maxHeartbeats 2000000 in
theorem wrecover_new (A2 A3 : Option Addr) (n2 c2 n3 c3 : Nat) (msg sig : List Int) (leaf : Int) (w : World) (ht : Seg w w.heap.size .u8 A2 n2 msg) (hn2 : n2 ≤ 1048576) (hc2 : n2 ≤ c2) (hm2 : c2 ≤ 9223372036854775807) (hu : Seg w w.heap.size .u8 A3 n3 sig) (hn3 : n3 ≤ 1048576) (hc3 : n3 ≤ c3) (hm3 : c3 ≤ 9223372036854775807) (hK : Tab w 0 .u32 kay256) :
    Calls Tryd.prog 20 #[.int .i64 leaf, .slice A2 n2 c2, .slice A3 n3 c3] w fun e w' => ∃ B k d, e = .returned (.tuple #[.slice B k d, .bool (recoverI leaf msg sig).2]) ∧ k ≤ 16 ∧ k ≤ d ∧ d ≤ maxLen ∧ Seg w' w'.heap.size .u8 B k (recoverI leaf msg sig).1 ∧ Below w.heap.size w w' ∧ (0 < k → ∀ a, B = some a → w.heap.size ≤ a.block) := by
  have HU := Lib.hid hu
  have HT := Lib.hid ht
  have HUL := Lib.hid hu.1
  have HK := Lib.hid hK
  have hk0 := hK.lt
  clear hu ht hK
  by_cases hbad : leaf < 0 ∨ 255 < leaf ∨ n3 ≠ 560
  · have hP : Hid (recoverI leaf msg sig = ([], false)) := by show _ = _; rw [recoverI, if_pos (by rw [HUL.out]; exact hbad)]
    by_cases hL : leaf < 0 ∨ 255 < leaf
    · have HV : Hid (decide (0 ≤ leaf ∧ leaf ≤ 255) = false) := by show _ = _; simp; omega
      clear hbad hL
      go_enter Tryd.func20, Tryd.ntmps20
      go_wp2_with fail
      refine (wleaf_any leaf false HV.out w).mono ?_
      rintro e w1 ⟨rfl, rfl⟩
      go_wp2_with fail
      go_ret2
      rw [hP.out]
      exact ⟨none, 0, 0, rfl, by omega, by omega, by unfold maxLen; omega, Seg.nil _ _ _ _, Below.refl _ _, fun h => absurd h (by omega)⟩
    · have HV : Hid (decide (0 ≤ leaf ∧ leaf ≤ 255) = true) := by show _ = _; simp; omega
      have hd3 : ((n3 : Int) != 560) = true := by rw [bne_iff_ne]; omega
      clear hbad hL
      go_enter Tryd.func20, Tryd.ntmps20
      go_wp2_with fail
      refine (wleaf_any leaf true HV.out w).mono ?_
      rintro e w1 ⟨rfl, rfl⟩
      go_wp2_with fail
      go_ret2
      rw [hP.out]
      exact ⟨none, 0, 0, rfl, by omega, by omega, by unfold maxLen; omega, Seg.nil _ _ _ _, Below.refl _ _, fun h => absurd h (by omega)⟩
  · have HV : Hid (decide (0 ≤ leaf ∧ leaf ≤ 255) = true) := by show _ = _; simp; omega
    have h560 : n3 = 560 := by omega
    subst h560
    obtain ⟨D, HD⟩ : ∃ D, Hid (digitsI msg = D) := ⟨_, rfl⟩
    obtain ⟨F, HF⟩ : ∃ F : Nat → List Int, Hid (F = fun (k : Nat) => chainI leaf k (D.getD k 0) ((sig.drop (16 * k)).take 16) (15 - (D.getD k 0).toNat)) := ⟨_, rfl⟩
    have hP : Hid (recoverI leaf msg sig = (valueI leaf (catI F 35), true)) := by show _ = _; rw [recoverI, if_neg (by rw [HUL.out]; exact hbad), HF.out, HD.out]
    have HDB : Hid (∀ j, j < 35 → 0 ≤ D.getD j 0 ∧ D.getD j 0 ≤ 15) := by rw [← HD.out]; exact digits_get msg
    have HCT : Hid (catI (fun k => chainI leaf k (D.getD k 0) ((sig.drop (16 * k)).take 16) ((List.replicate 35 (15 : Int)).getD k 0 - D.getD k 0).toNat) 35 = catI F 35) := by
      show _ = _
      rw [HF.out]
      refine catI_congr _ _ _ fun k hk => ?_
      show chainI _ _ _ _ _ = chainI _ _ _ _ _
      have hdb := HDB.out k hk
      rw [tops_get k hk, show (15 - D.getD k 0).toNat = 15 - (D.getD k 0).toNat by omega]
    obtain ⟨Y, HY⟩ : ∃ Y, Hid (catI F 35 = Y) := ⟨_, rfl⟩
    rw [HY.out] at HCT hP
    clear hbad
    go_enter Tryd.func20, Tryd.ntmps20
    go_wp2_with fail
    refine (wleaf_any leaf true HV.out w).mono ?_
    rintro e w1 ⟨rfl, rfl⟩
    go_wp2_with fail
    refine (wdigits_row A2 n2 c2 msg w HT.out hn2 hc2 (by unfold maxLen; omega) HK.out).mono ?_
    rintro e w1 ⟨v1, rfl, hR1, hb1⟩
    rw [HD.out] at hR1
    obtain ⟨A4, c4, rfl, hc4, hm4⟩ := hR1.cut
    have HD1 := Lib.hid hR1.seg
    have hz1 := hb1.size
    clear hR1
    go_wp2_with fail
    refine (wtops_any w1).mono ?_
    rintro e w2 ⟨v2, rfl, hR2, hb2'⟩
    obtain ⟨A5, c5, rfl, hc5, hm5⟩ := hR2.cut
    have hb2 := hb1.trans (hb2'.mono hz1)
    have hz2 := hb2.size
    have HT2 := Lib.hid hR2.seg
    have HD2 := Lib.hid ((HD1.out.below hb2' (Nat.le_refl _)).more hb2'.size)
    have HU2 := Lib.hid ((HU.out.below hb2 (Nat.le_refl _)).more hz2)
    clear hR2 hb2'
    go_wp2_with fail
    refine (wclimb_any A3 A4 A5 c3 c4 c5 sig D _ leaf w2 HU2.out hc3 hm3 (by unfold maxLen; omega) HD2.out HT2.out HDB.out (fun j hj => by rw [tops_get j hj]; omega) (HK.out.below hb2 hk0)).mono ?_
    rintro e w3 ⟨v3, rfl, hR3, hb3'⟩
    rw [HCT.out] at hR3
    obtain ⟨A6, c6, rfl, hc6, hm6⟩ := hR3.cut
    have HS3 := Lib.hid hR3.seg
    have hb3 := hb2.trans (hb3'.mono hz2)
    have hz3 := hb3.size
    clear hR3 hb3'
    go_wp2_with fail
    refine (wvalue_new A6 560 c6 Y leaf w3 HS3.out (by omega) hc6 hm6 (HK.out.below hb3 hk0)).mono ?_
    rintro e w4 ⟨A7, c7, rfl, hc7, hm7, hs7, hb7, hn7⟩
    have HS7 := Lib.hid hs7
    have HN7 := Lib.hid hn7
    clear hs7 hn7
    go_wp2_with fail
    go_ret2
    rw [hP.out]
    exact ⟨A7, 16, c7, rfl, by omega, hc7, hm7, HS7.out, hb3.trans (hb7.mono hz3), fun h a ha => Nat.le_trans hz3 (HN7.out h a ha)⟩

theorem wrecover_any (A2 A3 : Option Addr) (n2 c2 n3 c3 : Nat) (msg sig : List Int) (leaf : Int) (w : World) (ht : Seg w w.heap.size .u8 A2 n2 msg) (hn2 : n2 ≤ 1048576) (hc2 : n2 ≤ c2) (hm2 : c2 ≤ 9223372036854775807) (hu : Seg w w.heap.size .u8 A3 n3 sig) (hn3 : n3 ≤ 1048576) (hc3 : n3 ≤ c3) (hm3 : c3 ≤ 9223372036854775807) (hK : Tab w 0 .u32 kay256) :
    Calls Tryd.prog 20 #[.int .i64 leaf, .slice A2 n2 c2, .slice A3 n3 c3] w fun e w' => ∃ B k d, e = .returned (.tuple #[.slice B k d, .bool (recoverI leaf msg sig).2]) ∧ k ≤ 16 ∧ k ≤ d ∧ d ≤ 9223372036854775807 ∧ Seg w' w'.heap.size .u8 B k (recoverI leaf msg sig).1 ∧ Below w.heap.size w w' := by
  refine (wrecover_new A2 A3 n2 c2 n3 c3 msg sig leaf w ht hn2 hc2 hm2 hu hn3 hc3 hm3 hK).mono ?_
  rintro e w' ⟨B, k, d, he, hk, hd, hdm, h1, h2, _⟩
  exact ⟨B, k, d, he, hk, hd, by unfold maxLen at hdm; omega, h1, h2⟩
end Go.Proofs.YtmpalhejjmjmeaaDoor
