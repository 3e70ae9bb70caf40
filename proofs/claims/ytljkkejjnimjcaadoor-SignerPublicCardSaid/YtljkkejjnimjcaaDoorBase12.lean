/-
  The program's one-time signatures: public value, signature, recovery.
  bytes.Equal.
  The program's Equal.
  The program's signatures with several leaves: which heights and leaves there are, how long a signature is, the seed of the leaves, their public values, the path of a signature.
  The program's signatures with several leaves: the public key, a signature, and which signatures verify.
-/
import Derived.Test.YtljkkejjnimjcaaDoorBase10
import Derived.Test.YtljkkejjnimjcaaDoorBase11
import Derived.Test.YtljkkejjnimjcaaDoorBase8
import Derived.Test.YtljkkejjnimjcaaDoorBase4
import Derived.Lib.Bytes
import Derived.Deep.RegionHeld3
import Derived.Test.YtljkkejjnimjcaaDoorBase9
import Derived.Deep.QuietTactic
import Derived.BigQuiet
namespace Go.Proofs.YtljkkejjnimjcaaDoor
open Go.RowKit

theorem Tryd.zero35 (w : World) : (zeroValue 50).run Tryd.prog w = .ok (.agg (ints .i64 (List.replicate 35 0)).toArray) w := by kernel_rfl

theorem zeros_get (j : Nat) : (List.replicate 35 (0 : Int)).getD j 0 = 0 := by
  rw [List.getD_eq_getElem?_getD, List.getElem?_replicate]; split <;> rfl
theorem tops_get (j : Nat) (h : j < 35) : (List.replicate 35 (15 : Int)).getD j 0 = 15 := by
  rw [List.getD_eq_getElem?_getD, List.getElem?_replicate, if_pos h]; rfl

set_option maxRecDepth 100000 in
set_option maxHeartbeats 2000000 in
theorem wpublic_new (A : Option Addr) (n c : Nat) (seed : List Int) (leaf : Int) (w : World) (hs : Seg w w.heap.size .u8 A n seed) (hn : n ≤ 1048576) (hc : n ≤ c) (hm : c ≤ 9223372036854775807) (hK : Tab w 0 .u32 kay256) :
    Calls Tryd.prog 41 #[.slice A n c, .int .i64 leaf] w fun e w' => ∃ n', n' ≤ 16 ∧ HandedN w w' n' (publicI seed leaf) e := by
  have HS := Lib.hid hs
  have HK := Lib.hid hK
  have hk0 := hK.lt
  clear hs hK
  by_cases hbad : leaf < 0 ∨ 255 < leaf
  · have hP : Hid (publicI seed leaf = []) := by show _ = _; rw [publicI, if_pos hbad]
    have HV : Hid (decide (0 ≤ leaf ∧ leaf ≤ 255) = false) := by show _ = _; simp; omega
    clear hbad
    go_enter Tryd.func41, Tryd.ntmps41
    go_wp2_with fail
    refine (wleaf_any leaf false HV.out w).mono ?_
    rintro e w1 ⟨rfl, rfl⟩
    go_wp2_with fail
    go_ret
    rw [hP.out]
    exact ⟨0, by omega, none, 0, rfl, by omega, by unfold maxLen; omega, Seg.nil _ _ _ _, Below.refl _ _, fun h => absurd h (by omega)⟩
  · have HV : Hid (decide (0 ≤ leaf ∧ leaf ≤ 255) = true) := by show _ = _; simp; omega
    obtain ⟨F, HF⟩ : ∃ F : Nat → List Int, Hid (F = fun (k : Nat) => chainI leaf k 0 (startI seed leaf k) 15) := ⟨_, rfl⟩
    have hP : Hid (publicI seed leaf = valueI leaf (catI F 35)) := by show _ = _; rw [publicI, if_neg hbad, HF.out]
    clear hbad
    have hz35 := Tryd.zero35
    go_enter Tryd.func41, Tryd.ntmps41
    go_wp2_with fail
    refine (wleaf_any leaf true HV.out w).mono ?_
    rintro e w1 ⟨rfl, rfl⟩
    go_wp2_with fail
    generalize hwq : World.alloc _ _ = wq
    have hb0 : Below w.heap.size w wq := by rw [← hwq]; exact (Below.refl _ _).alloc (Nat.le_refl _) _
    have HZ : Hid (Seg wq wq.heap.size .i64 (some ⟨w.heap.size, 0, none⟩) 35 (List.replicate 35 0)) := by show Seg _ _ _ _ _ _; rw [← hwq]; exact Seg.of_blk (Blk.new w 50 .i64 (List.replicate 35 0))
    have hzq := hb0.size
    clear hwq
    have HCT : Hid (catI (fun k => chainI leaf k ((List.replicate 35 (0 : Int)).getD k 0) (((catI (fun k => startI seed leaf k) 35).drop (16 * k)).take 16) ((List.replicate 35 (15 : Int)).getD k 0 - (List.replicate 35 (0 : Int)).getD k 0).toNat) 35 = catI F 35) := by
      show _ = _
      rw [HF.out]
      refine catI_congr _ _ _ fun k hk => ?_
      show chainI _ _ _ _ _ = chainI _ _ _ _ _
      rw [zeros_get, tops_get k hk, catI_get _ 35 k (fun c _ => startI_length _ _ _) hk]
      rfl
    have HFL : Hid ((catI F 35).length = 560) := by show _ = _; rw [catI_length F 35 (fun c _ => by rw [HF.out]; exact chainI_length _ _ _ _ (startI_length _ _ _) _)]
    obtain ⟨X, HX⟩ : ∃ X, Hid (catI (fun k => startI seed leaf k) 35 = X) := ⟨_, rfl⟩
    obtain ⟨Y, HY⟩ : ∃ Y, Hid (catI F 35 = Y) := ⟨_, rfl⟩
    rw [HX.out, HY.out] at HCT
    rw [HY.out] at hP HFL
    have HS0 := Lib.hid ((HS.out.below hb0 (Nat.le_refl _)).more hzq)
    have HK0 := Lib.hid (HK.out.below hb0 hk0)
    have hk1 := HK0.out.lt
    go_region_with (first
      | (go_at_call 54; refine (wvalue_new A4 560 c4 Y leaf w4 HS4.out (by omega) hc4 hm4 (HK.out.below hb4 hk0)).mono ?_; rintro e w5 ⟨A5, c5, rfl, hc5, hm5, hs5, hb5, hn5⟩; have HS5 := Lib.hid hs5; have HN5 := Lib.hid hn5; have HB5 := Lib.hid hb5; clear hs5 hn5 hb5)
      | (go_at_call 47; refine (wclimb5_any A2 (some ⟨w.heap.size, 0, none⟩) A3 c2 35 c3 X _ _ leaf w3 HS2.out hc2 (by unfold maxLen at hm2; omega) hm2 HZ3.out HS3.out (fun j _ => by rw [zeros_get]; omega) (fun j hj => by rw [tops_get j hj]; omega) HK3.out).mono ?_; rintro e w4 ⟨v4, rfl, hR4, hb4'⟩; have hb4 : Below w.heap.size w w4 := hb3.trans (hb4'.mono hb3.size); rw [HCT.out] at hR4; obtain ⟨A4, c4, rfl, hc4, hm4⟩ := hR4.cut; have HS4 := Lib.hid hR4.seg; clear hR4 hb4')
      | (go_at_call 55; refine (wtops_any w2).mono ?_; rintro e w3 ⟨v3, rfl, hR3, hb3'⟩; have hb3 : Below w.heap.size w w3 := hb2.trans (hb3'.mono hb2.size); have HK3 := Lib.hid (HK.out.below hb3 hk0); have HS2 := Lib.hid ((HR2.out.below hb3').seg); have HZ3 := Lib.hid ((HZ2.out.below hb3' (Nat.le_refl _)).more hb3'.size); obtain ⟨A3, c3, rfl, hc3, hm3⟩ := hR3.cut; have HS3 := Lib.hid hR3.seg; clear hR3 hb3')
      | (go_at_call 48; refine (wstarts_any A n c seed leaf wq.drew HS0.out hn hc hm HK0.out).mono ?_; rintro e w2 ⟨v2, rfl, hR2, hb2'⟩; have hb2 : Below w.heap.size w w2 := hb0.drew.trans (hb2'.mono hzq); rw [HX.out] at hR2; obtain ⟨A2, c2, rfl, hc2, hm2⟩ := hR2.cut; have HR2 := Lib.hid hR2; have HZ2 := Lib.hid ((Seg.below (w := wq.drew) HZ.out hb2' (Nat.le_refl _)).more hb2'.size); clear hR2 hb2'))
    go_wp2
    go_ret
    rw [hP.out]
    exact ⟨16, by omega, A5, c5, rfl, hc5, hm5, HS5.out, hb4.trans (HB5.out.mono hb4.size), fun h a ha => Nat.le_trans hb4.size (HN5.out h a ha)⟩

theorem wpublic_any (A : Option Addr) (n c : Nat) (seed : List Int) (leaf : Int) (w : World) (hs : Seg w w.heap.size .u8 A n seed) (hn : n ≤ 1048576) (hc : n ≤ c) (hm : c ≤ 9223372036854775807) (hK : Tab w 0 .u32 kay256) :
    Calls Tryd.prog 41 #[.slice A n c, .int .i64 leaf] w fun e w' => ∃ B k d, e = .returned (.slice B k d) ∧ k ≤ 16 ∧ k ≤ d ∧ d ≤ 9223372036854775807 ∧ Seg w' w'.heap.size .u8 B k (publicI seed leaf) ∧ Below w.heap.size w w' := by
  refine (wpublic_new A n c seed leaf w hs hn hc hm hK).mono ?_
  rintro e w' ⟨k, hk, B, d, he, hd, hdm, h1, h2, _⟩
  exact ⟨B, k, d, he, hk, hd, by unfold maxLen at hdm; omega, h1, h2⟩

theorem wdigits_any (A : Option Addr) (n c : Nat) (msg : List Int) (w : World) (hs : Seg w w.heap.size .u8 A n msg) (hn : n ≤ 1048576) (hc : n ≤ c) (hm : c ≤ 9223372036854775807) (hK : Tab w 0 .u32 kay256) :
    Calls Tryd.prog 49 #[.slice A n c] w fun e w' => ∃ B d, e = .returned (.slice B 35 d) ∧ 35 ≤ d ∧ d ≤ 9223372036854775807 ∧ Seg w' w'.heap.size .i64 B 35 (digitsI msg) ∧ Below w.heap.size w w' := by
  refine (wdigits_row A n c msg w hs hn hc (by unfold maxLen; omega) hK).mono ?_
  rintro e w' ⟨v, he, hR, hb⟩
  obtain ⟨B, d, rfl, h1, h2⟩ := hR.cut
  exact ⟨B, d, he, h1, by unfold maxLen at h2; omega, hR.seg, hb⟩

set_option maxRecDepth 100000 in
set_option maxHeartbeats 2000000 in
theorem wsign_row (A A2 : Option Addr) (n c n2 c2 : Nat) (seed msg : List Int) (leaf : Int) (w : World) (hs : Seg w w.heap.size .u8 A n seed) (hn : n ≤ 1048576) (hc : n ≤ c) (hm : c ≤ 9223372036854775807) (ht : Seg w w.heap.size .u8 A2 n2 msg) (hn2 : n2 ≤ 1048576) (hc2 : n2 ≤ c2) (hm2 : c2 ≤ 9223372036854775807) (hK : Tab w 0 .u32 kay256) :
    Calls Tryd.prog 27 #[.slice A n c, .int .i64 leaf, .slice A2 n2 c2] w fun e w' => ∃ v k, e = .returned v ∧ k ≤ 560 ∧ Row w' w.heap.size 5 .u8 v k (signI seed leaf msg) ∧ Below w.heap.size w w' := by
  have HS := Lib.hid hs
  have HT := Lib.hid ht
  have HK := Lib.hid hK
  have hk0 := hK.lt
  clear hs ht hK
  by_cases hbad : leaf < 0 ∨ 255 < leaf
  · have hP : Hid (signI seed leaf msg = []) := by show _ = _; rw [signI, if_pos hbad]
    have HV : Hid (decide (0 ≤ leaf ∧ leaf ≤ 255) = false) := by show _ = _; simp; omega
    clear hbad
    go_enter Tryd.func27, Tryd.ntmps27
    go_wp2_with fail
    refine (wleaf_any leaf false HV.out w).mono ?_
    rintro e w1 ⟨rfl, rfl⟩
    go_wp2_with fail
    go_ret
    rw [hP.out]
    first
      | exact ⟨_, 0, rfl, by omega, nil_row _ _ _ _, Below.refl _ _⟩
      | exact ⟨_, rfl, 0, by omega, nil_row _ _ _ _, Below.refl _ _⟩
  · have HV : Hid (decide (0 ≤ leaf ∧ leaf ≤ 255) = true) := by show _ = _; simp; omega
    obtain ⟨D, HD⟩ : ∃ D, Hid (digitsI msg = D) := ⟨_, rfl⟩
    obtain ⟨F, HF⟩ : ∃ F : Nat → List Int, Hid (F = fun (k : Nat) => chainI leaf k 0 (startI seed leaf k) (D.getD k 0).toNat) := ⟨_, rfl⟩
    have hP : Hid (signI seed leaf msg = catI F 35) := by show _ = _; rw [signI, if_neg hbad, HF.out, HD.out]
    have HDB : Hid (∀ j, j < 35 → 0 ≤ D.getD j 0 ∧ D.getD j 0 ≤ 15) := by rw [← HD.out]; exact digits_get msg
    clear hbad
    have hz35 := Tryd.zero35
    go_enter Tryd.func27, Tryd.ntmps27
    go_wp2_with fail
    refine (wleaf_any leaf true HV.out w).mono ?_
    rintro e w1 ⟨rfl, rfl⟩
    go_wp2_with fail
    generalize hwq : World.alloc _ _ = wq
    have hb0 : Below w.heap.size w wq := by rw [← hwq]; exact (Below.refl _ _).alloc (Nat.le_refl _) _
    have HZ : Hid (Seg wq wq.heap.size .i64 (some ⟨w.heap.size, 0, none⟩) 35 (List.replicate 35 0)) := by show Seg _ _ _ _ _ _; rw [← hwq]; exact Seg.of_blk (Blk.new w 50 .i64 (List.replicate 35 0))
    have hzq := hb0.size
    clear hwq
    have HCT : Hid (catI (fun k => chainI leaf k ((List.replicate 35 (0 : Int)).getD k 0) (((catI (fun k => startI seed leaf k) 35).drop (16 * k)).take 16) (D.getD k 0 - (List.replicate 35 (0 : Int)).getD k 0).toNat) 35 = catI F 35) := by
      show _ = _
      rw [HF.out]
      refine catI_congr _ _ _ fun k hk => ?_
      show chainI _ _ _ _ _ = chainI _ _ _ _ _
      rw [zeros_get, catI_get _ 35 k (fun c _ => startI_length _ _ _) hk, Int.sub_zero]
    obtain ⟨X, HX⟩ : ∃ X, Hid (catI (fun k => startI seed leaf k) 35 = X) := ⟨_, rfl⟩
    obtain ⟨Y, HY⟩ : ∃ Y, Hid (catI F 35 = Y) := ⟨_, rfl⟩
    rw [HX.out, HY.out] at HCT
    rw [HY.out] at hP
    have HS0 := Lib.hid ((HS.out.below hb0 (Nat.le_refl _)).more hzq)
    have HK0 := Lib.hid (HK.out.below hb0 hk0)
    go_region_with (first
      | (go_at_call 47; refine (wclimb5_any A3 (some ⟨w.heap.size, 0, none⟩) A4 c3 35 c4 X _ D leaf w3 HS3.out hc3 (by unfold maxLen at hm3; omega) hm3 HZ3.out HD3.out (fun j _ => by rw [zeros_get]; omega) HDB.out HK3.out).mono ?_; rintro e w4 ⟨v4, rfl, hR4, hb4⟩; rw [HCT.out] at hR4; have HR4 := Lib.hid hR4; have HB4 := Lib.hid hb4; clear hR4 hb4)
      | (go_at_call 49; refine (wdigits_row A2 n2 c2 msg w2 ((HT.out.below hb2 (Nat.le_refl _)).more hb2.size) hn2 hc2 (by unfold maxLen; omega) (HK.out.below hb2 hk0)).mono ?_; rintro e w3 ⟨v3, rfl, hR3, hb3'⟩; have hb3 : Below w.heap.size w w3 := hb2.trans (hb3'.mono hb2.size); have HK3 := Lib.hid (HK.out.below hb3 hk0); have HS3 := Lib.hid ((HR2.out.below hb3').seg); have HZ3 := Lib.hid ((HZ2.out.below hb3' (Nat.le_refl _)).more hb3'.size); rw [HD.out] at hR3; obtain ⟨A4, c4, rfl, hc4, hm4⟩ := hR3.cut; have HD3 := Lib.hid hR3.seg; clear hR3 hb3')
      | (go_at_call 48; refine (wstarts_any A n c seed leaf wq.drew HS0.out hn hc hm HK0.out).mono ?_; rintro e w2 ⟨v2, rfl, hR2, hb2'⟩; have hb2 : Below w.heap.size w w2 := hb0.drew.trans (hb2'.mono hzq); rw [HX.out] at hR2; obtain ⟨A3, c3, rfl, hc3, hm3⟩ := hR2.cut; have HR2 := Lib.hid hR2; have HZ2 := Lib.hid ((Seg.below (w := wq.drew) HZ.out hb2' (Nat.le_refl _)).more hb2'.size); clear hR2 hb2'))
    go_wp2
    go_ret
    rw [hP.out]
    first
      | exact ⟨_, 560, rfl, by omega, HR4.out.less hb3.size, hb3.trans (HB4.out.mono hb3.size)⟩
      | exact ⟨_, rfl, 560, by omega, HR4.out.less hb3.size, hb3.trans (HB4.out.mono hb3.size)⟩

theorem wsign_any (A A2 : Option Addr) (n c n2 c2 : Nat) (seed msg : List Int) (leaf : Int) (w : World) (hs : Seg w w.heap.size .u8 A n seed) (hn : n ≤ 1048576) (hc : n ≤ c) (hm : c ≤ 9223372036854775807) (ht : Seg w w.heap.size .u8 A2 n2 msg) (hn2 : n2 ≤ 1048576) (hc2 : n2 ≤ c2) (hm2 : c2 ≤ 9223372036854775807) (hK : Tab w 0 .u32 kay256) :
    Calls Tryd.prog 27 #[.slice A n c, .int .i64 leaf, .slice A2 n2 c2] w fun e w' => ∃ B k d, e = .returned (.slice B k d) ∧ k ≤ 560 ∧ k ≤ d ∧ d ≤ 9223372036854775807 ∧ Seg w' w'.heap.size .u8 B k (signI seed leaf msg) ∧ Below w.heap.size w w' := by
  refine (wsign_row A A2 n c n2 c2 seed msg leaf w hs hn hc hm ht hn2 hc2 hm2 hK).mono ?_
  rintro e w' ⟨v, k, he, hk, hR, hb⟩
  obtain ⟨B, d, rfl, h1, h2⟩ := hR.cut
  exact ⟨B, k, d, he, hk, h1, by unfold maxLen at h2; omega, hR.seg, hb⟩

set_option maxRecDepth 100000 in
set_option maxHeartbeats 2000000 in
theorem wrecover_new (A2 A3 : Option Addr) (n2 c2 n3 c3 : Nat) (msg sig : List Int) (leaf : Int) (w : World) (ht : Seg w w.heap.size .u8 A2 n2 msg) (hn2 : n2 ≤ 1048576) (hc2 : n2 ≤ c2) (hm2 : c2 ≤ 9223372036854775807) (hu : Seg w w.heap.size .u8 A3 n3 sig) (hn3 : n3 ≤ 1048576) (hc3 : n3 ≤ c3) (hm3 : c3 ≤ 9223372036854775807) (hK : Tab w 0 .u32 kay256) :
    Calls Tryd.prog 32 #[.int .i64 leaf, .slice A2 n2 c2, .slice A3 n3 c3] w fun e w' => ∃ B k d, e = .returned (.tuple #[.slice B k d, .bool (recoverI leaf msg sig).2]) ∧ k ≤ 16 ∧ k ≤ d ∧ d ≤ maxLen ∧ Seg w' w'.heap.size .u8 B k (recoverI leaf msg sig).1 ∧ Below w.heap.size w w' ∧ (0 < k → ∀ a, B = some a → w.heap.size ≤ a.block) := by
  have HU := Lib.hid hu
  have HT := Lib.hid ht
  have HUL := Lib.hid hu.1
  have HK := Lib.hid hK
  have hk0 := hK.lt
  clear hu ht hK
  by_cases hbad : leaf < 0 ∨ 255 < leaf ∨ n3 ≠ 560
  · have hP : Hid (recoverI leaf msg sig = ([], false)) := by show _ = _; rw [recoverI, if_pos (by rw [HUL.out]; exact hbad)]
    by_cases hL : leaf < 0 ∨ 255 < leaf
    · have HV : Hid (decide (0 ≤ leaf ∧ leaf ≤ 255) = false) := by show _ = _; simp; omega
      clear hbad hL
      go_enter Tryd.func32, Tryd.ntmps32
      go_wp2_with fail
      refine (wleaf_any leaf false HV.out w).mono ?_
      rintro e w1 ⟨rfl, rfl⟩
      go_wp2_with fail
      go_ret2
      rw [hP.out]
      exact ⟨none, 0, 0, rfl, by omega, by omega, by unfold maxLen; omega, Seg.nil _ _ _ _, Below.refl _ _, fun h => absurd h (by omega)⟩
    · have HV : Hid (decide (0 ≤ leaf ∧ leaf ≤ 255) = true) := by show _ = _; simp; omega
      have hd3 : ((n3 : Int) != 560) = true := by rw [bne_iff_ne]; omega
      clear hbad hL
      go_enter Tryd.func32, Tryd.ntmps32
      go_wp2_with fail
      refine (wleaf_any leaf true HV.out w).mono ?_
      rintro e w1 ⟨rfl, rfl⟩
      go_wp2_with fail
      go_ret2
      rw [hP.out]
      exact ⟨none, 0, 0, rfl, by omega, by omega, by unfold maxLen; omega, Seg.nil _ _ _ _, Below.refl _ _, fun h => absurd h (by omega)⟩
  · have HV : Hid (decide (0 ≤ leaf ∧ leaf ≤ 255) = true) := by show _ = _; simp; omega
    have h560 : n3 = 560 := by omega
    subst h560
    obtain ⟨D, HD⟩ : ∃ D, Hid (digitsI msg = D) := ⟨_, rfl⟩
    obtain ⟨F, HF⟩ : ∃ F : Nat → List Int, Hid (F = fun (k : Nat) => chainI leaf k (D.getD k 0) ((sig.drop (16 * k)).take 16) (15 - (D.getD k 0).toNat)) := ⟨_, rfl⟩
    have hP : Hid (recoverI leaf msg sig = (valueI leaf (catI F 35), true)) := by show _ = _; rw [recoverI, if_neg (by rw [HUL.out]; exact hbad), HF.out, HD.out]
    have HDB : Hid (∀ j, j < 35 → 0 ≤ D.getD j 0 ∧ D.getD j 0 ≤ 15) := by rw [← HD.out]; exact digits_get msg
    have HCT : Hid (catI (fun k => chainI leaf k (D.getD k 0) ((sig.drop (16 * k)).take 16) ((List.replicate 35 (15 : Int)).getD k 0 - D.getD k 0).toNat) 35 = catI F 35) := by
      show _ = _
      rw [HF.out]
      refine catI_congr _ _ _ fun k hk => ?_
      show chainI _ _ _ _ _ = chainI _ _ _ _ _
      have hdb := HDB.out k hk
      rw [tops_get k hk, show (15 - D.getD k 0).toNat = 15 - (D.getD k 0).toNat by omega]
    obtain ⟨Y, HY⟩ : ∃ Y, Hid (catI F 35 = Y) := ⟨_, rfl⟩
    rw [HY.out] at HCT hP
    clear hbad
    go_enter Tryd.func32, Tryd.ntmps32
    go_wp2_with fail
    refine (wleaf_any leaf true HV.out w).mono ?_
    rintro e w1 ⟨rfl, rfl⟩
    go_wp2_with fail
    refine (wdigits_row A2 n2 c2 msg w HT.out hn2 hc2 (by unfold maxLen; omega) HK.out).mono ?_
    rintro e w1 ⟨v1, rfl, hR1, hb1⟩
    rw [HD.out] at hR1
    obtain ⟨A4, c4, rfl, hc4, hm4⟩ := hR1.cut
    have HD1 := Lib.hid hR1.seg
    have hz1 := hb1.size
    clear hR1
    go_wp2_with fail
    refine (wtops_any w1).mono ?_
    rintro e w2 ⟨v2, rfl, hR2, hb2'⟩
    obtain ⟨A5, c5, rfl, hc5, hm5⟩ := hR2.cut
    have hb2 := hb1.trans (hb2'.mono hz1)
    have hz2 := hb2.size
    have HT2 := Lib.hid hR2.seg
    have HD2 := Lib.hid ((HD1.out.below hb2' (Nat.le_refl _)).more hb2'.size)
    have HU2 := Lib.hid ((HU.out.below hb2 (Nat.le_refl _)).more hz2)
    clear hR2 hb2'
    go_wp2_with fail
    refine (wclimb5_any A3 A4 A5 c3 c4 c5 sig D _ leaf w2 HU2.out hc3 hm3 (by unfold maxLen; omega) HD2.out HT2.out HDB.out (fun j hj => by rw [tops_get j hj]; omega) (HK.out.below hb2 hk0)).mono ?_
    rintro e w3 ⟨v3, rfl, hR3, hb3'⟩
    rw [HCT.out] at hR3
    obtain ⟨A6, c6, rfl, hc6, hm6⟩ := hR3.cut
    have HS3 := Lib.hid hR3.seg
    have hb3 := hb2.trans (hb3'.mono hz2)
    have hz3 := hb3.size
    clear hR3 hb3'
    go_wp2_with fail
    refine (wvalue_new A6 560 c6 Y leaf w3 HS3.out (by omega) hc6 hm6 (HK.out.below hb3 hk0)).mono ?_
    rintro e w4 ⟨A7, c7, rfl, hc7, hm7, hs7, hb7, hn7⟩
    have HS7 := Lib.hid hs7
    have HN7 := Lib.hid hn7
    clear hs7 hn7
    go_wp2_with fail
    go_ret2
    rw [hP.out]
    exact ⟨A7, 16, c7, rfl, by omega, hc7, hm7, HS7.out, hb3.trans (hb7.mono hz3), fun h a ha => Nat.le_trans hz3 (HN7.out h a ha)⟩

theorem wrecover_any (A2 A3 : Option Addr) (n2 c2 n3 c3 : Nat) (msg sig : List Int) (leaf : Int) (w : World) (ht : Seg w w.heap.size .u8 A2 n2 msg) (hn2 : n2 ≤ 1048576) (hc2 : n2 ≤ c2) (hm2 : c2 ≤ 9223372036854775807) (hu : Seg w w.heap.size .u8 A3 n3 sig) (hn3 : n3 ≤ 1048576) (hc3 : n3 ≤ c3) (hm3 : c3 ≤ 9223372036854775807) (hK : Tab w 0 .u32 kay256) :
    Calls Tryd.prog 32 #[.int .i64 leaf, .slice A2 n2 c2, .slice A3 n3 c3] w fun e w' => ∃ B k d, e = .returned (.tuple #[.slice B k d, .bool (recoverI leaf msg sig).2]) ∧ k ≤ 16 ∧ k ≤ d ∧ d ≤ 9223372036854775807 ∧ Seg w' w'.heap.size .u8 B k (recoverI leaf msg sig).1 ∧ Below w.heap.size w w' := by
  refine (wrecover_new A2 A3 n2 c2 n3 c3 msg sig leaf w ht hn2 hc2 hm2 hu hn3 hc3 hm3 hK).mono ?_
  rintro e w' ⟨B, k, d, he, hk, hd, hdm, h1, h2, _⟩
  exact ⟨B, k, d, he, hk, hd, by unfold maxLen at hdm; omega, h1, h2⟩
end Go.Proofs.YtljkkejjnimjcaaDoor
namespace Go.Proofs.YtljkkejjnimjcaaDoor
open Go.RowKit

theorem byte_inj {x y : Int} (hx : 0 ≤ x ∧ x < 256) (hy : 0 ≤ y ∧ y < 256) (h : UInt8.ofNat x.toNat = UInt8.ofNat y.toNat) : x = y := by
  have h1 := congrArg UInt8.toNat h
  simp only [UInt8.toNat_ofNat'] at h1
  omega
theorem bytesOf_inj : ∀ (xs ys : List Int), InB xs → InB ys → Lib.bytesOf xs = Lib.bytesOf ys → xs = ys
  | [], [], _, _, _ => rfl
  | [], _ :: _, _, _, h => by simp [Lib.bytesOf] at h
  | _ :: _, [], _, _, h => by simp [Lib.bytesOf] at h
  | x :: xs, y :: ys, hx, hy, h => by
    simp only [Lib.bytesOf, List.map_cons, List.cons.injEq] at h
    rw [byte_inj (hx x (by simp)) (hy y (by simp)) h.1, bytesOf_inj xs ys (fun a ha => hx a (by simp [ha])) (fun a ha => hy a (by simp [ha])) h.2]
theorem sameB_bytes {xs ys : List Int} (hx : InB xs) (hy : InB ys) : (Lib.bytesOf xs == Lib.bytesOf ys) = sameB xs ys := by
  unfold sameB
  rw [Bool.eq_iff_iff]
  simp only [beq_iff_eq, decide_eq_true_eq]
  exact ⟨bytesOf_inj xs ys hx hy, fun h => by rw [h]⟩

theorem conv_seg (A : Option Addr) (n c B : Nat) (xs : List Int) (w : World) (hs : Seg w B .u8 A n xs) : (convert 22 9 (.slice A n c)).run Tryd.prog w = .ok (.string (strOfNums xs)) w := by
  cases A with
  | none =>
    have h0 : n = 0 := by
      rcases Nat.eq_zero_or_pos n with h | h
      · exact h
      · obtain ⟨_, _, h1, _⟩ := hs.2 h
        cases h1
    have hx : xs = [] := List.eq_nil_of_length_eq_zero (by rw [hs.1, h0])
    rw [run_convert_bytes_nil (P := Tryd.prog) w 22 5 Tryd.underlying22 Tryd.underlying5 n c 9 Tryd.underlying9, hx]
    rfl
  | some a =>
    rcases Nat.eq_zero_or_pos n with h | h
    · have hx : xs = [] := List.eq_nil_of_length_eq_zero (by rw [hs.1, h])
      rw [hx, h, run_convert_bytes_string w 22 9 5 _ 0 c Tryd.underlying22 Tryd.underlying5 Tryd.underlying9, run_bytesToString w a 0 c [] (by simp [loadCells]; try rfl)]
      rfl
    · obtain ⟨b, off, h1, _, hc⟩ := hs.2 h
      injection h1 with h1
      subst h1
      exact run_convert_bytes_arg (P := Tryd.prog) w 22 5 Tryd.underlying22 Tryd.underlying5 b off n c xs hs.1 hc 9 Tryd.underlying9

set_option maxHeartbeats 1000000 in
theorem equal_any (A A2 : Option Addr) (n c n2 c2 B B2 : Nat) (xs ys : List Int) (w : World) (hs : Seg w B .u8 A n xs) (ht : Seg w B2 .u8 A2 n2 ys) (hx : InB xs) (hy : InB ys) :
    Calls Tryd.prog 56 #[.slice A n c, .slice A2 n2 c2] w fun e w' => e = .returned (.bool (sameB xs ys)) ∧ w = w' := by
  have h1 := conv_seg A n c B xs w hs
  have h2 := conv_seg A2 n2 c2 B2 ys w ht
  rw [← sameB_bytes hx hy, ← Lib.strOfNums_toList, ← Lib.strOfNums_toList]
  clear hs ht hx hy
  go_enter Tryd.func56, Tryd.ntmps56
  go_wp2
  go_ret
  exact ⟨rfl, rfl⟩

end Go.Proofs.YtljkkejjnimjcaaDoor
namespace Go.Proofs.YtljkkejjnimjcaaDoor
open Go.RowKit

theorem mequal_any (A A2 : Option Addr) (n c n2 c2 B B2 : Nat) (xs ys : List Int) (w : World) (hs : Seg w B .u8 A n xs) (ht : Seg w B2 .u8 A2 n2 ys) (hx : InB xs) (hy : InB ys) :
    Calls Tryd.prog 33 #[.slice A n c, .slice A2 n2 c2] w fun e w' => e = .returned (.bool (sameB xs ys)) ∧ w = w' := by
  have HE := Lib.hid (equal_any A A2 n c n2 c2 B B2 xs ys w hs ht hx hy)
  clear hs ht hx hy
  go_enter Tryd.func33, Tryd.ntmps33
  go_wp2_with fail
  refine HE.out.mono ?_
  rintro e w1 ⟨rfl, rfl⟩
  go_wp2_with fail
  go_ret
  exact ⟨rfl, rfl⟩
end Go.Proofs.YtljkkejjnimjcaaDoor
namespace Go.Proofs.YtljkkejjnimjcaaDoor
open Go.RowKit

theorem wheight7_any (h : Int) (b : Bool) (hb : decide (0 ≤ h ∧ h ≤ 3) = b) (w : World) :
    Calls Tryd.prog 19 #[.int .i64 h] w fun e w' => e = .returned (.bool b) ∧ w = w' := by
  by_cases h1 : 0 ≤ h
  · have hd : decide (0 ≤ h) = true := by simpa using h1
    have hb' : decide (h ≤ 3) = b := by simpa [h1] using hb
    clear hb
    go_enter Tryd.func19, Tryd.ntmps19
    go_wp2_with fail
    go_ret
    exact ⟨rfl, rfl⟩
  · have hd : decide (0 ≤ h) = false := by simpa using h1
    have hb' : b = false := by rw [← hb]; simp; omega
    subst hb'
    clear hb
    go_enter Tryd.func19, Tryd.ntmps19
    go_wp2_with fail
    go_ret
    exact ⟨rfl, rfl⟩

theorem wleaf7_any (leaf : Int) (f N : Nat) (hf : f ≤ 3) (hN : 2 ^ f = N) (hN8 : N ≤ 8) (b : Bool) (hb : decide (0 ≤ leaf ∧ leaf < N) = b) (w : World) :
    Calls Tryd.prog 25 #[.int .i64 leaf, .int .i64 f] w fun e w' => e = .returned (.bool b) ∧ w = w' := by
  obtain ⟨hw1, hw2⟩ := pow_wrap f N hN hN8
  have hf0 : (0 : Int) ≤ (f : Int) := by clear hw1 hw2; omega
  clear hN
  by_cases h1 : 0 ≤ leaf
  · have hd : decide (0 ≤ leaf) = true := by simpa using h1
    have hb' : decide (leaf < N) = b := by simpa [h1] using hb
    clear hb
    go_enter Tryd.func25, Tryd.ntmps25
    go_wp2_with fail
    go_ret
    exact ⟨rfl, rfl⟩
  · have hd : decide (0 ≤ leaf) = false := by simpa using h1
    have hb' : b = false := by rw [← hb]; simp; clear hw1 hw2; omega
    subst hb'
    clear hb
    go_enter Tryd.func25, Tryd.ntmps25
    go_wp2_with fail
    go_ret
    exact ⟨rfl, rfl⟩

theorem wsize7_any (f M : Nat) (hf : f ≤ 3) (hM : 561 + 16 * f = M) (w : World) :
    Calls Tryd.prog 26 #[.int .i64 f] w fun e w' => e = .returned (.int .i64 M) ∧ w = w' := by
  obtain ⟨M0, hM0⟩ : ∃ M0 : Nat, 16 * f = M0 := ⟨_, rfl⟩
  have hwm : IntKind.i64.wrap ((f : Int) * 16) = (M0 : Int) := by rw [IntWalk.i64_in _ (by omega)]; omega
  have hwn : IntKind.i64.wrap (561 + (M0 : Int)) = (M : Int) := by rw [IntWalk.i64_in _ (by omega)]; omega
  clear hM0 hM
  go_enter Tryd.func26, Tryd.ntmps26
  go_wp2_with fail
  go_ret
  exact ⟨rfl, rfl⟩

set_option maxRecDepth 100000 in
set_option maxHeartbeats 1000000 in
theorem wseed7_any (A : Option Addr) (n c : Nat) (seed : List Int) (h : Int) (w : World) (hs : Seg w w.heap.size .u8 A n seed) (hn : n ≤ 1048576) (hc : n ≤ c) (hm : c ≤ 9223372036854775807) (hK : Tab w 0 .u32 kay256) :
    Calls Tryd.prog 22 #[.slice A n c, .int .i64 h] w fun e w' => Handed w w' 32 (leafSeed seed h) e := by
  have HS := Lib.hid hs
  have HK := Lib.hid hK
  have hk0 := hK.lt
  clear hs hK
  go_enter Tryd.func22, Tryd.ntmps22
  go_wp2_with fail
  generalize hwq : World.alloc _ _ = wq
  have hb0 : Below w.heap.size w wq := by rw [← hwq]; exact (Below.refl _ _).alloc (Nat.le_refl _) _
  have hS : Seg wq wq.heap.size .u8 (some ⟨w.heap.size, 0, none⟩) 1 [h % 256] := by rw [← hwq]; exact Seg.of_blk (Blk.new w 5 .u8 [h % 256])
  have hz := hb0.size
  clear hwq
  refine (derive_any A _ n c 1 1 seed [h % 256] labelS 32 wq ((HS.out.below hb0 (Nat.le_refl _)).more hz) hn hc hm hS (by omega) (show (6 : Nat) ≤ 1048576 by omega) (HK.out.below hb0 hk0)).mono ?_
  rintro e w1 ⟨A', k', c', rfl, ⟨_, hkc, hkm⟩, hsD, hb1⟩
  have hk : k' = 32 := by
    rw [← hsD.1]
    have := deriveI_length seed (strI labelS) [h % 256] 32
    split at this <;> omega
  rw [hk] at hsD hkc ⊢
  have HD := Lib.hid hsD
  clear hsD hS hk
  go_wp2_with fail
  go_ret
  exact ⟨A', c', rfl, hkc, hkm, HD.out, hb0.trans (hb1.mono hz)⟩

set_option maxRecDepth 100000 in
set_option maxHeartbeats 2000000 in
theorem wleaves7_any (A : Option Addr) (n c f N : Nat) (K : List Int) (w : World) (hs : Seg w w.heap.size .u8 A n K) (hn : n ≤ 1048576) (hc : n ≤ c) (hm : c ≤ 9223372036854775807) (hf : f ≤ 3) (hN : 2 ^ f = N) (hN8 : N ≤ 8) (hK : Tab w 0 .u32 kay256) :
    Calls Tryd.prog 21 #[.slice A n c, .int .i64 f] w fun e w' => ∃ v, e = .returned v ∧ FRow w' w.heap.size w.heap.size v N (leavesTo K N) ∧ Below w.heap.size w w' := by
  have HS := Lib.hid hs
  have HK := Lib.hid hK
  have hk0 := hK.lt
  clear hs hK
  obtain ⟨hw1, hw2⟩ := pow_wrap f N hN hN8
  have hf0 : (0 : Int) ≤ (f : Int) := by clear hw1 hw2; omega
  clear hN
  go_enter Tryd.func21, Tryd.ntmps21
  go_wp2_with (at_make; refine wpList_makeS rfl _ _ rfl w.heap.size w.heap.size .i64 .i64 N _ _ rfl rfl rfl rfl (by clear hw1 hw2; omega) (Nat.le_refl _) ?_; intro w0 hR0 hb0)
  have HR0 := Lib.hid hR0
  clear hR0
  go_loopw [5, 12] (fun v i wr => ∃ k : Nat, k ≤ N ∧ i = .int .i64 k ∧ Hid (FRow wr w.heap.size w.heap.size v k (leavesTo K k)) ∧ Below w.heap.size w wr) (fun _ i _ => N - (intOf i).toNat)
  case atStart => exact ⟨0, Nat.zero_le _, rfl, HR0.out, hb0⟩
  case round =>
    clear HR0 hb0
    obtain ⟨k, hk, rfl, hR, hb⟩ := hrel
    have hz := hb.size
    by_cases hlt : k < N
    · have hd : decide ((k : Int) < N) = true := by simpa using hlt
      have HLT := Lib.hid hR.out.lt
      have HE := Lib.hid (leavesTo_next K k)
      go_wp2_with fail
      clear hw1 hw2
      refine (wpublic_new A n c K k wr ((HS.out.below hb (Nat.le_refl _)).more hz) hn hc hm (HK.out.below hb hk0)).mono ?_
      rintro e w2 ⟨n2, hn2, A2, c2, rfl, hc2, hm2, hS2, hb2, hnew⟩
      have hl2 : n2 = 16 := by rw [← hS2.1]; exact public16 K k (by omega) (by omega)
      rw [hl2] at hS2 hc2 hnew ⊢
      have hbA : Below w2.heap.size w2 (w2.alloc (.cells #[.slice A2 16 c2] 22)) := (Below.refl _ _).alloc (Nat.le_refl _) _
      have hbr3 := hb2.trans (hbA.mono hb2.size)
      have hb13 := hb.trans (hbr3.mono hz)
      have HR3 := Lib.hid (FRow.below hR.out hbr3)
      have hc3' := cell_made w2 #[.slice A2 16 c2] 22 _ 0 _ rfl rfl
      have HS3 := Lib.hid ((hS2.below hbA (Nat.le_refl _)).more hbA.size)
      have HAP : Hid (Apart _ A2 16) := fun h0 a ha e => by have := hnew h0 a ha; have := (HLT.out _ e).2; omega
      have HD3 : Hid (0 < 16 → ∀ a, A2 = some a → w.heap.size ≤ a.block) := fun h0 a ha => Nat.le_trans hz (hnew h0 a ha)
      have hk8 : k + 1 ≤ 1048576 := by omega
      clear hS2 hnew hl2 hb2
      go_wp2_with (at_builtin; refine wpList_app1 rfl (.tmp 15) (.tmp 19) rfl w.heap.size w.heap.size w2.heap.size _ k (leavesTo K k) rfl HR3.out 1 A2 16 c2 (publicI K k) rfl hc3' HS3.out hc2 hm2 HAP.out HD3.out hk8 hb13.size ?_; intro v4 w4 hF4 hg4 hor4; have hb14 : Below w.heap.size w w4 := frow_below HR3.out hg4 hb13 hb13.size; have HF4 := Lib.hid hF4; clear hF4 hg4 hor4 hc3')
      rw [← HE.out] at HF4
      go_roundw
      case measure => simp [intOf]; omega
      case rel => exact ⟨k + 1, by omega, by go_num, HF4.out, hb14⟩
    · have hd : decide ((k : Int) < N) = false := by simpa using hlt
      have hkN : k = N := by clear hw1 hw2; omega
      rw [hkN] at hR
      clear hkN
      go_wp2_with fail
      go_ret
      exact ⟨_, rfl, hR.out, hb⟩

theorem slice_part3 (b off n c l h : Nat) (h1 : l < h) (h2 : h ≤ c) (W : World) : (Instr.slice 22 (.slice (some ⟨b, off, none⟩) n c) (some (.int .i64 (l : Int))) (some (.int .i64 (h : Int))) (some (.int .i64 (h : Int)))).run Tryd.prog W = .ok (.slice (some ⟨b, off + l, none⟩) (h - l) (h - l)) W := by
  rw [run_slice_lhm W 22 _ n c (by kernel_rfl) .i64 .i64 .i64 (l : Int) (h : Int) (h : Int) (by omega) (by omega) (by omega) (by omega), size5run]
  have hne : h ≠ l := by omega
  simp [Result.andThen, sliced, hne, addr_add]

set_option maxRecDepth 100000 in
set_option maxHeartbeats 4000000 in
theorem wpath7_any (b3 o3 n3 c3 f : Nat) (sig : List Int) (w : World) (hu : Seg w w.heap.size .u8 (some ⟨b3, o3, none⟩) n3 sig) (hn3 : n3 ≤ 1048576) (hc3 : n3 ≤ c3) (hf : f ≤ 3) (hn : n3 = 561 + 16 * f) :
    Calls Tryd.prog 35 #[.slice (some ⟨b3, o3, none⟩) n3 c3, .int .i64 f] w fun e w' => ∃ v, e = .returned v ∧ FRow w' w.heap.size 0 v f (path7 sig f) ∧ Below w.heap.size w w' := by
  have HU := Lib.hid hu
  have HN := Lib.hid hn
  clear hu hn
  go_enter Tryd.func35, Tryd.ntmps35
  go_wp2_with (at_make; refine wpList_makeS rfl _ _ rfl w.heap.size 0 .i64 .i64 f _ _ rfl rfl rfl rfl (by omega) (Nat.le_refl _) ?_; intro w0 hR0 hb0)
  have HR0 := Lib.hid hR0
  clear hR0
  go_loopw [5, 12] (fun o i wr => ∃ k : Nat, k ≤ f ∧ i = .int .i64 k ∧ Hid (FRow wr w.heap.size 0 o k (path7 sig k)) ∧ Below w.heap.size w wr) (fun _ i _ => f - (intOf i).toNat)
  case atStart => exact ⟨0, by omega, rfl, HR0.out, hb0⟩
  case round =>
    clear HR0 hb0
    obtain ⟨k, hk, rfl, hR, hb⟩ := hrel
    have hz := hb.size
    by_cases hlt : k < f
    · have hdk : decide ((k : Int) < f) = true := by simpa using hlt
      obtain ⟨k16, hk16⟩ : ∃ k16 : Nat, Hid (16 * k = k16) := ⟨_, rfl⟩
      obtain ⟨a', hA⟩ : ∃ a', Hid (a' = 561 + 16 * k) := ⟨_, rfl⟩
      have ha' : a' + 16 ≤ n3 := by rw [hA.out, HN.out]; omega
      obtain ⟨a2, hA2⟩ : ∃ a2, Hid (a' + 16 = a2) := ⟨_, rfl⟩
      have ha2 : a2 ≤ n3 := by rw [← hA2.out]; exact ha'
      have haa : a' < a2 := by rw [← hA2.out]; omega
      have hwk : IntKind.i64.wrap ((k : Int) * 16) = (k16 : Int) := by rw [IntWalk.i64_in _ (by omega), ← hk16.out]; omega
      have hwa : IntKind.i64.wrap (561 + (k16 : Int)) = (a' : Int) := by have := hk16.out; have := hA.out; rw [IntWalk.i64_in _ (by omega)]; omega
      have hwb : IntKind.i64.wrap ((a' : Int) + 16) = (a2 : Int) := by rw [IntWalk.i64_in _ (by omega), ← hA2.out]; omega
      have hsl2 : ∀ W, (Instr.slice 22 (.slice (some ⟨b3, o3, none⟩) n3 c3) (some (.int .i64 (a' : Int))) (some (.int .i64 (a2 : Int))) (some (.int .i64 (a2 : Int)))).run Tryd.prog W = .ok (.slice (some ⟨b3, o3 + a', none⟩) 16 16) W := fun W => by
        have h := slice_part3 b3 o3 n3 c3 a' a2 haa (by omega) W
        rw [show a2 - a' = 16 by rw [← hA2.out]; omega] at h
        exact h
      have hpart := HU.out.part a' 16 ha'
      have hbA : Below wr.heap.size wr (wr.alloc (.cells #[.slice (some ⟨b3, o3 + a', none⟩) 16 16] 22)) := (Below.refl _ _).alloc (Nat.le_refl _) _
      have hb1A := hb.trans (hbA.mono hz)
      have HRb := Lib.hid (FRow.below hR.out hbA)
      have hcb := cell_made wr #[.slice (some ⟨b3, o3 + a', none⟩) 16 16] 22 _ 0 _ rfl rfl
      have HSb := Lib.hid ((hpart.below hb1A (Nat.le_refl _)).more hb1A.size)
      have HAP := Lib.hid (Apart.old hpart (fun g hg => (hR.out.lt g hg).1))
      have HNX : Hid (path7 sig (k + 1) = path7 sig k ++ [(sig.drop a').take 16]) := by show _ = _; rw [path7_next, hA.out]
      clear hpart
      go_wp2_with (at_builtin; refine wpList_app1 rfl (.tmp 20) (.tmp 26) rfl w.heap.size 0 wr.heap.size _ k (path7 sig k) rfl HRb.out 1 (some ⟨b3, o3 + a', none⟩) 16 16 ((sig.drop a').take 16) rfl hcb HSb.out (Nat.le_refl _) (by unfold maxLen; omega) HAP.out (fun _ _ _ => Nat.zero_le _) (by omega) hb1A.size ?_; intro v5 w5 hF5 hg5 hor5; have hb5 : Below w.heap.size w w5 := frow_below HRb.out hg5 hb1A hb1A.size; have HF5 := Lib.hid hF5; clear hF5 hg5 hor5 hcb)
      rw [← HNX.out] at HF5
      go_roundw
      case measure => simp [intOf]; omega
      case rel => exact ⟨k + 1, by omega, by go_num, HF5.out, hb5⟩
    · have hdk : decide ((k : Int) < f) = false := by simpa using hlt
      have hkf : k = f := by omega
      rw [hkf] at hR
      clear hkf
      go_wp2_with fail
      go_ret
      exact ⟨_, rfl, hR.out, hb⟩
end Go.Proofs.YtljkkejjnimjcaaDoor
namespace Go.Proofs.YtljkkejjnimjcaaDoor
open Go.RowKit

theorem below_byte (w : World) (x : Int) : Below w.heap.size w (w.alloc (.cells #[.int .u8 x] 5)) := (Below.refl _ _).alloc (Nat.le_refl _) _
theorem seg_byte (w : World) (x : Int) : Seg (w.alloc (.cells #[.int .u8 x] 5)) (w.heap.size + 1) .u8 (some ⟨w.heap.size, 0, none⟩) 1 [x] := (Seg.of_blk (Blk.new w 5 .u8 [x])).more (by simp)

set_option maxRecDepth 100000 in
set_option maxHeartbeats 2000000 in
theorem wpub7_row (A : Option Addr) (n c : Nat) (seed : List Int) (h : Int) (w : World) (hs : Seg w w.heap.size .u8 A n seed) (hn : n ≤ 1048576) (hc : n ≤ c) (hm : c ≤ 9223372036854775807) (hK : Tab w 0 .u32 kay256) :
    Calls Tryd.prog 11 #[.slice A n c, .int .i64 h] w fun e w' => ∃ v k, e = .returned v ∧ k ≤ 17 ∧ Row w' w.heap.size 5 .u8 v k (pub7 seed h) ∧ Below w.heap.size w w' := by
  obtain ⟨i0, hi, hz0, hz1, hz2⟩ := info_parts Tryd.infoU8
  have HS := Lib.hid hs
  have HK := Lib.hid hK
  have hk0 := hK.lt
  clear hs hK
  by_cases hbad : h < 0 ∨ 3 < h
  · have hP : Hid (pub7 seed h = []) := by show _ = _; rw [pub7, if_pos hbad]
    have HV : Hid (decide (0 ≤ h ∧ h ≤ 3) = false) := by show _ = _; simp; omega
    clear hbad
    go_enter Tryd.func11, Tryd.ntmps11
    go_wp2_with (go_at_call 19; refine (wheight7_any h false HV.out w).mono ?_; rintro e w1 ⟨rfl, rfl⟩)
    go_ret
    rw [hP.out]
    exact ⟨_, 0, rfl, by omega, nil_row _ _ _ _, Below.refl _ _⟩
  obtain ⟨f, rfl⟩ : ∃ f : Nat, h = f := ⟨h.toNat, by omega⟩
  have hf : f ≤ 3 := by omega
  have HV : Hid (decide (0 ≤ (f : Int) ∧ (f : Int) ≤ 3) = true) := by show _ = _; simp; omega
  obtain ⟨N, hN⟩ : ∃ N : Nat, Hid (2 ^ f = N) := ⟨_, rfl⟩
  have hN8 : N ≤ 8 := by rw [← hN.out]; exact two_three hf
  obtain ⟨V, P, hV, hP, hPl, hP16, hsig, hpub, hroot, hsgn, hget, hVl⟩ := sig_parts seed [] f 0 hf (two_pos f)
  have HPUB := Lib.hid hpub
  have HROOT := Lib.hid hroot
  have HV2 := Lib.hid hV
  rw [hN.out] at HV2
  have HVS : Hid (∀ x ∈ V, x.length ≤ 1048576) := fun x hx => by
    rw [hV] at hx
    have := leaves16 (leafSeed seed f) (2 ^ f) (by rw [hN.out]; omega) x hx
    omega
  clear hV hP hPl hP16 hsig hpub hroot hsgn hget hVl hbad
  have hmod : IntKind.u8.wrap (f : Int) = (f : Int) % 256 := by simp [IntKind.wrap, IntKind.bits, IntKind.signed]
  have HM : Hid ((f : Int) % 256 = f) := by show _ = _; omega
  go_enter Tryd.func11, Tryd.ntmps11
  go_wp2_with (first
    | (at_make; refine wpList_make_cap rfl _ _ 22 rfl w.heap.size 5 i0 .u8 Tryd.underlying22 hi hz0 hz1 hz2 .i64 .i64 0 17 _ _ rfl rfl rfl rfl (by omega) (by omega) (Nat.le_refl _) ?_; intro w0 hR0 hb0 hz0'; have hbA := below_byte w0 ((f : Int) % 256); have HOA := Lib.hid (hR0.below hbA); have hbwA := hb0.trans (hbA.mono hb0.size); have HSA := Lib.hid (seg_byte w0 ((f : Int) % 256)); clear hR0 hz0' hbA hb0)
    | (at_builtin; refine wpList_app _ rfl (.tmp 9) (.tmp 12) 22 rfl w.heap.size 5 i0 (.int .u8 0) 1 Tryd.underlying22 hi hz0 hz1 hz2 rfl .u8 _ [] rfl HOA.out.own (w0.heap.size + 1) (some ⟨w0.heap.size, 0, none⟩) 1 1 [(f : Int) % 256] rfl HSA.out (by unfold maxLen; decide) (by decide) hbwA.size ?_; intro v1 w1 hown1 hg1 hor1; have hb1 : Below w.heap.size w w1 := own_below HOA.out.own hg1 hbwA hbwA.size; have HR1 := Lib.hid (hown1.row (n := 1) rfl); clear hown1 hg1 hor1)
    | (go_at_call 19; refine (wheight7_any f true HV.out w).mono ?_; rintro e wx ⟨rfl, rfl⟩))
  rw [List.nil_append, HM.out] at HR1
  have hz1' := hb1.size
  refine (wseed7_any A n c seed f w1 ((HS.out.below hb1 (Nat.le_refl _)).more hz1') hn hc hm (HK.out.below hb1 hk0)).mono ?_
  rintro e w2 ⟨A2, c2, rfl, hc2, hm2, hS2, hb2⟩
  have hbw2 := hb1.trans (hb2.mono hz1')
  have hz2' := hbw2.size
  have HS2 := Lib.hid hS2
  have HR2 := Lib.hid (HR1.out.below hb2)
  clear hS2 hb2
  go_wp2_with fail
  refine (wleaves7_any A2 32 c2 f N (leafSeed seed f) w2 HS2.out (by omega) hc2 (by unfold maxLen at hm2; omega) hf hN.out hN8 (HK.out.below hbw2 hk0)).mono ?_
  rintro e w3 ⟨v3, rfl, hR3, hb3⟩
  rw [← HV2.out] at hR3
  obtain ⟨A3, c3, rfl, hc3, hm3⟩ := hR3.cut
  have HF3 := Lib.hid hR3.fields
  have hbw3 := hbw2.trans (hb3.mono hz2')
  have hz3' := hbw3.size
  have HR3 := Lib.hid (HR2.out.below hb3)
  clear hR3 hc3 hb3
  go_wp2_with fail
  refine (wroot_row A3 N c3 V w3 HF3.out HVS.out (HK.out.below hbw3 hk0)).mono ?_
  rintro e w4 ⟨v4, k4, rfl, hk4, hR4, hb4⟩
  have hk16 : k4 = 16 := by rw [← hR4.length]; exact HROOT.out
  rw [hk16] at hR4
  obtain ⟨A4, c4, rfl, hc4, hm4⟩ := hR4.cut
  have HS4 := Lib.hid hR4.seg
  have HR4 := Lib.hid (HR3.out.below hb4)
  have hbw4 := hbw3.trans (hb4.mono hz3')
  have hz4' := hbw4.size
  clear hR4 hk16 hk4 hb4 HF3
  go_wp2_with (at_builtin; refine wpList_app _ rfl (.tmp 14) (.tmp 20) 22 rfl w.heap.size 5 i0 (.int .u8 0) 1 Tryd.underlying22 hi hz0 hz1 hz2 rfl .u8 _ [(f : Int)] rfl HR4.out.own w4.heap.size A4 16 c4 (rootI V) rfl HS4.out (by unfold maxLen; simp) (by simp) hz4' ?_; intro v5 w5 hown5 hg5 hor5; have hb5 : Below w.heap.size w w5 := own_below HR4.out.own hg5 hbw4 hz4'; have HR5 := Lib.hid hown5; clear hown5 hg5 hor5)
  go_ret
  rw [HPUB.out]
  exact ⟨_, 17, rfl, by omega, HR5.out.row (by rw [List.length_append, HROOT.out]; rfl), hb5⟩

theorem wpub7_any (A : Option Addr) (n c : Nat) (seed : List Int) (h : Int) (w : World) (hs : Seg w w.heap.size .u8 A n seed) (hn : n ≤ 1048576) (hc : n ≤ c) (hm : c ≤ 9223372036854775807) (hK : Tab w 0 .u32 kay256) :
    Calls Tryd.prog 11 #[.slice A n c, .int .i64 h] w fun e w' => ∃ B k d, e = .returned (.slice B k d) ∧ k ≤ 17 ∧ k ≤ d ∧ d ≤ 9223372036854775807 ∧ Seg w' w'.heap.size .u8 B k (pub7 seed h) ∧ Below w.heap.size w w' := by
  refine (wpub7_row A n c seed h w hs hn hc hm hK).mono ?_
  rintro e w' ⟨v, k, he, hk, hR, hb⟩
  obtain ⟨B, d, rfl, h1, h2⟩ := hR.cut
  exact ⟨B, k, d, he, hk, h1, by unfold maxLen at h2; omega, hR.seg, hb⟩

set_option maxRecDepth 100000 in
set_option maxHeartbeats 4000000 in
theorem wsig7_row (A A4 : Option Addr) (n c n4 c4 : Nat) (seed msg : List Int) (h leaf : Int) (w : World) (hs : Seg w w.heap.size .u8 A n seed) (hn : n ≤ 1048576) (hc : n ≤ c) (hm : c ≤ 9223372036854775807) (ht : Seg w w.heap.size .u8 A4 n4 msg) (hn4 : n4 ≤ 1048576) (hc4 : n4 ≤ c4) (hm4 : c4 ≤ 9223372036854775807) (hK : Tab w 0 .u32 kay256) :
    Calls Tryd.prog 14 #[.slice A n c, .int .i64 h, .int .i64 leaf, .slice A4 n4 c4] w fun e w' => ∃ v k, e = .returned v ∧ k ≤ 609 ∧ Row w' w.heap.size 5 .u8 v k (sig7 seed h leaf msg) ∧ Below w.heap.size w w' := by
  obtain ⟨i0, hi, hz0, hz1, hz2⟩ := info_parts Tryd.infoU8
  have HS := Lib.hid hs
  have HT := Lib.hid ht
  have HK := Lib.hid hK
  have hk0 := hK.lt
  clear hs ht hK
  by_cases hbad : h < 0 ∨ 3 < h
  · have hP : Hid (sig7 seed h leaf msg = []) := by show _ = _; rw [sig7, if_pos (by omega)]
    have HV : Hid (decide (0 ≤ h ∧ h ≤ 3) = false) := by show _ = _; simp; omega
    clear hbad
    go_enter Tryd.func14, Tryd.ntmps14
    go_wp2_with (go_at_call 19; refine (wheight7_any h false HV.out w).mono ?_; rintro e w1 ⟨rfl, rfl⟩)
    go_ret
    rw [hP.out]
    first
      | exact ⟨_, 0, rfl, by omega, nil_row _ _ _ _, Below.refl _ _⟩
      | exact ⟨_, rfl, 0, by omega, nil_row _ _ _ _, Below.refl _ _⟩
  obtain ⟨f, rfl⟩ : ∃ f : Nat, h = f := ⟨h.toNat, by omega⟩
  have hf : f ≤ 3 := by omega
  have HV : Hid (decide (0 ≤ (f : Int) ∧ (f : Int) ≤ 3) = true) := by show _ = _; simp; omega
  obtain ⟨N, hN⟩ : ∃ N : Nat, Hid (2 ^ f = N) := ⟨_, rfl⟩
  have hN8 : N ≤ 8 := by rw [← hN.out]; exact two_three hf
  by_cases hbl : leaf < 0 ∨ (N : Int) ≤ leaf
  · have hP : Hid (sig7 seed f leaf msg = []) := by show _ = _; rw [sig7, if_pos (by rw [Int.toNat_natCast, hN.out]; omega)]
    have HL : Hid (decide (0 ≤ leaf ∧ leaf < N) = false) := by show _ = _; simp; omega
    clear hbad hbl
    go_enter Tryd.func14, Tryd.ntmps14
    go_wp2_with (first
      | (go_at_call 19; refine (wheight7_any f true HV.out w).mono ?_; rintro e w1 ⟨rfl, rfl⟩)
      | (go_at_call 25; refine (wleaf7_any leaf f N hf hN.out hN8 false HL.out w).mono ?_; rintro e w1 ⟨rfl, rfl⟩))
    go_ret
    rw [hP.out]
    first
      | exact ⟨_, 0, rfl, by omega, nil_row _ _ _ _, Below.refl _ _⟩
      | exact ⟨_, rfl, 0, by omega, nil_row _ _ _ _, Below.refl _ _⟩
  obtain ⟨I, rfl⟩ : ∃ I : Nat, leaf = I := ⟨leaf.toNat, by omega⟩
  have hIN : I < N := by omega
  have HL : Hid (decide (0 ≤ (I : Int) ∧ (I : Int) < N) = true) := by show _ = _; simp; omega
  obtain ⟨V, P, hV, hP, hPl, hP16, hsig, hpub, hroot, hsgn, hget, hVl⟩ := sig_parts seed msg f I hf (by rw [hN.out]; exact hIN)
  have HV2 := Lib.hid hV
  rw [hN.out] at HV2
  have HP := Lib.hid hP
  have HPL := Lib.hid hPl
  have HP16 := Lib.hid hP16
  have HSIG := Lib.hid hsig
  have HSGN := Lib.hid hsgn
  have HVS : Hid (∀ x ∈ V, x.length ≤ 1048576) := fun x hx => by
    rw [hV] at hx
    have := leaves16 (leafSeed seed f) (2 ^ f) (by rw [hN.out]; omega) x hx
    omega
  obtain ⟨K, hKd⟩ : ∃ K, Hid (leafSeed seed f = K) := ⟨_, rfl⟩
  rw [hKd.out] at HSIG HSGN HV2
  clear hV hP hPl hP16 hsig hpub hroot hsgn hget hVl hbad hbl
  have hI8 : I < 8 := by omega
  obtain ⟨M, hM⟩ : ∃ M : Nat, Hid (561 + 16 * f = M) := ⟨_, rfl⟩
  have hM609 : M ≤ 609 := by rw [← hM.out]; omega
  have hmod : IntKind.u8.wrap (I : Int) = (I : Int) % 256 := by simp [IntKind.wrap, IntKind.bits, IntKind.signed]
  have HM : Hid ((I : Int) % 256 = I) := by show _ = _; omega
  go_enter Tryd.func14, Tryd.ntmps14
  go_wp2_with (first
    | (go_at_call 19; refine (wheight7_any f true HV.out w).mono ?_; rintro e wx ⟨rfl, rfl⟩)
    | (go_at_call 25; refine (wleaf7_any I f N hf hN.out hN8 true HL.out w).mono ?_; rintro e wx ⟨rfl, rfl⟩))
  refine (wseed7_any A n c seed f w HS.out hn hc hm HK.out).mono ?_
  rw [hKd.out]
  rintro e w1 ⟨A1, c1, rfl, hc1, hm1, hS1, hb1⟩
  have HS1 := Lib.hid hS1
  have hz1' := hb1.size
  clear hS1
  go_wp2_with (first
    | (at_make; refine wpList_make_cap rfl _ _ 22 rfl w1.heap.size 5 i0 .u8 Tryd.underlying22 hi hz0 hz1 hz2 .i64 .i64 0 M _ _ rfl rfl rfl rfl (by omega) (by omega) (Nat.le_refl _) ?_; intro w2 hR2 hb2 hz2'; have hbA := below_byte w2 ((I : Int) % 256); have HOA := Lib.hid (hR2.below hbA); have hbwA := hb2.trans (hbA.mono hb2.size); have HSA := Lib.hid (seg_byte w2 ((I : Int) % 256)); clear hR2 hz2' hbA hb2)
    | (at_builtin; refine wpList_app _ rfl (.tmp 27) (.tmp 30) 22 rfl w1.heap.size 5 i0 (.int .u8 0) 1 Tryd.underlying22 hi hz0 hz1 hz2 rfl .u8 _ [] rfl HOA.out.own (w2.heap.size + 1) (some ⟨w2.heap.size, 0, none⟩) 1 1 [(I : Int) % 256] rfl HSA.out (by unfold maxLen; decide) (by decide) hbwA.size ?_; intro v3 w3 hown3 hg3 hor3; have hb3 : Below w1.heap.size w1 w3 := own_below HOA.out.own hg3 hbwA hbwA.size; have HR3 := Lib.hid (hown3.row (n := 1) rfl); clear hown3 hg3 hor3)
    | (go_at_call 26; refine (wsize7_any f M hf hM.out w1).mono ?_; rintro e wx ⟨rfl, rfl⟩))
  rw [List.nil_append, HM.out] at HR3
  have hz3 := hb3.size
  have hbw3 := hb1.trans (hb3.mono hz1')
  have HS3 := Lib.hid ((HS1.out.below hb3 (Nat.le_refl _)).more hb3.size)
  clear HOA HSA hbwA
  refine (wsign_row A1 A4 32 c1 n4 c4 K msg I w3 HS3.out (by omega) hc1 (by unfold maxLen at hm1; omega) ((HT.out.below hbw3 (Nat.le_refl _)).more hbw3.size) hn4 hc4 hm4 (HK.out.below hbw3 hk0)).mono ?_
  rintro e w4 ⟨v4, k4, rfl, hk4, hR4, hb4'⟩
  have hk560 : k4 = 560 := by rw [← hR4.length]; exact HSGN.out
  rw [hk560] at hR4
  obtain ⟨A4', c4', rfl, hc4', hm4'⟩ := hR4.cut
  obtain ⟨S, hS⟩ : ∃ S, Hid (signI K I msg = S) := ⟨_, rfl⟩
  rw [hS.out] at hR4 HSIG HSGN
  have HSS4 := Lib.hid hR4.seg
  have HO4 := Lib.hid (HR3.out.below hb4')
  have hb4 := hb3.trans (hb4'.mono hz3)
  have hz4 := hb4.size
  clear hR4 hk560 hk4 hb4' HR3 HS3 hbw3
  go_wp2_with (at_builtin; refine wpList_app _ rfl (.tmp 32) (.tmp 36) 22 rfl w1.heap.size 5 i0 (.int .u8 0) 1 Tryd.underlying22 hi hz0 hz1 hz2 rfl .u8 _ [(I : Int)] rfl HO4.out.own w4.heap.size A4' 560 c4' S rfl HSS4.out (by unfold maxLen; simp) (by simp) hz4 ?_; intro v5 w5 hown5 hg5 hor5; have hb5 : Below w1.heap.size w1 w5 := own_below HO4.out.own hg5 hb4 hz4; have HR5 := Lib.hid (hown5.row (n := 561) (by rw [List.length_append, HSGN.out]; rfl)); clear hown5 hg5 hor5)
  have hz5 := hb5.size
  have hbw5 := hb1.trans (hb5.mono hz1')
  have HLT5 : Hid (∀ g, v5.ownBlock = some g → g < w5.heap.size) := fun g hg => (World.ownsRow.lt HR5.out g hg).2
  refine (wleaves7_any A1 32 c1 f N K w5 ((HS1.out.below hb5 (Nat.le_refl _)).more hz5) (by omega) hc1 (by unfold maxLen at hm1; omega) hf hN.out hN8 (HK.out.below hbw5 hk0)).mono ?_
  rintro e w6 ⟨v6, rfl, hR6, hb6'⟩
  rw [← HV2.out] at hR6
  obtain ⟨A6, c6, rfl, hc6, hm6⟩ := hR6.cut
  have HF6 := Lib.hid hR6.fields
  have HLT6 : Hid (∀ g, v5.ownBlock = some g → g < w6.heap.size) := fun g hg => Nat.lt_of_lt_of_le (HLT5.out g hg) hb6'.size
  have HO6 := Lib.hid (HR5.out.below hb6')
  have hb6 := hb5.trans (hb6'.mono hz5)
  have hz6 := hb6.size
  have hbw6 := hb1.trans (hb6.mono hz1')
  clear hR6 hc6 hb6' HO4 HSS4 HR5 hbw5
  go_wp2_with fail
  refine (wpath_row I A6 N c6 V w6 HF6.out HVS.out (HK.out.below hbw6 hk0)).mono ?_
  rw [← HP.out]
  rintro e w7 ⟨v7, k7, rfl, hk7, hR7, hb7'⟩
  have hkf : k7 = f := by rw [← hR7.length]; exact HPL.out
  rw [hkf] at hR7
  obtain ⟨A7, c7, rfl, _, _⟩ := hR7.cut
  have HF7 := Lib.hid (hR7.off (r := v5.ownBlock) (fun g hg => ⟨HLT6.out g hg, HLT6.out g hg⟩))
  have HO7 := Lib.hid (HO6.out.below hb7')
  have hb7 := hb6.trans (hb7'.mono hz6)
  have hz7 := hb7.size
  clear hR7 hkf hk7 hb7' HO6 HF6 hbw6
  go_wp2_with fail
  go_loopw [10, 44] (fun o i wr => ∃ k : Nat, k ≤ f ∧ i = .int .i64 k ∧ Hid (Row wr w1.heap.size 5 .u8 o (561 + 16 * k) ((I : Int) :: (S ++ (P.take k).flatten))) ∧ Hid (FOff wr o.ownBlock A7 f P) ∧ Below w1.heap.size w1 wr) (fun _ i _ => f - (intOf i).toNat)
  case atStart =>
    refine ⟨0, by omega, rfl, ?_, HF7.out, hb7⟩
    show Row _ _ _ _ _ _ _
    rw [List.take_zero, List.flatten_nil, List.append_nil]
    exact HO7.out
  case round =>
    clear HO7 HF7 hb7 hz7 hb6 hz6 hb5 hz5 hb4 hz4 hb3 hz3
    obtain ⟨k, hk, rfl, hR, hF, hb⟩ := hrel
    have hz := hb.size
    by_cases hlt : k < f
    · have hdk : decide ((k : Int) < f) = true := by simpa using hlt
      obtain ⟨b, off, rfl, hbl, hrb, hcl⟩ := hF.out.2 (by omega)
      obtain ⟨A8, n8, c8, e8, s8, l8, m8, a8⟩ := hcl k hlt
      have hn8 : n8 = 16 := by rw [← s8.1]; exact get16 HP16.out k (by rw [HPL.out]; exact hlt)
      rw [hn8] at s8 e8
      have HS8 := Lib.hid s8
      have HRL := Lib.hid hR.out.length
      have HNX : Hid ((I : Int) :: (S ++ (P.take (k + 1)).flatten) = ((I : Int) :: (S ++ (P.take k).flatten)) ++ P.getD k []) := by
        show _ = _
        rw [flat_next P k (by rw [HPL.out]; exact hlt), List.cons_append, List.append_assoc]
      have hk0' : (0 : Int) ≤ (k : Int) := by omega
      have hk1 : (k : Int) < f := by omega
      clear hcl s8 hn8 a8 hrb
      go_wp2_with (at_builtin; refine wpList_app _ rfl (.tmp 48) (.tmp 49) 22 rfl w1.heap.size 5 i0 (.int .u8 0) 1 Tryd.underlying22 hi hz0 hz1 hz2 rfl .u8 _ _ rfl hR.out.own wr.heap.size A8 16 c8 (P.getD k []) rfl HS8.out (by rw [HRL.out]; unfold maxLen; omega) (by rw [HRL.out]; omega) hz ?_; intro v9 w9 hown9 hg9 hor9; have hb9 : Below w1.heap.size w1 w9 := own_below hR.out.own hg9 hb hz; have HF9 := Lib.hid (FOff.turn hF.out hg9 hor9); have HR9 := Lib.hid (hown9.row (n := 561 + 16 * (k + 1)) (by rw [List.length_append, HRL.out, HS8.out.1]; omega)); clear hown9 hg9 hor9)
      rw [← HNX.out] at HR9
      go_roundw
      case measure => simp [intOf]; omega
      case rel => exact ⟨k + 1, by omega, by go_num, HR9.out, HF9.out, hb9⟩
    · have hdk : decide ((k : Int) < f) = false := by simpa using hlt
      have hkf : k = f := by omega
      have HE : Hid ((I : Int) :: (S ++ (P.take f).flatten) = sig7 seed f I msg) := by show _ = _; rw [HSIG.out, List.take_of_length_le (by rw [HPL.out]; omega)]
      rw [hkf, HE.out] at hR
      clear hkf
      go_wp2_with fail
      go_ret
      first
        | exact ⟨_, 561 + 16 * f, rfl, by omega, hR.out.less hz1', hb1.trans (hb.mono hz1')⟩
        | exact ⟨_, rfl, 561 + 16 * f, by omega, hR.out.less hz1', hb1.trans (hb.mono hz1')⟩

theorem wsig7_any (A A4 : Option Addr) (n c n4 c4 : Nat) (seed msg : List Int) (h leaf : Int) (w : World) (hs : Seg w w.heap.size .u8 A n seed) (hn : n ≤ 1048576) (hc : n ≤ c) (hm : c ≤ 9223372036854775807) (ht : Seg w w.heap.size .u8 A4 n4 msg) (hn4 : n4 ≤ 1048576) (hc4 : n4 ≤ c4) (hm4 : c4 ≤ 9223372036854775807) (hK : Tab w 0 .u32 kay256) :
    Calls Tryd.prog 14 #[.slice A n c, .int .i64 h, .int .i64 leaf, .slice A4 n4 c4] w fun e w' => ∃ B k d, e = .returned (.slice B k d) ∧ k ≤ 609 ∧ k ≤ d ∧ d ≤ 9223372036854775807 ∧ Seg w' w'.heap.size .u8 B k (sig7 seed h leaf msg) ∧ Below w.heap.size w w' := by
  refine (wsig7_row A A4 n c n4 c4 seed msg h leaf w hs hn hc hm ht hn4 hc4 hm4 hK).mono ?_
  rintro e w' ⟨v, k, he, hk, hR, hb⟩
  obtain ⟨B, d, rfl, h1, h2⟩ := hR.cut
  exact ⟨B, k, d, he, hk, h1, by unfold maxLen at h2; omega, hR.seg, hb⟩

theorem inB_climbF : ∀ (p : List (List Int)) (h : Nat) (x : List Int) (i : Nat), InB x → InB (climbF h x i p)
  | [], _, _, _, hx => hx
  | y :: p, h, x, i, _ => inB_climbF p (h + 1) (hash16 3 (stepT h i x y)) (i / 2) (inB_hash16 _ _)
theorem inB_climb (x : List Int) (i : Int) (p : List (List Int)) (hx : InB x) : InB (climbI x i p) := by
  unfold climbI
  split
  · intro y hy; cases hy
  · exact inB_climbF p 0 x _ hx
theorem inB_recover (leaf : Int) (msg sig : List Int) : InB (recoverI leaf msg sig).1 := by
  unfold recoverI
  split
  · intro y hy; cases hy
  · exact inB_hash16 _ _
theorem inB_drop (xs : List Int) (k : Nat) (h : InB xs) : InB (xs.drop k) := fun y hy => h y (List.mem_of_mem_drop hy)

set_option maxRecDepth 100000 in
set_option maxHeartbeats 4000000 in
theorem wver7_any (A A2 A3 : Option Addr) (n c n2 c2 n3 c3 : Nat) (pub msg sig : List Int) (w : World) (hs : Seg w w.heap.size .u8 A n pub) (_ : n ≤ 1048576) (hc : n ≤ c) (_ : c ≤ 9223372036854775807) (hx : InB pub)
    (ht : Seg w w.heap.size .u8 A2 n2 msg) (hn2 : n2 ≤ 1048576) (hc2 : n2 ≤ c2) (hm2 : c2 ≤ 9223372036854775807) (hu : Seg w w.heap.size .u8 A3 n3 sig) (hn3 : n3 ≤ 1048576) (hc3 : n3 ≤ c3) (hm3 : c3 ≤ 9223372036854775807) (hy : InB sig) (hK : Tab w 0 .u32 kay256) :
    Calls Tryd.prog 16 #[.slice A n c, .slice A2 n2 c2, .slice A3 n3 c3] w fun e w' => e = .returned (.tuple #[.int .i64 (ver7 pub msg sig).1, .bool (ver7 pub msg sig).2]) ∧ Below w.heap.size w w' := by
  have HS := Lib.hid hs
  have HT := Lib.hid ht
  have HU := Lib.hid hu
  have HX := Lib.hid hx
  have HY := Lib.hid hy
  have HLS := Lib.hid hs.1
  have HLU := Lib.hid hu.1
  have HK := Lib.hid hK
  have hk0 := hK.lt
  clear hs ht hu hx hy hK
  by_cases h17 : n = 17
  rotate_left
  · have HV : Hid (ver7 pub msg sig = (0, false)) := by show _ = _; rw [ver7, if_pos (by rw [HLS.out]; exact .inl h17)]
    have hd : ((n : Int) != 17) = true := by simp; omega
    clear h17
    go_enter Tryd.func16, Tryd.ntmps16
    go_wp2_with fail
    go_ret2
    rw [HV.out]
    exact ⟨rfl, Below.refl _ _⟩
  subst h17
  obtain ⟨b1, o1, rfl, hb1, hcl1⟩ := HS.out.2 (by omega)
  have hx0 := inB_at HX.out 0 (by rw [HLS.out]; omega)
  have hcx := hcl1 0 (by omega)
  obtain ⟨f, hf⟩ : ∃ f : Nat, pub.getD 0 0 = (f : Int) := ⟨(pub.getD 0 0).toNat, by omega⟩
  have HF := Lib.hid hf
  rw [hf] at hx0 hcx
  rw [Nat.add_zero] at hcx
  clear hcl1 hf
  have hf255 : f < 256 := by omega
  have hf0 : (0 : Int) ≤ (f : Int) := by omega
  have hwf : IntKind.i64.wrap (f : Int) = (f : Int) := IntWalk.i64_in _ (by omega)
  have hslp : ∀ W, (Instr.slice 22 (.slice (some ⟨b1, o1, none⟩) 17 c) (some (.int .i64 1)) (some (.int .i64 17)) (some (.int .i64 17))).run Tryd.prog W = .ok (.slice (some ⟨b1, o1 + 1, none⟩) 16 16) W := fun W => slice_part3 b1 o1 17 c 1 17 (by omega) (by omega) W
  have hx17 : (0 : Int) < 17 := by omega
  clear hx0
  by_cases h3 : 3 < f
  · have HV : Hid (ver7 pub msg sig = (0, false)) := by show _ = _; rw [ver7, if_pos (by rw [HF.out]; omega)]
    have HD : Hid (decide (0 ≤ (f : Int) ∧ (f : Int) ≤ 3) = false) := by show _ = _; simp; omega
    clear h3
    go_enter Tryd.func16, Tryd.ntmps16
    go_wp2_with fail
    go_quiet (fail)
    go_wp2_with (go_at_call 19; refine (wheight7_any f false HD.out _).mono ?_; rintro e w1 ⟨rfl, rfl⟩)
    go_ret2
    rw [HV.out]
    exact ⟨rfl, below_drewN (Below.refl _ _) _⟩
  have hf3 : f ≤ 3 := by omega
  have HD : Hid (decide (0 ≤ (f : Int) ∧ (f : Int) ≤ 3) = true) := by show _ = _; simp; omega
  obtain ⟨M, hM⟩ : ∃ M : Nat, Hid (561 + 16 * f = M) := ⟨_, rfl⟩
  have hM609 : M ≤ 609 := by rw [← hM.out]; omega
  have hM561 : 561 ≤ M := by rw [← hM.out]; omega
  by_cases hlen : n3 = M
  rotate_left
  · have HV : Hid (ver7 pub msg sig = (0, false)) := by
      show _ = _
      rw [ver7, if_neg (by rw [HLS.out, HF.out]; omega), HF.out, Int.toNat_natCast, if_pos (by rw [HLU.out, hM.out]; exact .inl hlen)]
    have hd2 : ((n3 : Int) != (M : Int)) = true := by simp; omega
    have hd3 : (n3 != M) = true := by simpa using hlen
    clear hlen
    go_enter Tryd.func16, Tryd.ntmps16
    go_wp2_with fail
    go_quiet (fail)
    go_wp2_with (first
      | (go_at_call 19; refine (wheight7_any f true HD.out _).mono ?_; rintro e w1 ⟨rfl, rfl⟩)
      | (go_at_call 26; refine (wsize7_any f M hf3 hM.out _).mono ?_; rintro e w1 ⟨rfl, rfl⟩))
    go_ret2
    rw [HV.out]
    exact ⟨rfl, below_drewN (Below.refl _ _) _⟩
  subst hlen
  obtain ⟨N, hN⟩ : ∃ N : Nat, Hid (2 ^ f = N) := ⟨_, rfl⟩
  have hN8 : N ≤ 8 := by rw [← hN.out]; exact two_three hf3
  obtain ⟨b3, o3, rfl, hb3, hcl3⟩ := HU.out.2 (by omega)
  have hy0 := inB_at HY.out 0 (by rw [HLU.out]; omega)
  have hcy := hcl3 0 (by omega)
  obtain ⟨I, hI⟩ : ∃ I : Nat, sig.getD 0 0 = (I : Int) := ⟨(sig.getD 0 0).toNat, by omega⟩
  have HI := Lib.hid hI
  rw [hI] at hy0 hcy
  rw [Nat.add_zero] at hcy
  have hI255 : I < 256 := by omega
  have hI0 : (0 : Int) ≤ (I : Int) := by omega
  have hwi : IntKind.i64.wrap (I : Int) = (I : Int) := IntWalk.i64_in _ (by omega)
  have hn30 : (0 : Int) < n3 := by omega
  have hd2 : ((n3 : Int) != (n3 : Int)) = false := by simp
  clear hcl3 hI hy0
  by_cases hge : N ≤ I
  · have HV : Hid (ver7 pub msg sig = (0, false)) := by
      show _ = _
      rw [ver7, if_neg (by rw [HLS.out, HF.out]; omega), HF.out, Int.toNat_natCast, if_pos (by rw [HI.out, hN.out]; omega)]
    have HL : Hid (decide (0 ≤ (I : Int) ∧ (I : Int) < N) = false) := by show _ = _; simp; omega
    clear hge
    go_enter Tryd.func16, Tryd.ntmps16
    go_wp2_with fail
    go_quiet (fail)
    have hcz : (w.drewN nq).cell? ⟨b3, o3, none⟩ = some (.int .u8 I) := hcy
    go_wp2_with (first
      | (go_at_call 19; refine (wheight7_any f true HD.out _).mono ?_; rintro e w1 ⟨rfl, rfl⟩)
      | (go_at_call 25; refine (wleaf7_any I f N hf3 hN.out hN8 false HL.out _).mono ?_; rintro e w1 ⟨rfl, rfl⟩)
      | (go_at_call 26; refine (wsize7_any f n3 hf3 hM.out _).mono ?_; rintro e w1 ⟨rfl, rfl⟩))
    go_ret2
    rw [HV.out]
    exact ⟨rfl, below_drewN (Below.refl _ _) _⟩
  have HL : Hid (decide (0 ≤ (I : Int) ∧ (I : Int) < N) = true) := by show _ = _; simp; omega
  obtain ⟨S, hS⟩ : ∃ S, Hid ((sig.drop 1).take 560 = S) := ⟨_, rfl⟩
  have HSL : Hid (S.length = 560) := by show _ = _; rw [← hS.out, List.length_take, List.length_drop, HLU.out]; omega
  obtain ⟨X, hX⟩ : ∃ X, Hid ((recoverI I msg S).1 = X) := ⟨_, rfl⟩
  have HOK : Hid ((recoverI I msg S).2 = true) := by show _ = _; rw [recoverI, if_neg (by rw [HSL.out]; omega)]
  have HXB : Hid (InB (climbI X I (path7 sig f))) := by show InB _; rw [← hX.out]; exact inB_climb _ _ _ (inB_recover _ _ _)
  have HPB : Hid (InB ((pub.drop 1).take 16)) := (inB_drop _ _ HX.out).take _
  obtain ⟨V, hV⟩ : ∃ V, Hid (sameB (climbI X I (path7 sig f)) (pub.drop 1) = V) := ⟨_, rfl⟩
  have HV : Hid (ver7 pub msg sig = if V = true then ((I : Int), true) else (0, false)) := by
    show _ = _
    rw [ver7, if_neg (by rw [HLS.out, HF.out]; omega), HF.out, Int.toNat_natCast, if_neg (by rw [HI.out, HLU.out, hN.out, hM.out]; omega), HI.out, hS.out, hX.out, hV.out]
  have HVT : Hid (sameB (climbI X I (path7 sig f)) ((pub.drop 1).take 16) = V) := by show _ = _; rw [List.take_of_length_le (by rw [List.length_drop, HLS.out]; omega), hV.out]
  have hsls : ∀ W, (Instr.slice 22 (.slice (some ⟨b3, o3, none⟩) n3 c3) (some (.int .i64 1)) (some (.int .i64 561)) (some (.int .i64 561))).run Tryd.prog W = .ok (.slice (some ⟨b3, o3 + 1, none⟩) 560 560) W := fun W => slice_part3 b3 o3 n3 c3 1 561 (by omega) (by omega) W
  have HPUB := Lib.hid (HS.out.part 1 16 (by omega))
  have HSS := Lib.hid (HU.out.part 1 560 (by omega))
  rw [hS.out] at HSS
  clear hge hV
  go_enter Tryd.func16, Tryd.ntmps16
  go_wp2_with fail
  go_quiet (fail)
  have hcz : (w.drewN nq).cell? ⟨b3, o3, none⟩ = some (.int .u8 I) := hcy
  have hbq : Below w.heap.size w (w.drewN nq) := below_drewN (Below.refl _ _) nq
  go_wp2_with (first
    | (go_at_call 19; refine (wheight7_any f true HD.out _).mono ?_; rintro e w1 ⟨rfl, rfl⟩)
    | (go_at_call 25; refine (wleaf7_any I f N hf3 hN.out hN8 true HL.out _).mono ?_; rintro e w1 ⟨rfl, rfl⟩)
    | (go_at_call 26; refine (wsize7_any f n3 hf3 hM.out _).mono ?_; rintro e w1 ⟨rfl, rfl⟩))
  obtain ⟨wq, hwq⟩ : ∃ wq, Hid (w.drewN nq = wq) := ⟨_, rfl⟩
  rw [hwq.out] at hbq ⊢
  clear hcx hcy hcz hslp hsls hwq
  refine (wrecover_any A2 _ n2 c2 560 560 msg S I wq ((HT.out.below hbq (Nat.le_refl _)).more hbq.size) hn2 hc2 hm2 ((HSS.out.below hbq (Nat.le_refl _)).more hbq.size) (by omega) (by omega) (by omega) (HK.out.below hbq hk0)).mono ?_
  rw [HOK.out, hX.out]
  rintro e w1 ⟨A4, n4, c4, rfl, hn4, hc4, hm4, hS4, hb1'⟩
  have HX1 := Lib.hid hS4
  have hbw1 := hbq.trans (hb1'.mono hbq.size)
  have hz1 := hbw1.size
  clear hS4 hb1' hbq
  go_wp2_with fail
  refine (wpath7_any b3 o3 n3 c3 f sig w1 ((HU.out.below hbw1 (Nat.le_refl _)).more hz1) (by omega) hc3 hf3 hM.out.symm).mono ?_
  rintro e w2 ⟨v2, rfl, hR2, hb2⟩
  obtain ⟨A6, c6, rfl, hc6, hm6⟩ := hR2.cut
  have HP := Lib.hid hR2.fields
  have HX2 := Lib.hid ((HX1.out.below hb2 (Nat.le_refl _)).more hb2.size)
  have hbw2 := hbw1.trans (hb2.mono hz1)
  have hz2 := hbw2.size
  clear hR2 hb2
  go_wp2_with fail
  refine (wclimb_any A4 A6 n4 c4 f c6 X I (path7 sig f) w2 HX2.out (by omega) hc4 hm4 HP.out (by omega) hc6 (by unfold maxLen at hm6; omega) (fun x hx => by have := path7_short sig f x hx; omega) (HK.out.below hbw2 hk0)).mono ?_
  rintro e w3 ⟨A7, n7, c7, rfl, _, _, _, hS7, hb3'⟩
  have HS7 := Lib.hid hS7
  have hbw3 := hbw2.trans (hb3'.mono hz2)
  clear hS7 hb3'
  go_wp2_with fail
  refine (mequal_any A7 _ n7 c7 16 16 w3.heap.size w3.heap.size (climbI X I (path7 sig f)) ((pub.drop 1).take 16) w3 HS7.out ((HPUB.out.below hbw3 (Nat.le_refl _)).more hbw3.size) HXB.out HPB.out).mono ?_
  rw [HVT.out]
  rintro e w4 ⟨rfl, rfl⟩
  clear HVT
  cases V
  · have HV2 : Hid (ver7 pub msg sig = (0, false)) := by show _ = _; rw [HV.out]; rfl
    go_wp2_with fail
    go_ret2
    rw [HV2.out]
    exact ⟨rfl, hbw3⟩
  · have HV2 : Hid (ver7 pub msg sig = ((I : Int), true)) := by show _ = _; rw [HV.out]; rfl
    go_wp2_with fail
    go_ret2
    rw [HV2.out]
    exact ⟨rfl, hbw3⟩
end Go.Proofs.YtljkkejjnimjcaaDoor
