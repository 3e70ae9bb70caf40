/-
  The program's writing of numbers and blobs.
-/
import Derived.Test.YtcidfnblfelgkaaRd
import Derived.Test.YtcidfnblfelgkaaCat
import Derived.Lib.MinMax
namespace Go.Proofs.Ytcidfnblfelgkaa
open Go.RowKit

theorem valid_any (size : Int) (b : Bool) (hb : decide (1 ≤ size ∧ size ≤ 8) = b) (w : World) :
    Calls Try.prog 39 #[.int .i64 size] w fun e w' => e = .returned (.bool b) ∧ w = w' := by
  by_cases h1 : 1 ≤ size
  · have hd : decide (1 ≤ size) = true := by simpa using h1
    have hb' : decide (size ≤ 8) = b := by simpa [h1] using hb
    clear hb
    go_enter Try.func39, Try.ntmps39
    go_wp2_with fail
    go_ret
    exact ⟨rfl, rfl⟩
  · have hd : decide (1 ≤ size) = false := by simpa using h1
    have hb' : b = false := by rw [← hb]; simp; omega
    subst hb'
    clear hb
    go_enter Try.func39, Try.ntmps39
    go_wp2_with fail
    go_ret
    exact ⟨rfl, rfl⟩

/-- The size lowest bytes, none for a wrong size. -/
def lowB (size n : Int) : List Int := if size < 1 ∨ 8 < size then [] else beI size.toNat n
theorem uintB_low (b : List Int) (size n : Int) : uintB b size n = b ++ lowB size n := by
  unfold uintB lowB
  split <;> simp
/-- The lowest bytes as they are laid from the end: k of them laid. -/
def layI (s : Nat) (n : Int) (k : Nat) : List Int := List.replicate (s - k) 0 ++ (beI s n).drop (s - k)
theorem layI_zero (s : Nat) (n : Int) : layI s n 0 = List.replicate s 0 := by simp [layI, beI_length]
theorem layI_all (s : Nat) (n : Int) : layI s n s = beI s n := by simp [layI]
theorem layI_next (s k : Nat) (n : Int) (hk : k < s) : layI s n (k + 1) = (layI s n k).set (s - 1 - k) (n % 18446744073709551616 / 2 ^ (8 * k) % 256) := by
  have hb : (beI s n).drop (s - (k + 1)) = (n % 18446744073709551616 / 2 ^ (8 * k) % 256) :: (beI s n).drop (s - k) := by
    rw [List.drop_eq_getElem_cons (by rw [beI_length]; omega), show s - (k + 1) + 1 = s - k by omega]
    congr 1
    simp only [beI, List.getElem_map, List.getElem_range]
    rw [show s - 1 - (s - (k + 1)) = k by omega]
  have hr : List.replicate (s - k) (0 : Int) = List.replicate (s - 1 - k) 0 ++ [0] := by rw [show s - k = (s - 1 - k) + 1 by omega, List.replicate_succ']
  rw [layI, layI, hb, hr, show s - (k + 1) = s - 1 - k by omega, List.append_assoc, List.set_append_right _ _ (by simp)]
  simp

theorem low_digit (n : Int) (k : Nat) (hk : k ≤ 7) : n / 2 ^ (8 * k) % 256 = n % 18446744073709551616 / 2 ^ (8 * k) % 256 := by
  rcases (by omega : k = 0 ∨ k = 1 ∨ k = 2 ∨ k = 3 ∨ k = 4 ∨ k = 5 ∨ k = 6 ∨ k = 7) with rfl | rfl | rfl | rfl | rfl | rfl | rfl | rfl <;> simp only [Nat.mul_zero, Nat.reduceMul, Int.reducePow] <;> omega

set_option maxRecDepth 100000 in
set_option maxHeartbeats 2000000 in
theorem lowest_any (size n : Int) (w : World) :
    Calls Try.prog 28 #[.int .i64 size, .int .i64 n] w
      fun e w' => ∃ v k, e = .returned v ∧ k ≤ 8 ∧ Row w' w.heap.size 5 .u8 v k (lowB size n) ∧ Below w.heap.size w w' := by
  obtain ⟨i0, hi, hz0, hz1, hz2⟩ := info_parts Try.infoU8
  by_cases hsz : size < 1 ∨ 8 < size
  · have HU : Hid (lowB size n = []) := by show _ = _; rw [lowB, if_pos hsz]
    have hv : decide (1 ≤ size ∧ size ≤ 8) = false := by simp; omega
    have HV := Lib.hid hv
    clear hv hsz
    go_enter Try.func28, Try.ntmps28
    go_wp2_with (go_at_call 39; refine (valid_any size false HV.out w).mono ?_; rintro e w' ⟨rfl, rfl⟩)
    go_ret
    refine ⟨_, 0, rfl, by omega, ?_, Below.refl _ _⟩
    rw [HU.out]
    exact nil_row _ _ _ _
  · obtain ⟨s, rfl⟩ : ∃ s : Nat, size = s := ⟨size.toNat, by omega⟩
    have HU : Hid (lowB s n = beI s n) := by show _ = _; rw [lowB, if_neg hsz, Int.toNat_natCast]
    have hs1 : 1 ≤ s := by omega
    have hs8 : s ≤ 8 := by omega
    have hv : decide (1 ≤ (s : Int) ∧ (s : Int) ≤ 8) = true := by simp; omega
    have HV := Lib.hid hv
    clear hv hsz
    go_enter Try.func28, Try.ntmps28
    go_wp2_with (first
      | (go_at_call 39; refine (valid_any s true HV.out w).mono ?_; rintro e w' ⟨rfl, rfl⟩)
      | (at_make; refine wpList_make_cap rfl _ _ 22 rfl w.heap.size 5 i0 .u8 Try.underlying22 hi hz0 hz1 hz2 .i64 .i64 s s _ _ rfl rfl rfl rfl (Nat.le_refl _) (by omega) (Nat.le_refl _) ?_; intro w1 hR1 hb1 hs1'; have HR1 := Lib.hid hR1; clear hR1 hs1'))
    have hlay := layI_zero s n
    rw [← hlay] at HR1
    clear hlay
    go_loopw [14] (fun i wr => ∃ k : Nat, k ≤ s ∧ i = .int .i64 k ∧ Hid (Row wr w.heap.size 5 .u8 (.slice (some ⟨w.heap.size, 0, none⟩) s s) s (layI s n k)) ∧ Below w.heap.size w wr) (fun i _ => s - (intOf i).toNat)
    case atStart => exact ⟨0, by omega, rfl, HR1, hb1⟩
    case round =>
      clear HR1 hb1
      obtain ⟨k, hk, rfl, hR, hb⟩ := hrel
      have hz := hb.size
      by_cases hlt : k < s
      · have hd : decide ((k : Int) < s) = true := by simp; omega
        obtain ⟨q, hq⟩ : ∃ q : Nat, (s : Int) - 1 - k = q := ⟨s - 1 - k, by omega⟩
        have HQ := Lib.hid hq
        have hqs : q < s := by omega
        have hc := hR.out.cell q hqs
        have hf := hR.out.frozen q
        obtain ⟨y, hy⟩ : ∃ y, Hid ((layI s n k).getD q 0 = y) := ⟨_, rfl⟩
        rw [hy.out] at hc
        go_wp2_with fail
        go_roundw
        case measure => simp [intOf]; omega
        case rel =>
          refine ⟨k + 1, by omega, by go_num, ?_, hb.setCell (Nat.le_refl _) _⟩
          show Row _ _ _ _ _ _ _
          have hq' := HQ.out
          rw [layI_next s k n hlt, show s - 1 - k = q by omega, ← low_digit n k (by omega)]
          exact hR.out.set_ q _
      · have hd : decide ((k : Int) < s) = false := by simp; omega
        have hR' := hR.out
        rw [show k = s by omega, layI_all] at hR'
        have HR' := Lib.hid hR'
        clear hR'
        go_wp2_with fail
        go_ret
        refine ⟨_, s, rfl, hs8, ?_, hb⟩
        rw [HU.out]
        exact HR'.out

set_option maxRecDepth 100000 in
set_option maxHeartbeats 2000000 in
theorem wuint_any (A : Option Addr) (l c : Nat) (b : List Int) (size n : Int) (w : World) (hs : Seg w w.heap.size .u8 A l b) (hl : l ≤ 549755813888) (hc : l ≤ c) (hcm : c ≤ 9223372036854775807) :
    Calls Try.prog 11 #[.slice A l c, .int .i64 size, .int .i64 n] w
      fun e w' => ∃ v k, e = .returned v ∧ k ≤ l + 8 ∧ Row w' w.heap.size 5 .u8 v k (uintB b size n) ∧ Below w.heap.size w w' := by
  have HS := Lib.hid hs
  clear hs
  go_enter Try.func11, Try.ntmps11
  go_wp2_with fail
  refine (lowest_any size n w).mono ?_
  rintro e w1 ⟨v1, k1, rfl, hk1, hR1, hb1⟩
  obtain ⟨A1, c1, rfl, hc1, hcm1⟩ := hR1.cut
  have HR1 := Lib.hid hR1
  have hz1 := hb1.size
  clear hR1
  go_wp2_with fail
  have hba : Below w1.heap.size w1 (w1.alloc (.cells #[.slice A l c, .slice A1 k1 c1] 22)) := (Below.refl _ _).alloc (Nat.le_refl _) _
  have HF : Hid (Fields (w1.alloc (.cells #[.slice A l c, .slice A1 k1 c1] 22)) (w1.alloc (.cells #[.slice A l c, .slice A1 k1 c1] 22)).heap.size (some ⟨w1.heap.size, 0, none⟩) 2 [b, lowB size n]) :=
    fields2 _ _ A A1 l c k1 c1 b (lowB size n) (cell_made w1 _ _ _ 0 _ rfl rfl) (cell_made w1 _ _ _ 1 _ rfl rfl)
      (((HS.out.below hb1 (Nat.le_refl _)).more hz1 |>.below hba (Nat.le_refl _)).more hba.size) ((HR1.out.seg.below hba (Nat.le_refl _)).more hba.size) hc (by unfold maxLen; omega) hc1 hcm1
  have hbw : Below w.heap.size w (w1.alloc (.cells #[.slice A l c, .slice A1 k1 c1] 22)) := hb1.trans (hba.mono hz1)
  have HT : Hid (tot [b, lowB size n] = l + k1) := by show _ = _; simp [tot, HS.out.1, HR1.out.length]
  have HE : Hid ([b, lowB size n].flatten = uintB b size n) := by show _ = _; rw [uintB_low]; simp
  generalize hwa : World.alloc _ _ = wa at HF hbw ⊢
  clear hwa hba
  refine (concat_any _ 2 2 _ wa HF.out (by omega) (by rw [HT.out]; omega)).mono ?_
  rintro e w2 ⟨v2, rfl, hR2, hb2⟩
  rw [HT.out, HE.out] at hR2
  have HR2 := Lib.hid hR2
  have hz2 := hbw.size
  have hbw2 := hbw.trans (hb2.mono hz2)
  clear hR2
  go_wp2_with fail
  go_ret
  exact ⟨_, l + k1, rfl, by omega, Row.less HR2.out hz2, hbw2⟩

set_option maxRecDepth 100000 in
set_option maxHeartbeats 2000000 in
theorem wblob_any (A A2 : Option Addr) (l c l2 c2 : Nat) (b x : List Int) (w : World) (hs : Seg w w.heap.size .u8 A l b) (hl : l ≤ 549755813888) (hc : l ≤ c) (hcm : c ≤ 9223372036854775807) (ht : Seg w w.heap.size .u8 A2 l2 x) (hl2 : l2 ≤ 549755813888) (hc2 : l2 ≤ c2) (hcm2 : c2 ≤ 9223372036854775807) :
    Calls Try.prog 13 #[.slice A l c, .slice A2 l2 c2] w
      fun e w' => ∃ v k, e = .returned v ∧ k ≤ l + 65545 ∧ Row w' w.heap.size 5 .u8 v k (blobB b x) ∧ Below w.heap.size w w' := by
  have HS := Lib.hid hs
  have HX0 := Lib.hid ht
  clear hs ht
  obtain ⟨m, HM⟩ : ∃ m : Nat, Hid (min l2 65535 = m) := ⟨_, rfl⟩
  have hm : m ≤ l2 := by have := HM.out; omega
  have hm2 : m ≤ 65535 := by have := HM.out; omega
  obtain ⟨X, HXX⟩ : ∃ X, Hid (x.take 65535 = X) := ⟨_, rfl⟩
  have HX : Hid (Seg w w.heap.size .u8 A2 m X) := by
    show Seg _ _ _ _ _ _
    have h := HX0.out.take (i := m) hm
    have e : x.take m = X := by
      rw [← HXX.out, ← HM.out, ← HX0.out.1, Nat.min_comm, ← List.take_eq_take_min]
    rw [e] at h
    exact h
  have HB : Hid (blobB b x = b ++ lowB 2 (m : Int) ++ X) := by
    show _ = _
    rw [blobB, HXX.out, uintB_low, HX.out.1]
  have hmin : min (l2 : Int) 65535 = (m : Int) := by have := HM.out; omega
  have hsl := slice_to A2 l2 c2 m (by omega)
  go_enter Try.func13, Try.ntmps13
  go_wp2_with fail
  refine (lowest_any 2 m w).mono ?_
  rintro e w1 ⟨v1, k1, rfl, hk1, hR1, hb1⟩
  obtain ⟨A1, c1, rfl, hc1, hcm1⟩ := hR1.cut
  have HR1 := Lib.hid hR1
  have hz1 := hb1.size
  clear hR1
  go_wp2_with fail
  have hba : Below w1.heap.size w1 (w1.alloc (.cells #[.slice A l c, .slice A1 k1 c1, .slice A2 m c2] 22)) := (Below.refl _ _).alloc (Nat.le_refl _) _
  have HF : Hid (Fields (w1.alloc (.cells #[.slice A l c, .slice A1 k1 c1, .slice A2 m c2] 22)) (w1.alloc (.cells #[.slice A l c, .slice A1 k1 c1, .slice A2 m c2] 22)).heap.size (some ⟨w1.heap.size, 0, none⟩) 3 [b, lowB 2 m, X]) :=
    fields3 _ _ A A1 A2 l c k1 c1 m c2 b (lowB 2 m) X (cell_made w1 _ _ _ 0 _ rfl rfl) (cell_made w1 _ _ _ 1 _ rfl rfl) (cell_made w1 _ _ _ 2 _ rfl rfl)
      (((HS.out.below hb1 (Nat.le_refl _)).more hz1 |>.below hba (Nat.le_refl _)).more hba.size) ((HR1.out.seg.below hba (Nat.le_refl _)).more hba.size)
      (((HX.out.below hb1 (Nat.le_refl _)).more hz1 |>.below hba (Nat.le_refl _)).more hba.size) hc (by unfold maxLen; omega) hc1 hcm1 (by omega) (by unfold maxLen; omega)
  have hbw : Below w.heap.size w (w1.alloc (.cells #[.slice A l c, .slice A1 k1 c1, .slice A2 m c2] 22)) := hb1.trans (hba.mono hz1)
  have HT : Hid (tot [b, lowB 2 m, X] = l + k1 + m) := by show _ = _; simp [tot, HS.out.1, HR1.out.length, HX.out.1]; omega
  have HE : Hid ([b, lowB 2 m, X].flatten = blobB b x) := by show _ = _; rw [HB.out]; simp
  generalize hwa : World.alloc _ _ = wa at HF hbw ⊢
  clear hwa hba
  refine (concat_any _ 3 3 _ wa HF.out (by omega) (by rw [HT.out]; omega)).mono ?_
  rintro e w2 ⟨v2, rfl, hR2, hb2⟩
  rw [HT.out, HE.out] at hR2
  have HR2 := Lib.hid hR2
  have hz2 := hbw.size
  have hbw2 := hbw.trans (hb2.mono hz2)
  clear hR2
  go_wp2_with fail
  go_ret
  exact ⟨_, l + k1 + m, rfl, by omega, Row.less HR2.out hz2, hbw2⟩
end Go.Proofs.Ytcidfnblfelgkaa
