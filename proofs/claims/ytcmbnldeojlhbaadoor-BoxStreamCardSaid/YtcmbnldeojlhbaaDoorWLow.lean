/-
  The lowest bytes of a number, by the program.
-/
import Derived.Test.YtcmbnldeojlhbaaDoorRd
import Derived.Test.YtcmbnldeojlhbaaDoorCat
namespace Go.Proofs.YtcmbnldeojlhbaaDoor
open Go.RowKit

theorem valid_any (size : Int) (b : Bool) (hb : decide (1 ≤ size ∧ size ≤ 8) = b) (w : World) :
    Calls Tryd.prog 58 #[.int .i64 size] w fun e w' => e = .returned (.bool b) ∧ w = w' := by
  by_cases h1 : 1 ≤ size
  · have hd : decide (1 ≤ size) = true := by simpa using h1
    have hb' : decide (size ≤ 8) = b := by simpa [h1] using hb
    clear hb
    go_enter Tryd.func58, Tryd.ntmps58
    go_wp2_with fail
    go_ret
    exact ⟨rfl, rfl⟩
  · have hd : decide (1 ≤ size) = false := by simpa using h1
    have hb' : b = false := by rw [← hb]; simp; omega
    subst hb'
    clear hb
    go_enter Tryd.func58, Tryd.ntmps58
    go_wp2_with fail
    go_ret
    exact ⟨rfl, rfl⟩

/-- The size lowest bytes, none for a wrong size. -/
def lowB (size n : Int) : List Int := if size < 1 ∨ 8 < size then [] else beI size.toNat n
theorem uintB_low (b : List Int) (size n : Int) : uintB b size n = b ++ lowB size n := by
  unfold uintB lowB
  split <;> simp
/-- The lowest bytes as they are laid from the end: k of them laid. -/
def layI (s : Nat) (n : Int) (k : Nat) : List Int := List.replicate (s - k) 0 ++ (beI s n).drop (s - k)
theorem layI_zero (s : Nat) (n : Int) : layI s n 0 = List.replicate s 0 := by simp [layI, beI_length]
theorem layI_all (s : Nat) (n : Int) : layI s n s = beI s n := by simp [layI]
theorem layI_next (s k : Nat) (n : Int) (hk : k < s) : layI s n (k + 1) = (layI s n k).set (s - 1 - k) (n % 18446744073709551616 / 2 ^ (8 * k) % 256) := by
  have hb : (beI s n).drop (s - (k + 1)) = (n % 18446744073709551616 / 2 ^ (8 * k) % 256) :: (beI s n).drop (s - k) := by
    rw [List.drop_eq_getElem_cons (by rw [beI_length]; omega), show s - (k + 1) + 1 = s - k by omega]
    congr 1
    simp only [beI, List.getElem_map, List.getElem_range]
    rw [show s - 1 - (s - (k + 1)) = k by omega]
  have hr : List.replicate (s - k) (0 : Int) = List.replicate (s - 1 - k) 0 ++ [0] := by rw [show s - k = (s - 1 - k) + 1 by omega, List.replicate_succ']
  rw [layI, layI, hb, hr, show s - (k + 1) = s - 1 - k by omega, List.append_assoc, List.set_append_right _ _ (by simp)]
  simp

theorem low_digit (n : Int) (k : Nat) (hk : k ≤ 7) : n / 2 ^ (8 * k) % 256 = n % 18446744073709551616 / 2 ^ (8 * k) % 256 := by
  rcases (by omega : k = 0 ∨ k = 1 ∨ k = 2 ∨ k = 3 ∨ k = 4 ∨ k = 5 ∨ k = 6 ∨ k = 7) with rfl | rfl | rfl | rfl | rfl | rfl | rfl | rfl <;> simp only [Nat.mul_zero, Nat.reduceMul, Int.reducePow] <;> omega

set_option maxRecDepth 100000 in
set_option maxHeartbeats 2000000 in
theorem lowest_any (size n : Int) (w : World) :
    Calls Tryd.prog 40 #[.int .i64 size, .int .i64 n] w
      fun e w' => ∃ v k, e = .returned v ∧ k ≤ 8 ∧ Row w' w.heap.size 5 .u8 v k (lowB size n) ∧ Below w.heap.size w w' := by
  obtain ⟨i0, hi, hz0, hz1, hz2⟩ := info_parts Tryd.infoU8
  by_cases hsz : size < 1 ∨ 8 < size
  · have HU : Hid (lowB size n = []) := by show _ = _; rw [lowB, if_pos hsz]
    have hv : decide (1 ≤ size ∧ size ≤ 8) = false := by simp; omega
    have HV := Lib.hid hv
    clear hv hsz
    go_enter Tryd.func40, Tryd.ntmps40
    go_wp2_with (go_at_call 58; refine (valid_any size false HV.out w).mono ?_; rintro e w' ⟨rfl, rfl⟩)
    go_ret
    refine ⟨_, 0, rfl, by omega, ?_, Below.refl _ _⟩
    rw [HU.out]
    exact nil_row _ _ _ _
  · obtain ⟨s, rfl⟩ : ∃ s : Nat, size = s := ⟨size.toNat, by omega⟩
    have HU : Hid (lowB s n = beI s n) := by show _ = _; rw [lowB, if_neg hsz, Int.toNat_natCast]
    have hs1 : 1 ≤ s := by omega
    have hs8 : s ≤ 8 := by omega
    have hv : decide (1 ≤ (s : Int) ∧ (s : Int) ≤ 8) = true := by simp; omega
    have HV := Lib.hid hv
    clear hv hsz
    go_enter Tryd.func40, Tryd.ntmps40
    go_wp2_with (first
      | (go_at_call 58; refine (valid_any s true HV.out w).mono ?_; rintro e w' ⟨rfl, rfl⟩)
      | (at_make; refine wpList_make_cap rfl _ _ 22 rfl w.heap.size 5 i0 .u8 Tryd.underlying22 hi hz0 hz1 hz2 .i64 .i64 s s _ _ rfl rfl rfl rfl (Nat.le_refl _) (by omega) (Nat.le_refl _) ?_; intro w1 hR1 hb1 hs1'; have HR1 := Lib.hid hR1; clear hR1 hs1'))
    have hlay := layI_zero s n
    rw [← hlay] at HR1
    clear hlay
    go_loopw [14] (fun i wr => ∃ k : Nat, k ≤ s ∧ i = .int .i64 k ∧ Hid (Row wr w.heap.size 5 .u8 (.slice (some ⟨w.heap.size, 0, none⟩) s s) s (layI s n k)) ∧ Below w.heap.size w wr) (fun i _ => s - (intOf i).toNat)
    case atStart => exact ⟨0, by omega, rfl, HR1, hb1⟩
    case round =>
      clear HR1 hb1
      obtain ⟨k, hk, rfl, hR, hb⟩ := hrel
      have hz := hb.size
      by_cases hlt : k < s
      · have hd : decide ((k : Int) < s) = true := by simp; omega
        obtain ⟨q, hq⟩ : ∃ q : Nat, (s : Int) - 1 - k = q := ⟨s - 1 - k, by omega⟩
        have HQ := Lib.hid hq
        have hqs : q < s := by omega
        have hc := hR.out.cell q hqs
        have hf := hR.out.frozen q
        obtain ⟨y, hy⟩ : ∃ y, Hid ((layI s n k).getD q 0 = y) := ⟨_, rfl⟩
        rw [hy.out] at hc
        go_wp2_with fail
        go_roundw
        case measure => simp [intOf]; omega
        case rel =>
          refine ⟨k + 1, by omega, by go_num, ?_, hb.setCell (Nat.le_refl _) _⟩
          show Row _ _ _ _ _ _ _
          have hq' := HQ.out
          rw [layI_next s k n hlt, show s - 1 - k = q by omega, ← low_digit n k (by omega)]
          exact hR.out.set_ q _
      · have hd : decide ((k : Int) < s) = false := by simp; omega
        have hR' := hR.out
        rw [show k = s by omega, layI_all] at hR'
        have HR' := Lib.hid hR'
        clear hR'
        go_wp2_with fail
        go_ret
        refine ⟨_, s, rfl, hs8, ?_, hb⟩
        rw [HU.out]
        exact HR'.out
end Go.Proofs.YtcmbnldeojlhbaaDoor
