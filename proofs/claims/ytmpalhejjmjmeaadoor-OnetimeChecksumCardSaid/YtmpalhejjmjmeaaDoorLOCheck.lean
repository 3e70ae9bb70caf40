/-
  The walk of the statement that the last three digits are the checksum of the others.
-/
import Derived.Test.YtmpalhejjmjmeaaDoorBase9
import Derived.Test.YtmpalhejjmjmeaaDoorBase7
import Derived.IntWalk
namespace Go.Proofs.YtmpalhejjmjmeaaDoor
open Go.RowKit

theorem sumTo_bound (msg : List Int) (k : Nat) (hk : k ≤ 35) : 0 ≤ sumTo (digitsI msg) k ∧ sumTo (digitsI msg) k ≤ 15 * k := by
  induction k with
  | zero => simp [sumTo]
  | succ k ih =>
    have h1 := ih (by omega)
    have h2 := digits_get msg k (by omega)
    rw [sumTo]
    omega

set_option maxRecDepth 100000 in
set_option maxHeartbeats 4000000 in
theorem lawOnetimeChecksum (A : Option Addr) (n c : Nat) (xs : List Int) (w : World)
    (hs : Seg w w.heap.size .u8 A n xs) (hc : n ≤ c) (hm : c ≤ 9223372036854775807) (hK : Tab w 0 .u32 kay256) :
    Calls Tryd.prog 4 #[.slice A n c] w fun e w' => e = .returned (.bool true) ∧ Below w.heap.size w w' := by
  have HS := Lib.hid hs
  have HK := Lib.hid hK
  have hw0 := hK.lt
  clear hs hK
  go_enter Tryd.func4, Tryd.ntmps4
  go_wp2_with fail
  refine (awake5_any w HK.out).mono ?_
  rintro e w1 ⟨rfl, hb1⟩
  have hz1 := hb1.size
  by_cases hl : 200 < n
  · have hd : decide ((200 : Int) < n) = true := by simp; omega
    go_wp2_with fail
    go_ret
    exact ⟨rfl, hb1⟩
  have hd : decide ((200 : Int) < n) = false := by simp; omega
  go_wp2_with fail
  refine (wdigits_any A n c xs w1 (HS.out.up hb1) (by omega) hc hm (HK.out.below hb1 hw0)).mono ?_
  rintro e w2 ⟨B2, d2, rfl, hd2, hdm2, hS2, hb2⟩
  have HX := Lib.hid hS2
  have hbw2 := hb1.trans (hb2.mono hz1)
  have HSUM := Lib.hid (digits_sum xs)
  have HB : Hid (∀ k, k ≤ 35 → 0 ≤ sumTo (digitsI xs) k ∧ sumTo (digitsI xs) k ≤ 15 * k) := sumTo_bound xs
  have HG : Hid (∀ k, k < 35 → 0 ≤ (digitsI xs).getD k 0 ∧ (digitsI xs).getD k 0 ≤ 15) := digits_get xs
  clear hS2 HS hb2 hb1 hd
  obtain ⟨X, HEX⟩ : ∃ X, Hid (digitsI xs = X) := ⟨_, rfl⟩
  rw [HEX.out] at HX HSUM HB HG
  obtain ⟨b, off, rfl, _, hc1⟩ := HX.out.2 (by omega)
  have HC1 := Lib.hid hc1
  clear hc1
  go_wp2_with fail
  go_loopw [4, 5] (fun s i wr => ∃ k : Nat, k ≤ 35 ∧ s = .int .i64 (sumTo X (min k 32)) ∧ i = .int .i64 k ∧ ∃ q, wr = w2.drewN q) (fun _ i _ => 35 - (intOf i).toNat)
  case atStart => exact ⟨0, by omega, rfl, rfl, 0, rfl⟩
  case round =>
    obtain ⟨k, hk, rfl, rfl, q, rfl⟩ := hrel
    by_cases hlt : k < 35
    · have hd : decide ((k : Int) < 35) = true := by simp; omega
      have hg := HG.out k hlt
      obtain ⟨x, hx⟩ : ∃ x, Hid (X.getD k 0 = x) := ⟨_, rfl⟩
      have h1 := HC1.out k hlt
      rw [hx.out] at h1 hg
      obtain ⟨hx0, hx1⟩ := hg
      have hq0 : decide (x < 0) = false := by simp; omega
      have hq1 : decide (15 < x) = false := by simp; omega
      have hki : (k : Int) < 35 := by omega
      by_cases h32 : k < 32
      · have hd32 : decide ((k : Int) < 32) = true := by simp; omega
        have hm1 : min k 32 = k := by omega
        have hm2 : Hid (min (k + 1) 32 = k + 1) := by show _ = _; omega
        have hsb := HB.out k (by omega)
        rw [hm1]
        obtain ⟨S, hS⟩ : ∃ S, Hid (sumTo X k = S) := ⟨_, rfl⟩
        rw [hS.out] at hsb ⊢
        obtain ⟨hs0, hs1⟩ := hsb
        have hw1 : IntKind.i64.wrap (15 - x) = 15 - x := IntWalk.i64_in _ (by omega)
        have hw2 : IntKind.i64.wrap (S + (15 - x)) = S + (15 - x) := IntWalk.i64_in _ (by omega)
        clear hm1
        go_wp2_with fail
        go_roundw
        case measure => simp [intOf]; omega
        case rel => exact ⟨k + 1, by omega, by rw [hm2.out, sumTo, hS.out, hx.out], by go_num, _, rfl⟩
      · have hd32 : decide ((k : Int) < 32) = false := by simp; omega
        have hm1 : Hid (min k 32 = 32) := by show _ = _; omega
        have hm2 : Hid (min (k + 1) 32 = 32) := by show _ = _; omega
        rw [hm1.out]
        obtain ⟨S, hS⟩ : ∃ S, Hid (sumTo X 32 = S) := ⟨_, rfl⟩
        rw [hS.out]
        go_wp2_with fail
        go_roundw
        case measure => simp [intOf]; omega
        case rel => exact ⟨k + 1, by omega, by rw [hm2.out, hS.out], by go_num, _, rfl⟩
    · have hd : decide ((k : Int) < 35) = false := by simp; omega
      have hm1 : min k 32 = 32 := by omega
      rw [hm1]
      clear hm1
      obtain ⟨S, hS⟩ : ∃ S, Hid (sumTo X 32 = S) := ⟨_, rfl⟩
      have hA := HC1.out 32 (by omega)
      have hB := HC1.out 33 (by omega)
      have hC := HC1.out 34 (by omega)
      have ga := HG.out 32 (by omega)
      have gb := HG.out 33 (by omega)
      have gc := HG.out 34 (by omega)
      have hsum := HSUM.out
      obtain ⟨x, hx⟩ : ∃ x, Hid (X.getD 32 0 = x) := ⟨_, rfl⟩
      obtain ⟨y, hy⟩ : ∃ y, Hid (X.getD 33 0 = y) := ⟨_, rfl⟩
      obtain ⟨z, hz⟩ : ∃ z, Hid (X.getD 34 0 = z) := ⟨_, rfl⟩
      rw [hS.out] at hsum ⊢
      rw [hx.out] at hA ga hsum
      rw [hy.out] at hB gb hsum
      rw [hz.out] at hC gc hsum
      have hw1 : IntKind.i64.wrap (256 * x) = 256 * x := IntWalk.i64_in _ (by omega)
      have hw2 : IntKind.i64.wrap (16 * y) = 16 * y := IntWalk.i64_in _ (by omega)
      have hw3 : IntKind.i64.wrap (256 * x + 16 * y) = 256 * x + 16 * y := IntWalk.i64_in _ (by omega)
      have hw4 : IntKind.i64.wrap (256 * x + 16 * y + z) = 256 * x + 16 * y + z := IntWalk.i64_in _ (by omega)
      have hfin : (S == 256 * x + 16 * y + z) = true := by rw [beq_iff_eq]; exact hsum
      clear hsum hS hx hy hz
      go_wp2_with fail
      go_quiet (fail)
      go_wp2_with fail
      go_ret
      exact ⟨rfl, below_drewN (below_drewN hbw2 q) _⟩
end Go.Proofs.YtmpalhejjmjmeaaDoor
