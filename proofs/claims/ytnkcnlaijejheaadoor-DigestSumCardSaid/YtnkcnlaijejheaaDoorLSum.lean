/-
  The reference's sum, and the walk of the statement on digests.
-/
import Derived.Test.YtnkcnlaijejheaaDoorAwake
import Derived.Test.YtnkcnlaijejheaaDoorSame
import Derived.Test.YtnkcnlaijejheaaDoorRefC
import Derived.Test.YtnkcnlaijejheaaDoorRefD
namespace Go.Proofs.YtnkcnlaijejheaaDoor
open Go.RowKit

set_option maxHeartbeats 1000000 in
theorem rsum_any (alg : Int) (A : Option Addr) (n c : Nat) (xs : List Int) (w : World) (hs : Seg w w.heap.size .u8 A n xs) (hn : n ≤ 1048576) :
    Calls Tryd.prog 13 #[.int .i64 alg, .slice A n c] w fun e w' => ∃ v, e = .returned v ∧ Own w' w.heap.size 5 .u8 v (digestI alg xs) ∧ Below w.heap.size w w' := by
  by_cases h0 : alg = 0
  · subst h0
    go_enter Tryd.func13, Tryd.ntmps13
    go_wp2_with (go_at_call 14; refine (rsum1_any A n c xs w hs (by omega)).mono ?_; rintro e w2 ⟨v, rfl, hown, hb⟩)
    go_ret
    exact ⟨v, rfl, hown, hb⟩
  · by_cases h1 : alg = 1
    · subst h1
      go_enter Tryd.func13, Tryd.ntmps13
      go_wp2_with (go_at_call 15; refine (rsum256_any A n c xs w hs (by omega)).mono ?_; rintro e w2 ⟨v, rfl, hown, hb⟩)
      go_ret
      exact ⟨v, rfl, hown, hb⟩
    · have e0 : (alg == 0) = false := by simpa using h0
      have e1 : (alg == 1) = false := by simpa using h1
      have hd : digestI alg xs = [] := by simp [digestI, h0, h1]
      have HD := Lib.hid hd
      clear hd hs
      go_enter Tryd.func13, Tryd.ntmps13
      go_wp2_with fail
      go_ret
      exact ⟨_, rfl, by rw [HD.out]; exact World.ownsRow_nil _ _ _ _, Below.refl _ _⟩

theorem digestI_le (alg : Int) (xs : List Int) : (digestI alg xs).length ≤ 32 := by
  have h := digestI_length alg xs
  have : sizeI alg ≤ 32 := by unfold sizeI; repeat (split; omega); omega
  omega

set_option maxRecDepth 100000 in
set_option maxHeartbeats 2000000 in
theorem lawSum (alg : Int) (A : Option Addr) (n c : Nat) (xs : List Int) (w : World) (hs : Seg w w.heap.size .u8 A n xs) (hc : n ≤ c) (hcm : c ≤ 9223372036854775807) (hK : Tab w 0 .u32 kay256) :
    Calls Tryd.prog 3 #[.int .i64 alg, .slice A n c] w fun e w' => e = .returned (.bool true) ∧ Below w.heap.size w w' := by
  have HK := Lib.hid hK
  have HS := Lib.hid hs
  have h0 : 0 < w.heap.size := hK.lt
  clear hs hK
  go_enter Tryd.func3, Tryd.ntmps3
  go_wp2_with fail
  refine (awake_any w HK.out).mono ?_
  rintro e w1 ⟨rfl, hb1⟩
  have hz1 := hb1.size
  by_cases hn : (300 : Int) < n
  · go_wp2_with fail
    go_ret
    exact ⟨rfl, hb1⟩
  · have hn2 : n ≤ 300 := by omega
    go_wp2_with fail
    go_loopw [5] (fun i wr => ∃ k : Nat, k ≤ 5 ∧ i = .int .i64 ((k : Int) - 1) ∧ Below w.heap.size w wr) (fun i _ => 5 - (intOf i + 1).toNat)
    case atStart => exact ⟨0, by omega, rfl, hb1⟩
    case round =>
      clear hb1 hz1
      obtain ⟨k, hk, rfl, hb⟩ := hrel
      have hz := hb.size
      have HSr := Lib.hid ((HS.out.below hb (Nat.le_refl _)).more hz)
      have HKr := Lib.hid (HK.out.below hb h0)
      by_cases hlt : k < 5
      · have hd : decide ((k : Int) - 1 < 4) = true := by simp; omega
        obtain ⟨D, HD⟩ : ∃ D, Hid (digestI ((k : Int) - 1) xs = D) := ⟨_, rfl⟩
        have hDl : Hid (D.length ≤ 32) := by rw [← HD.out]; exact digestI_le _ _
        go_wp2_with fail
        refine (sum_any _ A n c xs wr HSr.out (by omega) hc hcm HKr.out).mono ?_
        rintro e w2 ⟨v2, rfl, hown2, hb2⟩
        rw [HD.out] at hown2
        obtain ⟨A2, c2, rfl, _, _⟩ := Own.cut hown2
        have hz2 := hb2.size
        have HS2 := Lib.hid (Seg.of_own hown2)
        go_wp2_with fail
        refine (rsum_any _ A n c xs w2 ((HSr.out.below hb2 (Nat.le_refl _)).more hz2) (by omega)).mono ?_
        rintro e w3 ⟨v3, rfl, hown3, hb3⟩
        rw [HD.out] at hown3
        obtain ⟨A3, c3, rfl, _, _⟩ := Own.cut hown3
        have hs2 := (HS2.out.below hb3 (Nat.le_refl _)).more hb3.size
        have hs3 := Seg.of_own hown3
        go_wp2_with fail
        refine (same_any A2 A3 _ c2 _ c3 D D w3 hs2 hs3 (by have := hDl.out; omega)).mono ?_
        rintro e w4 ⟨rfl, q, hq⟩
        have hb4 : Below w.heap.size w w4 := by rw [hq]; exact below_drewN (hb.trans ((hb2.trans (hb3.mono hz2)).mono hz)) q
        clear hq
        rw [sameB_self]
        go_wp2_with fail
        go_roundw
        case measure => simp [intOf]; omega
        case rel => exact ⟨k + 1, by omega, by go_num, hb4⟩
      · have hd : decide ((k : Int) - 1 < 4) = false := by simp; omega
        obtain ⟨D, HD⟩ : ∃ D, Hid (digestI alg xs = D) := ⟨_, rfl⟩
        have hDl : Hid (D.length ≤ 32) := by rw [← HD.out]; exact digestI_le _ _
        go_wp2_with fail
        refine (sum_any _ A n c xs wr HSr.out (by omega) hc hcm HKr.out).mono ?_
        rintro e w2 ⟨v2, rfl, hown2, hb2⟩
        rw [HD.out] at hown2
        obtain ⟨A2, c2, rfl, _, _⟩ := Own.cut hown2
        have hz2 := hb2.size
        have HS2 := Lib.hid (Seg.of_own hown2)
        go_wp2_with fail
        refine (rsum_any _ A n c xs w2 ((HSr.out.below hb2 (Nat.le_refl _)).more hz2) (by omega)).mono ?_
        rintro e w3 ⟨v3, rfl, hown3, hb3⟩
        rw [HD.out] at hown3
        obtain ⟨A3, c3, rfl, _, _⟩ := Own.cut hown3
        have hs2 := (HS2.out.below hb3 (Nat.le_refl _)).more hb3.size
        have hs3 := Seg.of_own hown3
        go_wp2_with fail
        refine (same_any A2 A3 _ c2 _ c3 D D w3 hs2 hs3 (by have := hDl.out; omega)).mono ?_
        rintro e w4 ⟨rfl, q, hq⟩
        have hb4 : Below w.heap.size w w4 := by rw [hq]; exact below_drewN (hb.trans ((hb2.trans (hb3.mono hz2)).mono hz)) q
        clear hq
        rw [sameB_self]
        go_wp2_with fail
        go_ret
        exact ⟨rfl, hb4⟩
end Go.Proofs.YtnkcnlaijejheaaDoor
