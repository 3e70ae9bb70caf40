/-
  The walk of the statement on the lengths of digests.
-/
import Derived.Test.YtnkcnlaijejheaaDoorAwake
namespace Go.Proofs.YtnkcnlaijejheaaDoor
open Go.RowKit

theorem rsize_any (alg : Int) (w : World) :
    Calls Tryd.prog 17 #[.int .i64 alg] w fun e w' => e = .returned (.int .i64 (sizeI alg)) ∧ w = w' := by
  by_cases h0 : alg = 0
  · subst h0
    go_enter Tryd.func17, Tryd.ntmps17
    go_wp2
    go_ret
    exact ⟨rfl, rfl⟩
  · by_cases h1 : alg = 1
    · subst h1
      go_enter Tryd.func17, Tryd.ntmps17
      go_wp2
      go_ret
      exact ⟨rfl, rfl⟩
    · have e0 : (alg == 0) = false := by simpa using h0
      have e1 : (alg == 1) = false := by simpa using h1
      have hd : sizeI alg = 0 := by simp [sizeI, h0, h1]
      have HD := Lib.hid hd
      clear hd
      go_enter Tryd.func17, Tryd.ntmps17
      go_wp2
      go_ret
      exact ⟨by rw [HD.out]; rfl, rfl⟩

set_option maxRecDepth 100000 in
set_option maxHeartbeats 1000000 in
theorem lawSize (alg : Int) (A : Option Addr) (n c : Nat) (xs : List Int) (w : World) (hs : Seg w w.heap.size .u8 A n xs) (hc : n ≤ c) (hcm : c ≤ 9223372036854775807) (hK : Tab w 0 .u32 kay256) :
    Calls Tryd.prog 5 #[.int .i64 alg, .slice A n c] w fun e w' => e = .returned (.bool true) ∧ Below w.heap.size w w' := by
  have HK := Lib.hid hK
  have HS := Lib.hid hs
  have h0 : 0 < w.heap.size := hK.lt
  clear hs hK
  go_enter Tryd.func5, Tryd.ntmps5
  go_wp2_with fail
  refine (awake_any w HK.out).mono ?_
  rintro e w1 ⟨rfl, hb1⟩
  have hz1 := hb1.size
  by_cases hn : (100 : Int) < n
  · go_wp2_with fail
    go_ret
    exact ⟨rfl, hb1⟩
  · have hn2 : n ≤ 100 := by omega
    go_wp2_with fail
    go_loopw [5] (fun i wr => ∃ k : Nat, k ≤ 2 ∧ i = .int .i64 k ∧ Below w.heap.size w wr) (fun i _ => 2 - (intOf i).toNat)
    case atStart => exact ⟨0, by omega, rfl, hb1⟩
    case round =>
      clear hb1 hz1
      obtain ⟨k, hk, rfl, hb⟩ := hrel
      have hz := hb.size
      have HSr := Lib.hid ((HS.out.below hb (Nat.le_refl _)).more hz)
      have HKr := Lib.hid (HK.out.below hb h0)
      by_cases hlt : k < 2
      · have hd : decide ((k : Int) < 2) = true := by simp; omega
        have hsz : sizeI k = 20 + 12 * (k : Int) := by
          rcases (by omega : k = 0 ∨ k = 1) with rfl | rfl <;> rfl
        have CS : Hid (∀ W, Calls Tryd.prog 16 #[.int .i64 k] W fun e w' => e = .returned (.int .i64 (20 + 12 * (k : Int))) ∧ W = w') := fun W => by rw [← hsz]; exact size_any k W
        have hdl := digestI_length k xs
        rw [hsz] at hdl
        have hdl2 : Hid ((digestI k xs).length = 20 + 12 * k) := by show _ = _; omega
        clear hsz hdl
        go_wp2_with (first
          | (go_at_call 16; refine (CS.out _).mono ?_; rintro e w' ⟨rfl, rfl⟩)
          | (go_at_call 12; refine (sum_any k A n c xs wr HSr.out (by omega) hc hcm HKr.out).mono ?_; rintro e w4 ⟨v, rfl, hown, hb4⟩; obtain ⟨A4, c4, rfl, _, _⟩ := Own.cut hown; rw [hdl2.out]))
        go_roundw
        case measure => simp [intOf]; omega
        case rel => exact ⟨k + 1, by omega, by go_num, hb.trans (hb4.mono hz)⟩
      · have hd : decide ((k : Int) < 2) = false := by simp; omega
        obtain ⟨s, hs⟩ : ∃ s, Hid (sizeI alg = s) := ⟨_, rfl⟩
        have CS : Hid (∀ W, Calls Tryd.prog 16 #[.int .i64 alg] W fun e w' => e = .returned (.int .i64 s) ∧ W = w') := fun W => by rw [← hs.out]; exact size_any alg W
        have CR : Hid (∀ W, Calls Tryd.prog 17 #[.int .i64 alg] W fun e w' => e = .returned (.int .i64 s) ∧ W = w') := fun W => by rw [← hs.out]; exact rsize_any alg W
        have hdl := digestI_length alg xs
        rw [hs.out] at hdl
        obtain ⟨L, hL⟩ : ∃ L, Hid ((digestI alg xs).length = L) := ⟨_, rfl⟩
        rw [hL.out] at hdl
        have heq : ((L : Int) == s) = true := by simpa using hdl
        clear hdl
        go_wp2_with (first
          | (go_at_call 16; refine (CS.out _).mono ?_; rintro e w' ⟨rfl, rfl⟩)
          | (go_at_call 17; refine (CR.out _).mono ?_; rintro e w' ⟨rfl, rfl⟩)
          | (go_at_call 12; refine (sum_any alg A n c xs wr HSr.out (by omega) hc hcm HKr.out).mono ?_; rintro e w4 ⟨v, rfl, hown, hb4⟩; obtain ⟨A4, c4, rfl, _, _⟩ := Own.cut hown; rw [hL.out]))
        go_ret
        exact ⟨rfl, hb.trans (hb4.mono hz)⟩
end Go.Proofs.YtnkcnlaijejheaaDoor
