/-
  The reference's public value out of a one-time signature.
-/
import Derived.Test.YtmpalhejjmjmeaaDoorBase7
namespace Go.Proofs.YtmpalhejjmjmeaaDoor
open Go.RowKit

/-- What Recover hands back: bytes and a yes or no. -/
def Recovered (w w' : World) (x : List Int × Bool) (e : Ending) : Prop := ∃ A n c, e = .returned (.tuple #[.slice A n c, .bool x.2]) ∧ n ≤ 16 ∧ n ≤ c ∧ c ≤ maxLen ∧ Seg w' w'.heap.size .u8 A n x.1 ∧ Below w.heap.size w w'

set_option maxRecDepth 100000 in
set_option maxHeartbeats 4000000 in
theorem rrecover_any (A2 A3 : Option Addr) (n2 c2 n3 c3 : Nat) (msg sig : List Int) (leaf : Int) (w : World) (ht : Seg w w.heap.size .u8 A2 n2 msg) (hn2 : n2 ≤ 1048576) (hc2 : n2 ≤ c2) (hm2 : c2 ≤ maxLen) (hu : Seg w w.heap.size .u8 A3 n3 sig) (hc3 : n3 ≤ c3) (hm3 : c3 ≤ maxLen) (hm3' : c3 ≤ 9223372036854775807) :
    Calls Tryd.prog 21 #[.int .i64 leaf, .slice A2 n2 c2, .slice A3 n3 c3] w fun e w' => Recovered w w' (recoverI leaf msg sig) e := by
  obtain ⟨i0, hi, hz0, hz1, hz2⟩ := info_parts Tryd.infoU8
  have HU := Lib.hid hu
  have HT := Lib.hid ht
  have HUL := Lib.hid hu.1
  clear hu ht
  by_cases hbad : leaf < 0 ∨ 255 < leaf ∨ n3 ≠ 560
  · have hP : Hid (recoverI leaf msg sig = ([], false)) := by show _ = _; rw [recoverI, if_pos (by rw [HUL.out]; exact hbad)]
    rcases (by omega : leaf < 0 ∨ (0 ≤ leaf ∧ 255 < leaf) ∨ (0 ≤ leaf ∧ leaf ≤ 255 ∧ n3 ≠ 560)) with h1 | ⟨h1, h2⟩ | ⟨h1, h2, h3⟩
    focus
      have hd : decide (leaf < 0) = true := by simpa using h1
    rotate_left
    focus
      have hd : decide (leaf < 0) = false := by simp; omega
      have hd2 : decide (255 < leaf) = true := by simpa using h2
    rotate_left
    focus
      have hd : decide (leaf < 0) = false := by simp; omega
      have hd2 : decide (255 < leaf) = false := by simp; omega
      have hd3 : ((n3 : Int) != 560) = true := by rw [bne_iff_ne]; omega
      clear h3
    rotate_left
    all_goals
      clear hbad
      go_enter Tryd.func21, Tryd.ntmps21
      go_wp2_with fail
      go_ret2
      rw [hP.out]
      exact ⟨none, 0, 0, rfl, by omega, by omega, by unfold maxLen; omega, Seg.nil _ _ _ _, Below.refl _ _⟩
  · have hd : decide (leaf < 0) = false := by simp; omega
    have hd2 : decide (255 < leaf) = false := by simp; omega
    have h560 : n3 = 560 := by omega
    subst h560
    obtain ⟨D, HD⟩ : ∃ D, Hid (digitsI msg = D) := ⟨_, rfl⟩
    obtain ⟨F, HF⟩ : ∃ F : Nat → List Int, Hid (F = fun (k : Nat) => chainI leaf k (D.getD k 0) ((sig.drop (16 * k)).take 16) (15 - (D.getD k 0).toNat)) := ⟨_, rfl⟩
    have hP : Hid (recoverI leaf msg sig = (valueI leaf (catI F 35), true)) := by show _ = _; rw [recoverI, if_neg (by rw [HUL.out]; exact hbad), HF.out, HD.out]
    have HFL : Hid (∀ k, k < 35 → (F k).length = 16) := by
      intro k hk
      rw [HF.out]
      exact chainI_length _ _ _ _ (by rw [List.length_take, List.length_drop, HUL.out]; omega) _
    have HDB : Hid (∀ j, j < 35 → 0 ≤ D.getD j 0 ∧ D.getD j 0 ≤ 15) := by rw [← HD.out]; exact digits_get msg
    clear hbad
    go_enter Tryd.func21, Tryd.ntmps21
    go_wp2_with fail
    refine (rdigits_any A2 n2 c2 msg w HT.out hn2 hc2 hm2).mono ?_
    rintro e w1 ⟨v1, rfl, hR1, hb1⟩
    rw [HD.out] at hR1
    obtain ⟨A1, c1, rfl, _, _⟩ := hR1.cut
    have HSEG := Lib.hid hR1.seg
    have hzb1 := hb1.size
    clear hR1
    go_wp2_with fail
    go_loopw [9, 10] (fun v i wr => ∃ k : Nat, k ≤ 35 ∧ i = .int .i64 k ∧ Hid (Row wr w1.heap.size 5 .u8 v (16 * k) (catI F k)) ∧ Below w1.heap.size w1 wr) (fun _ i _ => 35 - (intOf i).toNat)
    case atStart => exact ⟨0, by omega, rfl, nil_row _ _ _ _, Below.refl _ _⟩
    case round =>
      obtain ⟨k, hk, rfl, hR, hb⟩ := hrel
      have hz := hb.size
      have hbw := hb1.trans (hb.mono hzb1)
      by_cases hlt : k < 35
      · have hdk : decide ((k : Int) < 35) = true := by simp; omega
        have HRL := Lib.hid hR.out.length
        obtain ⟨b, off, rfl, hbl, hcl⟩ := HSEG.out.2 (by omega)
        obtain ⟨x, hx⟩ : ∃ x, Hid (D.getD k 0 = x) := ⟨_, rfl⟩
        have hxb := HDB.out k hlt
        rw [hx.out] at hxb
        obtain ⟨hx0, hx1⟩ := hxb
        have hcx := (hb.cell (p := ⟨b, off + k, none⟩) hbl).trans (hcl k hlt)
        rw [hx.out] at hcx
        have HCC : Hid (∀ W, Below w1.heap.size w1 W → W.cell? ⟨b, off + k, none⟩ = some (.int .i64 x)) := fun W hW => by
          have h := (hW.cell (p := ⟨b, off + k, none⟩) hbl).trans (hcl k hlt)
          rw [hx.out] at h
          exact h
        have hki : (k : Int) < 35 := by omega
        have hk0 : (0 : Int) ≤ (k : Int) := by omega
        have hbd := hb.drew
        have hbwd := hbw.drew
        have HRD : Hid (Row wr.drew w1.heap.size 5 .u8 _ (16 * k) (catI F k)) := hR.out
        have HFK : Hid (F k = chainI leaf k x ((sig.drop (16 * k)).take 16) (15 - x).toNat) := by
          show _ = _
          rw [HF.out]
          show chainI leaf k (D.getD k 0) _ _ = _
          rw [hx.out, show (15 - x).toNat = 15 - x.toNat by omega]
        have hw1 : IntKind.i64.wrap (16 * (k : Int)) = 16 * (k : Int) := IntWalk.i64_in _ (by omega)
        have hw2 : IntKind.i64.wrap (16 * (k : Int) + 16) = 16 * (k : Int) + 16 := IntWalk.i64_in _ (by omega)
        obtain ⟨A5, hA5⟩ : ∃ A5, Hid ((if c3 = 16 * k then A3 else A3.map (·.add (16 * k))) = A5) := ⟨_, rfl⟩
        obtain ⟨c5, hc5'⟩ : ∃ c5, Hid (c3 - 16 * k = c5) := ⟨_, rfl⟩
        have hsl : ∀ W, (Instr.slice 22 (.slice A3 560 c3) (some (.int .i64 (16 * (k : Int)))) (some (.int .i64 (16 * (k : Int) + 16))) none).run Tryd.prog W = .ok (.slice A5 16 c5) W := fun W => by
          have h := slice_lh A3 560 c3 (16 * k) (16 * k + 16) (by omega) (by omega) W
          rw [hA5.out, hc5'.out, show 16 * k + 16 - 16 * k = 16 by omega] at h
          simpa using h
        have HSP : Hid (Seg wr.drew wr.drew.heap.size .u8 A5 16 ((sig.drop (16 * k)).take 16)) := by
          have h := (((HU.out.below hbw (Nat.le_refl _)).more hbw.size).drop (i := 16 * k) (cap := c3) (by omega) (by omega)).take (i := 16) (by omega)
          rw [hA5.out] at h
          exact h
        have hc5 : 16 ≤ c5 := by have := hc5'.out; omega
        have hm5 : c5 ≤ maxLen := by have := hc5'.out; omega
        clear hcl
        go_wp2_with fail
        go_region_held3 (fun W => W.cell? ⟨b, off + k, none⟩ = some (.int .i64 x))
          (first
            | go_keep
            | exact HCC.out _ hb4
            | exact HCC.out _ hb3
            | exact HCC.out _ hbd)
          ((first
            | (refine step_app _ (by rfl) (.tmp 28) (.tmp 42) 22 (by rfl) w1.heap.size 5 i0 (.int .u8 0) 1 Tryd.underlying22 hi hz0 hz1 hz2 (by rfl) .u8 _ (catI F k) (by rfl) HR3.out.own w3.heap.size A6 16 c6 (F k) (by rfl) HS3.out (by unfold maxLen; rw [HRL.out]; omega) (by rw [HRL.out]; omega) hb3.size ?_; intro v4 w4 hown4 hg4 hor4; have hb4 : Below w1.heap.size w1 w4 := own_below HR3.out.own hg4 hb3 hb3.size)
            | (go_at_call 29; refine (rsteps_any A5 16 c5 _ leaf k x 15 wr.drew HSP.out (by omega) hc5 hm5 hx0 (by omega) (by omega)).mono ?_; rintro e w3 ⟨n6, hn6, A6, c6, rfl, hc6, hm6, hs3, hbx⟩; have hb3 : Below w1.heap.size w1 w3 := hbd.trans (hbx.mono hz); have HR3 := Lib.hid (Row.below HRD.out hbx); obtain rfl : n6 = 16 := (by rw [← hs3.1, ← HFK.out]; exact HFL.out k hlt); have HS3 := Lib.hid hs3; rw [← HFK.out] at HS3; clear hs3)))
        have HR4 : Hid (Row w4 w1.heap.size 5 .u8 v4 (16 * (k + 1)) (catI F (k + 1))) := hown4.row (by rw [List.length_append, HRL.out, HFL.out k hlt]; omega)
        clear hg4 hor4 hown4
        go_wp2
        go_roundw
        case measure => simp [intOf]; omega
        case rel => exact ⟨k + 1, by omega, by go_num, HR4.out, hb4⟩
      · have hdk : decide ((k : Int) < 35) = false := by simp; omega
        have hk35 : k = 35 := by omega
        rw [hk35] at hR
        clear hk35
        obtain ⟨A7, c7, rfl, hc7, hm7⟩ := hR.out.cut
        go_wp2_with fail
        refine (rvalue_any A7 560 c7 (catI F 35) leaf wr hR.out.seg (by omega) hc7 hm7).mono ?_
        rintro e w3 ⟨A8, c8, rfl, hc8, hm8, hs8, hbx⟩
        have HS8 := Lib.hid hs8
        clear hs8
        go_wp2_with fail
        go_ret2
        rw [hP.out]
        exact ⟨A8, 16, c8, rfl, by omega, hc8, hm8, HS8.out, hbw.trans (hbx.mono hbw.size)⟩
end Go.Proofs.YtmpalhejjmjmeaaDoor
