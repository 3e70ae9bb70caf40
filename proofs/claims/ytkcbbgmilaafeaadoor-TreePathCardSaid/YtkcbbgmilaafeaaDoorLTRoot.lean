/-
  The walk of the statement on the root of any leaves.
-/
import Derived.Test.YtkcbbgmilaafeaaDoorWake6
namespace Go.Proofs.YtkcbbgmilaafeaaDoor
open Go.RowKit

theorem fewT_true {fs : List (List Int)} (h : fewT fs = true) : fs.length < 20 ∧ (∀ x ∈ fs, x.length ≤ 60) := by
  unfold fewT at h
  simpa using h
theorem short_big {fs : List (List Int)} (h : ∀ x ∈ fs, x.length ≤ 60) : ∀ x ∈ fs, x.length ≤ 1048576 := fun x hx => by have := h x hx; omega

set_option maxRecDepth 100000 in
set_option maxHeartbeats 2000000 in
theorem lawTreeRoot (A : Option Addr) (n c : Nat) (fs : List (List Int)) (h : Int) (w : World) (hs : Fields w w.heap.size A n fs) (hc : n ≤ c) (hm : c ≤ 9223372036854775807) (hK : Tab w 0 .u32 kay256) :
    Calls Tryd.prog 3 #[.slice A n c, .int .i64 h] w fun e w' => e = .returned (.bool true) ∧ Below w.heap.size w w' := by
  have HS := Lib.hid hs
  have HL := Lib.hid hs.1
  have HK := Lib.hid hK
  have hw0 := hK.lt
  clear hs hK
  go_enter Tryd.func3, Tryd.ntmps3
  go_wp2_with fail
  refine (awake6_any w HK.out).mono ?_
  rintro e w1 ⟨rfl, hb1⟩
  have hz1 := hb1.size
  have HS1 := Lib.hid (HS.out.up hb1)
  go_wp2_with fail
  refine (few6_any A n c fs w1 HS1.out (by omega)).mono ?_
  rintro e w' ⟨rfl, rfl⟩
  cases hfew : fewT fs with
  | false => ?_
  | true => ?_
  · go_wp2_with fail
    go_ret
    exact ⟨rfl, hb1⟩
  obtain ⟨hn20, hsh⟩ := fewT_true hfew
  have hn : n < 20 := by rw [← HL.out]; exact hn20
  have HSH := Lib.hid hsh
  clear hfew hn20 hsh
  go_wp2_with fail
  refine (fit_any A n c fs h w1 HS1.out (by omega)).mono ?_
  rintro e w2 ⟨v2, rfl, hR2, hb2⟩
  obtain ⟨A2, c2, rfl, hc2, hm2⟩ := hR2.cut
  unfold maxLen at hm2
  have hf3 := height_le h
  obtain ⟨L, hL⟩ : ∃ L, Hid (fitTo fs (2 ^ heightF h) = L) := ⟨_, rfl⟩
  have HLS : Hid (∀ x ∈ L, x.length ≤ 60) := by rw [← hL.out]; exact fitTo_short _ _ HSH.out
  have hN8 := two_three hf3
  obtain ⟨N, hN⟩ : ∃ N : Nat, Hid (2 ^ heightF h = N) := ⟨_, rfl⟩
  rw [hN.out] at hN8 hc2
  have HF2 := Lib.hid hR2.fields
  rw [hL.out, hN.out] at HF2
  rw [hN.out]
  have HS2 := Lib.hid (HS1.out.up hb2)
  have hbw2 := hb1.trans (hb2.mono hz1)
  have hz2 := hbw2.size
  clear hR2 hb2 hb1 hz1 HS1
  go_wp2_with fail
  refine (wroot_any A n c fs w2 HS2.out (by omega) hc hm (short_big HSH.out) (HK.out.below hbw2 hw0)).mono ?_
  rintro e w3 ⟨B3, k3, d3, rfl, hk3, hd3, hm3, hS3, hb3⟩
  have HR3 := Lib.hid hS3
  have HS3 := Lib.hid (HS2.out.up hb3)
  have HF3 := Lib.hid (HF2.out.up hb3)
  have hbw3 := hbw2.trans (hb3.mono hz2)
  have hz3 := hbw3.size
  clear hS3 hb3 HS2 HF2
  go_wp2_with fail
  refine (rroot_any A n c fs w3 HS3.out (short_big HSH.out)).mono ?_
  rintro e w4 ⟨v4, k4, rfl, hk4, hR4, hb4⟩
  obtain ⟨A4, c4, rfl, _, _⟩ := hR4.cut
  have hkk : k4 = k3 := by rw [← hR4.length, HR3.out.1]
  rw [hkk] at hR4 ⊢
  have HR4 := Lib.hid hR4
  have HR34 := Lib.hid (HR3.out.up hb4)
  have HF4 := Lib.hid (HF3.out.up hb4)
  have hbw4 := hbw3.trans (hb4.mono hz3)
  have hz4 := hbw4.size
  clear hR4 hb4 hkk HS3 HF3
  go_wp2_with fail
  refine (same_self B3 A4 k3 d3 c4 (rootI fs) w4 HR34.out HR4.out.seg (by omega)).mono ?_
  rintro e w5 ⟨rfl, hb5⟩
  have HF5 := Lib.hid (HF4.out.up hb5)
  have hbw5 := hbw4.trans (hb5.mono hz4)
  have hz5 := hbw5.size
  clear hb5 HF4 HR34 HR4 HR3
  go_wp2_with fail
  refine (wroot_any A2 N c2 L w5 HF5.out (by omega) hc2 hm2 (short_big HLS.out) (HK.out.below hbw5 hw0)).mono ?_
  rintro e w6 ⟨B6, k6, d6, rfl, hk6, hd6, hm6, hS6, hb6⟩
  have HR6 := Lib.hid hS6
  have HF6 := Lib.hid (HF5.out.up hb6)
  have hbw6 := hbw5.trans (hb6.mono hz5)
  have hz6 := hbw6.size
  clear hS6 hb6 HF5
  go_wp2_with fail
  refine (rroot_any A2 N c2 L w6 HF6.out (short_big HLS.out)).mono ?_
  rintro e w7 ⟨v7, k7, rfl, hk7, hR7, hb7⟩
  obtain ⟨A7, c7, rfl, _, _⟩ := hR7.cut
  have hkk : k7 = k6 := by rw [← hR7.length, HR6.out.1]
  rw [hkk] at hR7 ⊢
  have HR7 := Lib.hid hR7
  have HR67 := Lib.hid (HR6.out.up hb7)
  have hbw7 := hbw6.trans (hb7.mono hz6)
  have hz7 := hbw7.size
  clear hR7 hb7 hkk
  go_wp2_with fail
  refine (same_self B6 A7 k6 d6 c7 (rootI L) w7 HR67.out HR7.out.seg (by omega)).mono ?_
  rintro e w8 ⟨rfl, hb8⟩
  go_wp2_with fail
  go_ret
  exact ⟨rfl, hbw7.trans (hb8.mono hz7)⟩
end Go.Proofs.YtkcbbgmilaafeaaDoor
