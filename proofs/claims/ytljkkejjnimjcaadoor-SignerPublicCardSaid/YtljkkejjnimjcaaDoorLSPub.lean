/-
  The walk of the statement on public keys.
-/
import Derived.Test.YtljkkejjnimjcaaDoorBase13
import Derived.Test.YtljkkejjnimjcaaDoorBase4
namespace Go.Proofs.YtljkkejjnimjcaaDoor
open Go.RowKit

set_option maxRecDepth 100000 in
set_option maxHeartbeats 2000000 in
theorem lawSignerPublic (A : Option Addr) (n c : Nat) (seed : List Int) (h : Int) (w : World) (hs : Seg w w.heap.size .u8 A n seed) (hc : n ≤ c) (hm : c ≤ 9223372036854775807) (hK : Tab w 0 .u32 kay256) :
    Calls Tryd.prog 3 #[.slice A n c, .int .i64 h] w fun e w' => e = .returned (.bool true) ∧ Below w.heap.size w w' := by
  have HS := Lib.hid hs
  have HK := Lib.hid hK
  have hw0 := hK.lt
  clear hs hK
  go_enter Tryd.func3, Tryd.ntmps3
  go_wp2_with fail
  refine (awake7_any w HK.out).mono ?_
  rintro e w1 ⟨rfl, hb1⟩
  have hz1 := hb1.size
  have HS1 := Lib.hid (HS.out.up hb1)
  have hbw1 := hb1
  clear hb1
  by_cases hbig : 100 < n
  · have hd : decide ((100 : Int) < n) = true := by simp; omega
    go_wp2_with fail
    go_ret
    exact ⟨rfl, hbw1⟩
  have hd : decide ((100 : Int) < n) = false := by simp; omega
  obtain ⟨hf2, hrem⟩ := height_s h
  obtain ⟨f, hfe⟩ : ∃ f, heightS h = f := ⟨_, rfl⟩
  rw [hfe] at hf2 hrem
  have HL : Hid ((pub7 seed f).length = 17) := (trip7 seed [] f 0 (by omega) (two_pos f)).2.2
  clear hfe
  rcases (by omega : h < 0 ∨ (0 ≤ h ∧ h ≤ 3) ∨ (0 ≤ h ∧ 3 < h)) with h1 | ⟨h1, h2⟩ | ⟨h1, h2⟩
  focus
    have hd1 : decide (0 ≤ h) = false := by simp; omega
    have HBAD : Hid (pub7 seed h = []) := by show _ = _; rw [pub7, if_pos (by omega)]
    go_wp2_with fail
  rotate_left
  focus
    have hd1 : decide (0 ≤ h) = true := by simpa using h1
    have hd2 : decide (h ≤ 3) = true := by simpa using h2
    have hwb : IntKind.i64.wrap (-1 - h) = -1 - h := IntWalk.i64_in _ (by omega)
    have HBAD : Hid (pub7 seed (-1 - h) = []) := by show _ = _; rw [pub7, if_pos (by omega)]
    go_wp2_with fail
  rotate_left
  focus
    have hd1 : decide (0 ≤ h) = true := by simpa using h1
    have hd2 : decide (h ≤ 3) = false := by simp; omega
    have HBAD : Hid (pub7 seed h = []) := by show _ = _; rw [pub7, if_pos (by omega)]
    go_wp2_with fail
  rotate_left
  all_goals
    refine (wpub7_any A n c seed f w1 HS1.out (by omega) hc hm (HK.out.below hbw1 hw0)).mono ?_
    rintro e w2 ⟨B2, k2, d2, rfl, hk2, hd2', hm2, hS2, hb2⟩
    have HP2 := Lib.hid hS2
    have HS2 := Lib.hid (HS1.out.up hb2)
    have hbw2 := hbw1.trans (hb2.mono hz1)
    have hz2 := hbw2.size
    clear hS2 hb2
    go_wp2_with fail
    refine (rpub7_any A n c seed f w2 HS2.out (by omega)).mono ?_
    rintro e w3 ⟨v3, k3, rfl, hk3, hR3, hb3⟩
    obtain ⟨A3, c3, rfl, _, _⟩ := hR3.cut
    have hkk : k3 = k2 := by rw [← hR3.length, HP2.out.1]
    rw [hkk] at hR3 ⊢
    have HR3 := Lib.hid hR3.seg
    have HP3 := Lib.hid (HP2.out.up hb3)
    have HS3 := Lib.hid (HS2.out.up hb3)
    have hbw3 := hbw2.trans (hb3.mono hz2)
    have hz3 := hbw3.size
    clear hR3 hb3 hkk
    go_wp2_with fail
    refine (same_self B2 A3 k2 d2 c3 (pub7 seed f) w3 HP3.out HR3.out (by omega)).mono ?_
    rintro e w4 ⟨rfl, hb4⟩
    have HS4 := Lib.hid (HS3.out.up hb4)
    have hbw4 := hbw3.trans (hb4.mono hz3)
    have hz4 := hbw4.size
    clear hb4
    go_wp2_with fail
    refine (wpub7_any A n c seed _ w4 HS4.out (by omega) hc hm (HK.out.below hbw4 hw0)).mono ?_
    rw [HBAD.out]
    rintro e w5 ⟨B5, k5, d5, rfl, hk5, hd5, hm5, hS5, hb5⟩
    have hk0 : k5 = 0 := hS5.1.symm
    subst hk0
    go_wp2_with fail
    go_ret
    exact ⟨rfl, hbw4.trans (hb5.mono hz4)⟩
end Go.Proofs.YtljkkejjnimjcaaDoor
