/-
  The walk of the statement that different leaves with one index lead to different roots, or frames collide.
-/
import Derived.Test.YtkcbbgmilaafeaaDoorLTRoot
import Derived.Test.YtkcbbgmilaafeaaDoorRCrash
namespace Go.Proofs.YtkcbbgmilaafeaaDoor
open Go.RowKit

theorem sameB_true {xs ys : List Int} (h : sameB xs ys = true) : xs = ys := by simpa [sameB] using h
theorem sameB_false {xs ys : List Int} (h : sameB xs ys = false) : xs ≠ ys := by simpa [sameB] using h

set_option maxRecDepth 100000 in
set_option maxHeartbeats 2000000 in
theorem lawTreeBind (A : Option Addr) (n c : Nat) (a : List Int) (A2 : Option Addr) (n2 c2 : Nat) (b : List Int) (i : Int) (A4 : Option Addr) (n4 c4 : Nat) (p : List (List Int)) (A5 : Option Addr) (n5 c5 : Nat) (q : List (List Int)) (w : World)
    (ht : Seg w w.heap.size .u8 A n a) (hc : n ≤ c) (hm : c ≤ 9223372036854775807) (ht2 : Seg w w.heap.size .u8 A2 n2 b) (hc2 : n2 ≤ c2) (hm2 : c2 ≤ 9223372036854775807)
    (hs : Fields w w.heap.size A4 n4 p) (hc4 : n4 ≤ c4) (hm4 : c4 ≤ 9223372036854775807) (hs5 : Fields w w.heap.size A5 n5 q) (hc5 : n5 ≤ c5) (hm5 : c5 ≤ 9223372036854775807) (hK : Tab w 0 .u32 kay256) :
    Calls Tryd.prog 7 #[.slice A n c, .slice A2 n2 c2, .int .i64 i, .slice A4 n4 c4, .slice A5 n5 c5] w fun e w' => e = .returned (.bool true) ∧ Below w.heap.size w w' := by
  have HP := Lib.hid hs
  have HQ := Lib.hid hs5
  have HA := Lib.hid ht
  have HB := Lib.hid ht2
  have HLP := Lib.hid hs.1
  have HLQ := Lib.hid hs5.1
  have HLA := Lib.hid ht.1
  have HLB := Lib.hid ht2.1
  have HK := Lib.hid hK
  have hw0 := hK.lt
  clear hs hs5 hK ht ht2
  go_enter Tryd.func7, Tryd.ntmps7
  go_wp2_with fail
  refine (awake6_any w HK.out).mono ?_
  rintro e w1 ⟨rfl, hb1⟩
  have hbw1 := hb1
  have hz1 := hb1.size
  have HP1 := Lib.hid (HP.out.up hb1)
  have HQ1 := Lib.hid (HQ.out.up hb1)
  have HA1 := Lib.hid (HA.out.up hb1)
  have HB1 := Lib.hid (HB.out.up hb1)
  clear hb1
  by_cases hbig : 60 < n
  · have hd : decide ((60 : Int) < n) = true := by simp; omega
    go_wp2_with fail
    go_ret
    exact ⟨rfl, hbw1⟩
  have hd : decide ((60 : Int) < n) = false := by simp; omega
  by_cases hbig2 : 60 < n2
  · have hd2 : decide ((60 : Int) < n2) = true := by simp; omega
    go_wp2_with fail
    go_ret
    exact ⟨rfl, hbw1⟩
  have hd2 : decide ((60 : Int) < n2) = false := by simp; omega
  go_wp2_with fail
  refine (few6_any A4 n4 c4 p w1 HP1.out (by omega)).mono ?_
  rintro e w' ⟨rfl, rfl⟩
  cases hfew : fewT p with
  | false => ?_
  | true => ?_
  · go_wp2_with fail
    go_ret
    exact ⟨rfl, hbw1⟩
  go_wp2_with fail
  refine (few6_any A5 n5 c5 q w1 HQ1.out (by omega)).mono ?_
  rintro e w' ⟨rfl, rfl⟩
  cases hfew2 : fewT q with
  | false => ?_
  | true => ?_
  · go_wp2_with fail
    go_ret
    exact ⟨rfl, hbw1⟩
  have HSP := Lib.hid (fewT_true hfew).2
  have HSQ := Lib.hid (fewT_true hfew2).2
  clear hfew hfew2
  by_cases h3 : 3 < n4
  · have hd3 : decide ((3 : Int) < n4) = true := by simp; omega
    go_wp2_with fail
    go_ret
    exact ⟨rfl, hbw1⟩
  have hd3 : decide ((3 : Int) < n4) = false := by simp; omega
  by_cases hne : n4 = n5
  rotate_left
  · have hd4 : ((n4 : Int) != (n5 : Int)) = true := by simp; omega
    have hd5 : (n4 != n5) = true := by simpa using hne
    go_wp2_with fail
    go_ret
    exact ⟨rfl, hbw1⟩
  subst hne
  obtain ⟨N, hN⟩ : ∃ N : Nat, Hid (2 ^ n4 = N) := ⟨_, rfl⟩
  have hN8 : N ≤ 8 := by rw [← hN.out]; exact two_three (by omega)
  have hN1 : 1 ≤ N := by rw [← hN.out]; exact two_pos _
  have hsub : IntKind.i64.wrap ((N : Int) - 1) = ((N - 1 : Nat) : Int) := by rw [IntWalk.i64_in _ (by omega)]; omega
  have hsub2 : RowKit.wrap64 ((N : Int) - 1) = ((N - 1 : Nat) : Int) := by unfold RowKit.wrap64; omega
  have hand := and_mask i (N - 1) (by omega)
  obtain ⟨I, hI⟩ : ∃ I : Nat, bits .and .i64 i ((N - 1 : Nat) : Int) = (I : Int) := ⟨(bits .and .i64 i ((N - 1 : Nat) : Int)).toNat, by omega⟩
  have HI := Lib.hid hI
  have hIN : I < N := by rw [hI] at hand; omega
  have HCR : Hid (a ≠ b → climbI a I p = climbI b I q → crashF 0 a b I p q = true) := fun hne he =>
    climb_crash (by rw [HLP.out, HLQ.out]) (by rw [HLP.out]; omega) I (by rw [HLP.out, hN.out]; exact hIN) hne (by rw [HLA.out]; omega) (by rw [HLB.out]; omega) (short_big HSP.out) (short_big HSQ.out) he
  obtain ⟨hw1, hw2⟩ := pow_wrap n4 N hN.out hN8
  clear hand hI
  go_wp2_with fail
  rw [HI.out]
  clear hw1 hw2
  obtain ⟨X, hX⟩ : ∃ X, Hid (climbI a I p = X) := ⟨_, rfl⟩
  obtain ⟨Y, hY⟩ : ∃ Y, Hid (climbI b I q = Y) := ⟨_, rfl⟩
  rw [hX.out, hY.out] at HCR
  refine (wclimb_any A A4 n c n4 c4 a I p w1 HA1.out (by omega) hc hm HP1.out (by omega) hc4 hm4 (short_big HSP.out) (HK.out.below hbw1 hw0)).mono ?_
  rw [hX.out]
  rintro e w2 ⟨B2, k2, d2, rfl, hk2, hd2', hm2', hS2, hb2⟩
  have HX2 := Lib.hid hS2
  have HP2 := Lib.hid (HP1.out.up hb2)
  have HQ2 := Lib.hid (HQ1.out.up hb2)
  have HA2 := Lib.hid (HA1.out.up hb2)
  have HB2 := Lib.hid (HB1.out.up hb2)
  have hbw2 := hbw1.trans (hb2.mono hz1)
  have hz2 := hbw2.size
  clear hS2 hb2 HP1 HQ1 HA1 HB1
  go_wp2_with fail
  refine (wclimb_any A2 A5 n2 c2 n4 c5 b I q w2 HB2.out (by omega) hc2 hm2 HQ2.out (by omega) hc5 hm5 (short_big HSQ.out) (HK.out.below hbw2 hw0)).mono ?_
  rw [hY.out]
  rintro e w3 ⟨B3, k3, d3, rfl, hk3, hd3', hm3', hS3, hb3⟩
  have HY3 := Lib.hid hS3
  have HX3 := Lib.hid (HX2.out.up hb3)
  have HP3 := Lib.hid (HP2.out.up hb3)
  have HQ3 := Lib.hid (HQ2.out.up hb3)
  have HA3 := Lib.hid (HA2.out.up hb3)
  have HB3 := Lib.hid (HB2.out.up hb3)
  have hbw3 := hbw2.trans (hb3.mono hz2)
  have hz3 := hbw3.size
  clear hS3 hb3 HP2 HQ2 HA2 HB2 HX2
  go_wp2_with fail
  refine (same_any A A2 n c n2 c2 a b w3 HA3.out HB3.out (by omega)).mono ?_
  rintro e w4 ⟨rfl, q4, hq4⟩
  have hb4 : Below w3.heap.size w3 w4 := by rw [hq4]; exact below_drewN (Below.refl _ _) q4
  have HY4 := Lib.hid (HY3.out.up hb4)
  have HX4 := Lib.hid (HX3.out.up hb4)
  have HP4 := Lib.hid (HP3.out.up hb4)
  have HQ4 := Lib.hid (HQ3.out.up hb4)
  have HA4 := Lib.hid (HA3.out.up hb4)
  have HB4 := Lib.hid (HB3.out.up hb4)
  have hbw4 := hbw3.trans (hb4.mono hz3)
  have hz4 := hbw4.size
  clear hq4 hb4 HP3 HQ3 HA3 HB3 HX3 HY3
  cases hab : sameB a b with
  | true => ?_
  | false => ?_
  · clear hab
    go_wp2_with fail
    refine (rclimb_any A A4 n c n4 c4 a I p w4 HA4.out (by omega) HP4.out (short_big HSP.out)).mono ?_
    rw [hX.out]
    rintro e w5 ⟨v5, k5, rfl, hk5, hR5, hb5⟩
    obtain ⟨B5, e5, rfl, _, _⟩ := hR5.cut
    have hkk : k5 = k2 := by rw [← hR5.length, HX4.out.1]
    rw [hkk] at hR5 ⊢
    have HR5 := Lib.hid hR5.seg
    have HX5 := Lib.hid (HX4.out.up hb5)
    have hbw5 := hbw4.trans (hb5.mono hz4)
    have hz5 := hbw5.size
    clear hR5 hb5 hkk
    go_wp2_with fail
    refine (same_self B2 B5 k2 d2 e5 X w5 HX5.out HR5.out (by omega)).mono ?_
    rintro e w6 ⟨rfl, hb6⟩
    go_wp2_with fail
    go_ret
    exact ⟨rfl, hbw5.trans (hb6.mono hz5)⟩
  · have HAB := Lib.hid (sameB_false hab)
    clear hab
    go_wp2_with fail
    refine (same_any B2 B3 k2 d2 k3 d3 X Y w4 HX4.out HY4.out (by omega)).mono ?_
    rintro e w5 ⟨rfl, q5, hq5⟩
    have hb5 : Below w4.heap.size w4 w5 := by rw [hq5]; exact below_drewN (Below.refl _ _) q5
    have HX5 := Lib.hid (HX4.out.up hb5)
    have HP5 := Lib.hid (HP4.out.up hb5)
    have HQ5 := Lib.hid (HQ4.out.up hb5)
    have HA5 := Lib.hid (HA4.out.up hb5)
    have HB5 := Lib.hid (HB4.out.up hb5)
    have hbw5 := hbw4.trans (hb5.mono hz4)
    have hz5 := hbw5.size
    clear hq5 hb5 HP4 HQ4 HA4 HB4 HX4 HY4
    cases hxy : sameB X Y with
    | false => ?_
    | true => ?_
    · clear hxy
      go_wp2_with fail
      refine (rclimb_any A A4 n c n4 c4 a I p w5 HA5.out (by omega) HP5.out (short_big HSP.out)).mono ?_
      rw [hX.out]
      rintro e w6 ⟨v6, k6, rfl, hk6, hR6, hb6⟩
      obtain ⟨B6, e6, rfl, _, _⟩ := hR6.cut
      have hkk : k6 = k2 := by rw [← hR6.length, HX5.out.1]
      rw [hkk] at hR6 ⊢
      have HR6 := Lib.hid hR6.seg
      have HX6 := Lib.hid (HX5.out.up hb6)
      have hbw6 := hbw5.trans (hb6.mono hz5)
      have hz6 := hbw6.size
      clear hR6 hb6 hkk
      go_wp2_with fail
      refine (same_self B2 B6 k2 d2 e6 X w6 HX6.out HR6.out (by omega)).mono ?_
      rintro e w7 ⟨rfl, hb7⟩
      go_wp2_with fail
      go_ret
      exact ⟨rfl, hbw6.trans (hb7.mono hz6)⟩
    · have HC : Hid (crashF 0 a b I p q = true) := HCR.out HAB.out (sameB_true hxy)
      clear hxy
      go_wp2_with fail
      refine (rcrash_any A A2 A4 A5 n c n2 c2 n4 c4 n4 c5 I a b p q w5 HA5.out (by omega) hc hm HB5.out (by omega) hc2 hm2 (by omega) HP5.out (fun x hx => by have := HSP.out x hx; omega) (by omega) HQ5.out (fun x hx => by have := HSQ.out x hx; omega) (by omega)).mono ?_
      rw [HC.out]
      rintro e w6 ⟨rfl, hb6⟩
      go_wp2_with fail
      go_ret
      exact ⟨rfl, hbw5.trans (hb6.mono hz5)⟩
end Go.Proofs.YtkcbbgmilaafeaaDoor
