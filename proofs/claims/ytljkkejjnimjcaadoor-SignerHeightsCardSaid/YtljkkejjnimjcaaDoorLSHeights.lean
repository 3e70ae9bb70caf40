/-
  The walk of the statement that keys of one seed and different heights have different one-time leaves, unless their public values are equal.
-/
import Derived.Test.YtljkkejjnimjcaaDoorBase13
import Derived.Test.YtljkkejjnimjcaaDoorBase4
namespace Go.Proofs.YtljkkejjnimjcaaDoor
open Go.RowKit

theorem cut561 (A : Option Addr) (n c : Nat) (h : 561 ≤ c) (W : World) : (Instr.slice 22 (.slice A n c) none (some (.int .i64 561)) none).run Tryd.prog W = .ok (.slice A 561 c) W := slice_to A n c 561 h W

set_option maxRecDepth 100000 in
set_option maxHeartbeats 2000000 in
theorem lawSignerHeights (A : Option Addr) (n c : Nat) (seed : List Int) (A4 : Option Addr) (n4 c4 : Nat) (msg : List Int) (w : World) (hs : Seg w w.heap.size .u8 A n seed) (hc : n ≤ c) (hm : c ≤ 9223372036854775807) (ht : Seg w w.heap.size .u8 A4 n4 msg) (hc4 : n4 ≤ c4) (hm4 : c4 ≤ 9223372036854775807) (hK : Tab w 0 .u32 kay256) :
    Calls Tryd.prog 8 #[.slice A n c, .slice A4 n4 c4] w fun e w' => e = .returned (.bool true) ∧ Below w.heap.size w w' := by
  have HS := Lib.hid hs
  have HT := Lib.hid ht
  have HK := Lib.hid hK
  have hw0 := hK.lt
  clear hs hK ht
  go_enter Tryd.func8, Tryd.ntmps8
  go_wp2_with fail
  refine (awake7_any w HK.out).mono ?_
  rintro e w1 ⟨rfl, hb1⟩
  have hz1 := hb1.size
  have HS1 := Lib.hid (HS.out.up hb1)
  have HT1 := Lib.hid (HT.out.up hb1)
  have hbw1 := hb1
  clear hb1
  go_wp2_with fail
  refine (short7_any A A4 n c n4 c4 w1).mono ?_
  rintro e w' ⟨rfl, rfl⟩
  cases hsh : (decide (n ≤ 100) && decide (n4 ≤ 100)) with
  | false => ?_
  | true => ?_
  · go_wp2_with fail
    go_ret
    exact ⟨rfl, hbw1⟩
  have hn : n ≤ 100 := by simp at hsh; omega
  have hn4 : n4 ≤ 100 := by simp at hsh; omega
  have HX : Hid ((sig7 seed 0 0 msg).length = 561) := (trip7 seed msg 0 0 (by omega) (by decide)).2.1
  have HY : Hid ((sig7 seed 1 0 msg).length = 577) := (trip7 seed msg 1 0 (by omega) (by decide)).2.1
  obtain ⟨X, hX⟩ : ∃ X, Hid (sig7 seed 0 0 msg = X) := ⟨_, rfl⟩
  obtain ⟨Y, hY⟩ : ∃ Y, Hid (sig7 seed 1 0 msg = Y) := ⟨_, rfl⟩
  rw [hX.out] at HX
  rw [hY.out] at HY
  obtain ⟨V, hV⟩ : ∃ V, Hid (sameB X (Y.take 561) = V) := ⟨_, rfl⟩
  clear hsh
  go_wp2_with fail
  refine (wsig7_any A A4 n c n4 c4 seed msg 0 0 w1 HS1.out (by omega) hc hm HT1.out (by omega) hc4 hm4 (HK.out.below hbw1 hw0)).mono ?_
  rw [hX.out]
  rintro e w2 ⟨B2, k2, d2, rfl, hk2, hd2, hm2, hS2, hb2⟩
  have hl2 : k2 = 561 := by rw [← hS2.1]; exact HX.out
  rw [hl2] at hS2 hd2 ⊢
  have HX2 := Lib.hid hS2
  have HS2 := Lib.hid (HS1.out.up hb2)
  have HT2 := Lib.hid (HT1.out.up hb2)
  have hbw2 := hbw1.trans (hb2.mono hz1)
  have hz2 := hbw2.size
  clear hS2 hb2 hl2
  go_wp2_with fail
  refine (wsig7_any A A4 n c n4 c4 seed msg 1 0 w2 HS2.out (by omega) hc hm HT2.out (by omega) hc4 hm4 (HK.out.below hbw2 hw0)).mono ?_
  rw [hY.out]
  rintro e w3 ⟨B3, k3, d3, rfl, hk3, hd3, hm3, hS3, hb3⟩
  have hl3 : k3 = 577 := by rw [← hS3.1]; exact HY.out
  rw [hl3] at hS3 hd3 ⊢
  have HY3 := Lib.hid hS3
  have HX3 := Lib.hid (HX2.out.up hb3)
  have HS3 := Lib.hid (HS2.out.up hb3)
  have HT3 := Lib.hid (HT2.out.up hb3)
  have hbw3 := hbw2.trans (hb3.mono hz2)
  have hz3 := hbw3.size
  clear hS3 hb3 hl3
  go_wp2_with fail
  refine (rsig7_any A A4 n c n4 c4 seed msg 0 0 w3 HS3.out (by omega) HT3.out (by omega) hc4 hm4).mono ?_
  rw [hX.out]
  rintro e w4 ⟨v4, k4, rfl, hk4, hR4, hb4⟩
  obtain ⟨A5, c5, rfl, hc5, hm5⟩ := hR4.cut
  have HR4 := Lib.hid hR4.seg
  have HX4 := Lib.hid (HX3.out.up hb4)
  have HY4 := Lib.hid (HY3.out.up hb4)
  have HS4 := Lib.hid (HS3.out.up hb4)
  have HT4 := Lib.hid (HT3.out.up hb4)
  have hbw4 := hbw3.trans (hb4.mono hz3)
  have hz4 := hbw4.size
  clear hR4 hb4
  go_wp2_with fail
  refine (rsig7_any A A4 n c n4 c4 seed msg 1 0 w4 HS4.out (by omega) HT4.out (by omega) hc4 hm4).mono ?_
  rw [hY.out]
  rintro e w5 ⟨v5, k5, rfl, hk5, hR5, hb5⟩
  obtain ⟨A6, c6, rfl, hc6, hm6⟩ := hR5.cut
  have hl5 : k5 = 577 := by rw [← hR5.length]; exact HY.out
  rw [hl5] at hR5 hc6 ⊢
  have HR5 := Lib.hid hR5.seg
  have HR45 := Lib.hid (HR4.out.up hb5)
  have HX5 := Lib.hid (HX4.out.up hb5)
  have HY5 := Lib.hid (HY4.out.up hb5)
  have hbw5 := hbw4.trans (hb5.mono hz4)
  have hz5 := hbw5.size
  have hsl := cut561 A6 577 c6 (by omega)
  clear hR5 hb5 hl5
  go_wp2_with fail
  clear hsl
  refine (same_any A5 A6 k4 c5 561 c6 X (Y.take 561) w5 HR45.out (HR5.out.take (by omega)) (by omega)).mono ?_
  rw [hV.out]
  rintro e w6 ⟨rfl, q6, hq6⟩
  have hb6 : Below w5.heap.size w5 w6 := by rw [hq6]; exact below_drewN (Below.refl _ _) q6
  have HX6 := Lib.hid (HX5.out.up hb6)
  have HY6 := Lib.hid (HY5.out.up hb6)
  have hbw6 := hbw5.trans (hb6.mono hz5)
  have hz6 := hbw6.size
  have hsl := cut561 B3 577 d3 (by omega)
  clear hq6 hb6
  go_wp2_with fail
  clear hsl
  refine (same_any B2 B3 561 d2 561 d3 X (Y.take 561) w6 HX6.out (HY6.out.take (by omega)) (by omega)).mono ?_
  rw [hV.out]
  rintro e w7 ⟨rfl, q7, hq7⟩
  have hb7 : Below w6.heap.size w6 w7 := by rw [hq7]; exact below_drewN (Below.refl _ _) q7
  have hbw7 := hbw6.trans (hb7.mono hz6)
  clear hq7 hb7 hV
  cases V
  all_goals
    go_wp2_with fail
    go_ret
    exact ⟨rfl, hbw7⟩
end Go.Proofs.YtljkkejjnimjcaaDoor
