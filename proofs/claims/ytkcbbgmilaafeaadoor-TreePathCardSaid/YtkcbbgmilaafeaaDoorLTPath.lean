/-
  The walk of the statement on the path of any leaf.
-/
import Derived.Test.YtkcbbgmilaafeaaDoorLTRoot
import Derived.Test.YtkcbbgmilaafeaaDoorRLists
namespace Go.Proofs.YtkcbbgmilaafeaaDoor
open Go.RowKit

theorem tot_path (i : Int) (l : List (List Int)) (h : ∀ x ∈ l, x.length ≤ 60) (hk : (pathI i l).length ≤ 3) : tot (pathI i l) ≤ 1099511627776 := by
  have := tot_short 60 (pathI i l) (pathI_short 60 (by omega) i l h)
  omega
theorem lists_self (A A2 : Option Addr) (n c c2 : Nat) (fs : List (List Int)) (w : World) (hs : Fields w w.heap.size A n fs) (ht : Fields w w.heap.size A2 n fs) (hn : n ≤ 1048576) (hb : tot fs ≤ 1099511627776) :
    Calls Tryd.prog 15 #[.slice A n c, .slice A2 n c2] w fun e w' => e = .returned (.bool true) ∧ Below w.heap.size w w' := by
  refine (lists_any A A2 n c n c2 fs fs w hs ht hn hb).mono ?_
  rintro e w' ⟨rfl, q, rfl⟩
  exact ⟨by simp [listsB], below_drewN (Below.refl _ _) q⟩

set_option maxRecDepth 100000 in
set_option maxHeartbeats 2000000 in
theorem lawTreePath (A : Option Addr) (n c : Nat) (fs : List (List Int)) (h i : Int) (w : World) (hs : Fields w w.heap.size A n fs) (hc : n ≤ c) (hm : c ≤ 9223372036854775807) (hK : Tab w 0 .u32 kay256) :
    Calls Tryd.prog 4 #[.slice A n c, .int .i64 h, .int .i64 i] w fun e w' => e = .returned (.bool true) ∧ Below w.heap.size w w' := by
  have HS := Lib.hid hs
  have HL := Lib.hid hs.1
  have HK := Lib.hid hK
  have hw0 := hK.lt
  clear hs hK
  go_enter Tryd.func4, Tryd.ntmps4
  go_wp2_with fail
  refine (awake6_any w HK.out).mono ?_
  rintro e w1 ⟨rfl, hb1⟩
  have hz1 := hb1.size
  have HS1 := Lib.hid (HS.out.up hb1)
  go_wp2_with fail
  refine (few6_any A n c fs w1 HS1.out (by omega)).mono ?_
  rintro e w' ⟨rfl, rfl⟩
  cases hfew : fewT fs with
  | false => ?_
  | true => ?_
  · go_wp2_with fail
    go_ret
    exact ⟨rfl, hb1⟩
  obtain ⟨hn20, hsh⟩ := fewT_true hfew
  have hn : n < 20 := by rw [← HL.out]; exact hn20
  have HSH := Lib.hid hsh
  clear hfew hn20 hsh
  go_wp2_with fail
  refine (fit_any A n c fs h w1 HS1.out (by omega)).mono ?_
  rintro e w2 ⟨v2, rfl, hR2, hb2⟩
  obtain ⟨A2, c2, rfl, hc2, hm2⟩ := hR2.cut
  unfold maxLen at hm2
  have hf3 := height_le h
  obtain ⟨L, hL⟩ : ∃ L, Hid (fitTo fs (2 ^ heightF h) = L) := ⟨_, rfl⟩
  have HLS : Hid (∀ x ∈ L, x.length ≤ 60) := by rw [← hL.out]; exact fitTo_short _ _ HSH.out
  have hN8 := two_three hf3
  have hN1 := two_pos (heightF h)
  obtain ⟨N, hN⟩ : ∃ N : Nat, Hid (2 ^ heightF h = N) := ⟨_, rfl⟩
  rw [hN.out] at hN8 hN1 hc2
  have HF2 := Lib.hid hR2.fields
  rw [hL.out, hN.out] at HF2
  rw [hN.out]
  have HS2 := Lib.hid (HS1.out.up hb2)
  have hbw2 := hb1.trans (hb2.mono hz1)
  have hz2 := hbw2.size
  have hsub : IntKind.i64.wrap ((N : Int) - 1) = ((N - 1 : Nat) : Int) := by rw [IntWalk.i64_in _ (by omega)]; omega
  have hsub2 : RowKit.wrap64 ((N : Int) - 1) = ((N - 1 : Nat) : Int) := by unfold RowKit.wrap64; omega
  clear hR2 hb2 hb1 hz1 HS1
  go_wp2_with fail
  obtain ⟨K, hK⟩ : ∃ K, Hid (bits .and .i64 i ((N - 1 : Nat) : Int) = K) := ⟨_, rfl⟩
  rw [hK.out]
  refine (wpath_any i A n c fs w2 HS2.out (by omega) hc hm (short_big HSH.out) (HK.out.below hbw2 hw0)).mono ?_
  rintro e w3 ⟨B3, k3, d3, rfl, hk3, hd3, hm3, hS3, hb3⟩
  have HP3 := Lib.hid hS3
  have HS3 := Lib.hid (HS2.out.up hb3)
  have HF3 := Lib.hid (HF2.out.up hb3)
  have hbw3 := hbw2.trans (hb3.mono hz2)
  have hz3 := hbw3.size
  clear hS3 hb3 HS2 HF2
  go_wp2_with fail
  refine (rpath_any i A n c fs w3 HS3.out (short_big HSH.out)).mono ?_
  rintro e w4 ⟨v4, k4, rfl, hk4, hR4, hb4⟩
  obtain ⟨A4, c4, rfl, _, _⟩ := hR4.cut
  have hkk : k4 = k3 := by rw [← hR4.length, HP3.out.1]
  rw [hkk] at hR4 ⊢
  have HR4 := Lib.hid hR4.fields
  have HQ4 := Lib.hid (HP3.out.up hb4)
  have HS4 := Lib.hid (HS3.out.up hb4)
  have HF4 := Lib.hid (HF3.out.up hb4)
  have hbw4 := hbw3.trans (hb4.mono hz3)
  have hz4 := hbw4.size
  have hpl4 : (pathI i fs).length ≤ 3 := by rw [HP3.out.1]; exact hk3
  clear hR4 hb4 hkk HS3 HF3
  go_wp2_with fail
  refine (lists_self B3 A4 k3 d3 c4 (pathI i fs) w4 HQ4.out HR4.out (by omega) (tot_path i fs HSH.out hpl4)).mono ?_
  rintro e w5 ⟨rfl, hb5⟩
  have HF5 := Lib.hid (HF4.out.up hb5)
  have hbw5 := hbw4.trans (hb5.mono hz4)
  have hz5 := hbw5.size
  clear hb5 HQ4 HR4 HP3 hpl4 HS4 HF4
  go_wp2_with fail
  refine (wpath_any K A2 N c2 L w5 HF5.out (by omega) hc2 hm2 (short_big HLS.out) (HK.out.below hbw5 hw0)).mono ?_
  rintro e w6 ⟨B6, k6, d6, rfl, hk6, hd6, hm6, hS6, hb6⟩
  have HP6 := Lib.hid hS6
  have HF6 := Lib.hid (HF5.out.up hb6)
  have hbw6 := hbw5.trans (hb6.mono hz5)
  have hz6 := hbw6.size
  clear hS6 hb6 HF5
  go_wp2_with fail
  refine (rpath_any K A2 N c2 L w6 HF6.out (short_big HLS.out)).mono ?_
  rintro e w7 ⟨v7, k7, rfl, hk7, hR7, hb7⟩
  obtain ⟨A7, c7, rfl, _, _⟩ := hR7.cut
  have hkk : k7 = k6 := by rw [← hR7.length, HP6.out.1]
  rw [hkk] at hR7 ⊢
  have HR7 := Lib.hid hR7.fields
  have HQ7 := Lib.hid (HP6.out.up hb7)
  have HF7 := Lib.hid (HF6.out.up hb7)
  have hbw7 := hbw6.trans (hb7.mono hz6)
  have hz7 := hbw7.size
  have hpl7 : (pathI K L).length ≤ 3 := by rw [HP6.out.1]; exact hk6
  clear hR7 hb7 hkk HF6
  go_wp2_with fail
  refine (lists_self B6 A7 k6 d6 c7 (pathI K L) w7 HQ7.out HR7.out (by omega) (tot_path K L HLS.out hpl7)).mono ?_
  rintro e w8 ⟨rfl, hb8⟩
  have HF8 := Lib.hid (HF7.out.up hb8)
  have hbw8 := hbw7.trans (hb8.mono hz7)
  have hz8 := hbw8.size
  clear hb8 HQ7 HR7 HP6 hpl7 HF7
  go_wp2_with fail
  refine (wpath_any i A2 N c2 L w8 HF8.out (by omega) hc2 hm2 (short_big HLS.out) (HK.out.below hbw8 hw0)).mono ?_
  rintro e w9 ⟨B9, k9, d9, rfl, hk9, hd9, hm9, hS9, hb9⟩
  have HP9 := Lib.hid hS9
  have HF9 := Lib.hid (HF8.out.up hb9)
  have hbw9 := hbw8.trans (hb9.mono hz8)
  have hz9 := hbw9.size
  clear hS9 hb9 HF8
  go_wp2_with fail
  refine (rpath_any i A2 N c2 L w9 HF9.out (short_big HLS.out)).mono ?_
  rintro e w10 ⟨v10, k10, rfl, hk10, hR10, hb10⟩
  obtain ⟨A10, c10, rfl, _, _⟩ := hR10.cut
  have hkk : k10 = k9 := by rw [← hR10.length, HP9.out.1]
  rw [hkk] at hR10 ⊢
  have HR10 := Lib.hid hR10.fields
  have HQ10 := Lib.hid (HP9.out.up hb10)
  have HF10 := Lib.hid (HF9.out.up hb10)
  have hbw10 := hbw9.trans (hb10.mono hz9)
  have hz10 := hbw10.size
  have hpl10 : (pathI i L).length ≤ 3 := by rw [HP9.out.1]; exact hk9
  clear hR10 hb10 hkk HF9
  go_wp2_with fail
  refine (lists_self B9 A10 k9 d9 c10 (pathI i L) w10 HQ10.out HR10.out (by omega) (tot_path i L HLS.out hpl10)).mono ?_
  rintro e w11 ⟨rfl, hb11⟩
  have hbw11 := hbw10.trans (hb11.mono hz10)
  have hz11 := hbw11.size
  clear hb11 HQ10 HR10 HP9 hpl10 HF10
  go_wp2_with fail
  go_ret
  exact ⟨rfl, hbw11⟩
end Go.Proofs.YtkcbbgmilaafeaaDoor
