/-
  The walk of the statement on the bytes of a signature.
-/
import Derived.Test.YtljkkejjnimjcaaDoorBase13
import Derived.Test.YtljkkejjnimjcaaDoorBase4
namespace Go.Proofs.YtljkkejjnimjcaaDoor
open Go.RowKit

theorem sig7_out (seed msg : List Int) (h l : Int) (hb : h < 0 ∨ 3 < h ∨ l < 0 ∨ ((2 ^ h.toNat : Nat) : Int) ≤ l) : sig7 seed h l msg = [] := by rw [sig7, if_pos hb]

set_option maxRecDepth 100000 in
set_option maxHeartbeats 2000000 in
theorem lawSignerSign (A : Option Addr) (n c : Nat) (seed : List Int) (h l : Int) (A4 : Option Addr) (n4 c4 : Nat) (msg : List Int) (w : World) (hs : Seg w w.heap.size .u8 A n seed) (hc : n ≤ c) (hm : c ≤ 9223372036854775807) (ht : Seg w w.heap.size .u8 A4 n4 msg) (hc4 : n4 ≤ c4) (hm4 : c4 ≤ 9223372036854775807) (hK : Tab w 0 .u32 kay256) :
    Calls Tryd.prog 4 #[.slice A n c, .int .i64 h, .int .i64 l, .slice A4 n4 c4] w fun e w' => e = .returned (.bool true) ∧ Below w.heap.size w w' := by
  have HS := Lib.hid hs
  have HT := Lib.hid ht
  have HK := Lib.hid hK
  have hw0 := hK.lt
  clear hs hK ht
  go_enter Tryd.func4, Tryd.ntmps4
  go_wp2_with fail
  refine (awake7_any w HK.out).mono ?_
  rintro e w1 ⟨rfl, hb1⟩
  have hz1 := hb1.size
  have HS1 := Lib.hid (HS.out.up hb1)
  have HT1 := Lib.hid (HT.out.up hb1)
  have hbw1 := hb1
  clear hb1
  go_wp2_with fail
  refine (short7_any A A4 n c n4 c4 w1).mono ?_
  rintro e w' ⟨rfl, rfl⟩
  cases hsh : (decide (n ≤ 100) && decide (n4 ≤ 100)) with
  | false => ?_
  | true => ?_
  · go_wp2_with fail
    go_ret
    exact ⟨rfl, hbw1⟩
  have hn : n ≤ 100 := by simp at hsh; omega
  have hn4 : n4 ≤ 100 := by simp at hsh; omega
  obtain ⟨hf2, hrem⟩ := height_s h
  obtain ⟨f, hfe⟩ : ∃ f, heightS h = f := ⟨_, rfl⟩
  rw [hfe] at hf2 hrem
  obtain ⟨N, hN⟩ : ∃ N : Nat, Hid (2 ^ f = N) := ⟨_, rfl⟩
  have hN8 : N ≤ 8 := by rw [← hN.out]; exact two_three (by omega)
  have hN1 : 1 ≤ N := by rw [← hN.out]; exact two_pos f
  have HW := Lib.hid (pow_wrap f N hN.out hN8)
  have hf0 : (0 : Int) ≤ (f : Int) := by omega
  have hsub : IntKind.i64.wrap ((N : Int) - 1) = ((N - 1 : Nat) : Int) := by rw [IntWalk.i64_in _ (by omega)]; omega
  have hsub2 : RowKit.wrap64 ((N : Int) - 1) = ((N - 1 : Nat) : Int) := by unfold RowKit.wrap64; omega
  have hand := and_mask l (N - 1) (by omega)
  obtain ⟨I, hI⟩ : ∃ I : Nat, bits .and .i64 l ((N - 1 : Nat) : Int) = (I : Int) := ⟨(bits .and .i64 l ((N - 1 : Nat) : Int)).toNat, by omega⟩
  have hIN : I < N := by rw [hI] at hand; omega
  obtain ⟨ht1, ht2, ht3⟩ := trip7 seed msg f I (by omega) (by rw [hN.out]; exact hIN)
  have HVER := Lib.hid ht1
  have HLS := Lib.hid ht2
  have HLP := Lib.hid ht3
  clear hand hfe hsh ht1 ht2 ht3
  have HO1 : Hid (sig7 seed (4 + (f : Int)) 0 msg = []) := sig7_out _ _ _ _ (by omega)
  have HO2 : Hid (sig7 seed (-1 - (f : Int)) 0 msg = []) := sig7_out _ _ _ _ (by omega)
  have hwp : IntKind.i64.wrap (4 + (f : Int)) = 4 + (f : Int) := IntWalk.i64_in _ (by omega)
  have hwm : IntKind.i64.wrap (-1 - (f : Int)) = -1 - (f : Int) := IntWalk.i64_in _ (by omega)
  obtain ⟨hw1, hw2⟩ := HW.out
  rcases (by clear hw1 hw2; omega : l < 0 ∨ (0 ≤ l ∧ l < N) ∨ (0 ≤ l ∧ (N : Int) ≤ l)) with h1 | ⟨h1, h2⟩ | ⟨h1, h2⟩
  focus
    have hd1 : decide (0 ≤ l) = false := by simpa using h1
    have HBAD : Hid (sig7 seed f l msg = []) := sig7_out _ _ _ _ (.inr (.inr (.inl h1)))
    go_wp2_with fail
    clear hw1 hw2
  rotate_left
  focus
    have hd1 : decide (0 ≤ l) = true := by simpa using h1
    have hd2 : decide (l < N) = true := by simpa using h2
    have hwb : IntKind.i64.wrap (l + (N : Int)) = l + (N : Int) := by clear hw1 hw2; exact IntWalk.i64_in _ (by omega)
    have HBAD : Hid (sig7 seed f (l + (N : Int)) msg = []) := sig7_out _ _ _ _ (.inr (.inr (.inr (by rw [Int.toNat_natCast, hN.out]; clear hw1 hw2; omega))))
    go_wp2_with fail
    clear hw1 hw2
  rotate_left
  focus
    have hd1 : decide (0 ≤ l) = true := by simpa using h1
    have hd2 : decide (l < N) = false := by simpa using h2
    have HBAD : Hid (sig7 seed f l msg = []) := sig7_out _ _ _ _ (.inr (.inr (.inr (by rw [Int.toNat_natCast, hN.out]; exact h2))))
    go_wp2_with fail
    clear hw1 hw2
  rotate_left
  all_goals
    refine (wsig7_any A A4 n c n4 c4 seed msg f I w1 HS1.out (by omega) hc hm HT1.out (by omega) hc4 hm4 (HK.out.below hbw1 hw0)).mono ?_
    rintro e w2 ⟨B2, k2, d2, rfl, hk2, hd2', hm2, hS2, hb2⟩
    have HP2 := Lib.hid hS2
    have HS2 := Lib.hid (HS1.out.up hb2)
    have HT2 := Lib.hid (HT1.out.up hb2)
    have hbw2 := hbw1.trans (hb2.mono hz1)
    have hz2 := hbw2.size
    clear hS2 hb2
    go_wp2_with fail
    refine (rsig7_any A A4 n c n4 c4 seed msg f I w2 HS2.out (by omega) HT2.out (by omega) hc4 hm4).mono ?_
    rintro e w3 ⟨v3, k3, rfl, hk3, hR3, hb3⟩
    obtain ⟨A3, c3, rfl, _, _⟩ := hR3.cut
    have hkk : k3 = k2 := by rw [← hR3.length, HP2.out.1]
    rw [hkk] at hR3 ⊢
    have HR3 := Lib.hid hR3.seg
    have HP3 := Lib.hid (HP2.out.up hb3)
    have HS3 := Lib.hid (HS2.out.up hb3)
    have HT3 := Lib.hid (HT2.out.up hb3)
    have hbw3 := hbw2.trans (hb3.mono hz2)
    have hz3 := hbw3.size
    clear hR3 hb3 hkk
    go_wp2_with fail
    refine (same_self B2 A3 k2 d2 c3 (sig7 seed f I msg) w3 HP3.out HR3.out (by omega)).mono ?_
    rintro e w4 ⟨rfl, hb4⟩
    have HS4 := Lib.hid (HS3.out.up hb4)
    have HT4 := Lib.hid (HT3.out.up hb4)
    have hbw4 := hbw3.trans (hb4.mono hz3)
    have hz4 := hbw4.size
    clear hb4
    go_wp2_with fail
    refine (wsig7_any A A4 n c n4 c4 seed msg f _ w4 HS4.out (by omega) hc hm HT4.out (by omega) hc4 hm4 (HK.out.below hbw4 hw0)).mono ?_
    rw [HBAD.out]
    rintro e w5 ⟨B5, k5, d5, rfl, hk5, hd5, hm5, hS5, hb5⟩
    have hk0 : k5 = 0 := hS5.1.symm
    subst hk0
    have HS5 := Lib.hid (HS4.out.up hb5)
    have HT5 := Lib.hid (HT4.out.up hb5)
    have hbw5 := hbw4.trans (hb5.mono hz4)
    have hz5 := hbw5.size
    clear hS5 hb5
    go_wp2_with fail
    refine (wsig7_any A A4 n c n4 c4 seed msg (4 + (f : Int)) 0 w5 HS5.out (by omega) hc hm HT5.out (by omega) hc4 hm4 (HK.out.below hbw5 hw0)).mono ?_
    rw [HO1.out]
    rintro e w6 ⟨B6, k6, d6, rfl, hk6, hd6, hm6, hS6, hb6⟩
    have hk0 : k6 = 0 := hS6.1.symm
    subst hk0
    have HS6 := Lib.hid (HS5.out.up hb6)
    have HT6 := Lib.hid (HT5.out.up hb6)
    have hbw6 := hbw5.trans (hb6.mono hz5)
    have hz6 := hbw6.size
    clear hS6 hb6
    go_wp2_with fail
    refine (wsig7_any A A4 n c n4 c4 seed msg (-1 - (f : Int)) 0 w6 HS6.out (by omega) hc hm HT6.out (by omega) hc4 hm4 (HK.out.below hbw6 hw0)).mono ?_
    rw [HO2.out]
    rintro e w7 ⟨B7, k7, d7, rfl, hk7, hd7, hm7, hS7, hb7⟩
    have hk0 : k7 = 0 := hS7.1.symm
    subst hk0
    go_wp2_with fail
    go_ret
    exact ⟨rfl, hbw6.trans (hb7.mono hz6)⟩
end Go.Proofs.YtljkkejjnimjcaaDoor
