/-
  The walk of the statement on which signatures verify.
-/
import Derived.Test.YtljkkejjnimjcaaDoorBase13
namespace Go.Proofs.YtljkkejjnimjcaaDoor
open Go.RowKit

theorem xor8_b (x y : Int) : 0 ≤ bits .xor .u8 x y ∧ bits .xor .u8 x y < 256 := by
  have hw : ∀ n : Int, IntKind.u8.wrap n = n % 256 := fun n => by simp [IntKind.wrap, IntKind.bits, IntKind.signed]
  have e : bits .xor .u8 x y = IntKind.u8.wrap ((BitVec.ofInt 8 x ^^^ BitVec.ofInt 8 y).toNat : Int) := rfl
  rw [e, hw]
  omega

set_option maxRecDepth 100000 in
set_option maxHeartbeats 4000000 in
theorem lawSignerVerify (A : Option Addr) (n c : Nat) (seed : List Int) (h l : Int) (A4 : Option Addr) (n4 c4 : Nat) (msg : List Int) (A5 : Option Addr) (n5 c5 : Nat) (other : List Int) (t x : Int) (key : Bool) (w : World) (hs : Seg w w.heap.size .u8 A n seed) (_hc : n ≤ c) (_hm : c ≤ 9223372036854775807)
    (ht : Seg w w.heap.size .u8 A4 n4 msg) (hc4 : n4 ≤ c4) (hm4 : c4 ≤ 9223372036854775807) (ho : Seg w w.heap.size .u8 A5 n5 other) (hc5 : n5 ≤ c5) (hm5 : c5 ≤ 9223372036854775807) (hK : Tab w 0 .u32 kay256) :
    Calls Tryd.prog 6 #[.slice A n c, .int .i64 h, .int .i64 l, .slice A4 n4 c4, .slice A5 n5 c5, .int .i64 t, .int .u8 x, .bool key] w fun e w' => e = .returned (.bool true) ∧ Below w.heap.size w w' := by
  have HS := Lib.hid hs
  have HT := Lib.hid ht
  have HO := Lib.hid ho
  have HK := Lib.hid hK
  have hw0 := hK.lt
  clear hs hK ht ho
  go_enter Tryd.func6, Tryd.ntmps6
  go_wp2_with fail
  refine (awake7_any w HK.out).mono ?_
  rintro e w1 ⟨rfl, hb1⟩
  have hz1 := hb1.size
  have HS1 := Lib.hid (HS.out.up hb1)
  have HT1 := Lib.hid (HT.out.up hb1)
  have hbw1 := hb1
  clear hb1
  go_wp2_with fail
  refine (short7_any A A4 n c n4 c4 w1).mono ?_
  rintro e w' ⟨rfl, rfl⟩
  cases hsh : (decide (n ≤ 100) && decide (n4 ≤ 100)) with
  | false => ?_
  | true => ?_
  · go_wp2_with fail
    go_ret
    exact ⟨rfl, hbw1⟩
  by_cases hbig : 100 < n5
  · have hdb : decide ((100 : Int) < n5) = true := by simp; omega
    go_wp2_with fail
    go_ret
    exact ⟨rfl, hbw1⟩
  have hdb : decide ((100 : Int) < n5) = false := by simp; omega
  have hn : n ≤ 100 := by simp at hsh; omega
  have hn4 : n4 ≤ 100 := by simp at hsh; omega
  obtain ⟨hf2, hrem⟩ := height_s h
  obtain ⟨f, hfe⟩ : ∃ f, heightS h = f := ⟨_, rfl⟩
  rw [hfe] at hf2 hrem
  obtain ⟨N, hN⟩ : ∃ N : Nat, Hid (2 ^ f = N) := ⟨_, rfl⟩
  have hN8 : N ≤ 8 := by rw [← hN.out]; exact two_three (by omega)
  have hN1 : 1 ≤ N := by rw [← hN.out]; exact two_pos f
  have HW := Lib.hid (pow_wrap f N hN.out hN8)
  have hf0 : (0 : Int) ≤ (f : Int) := by omega
  have hsub : IntKind.i64.wrap ((N : Int) - 1) = ((N - 1 : Nat) : Int) := by rw [IntWalk.i64_in _ (by omega)]; omega
  have hsub2 : RowKit.wrap64 ((N : Int) - 1) = ((N - 1 : Nat) : Int) := by unfold RowKit.wrap64; omega
  have hand := and_mask l (N - 1) (by omega)
  obtain ⟨I, hI⟩ : ∃ I : Nat, bits .and .i64 l ((N - 1 : Nat) : Int) = (I : Int) := ⟨(bits .and .i64 l ((N - 1 : Nat) : Int)).toNat, by omega⟩
  have hIN : I < N := by rw [hI] at hand; omega
  obtain ⟨ht1, ht2, ht3⟩ := trip7 seed msg f I (by omega) (by rw [hN.out]; exact hIN)
  have HVER := Lib.hid ht1
  have HLS := Lib.hid ht2
  have HLP := Lib.hid ht3
  clear hand hfe hsh ht1 ht2 ht3
  obtain ⟨M, hM⟩ : ∃ M : Nat, Hid (561 + 16 * f = M) := ⟨_, rfl⟩
  have hM609 : M ≤ 609 := by rw [← hM.out]; omega
  have hM561 : 561 ≤ M := by rw [← hM.out]; omega
  rw [hM.out] at HLS
  obtain ⟨S, hS⟩ : ∃ S, Hid (sig7 seed f I msg = S) := ⟨_, rfl⟩
  obtain ⟨P, hP⟩ : ∃ P, Hid (pub7 seed f = P) := ⟨_, rfl⟩
  have HBS : Hid (InB S) := by show InB S; rw [← hS.out]; exact inB_sig7 _ _ _ _
  have HBP : Hid (InB P) := by show InB P; rw [← hP.out]; exact inB_pub7 _ _
  rw [hS.out] at HLS
  rw [hP.out] at HLP
  obtain ⟨hw1, hw2⟩ := HW.out
  go_wp2_with fail
  clear hw1 hw2 HVER
  refine (rsig7_any A A4 n c n4 c4 seed msg f I w1 HS1.out (by omega) HT1.out (by omega) hc4 hm4).mono ?_
  rw [hS.out]
  rintro e w2 ⟨v2, k2, rfl, hk2, hR2, hb2⟩
  have hkM : k2 = M := by rw [← hR2.length]; exact HLS.out
  rw [hkM] at hR2
  obtain ⟨gs, cs, rfl, hgs⟩ := hR2.at_ (by omega)
  have hcs := hR2.caps
  have hgs2 : gs < w2.heap.size := (World.ownsRow.lt hR2 gs rfl).2
  have HR2 := Lib.hid hR2
  have HS2 := Lib.hid (HS1.out.up hb2)
  have hbw2 := hbw1.trans (hb2.mono hz1)
  have hz2 := hbw2.size
  clear hR2 hb2 hkM
  go_wp2_with fail
  refine (rpub7_any A n c seed f w2 HS2.out (by omega)).mono ?_
  rw [hP.out]
  rintro e w3 ⟨v3, k3, rfl, hk3, hR3, hb3⟩
  have hl3 : k3 = 17 := by rw [← hR3.length]; exact HLP.out
  rw [hl3] at hR3
  obtain ⟨gp, cp, rfl, hgp⟩ := hR3.at_ (by omega)
  have hcp := hR3.caps
  have HP3 := Lib.hid hR3
  have HG3 := Lib.hid (HR2.out.below hb3)
  have hbw3 := hbw2.trans (hb3.mono hz2)
  have hz3 := hbw3.size
  have hgs0 : w.heap.size ≤ gs := Nat.le_trans hz1 hgs
  have hgp0 : w.heap.size ≤ gp := Nat.le_trans hz2 hgp
  have hne : gs ≠ gp := by omega
  obtain ⟨hcs1, hcs2⟩ := hcs
  obtain ⟨hcp1, hcp2⟩ := hcp
  unfold maxLen at hcs2 hcp2
  clear hR3 hb3 hl3
  have hway : (key = true ∧ 0 ≤ t ∧ t < 17) ∨ (key = false ∧ 0 ≤ t ∧ t < M) ∨ (key = true ∧ 17 ≤ t ∧ t < M) ∨ (key = true ∧ t < 0) ∨ (key = false ∧ t < 0) ∨ (key = true ∧ (M : Int) ≤ t) ∨ (key = false ∧ (M : Int) ≤ t) := by
    cases key
    · rcases (by omega : t < 0 ∨ (0 ≤ t ∧ t < M) ∨ (M : Int) ≤ t) with h | h | h
      · exact .inr (.inr (.inr (.inr (.inl ⟨rfl, h⟩))))
      · exact .inr (.inl ⟨rfl, h⟩)
      · exact .inr (.inr (.inr (.inr (.inr (.inr ⟨rfl, h⟩)))))
    · rcases (by omega : t < 0 ∨ (0 ≤ t ∧ t < 17) ∨ (17 ≤ t ∧ t < M) ∨ (M : Int) ≤ t) with h | h | h | h
      · exact .inr (.inr (.inr (.inl ⟨rfl, h⟩)))
      · exact .inl ⟨rfl, h⟩
      · exact .inr (.inr (.inl ⟨rfl, h⟩))
      · exact .inr (.inr (.inr (.inr (.inr (.inl ⟨rfl, h⟩)))))
  rcases hway with ⟨hk, h0, h1⟩ | ⟨hk, h0, h1⟩ | ⟨hk, h0, h1⟩ | ⟨hk, h1⟩ | ⟨hk, h1⟩ | ⟨hk, h1⟩ | ⟨hk, h1⟩
  focus
    subst hk
    obtain ⟨T, rfl⟩ : ∃ T : Nat, t = T := ⟨t.toNat, by omega⟩
    have hT : T < 17 := by omega
    have hd1 : decide (0 ≤ (T : Int)) = true := by simp
    have hd2 : decide ((T : Int) < 17) = true := by simp; omega
    have hcl := HP3.out.cell T hT
    have hfr := HP3.out.frozen T
    obtain ⟨z, hz⟩ : ∃ z, Hid (P.getD T 0 = z) := ⟨_, rfl⟩
    rw [hz.out] at hcl
    go_wp2_with fail
    obtain ⟨y, hy⟩ : ∃ y, Hid (bits .xor .u8 z x = y) := ⟨_, rfl⟩
    rw [hy.out]
    obtain ⟨w5, hw5⟩ : ∃ w5, Hid (w3.setCell ⟨gp, T, none⟩ (.int .u8 y) = w5) := ⟨_, rfl⟩
    rw [hw5.out]
    obtain ⟨P5, hP5⟩ : ∃ P5, Hid (P.set T y = P5) := ⟨_, rfl⟩
    obtain ⟨S5, hS5⟩ : ∃ S5, Hid (S = S5) := ⟨_, rfl⟩
    have HPP : Hid (Seg w5 w5.heap.size .u8 (some ⟨gp, 0, none⟩) 17 P5) := by show Seg _ _ _ _ _ _; rw [← hw5.out, ← hP5.out]; exact (HP3.out.set_ T y).seg
    have HGG : Hid (Seg w5 w5.heap.size .u8 (some ⟨gs, 0, none⟩) M S5) := by show Seg _ _ _ _ _ _; rw [← hw5.out, ← hS5.out]; exact (HG3.out.far ((but_refl w3 gp).set_ T (.int .u8 y)) hne).seg
    have HB5 : Hid (InB P5 ∧ InB S5) := by
      show _ ∧ _
      rw [← hP5.out, ← hS5.out, ← hy.out]
      exact ⟨HBP.out.set_ T (xor8_b _ _), HBS.out⟩
    have hbw5 : Below w.heap.size w w5 := by rw [← hw5.out]; exact hbw3.setCell hgp0 _
    clear hcl hfr hz hT hy hw5 hP5 hS5
  rotate_left
  focus
    subst hk
    obtain ⟨T, rfl⟩ : ∃ T : Nat, t = T := ⟨t.toNat, by omega⟩
    have hT : T < M := by omega
    have hd1 : decide (0 ≤ (T : Int)) = true := by simp
    have hd2 : decide ((T : Int) < M) = true := by simp; omega
    have hcl := HG3.out.cell T hT
    have hfr := HG3.out.frozen T
    obtain ⟨z, hz⟩ : ∃ z, Hid (S.getD T 0 = z) := ⟨_, rfl⟩
    rw [hz.out] at hcl
    go_wp2_with fail
    obtain ⟨y, hy⟩ : ∃ y, Hid (bits .xor .u8 z x = y) := ⟨_, rfl⟩
    rw [hy.out]
    obtain ⟨w5, hw5⟩ : ∃ w5, Hid (w3.setCell ⟨gs, T, none⟩ (.int .u8 y) = w5) := ⟨_, rfl⟩
    rw [hw5.out]
    obtain ⟨P5, hP5⟩ : ∃ P5, Hid (P = P5) := ⟨_, rfl⟩
    obtain ⟨S5, hS5⟩ : ∃ S5, Hid (S.set T y = S5) := ⟨_, rfl⟩
    have HPP : Hid (Seg w5 w5.heap.size .u8 (some ⟨gp, 0, none⟩) 17 P5) := by show Seg _ _ _ _ _ _; rw [← hw5.out, ← hP5.out]; exact (HP3.out.far ((but_refl w3 gs).set_ T (.int .u8 y)) (Ne.symm hne)).seg
    have HGG : Hid (Seg w5 w5.heap.size .u8 (some ⟨gs, 0, none⟩) M S5) := by show Seg _ _ _ _ _ _; rw [← hw5.out, ← hS5.out]; exact (HG3.out.set_ T y).seg
    have HB5 : Hid (InB P5 ∧ InB S5) := by
      show _ ∧ _
      rw [← hP5.out, ← hS5.out, ← hy.out]
      exact ⟨HBP.out, HBS.out.set_ T (xor8_b _ _)⟩
    have hbw5 : Below w.heap.size w w5 := by rw [← hw5.out]; exact hbw3.setCell hgs0 _
    clear hcl hfr hz hT hy hw5 hP5 hS5
  rotate_left
  focus
    subst hk
    obtain ⟨T, rfl⟩ : ∃ T : Nat, t = T := ⟨t.toNat, by omega⟩
    have hT : T < M := by omega
    have hd1 : decide (0 ≤ (T : Int)) = true := by simp
    have hd2 : decide ((T : Int) < M) = true := by simp; omega
    have hd3 : decide ((T : Int) < 17) = false := by simp; omega
    have hcl := HG3.out.cell T hT
    have hfr := HG3.out.frozen T
    obtain ⟨z, hz⟩ : ∃ z, Hid (S.getD T 0 = z) := ⟨_, rfl⟩
    rw [hz.out] at hcl
    go_wp2_with fail
    obtain ⟨y, hy⟩ : ∃ y, Hid (bits .xor .u8 z x = y) := ⟨_, rfl⟩
    rw [hy.out]
    obtain ⟨w5, hw5⟩ : ∃ w5, Hid (w3.setCell ⟨gs, T, none⟩ (.int .u8 y) = w5) := ⟨_, rfl⟩
    rw [hw5.out]
    obtain ⟨P5, hP5⟩ : ∃ P5, Hid (P = P5) := ⟨_, rfl⟩
    obtain ⟨S5, hS5⟩ : ∃ S5, Hid (S.set T y = S5) := ⟨_, rfl⟩
    have HPP : Hid (Seg w5 w5.heap.size .u8 (some ⟨gp, 0, none⟩) 17 P5) := by show Seg _ _ _ _ _ _; rw [← hw5.out, ← hP5.out]; exact (HP3.out.far ((but_refl w3 gs).set_ T (.int .u8 y)) (Ne.symm hne)).seg
    have HGG : Hid (Seg w5 w5.heap.size .u8 (some ⟨gs, 0, none⟩) M S5) := by show Seg _ _ _ _ _ _; rw [← hw5.out, ← hS5.out]; exact (HG3.out.set_ T y).seg
    have HB5 : Hid (InB P5 ∧ InB S5) := by
      show _ ∧ _
      rw [← hP5.out, ← hS5.out, ← hy.out]
      exact ⟨HBP.out, HBS.out.set_ T (xor8_b _ _)⟩
    have hbw5 : Below w.heap.size w w5 := by rw [← hw5.out]; exact hbw3.setCell hgs0 _
    clear hcl hfr hz hT hy hw5 hP5 hS5
  rotate_left
  focus
    subst hk
    obtain ⟨w5, rfl⟩ : ∃ w5 : World, w5 = w3 := ⟨_, rfl⟩
    obtain ⟨P5, rfl⟩ : ∃ P5, P5 = P := ⟨_, rfl⟩
    obtain ⟨S5, rfl⟩ : ∃ S5, S5 = S := ⟨_, rfl⟩
    have HPP := Lib.hid HP3.out.seg
    have HGG := Lib.hid HG3.out.seg
    have HB5 : Hid (InB P5 ∧ InB S5) := ⟨HBP.out, HBS.out⟩
    have hbw5 := hbw3
    have hd1 : decide (0 ≤ t) = false := by simpa using h1
    go_wp2_with fail
  rotate_left
  focus
    subst hk
    obtain ⟨w5, rfl⟩ : ∃ w5 : World, w5 = w3 := ⟨_, rfl⟩
    obtain ⟨P5, rfl⟩ : ∃ P5, P5 = P := ⟨_, rfl⟩
    obtain ⟨S5, rfl⟩ : ∃ S5, S5 = S := ⟨_, rfl⟩
    have HPP := Lib.hid HP3.out.seg
    have HGG := Lib.hid HG3.out.seg
    have HB5 : Hid (InB P5 ∧ InB S5) := ⟨HBP.out, HBS.out⟩
    have hbw5 := hbw3
    have hd1 : decide (0 ≤ t) = false := by simpa using h1
    go_wp2_with fail
  rotate_left
  focus
    subst hk
    obtain ⟨w5, rfl⟩ : ∃ w5 : World, w5 = w3 := ⟨_, rfl⟩
    obtain ⟨P5, rfl⟩ : ∃ P5, P5 = P := ⟨_, rfl⟩
    obtain ⟨S5, rfl⟩ : ∃ S5, S5 = S := ⟨_, rfl⟩
    have HPP := Lib.hid HP3.out.seg
    have HGG := Lib.hid HG3.out.seg
    have HB5 : Hid (InB P5 ∧ InB S5) := ⟨HBP.out, HBS.out⟩
    have hbw5 := hbw3
    have hd1 : decide (0 ≤ t) = true := by simp; omega
    have hd2 : decide (t < M) = false := by simp; omega
    have hd3 : decide (t < 17) = false := by simp; omega
    go_wp2_with fail
  rotate_left
  focus
    subst hk
    obtain ⟨w5, rfl⟩ : ∃ w5 : World, w5 = w3 := ⟨_, rfl⟩
    obtain ⟨P5, rfl⟩ : ∃ P5, P5 = P := ⟨_, rfl⟩
    obtain ⟨S5, rfl⟩ : ∃ S5, S5 = S := ⟨_, rfl⟩
    have HPP := Lib.hid HP3.out.seg
    have HGG := Lib.hid HG3.out.seg
    have HB5 : Hid (InB P5 ∧ InB S5) := ⟨HBP.out, HBS.out⟩
    have hbw5 := hbw3
    have hd1 : decide (0 ≤ t) = true := by simp; omega
    have hd2 : decide (t < M) = false := by simp; omega
    have hd3 : decide (t < 17) = false := by simp; omega
    go_wp2_with fail
  rotate_left
  all_goals
    have hx5 := Below.refl w5.heap.size w5
    obtain ⟨V1, hV1⟩ : ∃ V, Hid (ver7 P5 msg S5 = V) := ⟨_, rfl⟩
    obtain ⟨V2, hV2⟩ : ∃ V, Hid (ver7 P5 other S5 = V) := ⟨_, rfl⟩
    refine (wver7_any _ A4 _ 17 cp n4 c4 M cs P5 msg S5 w5 (HPP.out.up hx5) (by omega) hcp1 (by omega) HB5.out.1 ((HT.out.below hbw5 (Nat.le_refl _)).more hbw5.size) (by omega) hc4 hm4 (HGG.out.up hx5) (by omega) hcs1 (by omega) HB5.out.2 (HK.out.below hbw5 hw0)).mono ?_
    rw [hV1.out]
    rintro e w6 ⟨rfl, hb6⟩
    have hx6 : Below w5.heap.size w5 w6 := hx5.trans (hb6.mono hx5.size)
    have hbw6 := hbw5.trans (hb6.mono hbw5.size)
    go_wp2_with fail
    refine (rver7_any _ A4 _ 17 cp n4 c4 M cs P5 msg S5 w6 (HPP.out.up hx6) hcp1 (by unfold maxLen; omega) HB5.out.1 ((HT.out.below hbw6 (Nat.le_refl _)).more hbw6.size) (by omega) hc4 (by unfold maxLen; omega) (HGG.out.up hx6) (by omega) hcs1 (by unfold maxLen; omega) HB5.out.2).mono ?_
    rw [hV1.out]
    rintro e w7 ⟨rfl, hb7⟩
    have hx7 : Below w5.heap.size w5 w7 := hx6.trans (hb7.mono hx6.size)
    have hbw7 := hbw6.trans (hb7.mono hbw6.size)
    go_wp2_with fail
    refine (wver7_any _ A5 _ 17 cp n5 c5 M cs P5 other S5 w7 (HPP.out.up hx7) (by omega) hcp1 (by omega) HB5.out.1 ((HO.out.below hbw7 (Nat.le_refl _)).more hbw7.size) (by omega) hc5 hm5 (HGG.out.up hx7) (by omega) hcs1 (by omega) HB5.out.2 (HK.out.below hbw7 hw0)).mono ?_
    rw [hV2.out]
    rintro e w8 ⟨rfl, hb8⟩
    have hx8 : Below w5.heap.size w5 w8 := hx7.trans (hb8.mono hx7.size)
    have hbw8 := hbw7.trans (hb8.mono hbw7.size)
    go_wp2_with fail
    refine (rver7_any _ A5 _ 17 cp n5 c5 M cs P5 other S5 w8 (HPP.out.up hx8) hcp1 (by unfold maxLen; omega) HB5.out.1 ((HO.out.below hbw8 (Nat.le_refl _)).more hbw8.size) (by omega) hc5 (by unfold maxLen; omega) (HGG.out.up hx8) (by omega) hcs1 (by unfold maxLen; omega) HB5.out.2).mono ?_
    rw [hV2.out]
    rintro e w9 ⟨rfl, hb9⟩
    have hx9 : Below w5.heap.size w5 w9 := hx8.trans (hb9.mono hx8.size)
    have hbw9 := hbw8.trans (hb9.mono hbw8.size)
    go_wp2_with fail
    go_ret
    exact ⟨rfl, hbw9⟩
end Go.Proofs.YtljkkejjnimjcaaDoor
