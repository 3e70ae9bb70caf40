/-
  The walk of the statement that signatures verify, with their leaf.
-/
import Derived.Test.YtljkkejjnimjcaaDoorBase13
namespace Go.Proofs.YtljkkejjnimjcaaDoor
open Go.RowKit

set_option maxRecDepth 100000 in
set_option maxHeartbeats 2000000 in
theorem lawSignerTrip (A : Option Addr) (n c : Nat) (seed : List Int) (h l : Int) (A4 : Option Addr) (n4 c4 : Nat) (msg : List Int) (w : World) (hs : Seg w w.heap.size .u8 A n seed) (hc : n ≤ c) (hm : c ≤ 9223372036854775807) (ht : Seg w w.heap.size .u8 A4 n4 msg) (hc4 : n4 ≤ c4) (hm4 : c4 ≤ 9223372036854775807) (hK : Tab w 0 .u32 kay256) :
    Calls Tryd.prog 5 #[.slice A n c, .int .i64 h, .int .i64 l, .slice A4 n4 c4] w fun e w' => e = .returned (.bool true) ∧ Below w.heap.size w w' := by
  have HS := Lib.hid hs
  have HT := Lib.hid ht
  have HK := Lib.hid hK
  have hw0 := hK.lt
  clear hs hK ht
  go_enter Tryd.func5, Tryd.ntmps5
  go_wp2_with fail
  refine (awake7_any w HK.out).mono ?_
  rintro e w1 ⟨rfl, hb1⟩
  have hz1 := hb1.size
  have HS1 := Lib.hid (HS.out.up hb1)
  have HT1 := Lib.hid (HT.out.up hb1)
  have hbw1 := hb1
  clear hb1
  go_wp2_with fail
  refine (short7_any A A4 n c n4 c4 w1).mono ?_
  rintro e w' ⟨rfl, rfl⟩
  cases hsh : (decide (n ≤ 100) && decide (n4 ≤ 100)) with
  | false => ?_
  | true => ?_
  · go_wp2_with fail
    go_ret
    exact ⟨rfl, hbw1⟩
  have hn : n ≤ 100 := by simp at hsh; omega
  have hn4 : n4 ≤ 100 := by simp at hsh; omega
  obtain ⟨hf2, hrem⟩ := height_s h
  obtain ⟨f, hfe⟩ : ∃ f, heightS h = f := ⟨_, rfl⟩
  rw [hfe] at hf2 hrem
  obtain ⟨N, hN⟩ : ∃ N : Nat, Hid (2 ^ f = N) := ⟨_, rfl⟩
  have hN8 : N ≤ 8 := by rw [← hN.out]; exact two_three (by omega)
  have hN1 : 1 ≤ N := by rw [← hN.out]; exact two_pos f
  have HW := Lib.hid (pow_wrap f N hN.out hN8)
  have hf0 : (0 : Int) ≤ (f : Int) := by omega
  have hsub : IntKind.i64.wrap ((N : Int) - 1) = ((N - 1 : Nat) : Int) := by rw [IntWalk.i64_in _ (by omega)]; omega
  have hsub2 : RowKit.wrap64 ((N : Int) - 1) = ((N - 1 : Nat) : Int) := by unfold RowKit.wrap64; omega
  have hand := and_mask l (N - 1) (by omega)
  obtain ⟨I, hI⟩ : ∃ I : Nat, bits .and .i64 l ((N - 1 : Nat) : Int) = (I : Int) := ⟨(bits .and .i64 l ((N - 1 : Nat) : Int)).toNat, by omega⟩
  have hIN : I < N := by rw [hI] at hand; omega
  obtain ⟨ht1, ht2, ht3⟩ := trip7 seed msg f I (by omega) (by rw [hN.out]; exact hIN)
  have HVER := Lib.hid ht1
  have HLS := Lib.hid ht2
  have HLP := Lib.hid ht3
  clear hand hfe hsh ht1 ht2 ht3
  obtain ⟨M, hM⟩ : ∃ M : Nat, Hid (561 + 16 * f = M) := ⟨_, rfl⟩
  obtain ⟨M0, hM0⟩ : ∃ M0 : Nat, Hid (16 * f = M0) := ⟨_, rfl⟩
  have hM609 : M ≤ 609 := by rw [← hM.out]; omega
  have hM561 : 561 ≤ M := by rw [← hM.out]; omega
  have hwm : IntKind.i64.wrap (16 * (f : Int)) = (M0 : Int) := by rw [IntWalk.i64_in _ (by omega), ← hM0.out]; omega
  have hwn : IntKind.i64.wrap (561 + (M0 : Int)) = (M : Int) := by have := hM.out; have := hM0.out; rw [IntWalk.i64_in _ (by omega)]; omega
  rw [hM.out] at HLS
  obtain ⟨V, P, hV, hP, hPl, hP16, hsig, hpub, hroot, hsgn, hget, hVl⟩ := sig_parts seed msg f I (by omega) (by rw [hN.out]; exact hIN)
  have HS0 : Hid ((sig7 seed f I msg).getD 0 0 = (I : Int)) := by show _ = _; rw [hsig]; rfl
  clear hV hP hPl hP16 hsig hpub hroot hsgn hget hVl
  obtain ⟨hw1, hw2⟩ := HW.out
  go_wp2_with fail
  clear hw1 hw2
  refine (wsig7_any A A4 n c n4 c4 seed msg f I w1 HS1.out (by omega) hc hm HT1.out (by omega) hc4 hm4 (HK.out.below hbw1 hw0)).mono ?_
  rintro e w2 ⟨B2, k2, d2, rfl, hk2, hd2', hm2, hS2, hb2⟩
  have hkM : k2 = M := by rw [← hS2.1]; exact HLS.out
  rw [hkM] at hS2 hd2' ⊢
  have HG2 := Lib.hid hS2
  have HS2 := Lib.hid (HS1.out.up hb2)
  have HT2 := Lib.hid (HT1.out.up hb2)
  have hbw2 := hbw1.trans (hb2.mono hz1)
  have hz2 := hbw2.size
  clear hS2 hb2 hkM
  go_wp2_with fail
  refine (wpub7_any A n c seed f w2 HS2.out (by omega) hc hm (HK.out.below hbw2 hw0)).mono ?_
  rintro e w3 ⟨B3, k3, d3, rfl, hk3, hd3', hm3, hS3, hb3⟩
  have hl3 : k3 = 17 := by rw [← hS3.1]; exact HLP.out
  rw [hl3] at hS3 hd3' ⊢
  have HP3 := Lib.hid hS3
  have HG3 := Lib.hid (HG2.out.up hb3)
  have HT3 := Lib.hid (HT2.out.up hb3)
  have hbw3 := hbw2.trans (hb3.mono hz2)
  have hz3 := hbw3.size
  clear hS3 hb3 hl3
  go_wp2_with fail
  refine (wver7_any B3 A4 B2 17 d3 n4 c4 M d2 (pub7 seed f) msg (sig7 seed f I msg) w3 HP3.out (by omega) hd3' hm3 (inB_pub7 _ _) HT3.out (by omega) hc4 hm4 HG3.out (by omega) hd2' hm2 (inB_sig7 _ _ _ _) (HK.out.below hbw3 hw0)).mono ?_
  rw [HVER.out]
  rintro e w4 ⟨rfl, hb4⟩
  have HG4 := Lib.hid (HG3.out.up hb4)
  have hbw4 := hbw3.trans (hb4.mono hz3)
  obtain ⟨b, off, rfl, hbl, hcl⟩ := HG4.out.2 (by omega)
  have hc0 := hcl 0 (by omega)
  rw [HS0.out, Nat.add_zero] at hc0
  have hI0 : (0 : Int) ≤ (I : Int) := by omega
  have hwi : IntKind.i64.wrap (I : Int) = (I : Int) := IntWalk.i64_in _ (by omega)
  have hM0' : (0 : Int) < M := by omega
  clear hcl
  go_wp2_with fail
  go_ret
  exact ⟨rfl, hbw4⟩
end Go.Proofs.YtljkkejjnimjcaaDoor
