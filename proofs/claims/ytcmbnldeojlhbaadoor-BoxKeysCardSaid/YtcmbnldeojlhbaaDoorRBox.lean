/-
  The reference's keystream and code.
-/
import Derived.Test.YtcmbnldeojlhbaaDoorBox
import Derived.Test.YtcmbnldeojlhbaaDoorRDer
import Derived.Test.YtcmbnldeojlhbaaDoorRFrame
namespace Go.Proofs.YtcmbnldeojlhbaaDoor
open Go.RowKit

set_option maxRecDepth 100000 in
set_option maxHeartbeats 4000000 in
theorem rstream_any (A A2 A3 : Option Addr) (n c n2 c2 n3 c3 : Nat) (key nonce b : List Int) (w : World) (hs : Seg w w.heap.size .u8 A n key) (hn : n ≤ 1048576) (ht : Seg w w.heap.size .u8 A2 n2 nonce) (hn2 : n2 ≤ 1048576) (hu : Seg w w.heap.size .u8 A3 n3 b) (hn3 : n3 ≤ 1024) :
    Calls Tryd.prog 23 #[.slice A n c, .slice A2 n2 c2, .slice A3 n3 c3] w
      fun e w' => ∃ v, e = .returned v ∧ Row w' w.heap.size 5 .u8 v n3 (streamI key nonce b) ∧ Below w.heap.size w w' := by
  obtain ⟨i0, hi, hz0, hz1, hz2⟩ := info_parts Tryd.infoU8
  have HS := Lib.hid hs
  have HT := Lib.hid ht
  have HU := Lib.hid hu
  have HUL := Lib.hid hu.1
  clear hs ht hu
  go_enter Tryd.func23, Tryd.ntmps23
  go_wp2_with fail
  refine (rderive_any A A2 n c n2 c2 key nonce labelE n3 w HS.out hn HT.out hn2 (show (7 : Nat) ≤ 1048576 by omega)).mono ?_
  rintro e w1 ⟨A4, k, c4, rfl, hk, hsD, hb1⟩
  obtain ⟨D, HD⟩ : ∃ D, Hid (deriveI key (strI labelE) nonce n3 = D) := ⟨_, rfl⟩
  have hk3 : k = n3 := by rw [← hsD.1, deriveI_len _ _ _ _ hn3]
  subst hk3
  rw [HD.out] at hsD
  have HDS := Lib.hid hsD
  have HDL := Lib.hid hsD.1
  have HL : Hid (streamI key nonce b = xorL b D) := by show _ = _; rw [streamI, HUL.out, HD.out]
  obtain ⟨X, HX⟩ : ∃ X, Hid (xorL b D = X) := ⟨_, rfl⟩
  have HXL : Hid (X.length = k) := by show _ = _; rw [← HX.out, xorL, List.length_zipWith, HDL.out, HUL.out, Nat.min_self]
  have hz1' := hb1.size
  have HUS := Lib.hid (HU.out.below hb1 (Nat.le_refl _))
  clear hsD
  go_wp2_with (at_make; refine wpList_make_row _ rfl _ _ 22 rfl 5 i0 (.int .u8 0) Tryd.underlying22 hi hz0 hz1 rfl .i64 .i64 k rfl rfl (by rw [hz2]; omega) (by omega) ?_)
  rw [made_zeros]
  generalize hwq : World.alloc _ _ = wq
  have hb1q : Below w1.heap.size w1 wq := by rw [← hwq]; exact (Below.refl _ _).alloc (Nat.le_refl _) _
  have hBq : Blk wq w1.heap.size 5 .u8 (fillZ X k 0) := by rw [← hwq, fillZ_zero]; exact Blk.new w1 _ .u8 _
  obtain ⟨g, HG⟩ : ∃ g, Hid (w1.heap.size = g) := ⟨_, rfl⟩
  rw [HG.out] at hBq hz1' HDS hb1q ⊢
  clear hwq
  go_wp2_with fail
  go_loopw [9] (fun i wr => ∃ j : Nat, j ≤ k ∧ i = .int .i64 j ∧ Hid (Blk wr g 5 .u8 (fillZ X k j)) ∧ Below g w1 wr) (fun i _ => k - (intOf i).toNat)
  case atStart => exact ⟨0, by omega, rfl, hBq, hb1q⟩
  case round =>
    clear hBq hb1q
    obtain ⟨j, hj, rfl, hB, hb⟩ := hrel
    by_cases hlt : j < k
    · have hd : decide ((j : Int) < k) = true := by simp; omega
      obtain ⟨p, po, rfl, hpb, hpc⟩ := HUS.out.2 (by omega)
      obtain ⟨d, dof, rfl, hdb, hdc⟩ := HDS.out.2 (by omega)
      have hcl := hB.out.cell j (by rw [fillZ_length X k j HXL.out hj]; exact hlt)
      have hfr := hB.out.frozen j
      have hx := (hb.cell (p := ⟨p, po + j, none⟩) (by show p < g; omega)).trans (hpc j hlt)
      have hy := (hb.cell (p := ⟨d, dof + j, none⟩) hdb).trans (hdc j hlt)
      obtain ⟨x, hxx⟩ : ∃ x, Hid (b.getD j 0 = x) := ⟨_, rfl⟩
      obtain ⟨y, hyy⟩ : ∃ y, Hid (D.getD j 0 = y) := ⟨_, rfl⟩
      rw [hxx.out] at hx
      rw [hyy.out] at hy
      have hji : (j : Int) < k := by omega
      have hj0 : (0 : Int) ≤ (j : Int) := by omega
      clear hpc hdc
      go_wp2_with fail
      go_region
      go_wp2
      go_roundw
      case measure => simp [intOf]; omega
      case rel =>
        refine ⟨j + 1, by omega, by go_num, ?_, (hb.setCell (Nat.le_refl _) _).drew⟩
        show Blk _ _ _ _ _
        rw [← fillZ_next X k j HXL.out hlt, ← HX.out, xorL_get b D j (by rw [HUL.out]; exact hlt) (by rw [HDL.out]; exact hlt), hxx.out, hyy.out, HX.out]
        exact (hB.out.set_ j _).drew
    · have hd : decide ((j : Int) < k) = false := by simp; omega
      have hjk : j = k := by omega
      rw [hjk, fillZ_full X k HXL.out] at hB
      clear hjk
      go_wp2_with fail
      go_ret
      have h := Own.of_blk hB.out hz1' (by unfold maxLen; rw [HXL.out]; omega)
      rw [HXL.out] at h
      rw [HL.out, HX.out]
      exact ⟨_, rfl, h.row HXL.out, hb1.trans (hb.mono hz1')⟩

set_option maxRecDepth 100000 in
set_option maxHeartbeats 4000000 in
theorem rtag_any (A A2 A3 A4 : Option Addr) (n c n2 c2 n3 c3 n4 c4 : Nat) (key nonce ad x : List Int) (w : World) (hs : Seg w w.heap.size .u8 A n key) (hn : n ≤ 1048576)
    (ht : Seg w w.heap.size .u8 A2 n2 nonce) (hn2 : n2 ≤ 1048576) (hc2 : n2 ≤ c2) (hm2 : c2 ≤ maxLen) (hu : Seg w w.heap.size .u8 A3 n3 ad) (hn3 : n3 ≤ 1048576) (hc3 : n3 ≤ c3) (hm3 : c3 ≤ maxLen) (hv : Seg w w.heap.size .u8 A4 n4 x) (hn4 : n4 ≤ 1048576) (hc4 : n4 ≤ c4) (hm4 : c4 ≤ maxLen) :
    Calls Tryd.prog 18 #[.slice A n c, .slice A2 n2 c2, .slice A3 n3 c3, .slice A4 n4 c4] w
      fun e w' => ∃ v, e = .returned v ∧ Row w' w.heap.size 5 .u8 v 32 (tagI key nonce ad x) ∧ Below w.heap.size w w' := by
  have HS := Lib.hid hs
  have HT := Lib.hid ht
  have HU := Lib.hid hu
  have HV := Lib.hid hv
  have HLT := Lib.hid ht.1
  have HLU := Lib.hid hu.1
  have HLV := Lib.hid hv.1
  clear hs ht hu hv
  go_enter Tryd.func18, Tryd.ntmps18
  go_wp2_with fail
  refine (rderive_any A A2 n c n2 c2 key nonce labelA 32 w HS.out hn HT.out hn2 (show (12 : Nat) ≤ 1048576 by omega)).mono ?_
  rintro e w1 ⟨A5, k, c5, rfl, hk, hsD, hb1⟩
  obtain ⟨D, HD⟩ : ∃ D, Hid (deriveI key (strI labelA) nonce 32 = D) := ⟨_, rfl⟩
  rw [HD.out] at hsD
  have HDS := Lib.hid hsD
  have hzb1 := hb1.size
  clear hsD
  go_wp2_with fail
  generalize hwq : World.alloc _ _ = wq
  have hb1q : Below w1.heap.size w1 wq := by rw [← hwq]; exact (Below.refl _ _).alloc (Nat.le_refl _) _
  have hbq : Below w.heap.size w wq := hb1.trans (hb1q.mono hzb1)
  have hzq := hbq.size
  have hF : Fields wq wq.heap.size (some ⟨w1.heap.size, 0, none⟩) 3 [ad, nonce, x] :=
    fields3 wq w1.heap.size A3 A2 A4 n3 c3 n2 c2 n4 c4 ad nonce x (by rw [← hwq]; exact cell_made w1 _ _ _ 0 _ rfl rfl) (by rw [← hwq]; exact cell_made w1 _ _ _ 1 _ rfl rfl) (by rw [← hwq]; exact cell_made w1 _ _ _ 2 _ rfl rfl)
      ((HU.out.below hbq (Nat.le_refl _)).more hzq) ((HT.out.below hbq (Nat.le_refl _)).more hzq) ((HV.out.below hbq (Nat.le_refl _)).more hzq) hc3 hm3 hc2 hm2 hc4 hm4
  have HF := Lib.hid hF
  have HDQ := Lib.hid ((HDS.out.below hb1q (Nat.le_refl _)).more hb1q.size)
  clear hwq hF
  refine (rframe_any 0 _ 3 3 _ wq HF.out (by omega) (by simp [tot]; rw [HLT.out, HLU.out, HLV.out]; omega)).mono ?_
  rintro e w2 ⟨v2, rfl, hown2, hb2⟩
  have HR2 := Lib.hid (hown2.row (n := 13 + n2 + n3 + n4) (by rw [frameI_length]; simp [tot]; rw [HLT.out, HLU.out, HLV.out]; omega))
  obtain ⟨A6, c6, rfl, _, _⟩ := HR2.out.cut
  have hbw2 := hbq.trans (hb2.mono hzq)
  have hzw2 := hbw2.size
  have HD2 := Lib.hid ((HDQ.out.below hb2 (Nat.le_refl _)).more hb2.size)
  clear hown2
  go_wp2_with fail
  refine (rmac_any A5 A6 k c5 (13 + n2 + n3 + n4) c6 D _ w2 HD2.out (by omega) HR2.out.seg (by omega)).mono ?_
  rintro e w3 ⟨v3, rfl, hR3, hb3⟩
  go_wp2
  go_ret
  refine ⟨_, rfl, ?_, hbw2.trans (hb3.mono hzw2)⟩
  rw [tagI, HD.out]
  exact (Own.less hR3.own hzw2).row (macI_length _ _)
end Go.Proofs.YtcmbnldeojlhbaaDoor
