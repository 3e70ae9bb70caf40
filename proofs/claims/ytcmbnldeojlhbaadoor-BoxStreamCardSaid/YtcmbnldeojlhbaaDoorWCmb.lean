/-
  The program's keystream, combined in a closure, and its code.
-/
import Derived.Test.YtcmbnldeojlhbaaDoorBox
import Derived.Test.YtcmbnldeojlhbaaDoorDerive
import Derived.Test.YtcmbnldeojlhbaaDoorField
namespace Go.Proofs.YtcmbnldeojlhbaaDoor
open Go.RowKit

set_option maxRecDepth 100000 in
set_option maxHeartbeats 1000000 in
theorem wmasked_any (gt gs j n n2 c c2 B B2 : Nat) (A A2 : Option Addr) (b D : List Int) (w : World) (ht : w.cell? ⟨gt, 0, none⟩ = some (.slice A n c)) (hs : w.cell? ⟨gs, 0, none⟩ = some (.slice A2 n2 c2))
    (h1 : Seg w B .u8 A n b) (h2 : Seg w B2 .u8 A2 n2 D) (hj : j < n) (hj2 : j < n2) :
    Calls Tryd.prog 38 #[.int .i64 j, .pointer (some ⟨gt, 0, none⟩), .pointer (some ⟨gs, 0, none⟩)] w
      fun e w' => e = .returned (.int .u8 (bits .xor .u8 (b.getD j 0) (D.getD j 0))) ∧ ∃ q, w' = w.drewN q := by
  obtain ⟨p, po, rfl, hpb, hpc⟩ := h1.2 (by omega)
  obtain ⟨d, dof, rfl, hdb, hdc⟩ := h2.2 (by omega)
  have hx := hpc j hj
  have hy := hdc j hj2
  obtain ⟨x, hxx⟩ : ∃ x, Hid (b.getD j 0 = x) := ⟨_, rfl⟩
  obtain ⟨y, hyy⟩ : ∃ y, Hid (D.getD j 0 = y) := ⟨_, rfl⟩
  rw [hxx.out] at hx ⊢
  rw [hyy.out] at hy ⊢
  have hji : (j : Int) < n := by omega
  have hji2 : (j : Int) < n2 := by omega
  have hj0 : (0 : Int) ≤ (j : Int) := by omega
  clear hpc hdc h1 h2
  go_enter Tryd.func38, Tryd.ntmps38
  go_wp2_with fail
  go_quiet (fail)
  go_wp2
  go_ret
  exact ⟨rfl, _, rfl⟩

set_option maxRecDepth 100000 in
set_option maxHeartbeats 4000000 in
theorem wcombine_any (A A2 A3 : Option Addr) (n c n2 c2 n3 c3 : Nat) (key nonce b : List Int) (w : World) (hs : Seg w w.heap.size .u8 A n key) (hn : n ≤ 1048576) (hc : n ≤ c) (hm : c ≤ 9223372036854775807)
    (ht : Seg w w.heap.size .u8 A2 n2 nonce) (hn2 : n2 ≤ 1048576) (hu : Seg w w.heap.size .u8 A3 n3 b) (hn3 : n3 ≤ 1024) (hK : Tab w 0 .u32 kay256) :
    Calls Tryd.prog 20 #[.slice A n c, .slice A2 n2 c2, .slice A3 n3 c3] w
      fun e w' => ∃ v, e = .returned v ∧ Row w' w.heap.size 5 .u8 v n3 (streamI key nonce b) ∧ Below w.heap.size w w' := by
  obtain ⟨i0, hi, hz0, hz1, hz2⟩ := info_parts Tryd.infoU8
  have hmf : ∀ (fn : Fn) (first cap : Array Value) (w : World), (Instr.makeFunc fn first cap).run Tryd.prog w = .ok (.func fn first cap) w := fun _ _ _ _ => rfl
  have HUL := Lib.hid hu.1
  obtain ⟨g0, HG0⟩ : ∃ g, Hid (w.heap.size = g) := ⟨_, rfl⟩
  have hba : Below w.heap.size w (w.alloc (.cells #[.slice A3 n3 c3] 22)) := (Below.refl _ _).alloc (Nat.le_refl _) _
  have HS := Lib.hid ((hs.below hba (Nat.le_refl _)).more hba.size)
  have HT := Lib.hid ((ht.below hba (Nat.le_refl _)).more hba.size)
  have HU := Lib.hid ((hu.below hba (Nat.le_refl _)).more hba.size)
  have HK := Lib.hid (hK.below hba hK.lt)
  have HC : Hid ((w.alloc (.cells #[.slice A3 n3 c3] 22)).cell? ⟨w.heap.size, 0, none⟩ = some (.slice A3 n3 c3)) := cell_made w _ _ _ 0 _ rfl rfl
  have HBA := Lib.hid hba
  clear hs ht hu hK hba
  go_enter Tryd.func20, Tryd.ntmps20
  go_wp2_with fail
  generalize hwa : World.alloc _ _ = wa at HS HT HU HK HC HBA ⊢
  have hzba := HBA.out.size
  clear hwa
  refine (derive_any A A2 n c n2 c2 key nonce labelE n3 wa HS.out hn hc hm HT.out hn2 (show (7 : Nat) ≤ 1048576 by omega) HK.out).mono ?_
  rintro e w1 ⟨A4, k, c4, rfl, ⟨hk, hkc, hcm4⟩, hsD, hb1⟩
  obtain ⟨D, HD⟩ : ∃ D, Hid (deriveI key (strI labelE) nonce n3 = D) := ⟨_, rfl⟩
  have hk3 : k = n3 := by rw [← hsD.1, deriveI_len _ _ _ _ hn3]
  subst hk3
  rw [HD.out] at hsD
  have HDS := Lib.hid hsD
  have HDL := Lib.hid hsD.1
  have HL : Hid (streamI key nonce b = xorL b D) := by show _ = _; rw [streamI, HUL.out, HD.out]
  obtain ⟨X, HX⟩ : ∃ X, Hid (xorL b D = X) := ⟨_, rfl⟩
  have HXL : Hid (X.length = k) := by show _ = _; rw [← HX.out, xorL, List.length_zipWith, HDL.out, HUL.out, Nat.min_self]
  have hz1' := hb1.size
  have hbw1 := HBA.out.trans (hb1.mono hzba)
  have HUS := Lib.hid ((HU.out.below hb1 (Nat.le_refl _)).more hz1')
  have hlt0 : w.heap.size < wa.heap.size := block_lt_of_cell HC.out
  have hc1 : w1.cell? ⟨w.heap.size, 0, none⟩ = some (.slice A3 k c3) := (hb1.cell (p := ⟨w.heap.size, 0, none⟩) hlt0).trans HC.out
  have hbs : Below w1.heap.size w1 (w1.alloc (.cells #[.slice A4 k c4] 22)) := (Below.refl _ _).alloc (Nat.le_refl _) _
  have hc2 : (w1.alloc (.cells #[.slice A4 k c4] 22)).cell? ⟨w.heap.size, 0, none⟩ = some (.slice A3 k c3) := (hbs.cell (p := ⟨w.heap.size, 0, none⟩) (by show w.heap.size < w1.heap.size; omega)).trans hc1
  have hs2 : (w1.alloc (.cells #[.slice A4 k c4] 22)).cell? ⟨w1.heap.size, 0, none⟩ = some (.slice A4 k c4) := cell_made w1 _ _ _ 0 _ rfl rfl
  have hb12 : Below w1.heap.size w1 (w1.alloc (.cells #[.slice A4 k c4] 22)) := (Below.refl _ _).alloc (Nat.le_refl _) _
  have HU2 := Lib.hid ((HUS.out.below hb12 (Nat.le_refl _)).more hb12.size)
  have HD2 := Lib.hid ((HDS.out.below hb12 (Nat.le_refl _)).more hb12.size)
  have hlt2 : w1.heap.size < (w1.alloc (.cells #[.slice A4 k c4] 22)).heap.size := block_lt_of_cell hs2
  have hbw2 := hbw1.trans (hb12.mono hbw1.size)
  clear hsD hbs hc1 HBA hb12
  unfold maxLen at hcm4
  go_wp2_with (at_make; refine wpList_make_row _ rfl _ _ 22 rfl 5 i0 (.int .u8 0) Tryd.underlying22 hi hz0 hz1 rfl .i64 .i64 k rfl rfl (by rw [hz2]; omega) (by omega) ?_)
  rw [made_zeros]
  have e2 : (w1.alloc (.cells #[.slice A4 k c4] 22)).heap.size = w1.heap.size + 1 := by simp
  generalize World.alloc w1 _ = w2 at hc2 hs2 HU2 HD2 hlt2 hbw2 e2 ⊢
  have HC2 := Lib.hid hc2
  have HS2 := Lib.hid hs2
  clear hc2 hs2
  generalize hwq : World.alloc _ _ = wq
  have hb2q : Below w2.heap.size w2 wq := by rw [← hwq]; exact (Below.refl _ _).alloc (Nat.le_refl _) _
  have hBq : Blk wq w2.heap.size 5 .u8 (fillZ X k 0) := by rw [← hwq, fillZ_zero]; exact Blk.new w2 _ .u8 _
  have hz2' := hbw2.size
  obtain ⟨g, HG⟩ : ∃ g, Hid (w1.heap.size + 1 = g) := ⟨_, rfl⟩
  have hlt02 : w.heap.size < w2.heap.size := by omega
  obtain ⟨gt, HGT⟩ : ∃ g, Hid (w.heap.size = g) := ⟨_, rfl⟩
  obtain ⟨gs, HGS⟩ : ∃ g, Hid (w1.heap.size = g) := ⟨_, rfl⟩
  rw [e2, HG.out] at hBq hz2' HU2 HD2 hb2q hlt2 hlt02
  rw [HG.out]
  have HB2 := Lib.hid hbw2
  rw [HGT.out] at HC2 hlt02 hz2' HB2 ⊢
  rw [HGS.out] at HS2 hlt2 ⊢
  clear hwq e2 hbw2 HG
  go_wp2_with fail
  go_loopw [22] (fun i wr => ∃ j : Nat, j ≤ k ∧ i = .int .i64 j ∧ Hid (Blk wr g 5 .u8 (fillZ X k j)) ∧ Below g w2 wr) (fun i _ => k - (intOf i).toNat)
  case atStart => exact ⟨0, by omega, rfl, hBq, hb2q⟩
  case round =>
    clear hBq hb2q
    obtain ⟨j, hj, rfl, hB, hb⟩ := hrel
    by_cases hlt : j < k
    · have hd : decide ((j : Int) < k) = true := by simp; omega
      have HM := Lib.hid (wmasked_any gt gs j k k c3 c4 g g A3 A4 b D wr ((hb.cell (p := ⟨gt, 0, none⟩) hlt02).trans HC2.out) ((hb.cell (p := ⟨gs, 0, none⟩) hlt2).trans HS2.out) (HU2.out.below hb (Nat.le_refl _)) (HD2.out.below hb (Nat.le_refl _)) hlt hlt)
      go_wp2_with fail
      refine HM.out.mono ?_
      rintro e wv ⟨rfl, q, hq⟩
      have hBv : Blk wv g 5 .u8 (fillZ X k j) := by rw [hq]; exact hB.out
      have hbv : Below g w2 wv := by rw [hq]; exact below_drewN hb q
      have hX : bits .xor .u8 (b.getD j 0) (D.getD j 0) = X.getD j 0 := by rw [← HX.out, xorL_get b D j (by rw [HUL.out]; exact hlt) (by rw [HDL.out]; exact hlt)]
      rw [hX]
      obtain ⟨z, hzz⟩ : ∃ z, Hid (X.getD j 0 = z) := ⟨_, rfl⟩
      rw [hzz.out]
      have HBv := Lib.hid hBv
      have hcl := hBv.cell j (by rw [fillZ_length X k j HXL.out hj]; exact hlt)
      have hfr := hBv.frozen j
      have hji : (j : Int) < k := by omega
      have hj0 : (0 : Int) ≤ (j : Int) := by omega
      clear hq hX hBv HM
      go_wp2_with fail
      go_roundw
      case measure => simp [intOf]; omega
      case rel =>
        refine ⟨j + 1, by omega, by go_num, ?_, hbv.setCell (Nat.le_refl _) _⟩
        show Blk _ _ _ _ _
        rw [← fillZ_next X k j HXL.out hlt, hzz.out]
        exact HBv.out.set_ j _
    · have hd : decide ((j : Int) < k) = false := by simp; omega
      have hjk : j = k := by omega
      rw [hjk, fillZ_full X k HXL.out] at hB
      clear hjk
      go_wp2_with fail
      go_ret
      have h := Own.of_blk hB.out hz2' (by unfold maxLen; rw [HXL.out]; omega)
      rw [HXL.out] at h
      rw [HL.out, HX.out, HGT.out]
      exact ⟨_, rfl, h.row HXL.out, HB2.out.trans (hb.mono hz2')⟩

set_option maxRecDepth 100000 in
set_option maxHeartbeats 4000000 in
theorem wtag_any (A A2 A3 A4 : Option Addr) (n c n2 c2 n3 c3 n4 c4 : Nat) (key nonce ad x : List Int) (w : World) (hs : Seg w w.heap.size .u8 A n key) (hn : n ≤ 1048576) (hc : n ≤ c) (hm : c ≤ 9223372036854775807)
    (ht : Seg w w.heap.size .u8 A2 n2 nonce) (hn2 : n2 ≤ 1048576) (hc2 : n2 ≤ c2) (hm2 : c2 ≤ maxLen) (hu : Seg w w.heap.size .u8 A3 n3 ad) (hn3 : n3 ≤ 1048576) (hc3 : n3 ≤ c3) (hm3 : c3 ≤ maxLen) (hv : Seg w w.heap.size .u8 A4 n4 x) (hn4 : n4 ≤ 1048576) (hc4 : n4 ≤ c4) (hm4 : c4 ≤ maxLen) (hK : Tab w 0 .u32 kay256) :
    Calls Tryd.prog 22 #[.slice A n c, .slice A2 n2 c2, .slice A3 n3 c3, .slice A4 n4 c4] w
      fun e w' => ∃ v, e = .returned v ∧ Row w' w.heap.size 5 .u8 v 32 (tagI key nonce ad x) ∧ Below w.heap.size w w' := by
  have HS := Lib.hid hs
  have HT := Lib.hid ht
  have HU := Lib.hid hu
  have HV := Lib.hid hv
  have HK := Lib.hid hK
  have hk0 := hK.lt
  have HLT := Lib.hid ht.1
  have HLU := Lib.hid hu.1
  have HLV := Lib.hid hv.1
  clear hs ht hu hv hK
  go_enter Tryd.func22, Tryd.ntmps22
  go_wp2_with fail
  refine (derive_any A A2 n c n2 c2 key nonce labelA 32 w HS.out hn hc hm HT.out hn2 (show (12 : Nat) ≤ 1048576 by omega) HK.out).mono ?_
  rintro e w1 ⟨A5, k, c5, rfl, ⟨hk, hkc, hcm5⟩, hsD, hb1⟩
  obtain ⟨D, HD⟩ : ∃ D, Hid (deriveI key (strI labelA) nonce 32 = D) := ⟨_, rfl⟩
  rw [HD.out] at hsD
  have HDS := Lib.hid hsD
  have hzb1 := hb1.size
  clear hsD
  unfold maxLen at hcm5
  go_wp2_with fail
  generalize hwq : World.alloc _ _ = wq
  have hb1q : Below w1.heap.size w1 wq := by rw [← hwq]; exact (Below.refl _ _).alloc (Nat.le_refl _) _
  have hbq : Below w.heap.size w wq := hb1.trans (hb1q.mono hzb1)
  have hzq := hbq.size
  have hF : Fields wq wq.heap.size (some ⟨w1.heap.size, 0, none⟩) 3 [ad, nonce, x] :=
    fields3 wq w1.heap.size A3 A2 A4 n3 c3 n2 c2 n4 c4 ad nonce x (by rw [← hwq]; exact cell_made w1 _ _ _ 0 _ rfl rfl) (by rw [← hwq]; exact cell_made w1 _ _ _ 1 _ rfl rfl) (by rw [← hwq]; exact cell_made w1 _ _ _ 2 _ rfl rfl)
      ((HU.out.below hbq (Nat.le_refl _)).more hzq) ((HT.out.below hbq (Nat.le_refl _)).more hzq) ((HV.out.below hbq (Nat.le_refl _)).more hzq) hc3 hm3 hc2 hm2 hc4 hm4
  have HF := Lib.hid hF
  have HDQ := Lib.hid ((HDS.out.below hb1q (Nat.le_refl _)).more hb1q.size)
  clear hwq hF
  refine (frame_any 0 _ 3 3 _ wq HF.out (by omega) (by simp [tot]; rw [HLT.out, HLU.out, HLV.out]; omega)).mono ?_
  rintro e w2 ⟨v2, rfl, hown2, hb2⟩
  have HR2 := Lib.hid (hown2.row (n := 13 + n2 + n3 + n4) (by rw [frameI_length]; simp [tot]; rw [HLT.out, HLU.out, HLV.out]; omega))
  obtain ⟨A6, c6, rfl, _, _⟩ := HR2.out.cut
  have hbw2 := hbq.trans (hb2.mono hzq)
  have hzw2 := hbw2.size
  have HD2 := Lib.hid ((HDQ.out.below hb2 (Nat.le_refl _)).more hb2.size)
  have HK2 := Lib.hid (HK.out.below hbw2 hk0)
  clear hown2
  go_wp2_with fail
  refine (mac_any A5 A6 k c5 (13 + n2 + n3 + n4) c6 D _ w2 HD2.out (by omega) hkc hcm5 HR2.out.seg (by omega) HK2.out).mono ?_
  rintro e w3 ⟨v3, rfl, hR3, hb3⟩
  go_wp2
  go_ret
  refine ⟨_, rfl, ?_, hbw2.trans (hb3.mono hzw2)⟩
  rw [tagI, HD.out]
  exact (Own.less hR3.own hzw2).row (macI_length _ _)
end Go.Proofs.YtcmbnldeojlhbaaDoor
