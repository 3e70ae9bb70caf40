/-
  The reference's Reader reads a blob.
-/
import Derived.Test.YtcmbnldeojlhbaaDoorRRr
namespace Go.Proofs.YtcmbnldeojlhbaaDoor
open Go.RowKit

set_option maxRecDepth 100000 in
set_option maxHeartbeats 4000000 in
theorem rrblob_any (g : Nat) (A : Option Addr) (n c p : Nat) (err m : Int) (xs : List Int) (w : World) (h : Rdr w g 58 A n c p err) (hs : Seg w g .u8 A n xs) (hx : InB xs) (hn : n ≤ 1099511627776) (hp : p ≤ n) (hc : n ≤ c) (hcm : c ≤ 9223372036854775807) :
    Calls Tryd.prog 31 #[.pointer (some ⟨g, 0, none⟩), .int .i64 m] w
      fun e w' => ∃ v k, e = .returned v ∧ k ≤ n ∧ Row w' w.heap.size 5 .u8 v k (blobR xs p err m).1 ∧ Rdr w' g 58 A n c (blobR xs p err m).2.1 (blobR xs p err m).2.2 ∧ But w w' g := by
  obtain ⟨i0, hi, hz0, hz1, hz2⟩ := info_parts Tryd.infoU8
  have H := Lib.hid h
  have HS := Lib.hid hs
  have HX := Lib.hid hx
  have HL := Lib.hid hs.1
  have c0 := h.cell0
  have c1 := h.cell1
  have c2 := h.cell2
  have f1 := h.frozen 1
  have f2 := h.frozen 2
  clear h hs hx
  by_cases he : err = 0
  · subst he
    by_cases hlen : (n : Int) - p < 2
    · have hU : blobR xs p 0 m = ([], p, 2) := by rw [blobR, if_neg (by omega), HL.out, if_pos hlen]
      rw [hU]
      have HN := Lib.hid (rneed_no g A n c p 2 w H.out hn hp hlen)
      clear hU hlen
      go_enter Tryd.func31, Tryd.ntmps31
      go_wp2_with (go_at_call 51; refine HN.out.mono ?_; rintro e w' ⟨rfl, hR, hB⟩)
      go_ret
      exact ⟨_, 0, rfl, by omega, nil_row _ _ _ _, hR, hB⟩
    · have HN := Lib.hid (rneed_ok g A n c p 2 w H.out hn hp (by omega))
      obtain ⟨b, off, hA, hbg, hcell⟩ := HS.out.2 (by omega)
      have hp2 : p + 2 ≤ n := by omega
      have hq0 := hcell p (by omega)
      have hq1 := hcell (p + 1) (by omega)
      have hb0 := inB_getD HX.out p (by rw [HL.out]; omega)
      have hb1 := inB_getD HX.out (p + 1) (by rw [HL.out]; omega)
      have HNUM := Lib.hid (num2 xs p (by rw [HL.out]; omega))
      obtain ⟨x0, hx0⟩ : ∃ x, Hid (xs.getD p 0 = x) := ⟨_, rfl⟩
      obtain ⟨x1, hx1⟩ : ∃ x, Hid (xs.getD (p + 1) 0 = x) := ⟨_, rfl⟩
      rw [hx0.out] at hq0 hb0 HNUM
      rw [hx1.out] at hq1 hb1 HNUM
      obtain ⟨L, HLL⟩ : ∃ L : Nat, Hid (((L : Nat) : Int) = x0 * 256 + x1) := ⟨(x0 * 256 + x1).toNat, by show _ = _; omega⟩
      have HJ := Lib.hid (join8i x0 x1 hb0.1 hb0.2 hb1.1 hb1.2)
      have hLb : L < 65536 := by have := HLL.out; omega
      rw [← HLL.out] at HJ HNUM
      have HU := Lib.hid (show blobR xs p 0 m = if m < (L : Int) then ([], p, 4) else if (n : Int) - p < 2 + (L : Int) then ([], p, 2) else ((xs.drop (p + 2)).take L, p + 2 + L, 0) by
        rw [blobR, if_neg (by omega), HL.out, if_neg hlen, HNUM.out, Int.toNat_natCast])
      obtain ⟨hb00, hb01⟩ := hb0
      obtain ⟨hb10, hb11⟩ := hb1
      have w1 : IntKind.i64.wrap ((p : Int) + 1) = (p : Int) + 1 := IntWalk.i64_in _ (by omega)
      have w2 : ((p : Int) + 1).toNat = p + 1 := by omega
      have w3 : (0 : Int) ≤ (p : Int) + 1 := by omega
      have w4 : (p : Int) + 1 < n := by omega
      have w5 : (p : Int) < n := by omega
      have w6 : (0 : Int) ≤ (p : Int) := by omega
      have HA := Lib.hid hA
      rw [hA] at c0
      clear hcell hlen hA
      go_enter Tryd.func31, Tryd.ntmps31
      go_wp2_with (go_at_call 51; refine HN.out.mono ?_; rintro e w' ⟨rfl, q, rfl⟩)
      go_quiet (fail)
      rw [HJ.out]
      rw [← HA.out]
      generalize hwq : World.drewN _ _ = wq
      have HWQ : Hid (Rdr wq g 58 A n c p 0) := by
        show Rdr _ _ _ _ _ _ _ _
        rw [← hwq]
        exact (H.out.drewN q).drewN _
      have hbq : But w wq g := by rw [← hwq]; exact ((but_refl w g).drewN q).drewN _
      have g0 := HWQ.out.cell0
      have g1 := HWQ.out.cell1
      have g2 := HWQ.out.cell2
      have k1 := HWQ.out.frozen 1
      have k2 := HWQ.out.frozen 2
      clear hwq c0 c1 c2 f1 f2 hq0 hq1 w1 w2 w3 w4 w5 w6 HA hbg HN
      by_cases hmost : m < (L : Int)
      · have hd : decide (m < (L : Int)) = true := by simpa using hmost
        have HU2 : Hid (blobR xs p 0 m = ([], p, 4)) := by show _ = _; rw [HU.out, if_pos hmost]
        go_wp2_with fail
        go_ret
        rw [HU2.out]
        exact ⟨_, 0, rfl, by omega, nil_row _ _ _ _, HWQ.out.set2 4, hbq.set_ 2 _⟩
      have hd : decide (m < (L : Int)) = false := by simpa using hmost
      by_cases hlen : (n : Int) - p < 2 + (L : Int)
      · have HU2 : Hid (blobR xs p 0 m = ([], p, 2)) := by show _ = _; rw [HU.out, if_neg hmost, if_pos hlen]
        have HN := Lib.hid (rneed_no g A n c p (2 + (L : Int)) wq HWQ.out hn hp hlen)
        clear hlen hmost
        go_wp2_with (go_at_call 51; refine HN.out.mono ?_; rintro e w' ⟨rfl, hR, hB⟩)
        go_ret
        rw [HU2.out]
        exact ⟨_, 0, rfl, by omega, nil_row _ _ _ _, hR, hbq.trans hB⟩
      obtain ⟨P, HP⟩ : ∃ P, Hid (p + 2 + L = P) := ⟨_, rfl⟩
      have HU2 : Hid (blobR xs p 0 m = ((xs.drop (p + 2)).take L, P, 0)) := by show _ = _; rw [HU.out, if_neg hmost, if_neg hlen, HP.out]
      have HN := Lib.hid (rneed_ok g A n c p (2 + (L : Int)) wq HWQ.out hn hp (by omega))
      have hPn : P ≤ n := by have := HP.out; omega
      have hpP : p + 2 ≤ P := by have := HP.out; omega
      have hPi : (p : Int) + (2 + (L : Int)) = P := by have := HP.out; omega
      clear hlen hmost
      go_wp2_with (go_at_call 51; refine HN.out.mono ?_; rintro e w' ⟨rfl, q2, rfl⟩)
      generalize hw5 : World.setCell _ _ _ = w5
      have H5 : Hid (Rdr w5 g 58 A n c P 0) := by
        show Rdr _ _ _ _ _ _ _ _
        rw [← hw5]
        exact (HWQ.out.drewN q2).set1 P
      have hb5 : But w w5 g := by rw [← hw5]; exact (hbq.drewN q2).set_ 1 _
      have hz5 := hb5.size
      have d0 := H5.out.cell0
      have d1 := H5.out.cell1
      obtain ⟨p2, HP2⟩ : ∃ p2, Hid (p + 2 = p2) := ⟨_, rfl⟩
      have hp22 : p2 = p + 2 := HP2.out.symm
      have hp2P : p2 ≤ P := by omega
      have hPL : (P : Int) - L = p2 := by omega
      have hPN : P - p2 = L := by omega
      have hp2n : p2 ≤ n := by omega
      rw [HP2.out] at HU2
      have HPL := Lib.hid hPL
      have HPN := Lib.hid hPN
      clear hp22 hPL hPN
      have hw1 : IntKind.i64.wrap ((P : Int) - L) = (p2 : Int) := by rw [HPL.out]; exact IntWalk.i64_in _ (by omega)
      have hsl := slice_lh A n c p2 P hp2P (by omega)
      obtain ⟨A2, hA2⟩ : ∃ A2, Hid ((if c = p2 then A else A.map (·.add p2)) = A2) := ⟨_, rfl⟩
      rw [hA2.out] at hsl
      have HSP : Hid (Seg w5 g .u8 A2 (P - p2) ((xs.drop p2).take L)) := by
        have h := ((HS.out.but hb5).drop (i := p2) (cap := c) (by omega) hc).take (i := P - p2) (by omega)
        rw [hA2.out, show (xs.drop p2).take (P - p2) = (xs.drop p2).take L by rw [HPN.out]] at h
        exact h
      have HO : Hid (Own ((w5.alloc (.cells #[] 5)).drew) w5.heap.size 5 .u8 (.slice (some ⟨w5.heap.size, 0, none⟩) 0 0) []) := World.ownsRow.drew (own_empty w5 5 .u8 w5.heap.size (Nat.le_refl _))
      have hba : Below w5.heap.size w5 ((w5.alloc (.cells #[] 5)).drew) := ((Below.refl _ _).alloc (Nat.le_refl _) _).drew
      have HSA := Lib.hid (HSP.out.below hba (by have := H5.out.lt; omega))
      have hkeep : ∀ W : World, Below w5.heap.size w5 W → W.cell? ⟨g, 0, none⟩ = some (.slice A n c) ∧ W.cell? ⟨g, 1, none⟩ = some (.int .i64 (P : Int)) := fun W hW =>
        ⟨(hW.cell (p := ⟨g, 0, none⟩) H5.out.lt).trans H5.out.cell0, (hW.cell (p := ⟨g, 1, none⟩) H5.out.lt).trans H5.out.cell1⟩
      have HKP := Lib.hid hkeep
      clear hkeep hw5
      go_region_held3 (fun W => W.cell? ⟨g, 0, none⟩ = some (.slice A n c) ∧ W.cell? ⟨g, 1, none⟩ = some (.int .i64 (P : Int)))
        (first
          | go_keep
          | exact HKP.out _ hba
          | exact HKP.out _ hb6)
        ((refine step_app _ (by rfl) (.tmp 61) (.tmp 76) 22 (by rfl) w5.heap.size 5 i0 (.int .u8 0) 1 Tryd.underlying22 hi hz0 hz1 hz2 (by rfl) .u8 (.slice (some ⟨w5.heap.size, 0, none⟩) 0 0) [] (by rfl) HO.out g A2 (P - p2) (c - p2) ((xs.drop p2).take L) (by rfl) HSA.out (by unfold maxLen; simp; omega) (by simp; omega) (by simp) ?_; intro v6 w6 hown6 hg6 hor6; have hb6 : Below w5.heap.size w5 w6 := own_below (k := .u8) (xs := []) HO.out hg6 hba (by simp)))
      have hbw6 := hb5.trans (but_of_below hb6 g)
      have HR6 := Lib.hid hown6
      have H6 : Hid (Rdr w6 g 58 A n c P 0) := H5.out.below hb6 H5.out.lt
      clear hg6 hor6 hown6
      go_wp2
      go_ret
      rw [HU2.out]
      exact ⟨_, P - p2, rfl, by omega, (Own.less HR6.out hz5).row (by have := HSA.out.1; simpa using this), H6.out, hbw6⟩
  · have hd : (err == 0) = false := by simpa using he
    have hd2 : (err != 0) = true := by simpa using he
    have hU : blobR xs p err m = ([], p, err) := by rw [blobR, if_pos he]
    rw [hU]
    clear hU
    have HE := Lib.hid he
    clear he
    go_enter Tryd.func31, Tryd.ntmps31
    go_wp2_with fail
    go_ret
    exact ⟨_, 0, rfl, by omega, nil_row _ _ _ _, H.out, but_refl w g⟩
end Go.Proofs.YtcmbnldeojlhbaaDoor
