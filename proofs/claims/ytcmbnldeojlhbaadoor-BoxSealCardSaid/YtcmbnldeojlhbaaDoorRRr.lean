/-
  The reference's Reader reads bytes.
-/
import Derived.Test.YtcmbnldeojlhbaaDoorRRd
import Derived.IntWalk
namespace Go.Proofs.YtcmbnldeojlhbaaDoor
open Go.RowKit

set_option maxRecDepth 100000 in
set_option maxHeartbeats 4000000 in
theorem rrraw_any (g : Nat) (A : Option Addr) (n c p : Nat) (err m : Int) (xs : List Int) (w : World) (h : Rdr w g 58 A n c p err) (hs : Seg w g .u8 A n xs) (hn : n ≤ 1099511627776) (hp : p ≤ n) (hc : n ≤ c) (hcm : c ≤ 9223372036854775807) :
    Calls Tryd.prog 32 #[.pointer (some ⟨g, 0, none⟩), .int .i64 m] w
      fun e w' => ∃ v k, e = .returned v ∧ k ≤ n ∧ Row w' w.heap.size 5 .u8 v k (rawR xs p err m).1 ∧ Rdr w' g 58 A n c (rawR xs p err m).2.1 (rawR xs p err m).2.2 ∧ But w w' g := by
  obtain ⟨i0, hi, hz0, hz1, hz2⟩ := info_parts Tryd.infoU8
  have H := Lib.hid h
  have HS := Lib.hid hs
  have HL := Lib.hid hs.1
  have c0 := h.cell0
  have c1 := h.cell1
  have c2 := h.cell2
  have f1 := h.frozen 1
  have f2 := h.frozen 2
  have hgl := h.lt
  clear h hs
  by_cases he : err = 0
  · subst he
    by_cases hm : m < 0
    · have hU : rawR xs p 0 m = ([], p, 1) := by rw [rawR, if_neg (by omega), if_pos hm]
      rw [hU]
      clear hU
      have hd : decide (m < 0) = true := by simpa using hm
      go_enter Tryd.func32, Tryd.ntmps32
      go_wp2_with fail
      go_ret
      exact ⟨_, 0, rfl, by omega, nil_row _ _ _ _, H.out.set2 1, (but_refl w g).set_ 2 _⟩
    · have hd : decide (m < 0) = false := by simpa using hm
      by_cases hlen : (n : Int) - p < m
      · have hU : rawR xs p 0 m = ([], p, 2) := by rw [rawR, if_neg (by omega), if_neg hm, HL.out, if_pos hlen]
        rw [hU]
        have HN := Lib.hid (rneed_no g A n c p m w H.out hn hp hlen)
        clear hU hlen
        go_enter Tryd.func32, Tryd.ntmps32
        go_wp2_with (go_at_call 51; refine HN.out.mono ?_; rintro e w' ⟨rfl, hR, hB⟩)
        go_ret
        exact ⟨_, 0, rfl, by omega, nil_row _ _ _ _, hR, hB⟩
      · obtain ⟨s, rfl⟩ : ∃ s : Nat, m = s := ⟨m.toNat, by omega⟩
        have HN := Lib.hid (rneed_ok g A n c p s w H.out hn hp (by omega))
        obtain ⟨P, HP⟩ : ∃ P, Hid (p + s = P) := ⟨_, rfl⟩
        have hPn : P ≤ n := by have := HP.out; omega
        have hpP : p ≤ P := by have := HP.out; omega
        have hU : rawR xs p 0 s = ((xs.drop p).take s, P, 0) := by
          rw [rawR, if_neg (by omega), if_neg hm, HL.out, if_neg hlen, Int.toNat_natCast, HP.out]
        have hPi : (p : Int) + s = P := by have := HP.out; omega
        rw [hU]
        clear hU hm hlen
        go_enter Tryd.func32, Tryd.ntmps32
        go_wp2_with (go_at_call 51; refine HN.out.mono ?_; rintro e w' ⟨rfl, q, rfl⟩)
        generalize hw5 : World.setCell _ _ _ = w5
        have H5 : Hid (Rdr w5 g 58 A n c P 0) := by
          show Rdr _ _ _ _ _ _ _ _
          rw [← hw5]
          exact (H.out.drewN q).set1 P
        have hb5 : But w w5 g := by rw [← hw5]; exact ((but_refl w g).drewN q).set_ 1 _
        have hz5 := hb5.size
        have d0 := H5.out.cell0
        have d1 := H5.out.cell1
        have hw1 : IntKind.i64.wrap ((P : Int) - s) = (p : Int) := by rw [show (P : Int) - s = p by omega]; exact IntWalk.i64_in _ (by omega)
        have hsl := slice_lh A n c p P hpP (by omega)
        obtain ⟨A2, hA2⟩ : ∃ A2, Hid ((if c = p then A else A.map (·.add p)) = A2) := ⟨_, rfl⟩
        rw [hA2.out] at hsl
        have HSP : Hid (Seg w5 g .u8 A2 (P - p) ((xs.drop p).take s)) := by
          have h := ((HS.out.but hb5).drop (i := p) (cap := c) hp hc).take (i := P - p) (by omega)
          rw [hA2.out, show (xs.drop p).take (P - p) = (xs.drop p).take s by rw [show P - p = s by omega]] at h
          exact h
        have HO : Hid (Own ((w5.alloc (.cells #[] 5)).drew) w5.heap.size 5 .u8 (.slice (some ⟨w5.heap.size, 0, none⟩) 0 0) []) := World.ownsRow.drew (own_empty w5 5 .u8 w5.heap.size (Nat.le_refl _))
        have hba : Below w5.heap.size w5 ((w5.alloc (.cells #[] 5)).drew) := ((Below.refl _ _).alloc (Nat.le_refl _) _).drew
        have HSA := Lib.hid (HSP.out.below hba (by have := H5.out.lt; omega))
        have hkeep : ∀ W : World, Below w5.heap.size w5 W → W.cell? ⟨g, 0, none⟩ = some (.slice A n c) ∧ W.cell? ⟨g, 1, none⟩ = some (.int .i64 (P : Int)) := fun W hW =>
          ⟨(hW.cell (p := ⟨g, 0, none⟩) H5.out.lt).trans H5.out.cell0, (hW.cell (p := ⟨g, 1, none⟩) H5.out.lt).trans H5.out.cell1⟩
        have HKP := Lib.hid hkeep
        clear hkeep hw5
        go_region_held3 (fun W => W.cell? ⟨g, 0, none⟩ = some (.slice A n c) ∧ W.cell? ⟨g, 1, none⟩ = some (.int .i64 (P : Int)))
          (first
            | go_keep
            | exact HKP.out _ hba
            | exact HKP.out _ hb6)
          ((refine step_app _ (by rfl) (.tmp 36) (.tmp 51) 22 (by rfl) w5.heap.size 5 i0 (.int .u8 0) 1 Tryd.underlying22 hi hz0 hz1 hz2 (by rfl) .u8 (.slice (some ⟨w5.heap.size, 0, none⟩) 0 0) [] (by rfl) HO.out g A2 (P - p) (c - p) ((xs.drop p).take s) (by rfl) HSA.out (by unfold maxLen; simp; omega) (by simp; omega) (by simp) ?_; intro v6 w6 hown6 hg6 hor6; have hb6 : Below w5.heap.size w5 w6 := own_below (k := .u8) (xs := []) HO.out hg6 hba (by simp)))
        have hbw6 := hb5.trans (but_of_below hb6 g)
        have HR6 := Lib.hid hown6
        have H6 : Hid (Rdr w6 g 58 A n c P 0) := H5.out.below hb6 H5.out.lt
        clear hg6 hor6 hown6
        go_wp2
        go_ret
        exact ⟨_, P - p, rfl, by omega, (Own.less HR6.out hz5).row (by have := HSA.out.1; simpa using this), H6.out, hbw6⟩
  · have hd : (err == 0) = false := by simpa using he
    have hd2 : (err != 0) = true := by simpa using he
    have hU : rawR xs p err m = ([], p, err) := by rw [rawR, if_pos he]
    rw [hU]
    clear hU
    have HE := Lib.hid he
    clear he
    go_enter Tryd.func32, Tryd.ntmps32
    go_wp2_with fail
    go_ret
    exact ⟨_, 0, rfl, by omega, nil_row _ _ _ _, H.out, but_refl w g⟩
end Go.Proofs.YtcmbnldeojlhbaaDoor
