/-
  The reference's Seal and Open.
-/
import Derived.Test.YtcmbnldeojlhbaaDoorBase8
import Derived.Test.YtcmbnldeojlhbaaDoorRWr
import Derived.Test.YtcmbnldeojlhbaaDoorRRb
namespace Go.Proofs.YtcmbnldeojlhbaaDoor
open Go.RowKit

set_option maxRecDepth 100000 in
set_option maxHeartbeats 4000000 in
theorem rseal_any (A A2 A3 A4 : Option Addr) (n c n2 c2 n3 c3 n4 c4 : Nat) (key nonce ad plain : List Int) (w : World) (hs : Seg w w.heap.size .u8 A n key) (hn : n ≤ 1048576)
    (ht : Seg w w.heap.size .u8 A2 n2 nonce) (hn2 : n2 ≤ 1048576) (hc2 : n2 ≤ c2) (hm2 : c2 ≤ 9223372036854775807) (hu : Seg w w.heap.size .u8 A3 n3 ad) (hn3 : n3 ≤ 1048576) (hc3 : n3 ≤ c3) (hm3 : c3 ≤ 9223372036854775807) (hv : Seg w w.heap.size .u8 A4 n4 plain) (hn4 : n4 ≤ 1048576) :
    Calls Tryd.prog 14 #[.slice A n c, .slice A2 n2 c2, .slice A3 n3 c3, .slice A4 n4 c4] w
      fun e w' => ∃ v k, e = .returned v ∧ k ≤ 1048576 ∧ Row w' w.heap.size 5 .u8 v k (sealI key nonce ad plain) ∧ Below w.heap.size w w' := by
  obtain ⟨i0, hi, hz0, hz1, hz2⟩ := info_parts Tryd.infoU8
  have HS := Lib.hid hs
  have HT := Lib.hid ht
  have HU := Lib.hid hu
  have HV := Lib.hid hv
  have HLT := Lib.hid ht.1
  have HLV := Lib.hid hv.1
  clear hs ht hu hv
  by_cases hbad : 64 < n2 ∨ 1024 < n4
  · have hE : Hid (sealI key nonce ad plain = []) := by show _ = _; rw [sealI, if_pos (by rw [HLT.out, HLV.out]; exact hbad)]
    rcases (by omega : 64 < n2 ∨ (n2 ≤ 64 ∧ 1024 < n4)) with h1 | ⟨h1, h2⟩
    focus
      have hd : decide ((64 : Int) < n2) = true := by simp; omega
    rotate_left
    focus
      have hd : decide ((64 : Int) < n2) = false := by simp; omega
      have hd2 : decide ((1024 : Int) < n4) = true := by simp; omega
    rotate_left
    all_goals
      clear hbad
      go_enter Tryd.func14, Tryd.ntmps14
      go_wp2_with fail
      go_ret
      rw [hE.out]
      exact ⟨_, 0, rfl, by omega, nil_row _ _ _ _, Below.refl _ _⟩
  · have hd : decide ((64 : Int) < n2) = false := by simp; omega
    have hd2 : decide ((1024 : Int) < n4) = false := by simp; omega
    have h64 : n2 ≤ 64 := by omega
    have h1024 : n4 ≤ 1024 := by omega
    obtain ⟨C, HC⟩ : ∃ C, Hid (streamI key nonce plain = C) := ⟨_, rfl⟩
    have hE : Hid (sealI key nonce ad plain = blobB (blobB [] nonce) C ++ tagI key nonce ad C) := by show _ = _; rw [sealI, if_neg (by rw [HLT.out, HLV.out]; exact hbad), HC.out]
    clear hbad
    go_enter Tryd.func14, Tryd.ntmps14
    go_wp2_with fail
    refine (rstream_any A A2 A4 n c n2 c2 n4 c4 key nonce plain w HS.out hn HT.out hn2 HV.out h1024).mono ?_
    rintro e w1 ⟨v1, rfl, hR1, hb1⟩
    rw [HC.out] at hR1
    have HR1 := Lib.hid hR1
    obtain ⟨A5, c5, rfl, hc5, hm5⟩ := hR1.cut
    unfold maxLen at hm5
    have hzb1 := hb1.size
    clear hR1
    go_wp2_with fail
    refine (rblob_any none A2 0 0 n2 c2 [] nonce w1 (Seg.nil _ _ _ _) (by omega) ((HT.out.below hb1 (Nat.le_refl _)).more hzb1) (by omega) hc2 hm2).mono ?_
    rintro e w2 ⟨v2, k2, rfl, hk2, hR2, hb2⟩
    have HR2 := Lib.hid hR2
    obtain ⟨A6, c6, rfl, hc6, hm6⟩ := hR2.cut
    have hbw2 := hb1.trans (hb2.mono hzb1)
    have hzb2 := hbw2.size
    have HC2 := Lib.hid (HR1.out.below hb2)
    clear hR2
    go_wp2_with fail
    refine (rblob_any A6 A5 k2 c6 n4 c5 _ C w2 HR2.out.seg (by omega) HC2.out.seg (by omega) hc5 (by omega)).mono ?_
    rintro e w3 ⟨v3, k3, rfl, hk3, hR3, hb3⟩
    have HR3 := Lib.hid hR3
    have hbw3 := hbw2.trans (hb3.mono hzb2)
    have hzb3 := hbw3.size
    have HC3 := Lib.hid (HC2.out.below hb3)
    clear hR3
    go_wp2_with fail
    refine (rtag_any A A2 A3 A5 n c n2 c2 n3 c3 n4 c5 key nonce ad C w3 ((HS.out.below hbw3 (Nat.le_refl _)).more hzb3) hn ((HT.out.below hbw3 (Nat.le_refl _)).more hzb3) hn2 hc2 (by unfold maxLen; omega) ((HU.out.below hbw3 (Nat.le_refl _)).more hzb3) hn3 hc3 (by unfold maxLen; omega) HC3.out.seg (by omega) hc5 (by unfold maxLen; omega)).mono ?_
    rintro e w4 ⟨v4, rfl, hR4, hb4⟩
    have HR4 := Lib.hid hR4
    obtain ⟨A7, c7, rfl, _, _⟩ := hR4.cut
    have hbw4 := hbw3.trans (hb4.mono hzb3)
    have hzb4 := hbw4.size
    have hb24 := hb3.trans (hb4.mono hb3.size)
    have HR34 := Lib.hid (HR3.out.below hb4)
    have HL3 := Lib.hid HR34.out.length
    clear hR4
    go_wp2_with (at_builtin; refine wpList_app _ rfl (.tmp 25) (.tmp 30) 22 rfl w2.heap.size 5 i0 (.int .u8 0) 1 Tryd.underlying22 hi hz0 hz1 hz2 rfl .u8 v3 _ rfl HR34.out.own w4.heap.size A7 32 c7 (tagI key nonce ad C) rfl HR4.out.seg (by unfold maxLen; rw [HL3.out]; omega) (by rw [HL3.out]; omega) hb24.size ?_; intro v5 w5 hown5 hg5 hor5; have hb5 : Below w2.heap.size w2 w5 := own_below HR34.out.own hg5 hb24 hb24.size; have HR5 := Lib.hid hown5; clear hown5 hg5 hor5)
    go_ret
    rw [hE.out]
    exact ⟨_, k3 + 32, rfl, by omega, (Own.less HR5.out hzb2).row (by rw [List.length_append, HL3.out, tagI_length]), hbw2.trans (hb5.mono hzb2)⟩
end Go.Proofs.YtcmbnldeojlhbaaDoor
