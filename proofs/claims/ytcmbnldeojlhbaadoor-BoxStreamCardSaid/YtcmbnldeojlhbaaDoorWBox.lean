/-
  The program's Seal and Open.
-/
import Derived.Test.YtcmbnldeojlhbaaDoorBoxP
import Derived.Test.YtcmbnldeojlhbaaDoorWRaw
import Derived.Test.YtcmbnldeojlhbaaDoorWRb
import Derived.Test.YtcmbnldeojlhbaaDoorWBl
import Derived.Test.YtcmbnldeojlhbaaDoorMEq
import Derived.Test.YtcmbnldeojlhbaaDoorWCmb
namespace Go.Proofs.YtcmbnldeojlhbaaDoor
open Go.RowKit

theorem blob_le (xs : List Int) (p : Nat) (err m : Int) (h : 0 ≤ m) : ((blobR xs p err m).1.length : Int) ≤ m := by
  unfold blobR
  split
  · simpa using h
  · split
    · simpa using h
    · split
      · simpa using h
      · split
        · simpa using h
        · have : ((xs.drop (p + 2)).take (numI ((xs.drop p).take 2)).toNat).length ≤ (numI ((xs.drop p).take 2)).toNat := List.length_take_le _ _
          simp only
          omega
theorem inB_raw (xs : List Int) (p : Nat) (err m : Int) (h : InB xs) : InB (rawR xs p err m).1 := by
  unfold rawR
  repeat' split
  all_goals first
    | (intro x hx; cases hx; done)
    | exact fun y hy => h y (List.mem_of_mem_drop (List.mem_of_mem_take hy))

set_option maxRecDepth 100000 in
set_option maxHeartbeats 4000000 in
theorem wseal_any (A A2 A3 A4 : Option Addr) (n c n2 c2 n3 c3 n4 c4 : Nat) (key nonce ad plain : List Int) (w : World) (hs : Seg w w.heap.size .u8 A n key) (hn : n ≤ 1048576) (hc : n ≤ c) (hm : c ≤ 9223372036854775807)
    (ht : Seg w w.heap.size .u8 A2 n2 nonce) (hn2 : n2 ≤ 1048576) (hc2 : n2 ≤ c2) (hm2 : c2 ≤ 9223372036854775807) (hu : Seg w w.heap.size .u8 A3 n3 ad) (hn3 : n3 ≤ 1048576) (hc3 : n3 ≤ c3) (hm3 : c3 ≤ 9223372036854775807)
    (hv : Seg w w.heap.size .u8 A4 n4 plain) (hn4 : n4 ≤ 1048576) (_hc4 : n4 ≤ c4) (_hm4 : c4 ≤ 9223372036854775807) (hK : Tab w 0 .u32 kay256) :
    Calls Tryd.prog 13 #[.slice A n c, .slice A2 n2 c2, .slice A3 n3 c3, .slice A4 n4 c4] w
      fun e w' => ∃ B k d, e = .returned (.slice B k d) ∧ k ≤ 1048576 ∧ k ≤ d ∧ d ≤ 9223372036854775807 ∧ Seg w' w'.heap.size .u8 B k (sealI key nonce ad plain) ∧ Below w.heap.size w w' := by
  obtain ⟨i0, hi, hz0, hz1, hz2⟩ := info_parts Tryd.infoU8
  have HS := Lib.hid hs
  have HT := Lib.hid ht
  have HU := Lib.hid hu
  have HV := Lib.hid hv
  have HK := Lib.hid hK
  have hk0 := hK.lt
  have HLT := Lib.hid ht.1
  have HLV := Lib.hid hv.1
  clear hs ht hu hv hK
  by_cases hbad : 64 < n2 ∨ 1024 < n4
  · have hE : Hid (sealI key nonce ad plain = []) := by show _ = _; rw [sealI, if_pos (by rw [HLT.out, HLV.out]; exact hbad)]
    rcases (by omega : 64 < n2 ∨ (n2 ≤ 64 ∧ 1024 < n4)) with h1 | ⟨h1, h2⟩
    focus
      have hd : decide ((64 : Int) < n2) = true := by simp; omega
    rotate_left
    focus
      have hd : decide ((64 : Int) < n2) = false := by simp; omega
      have hd2 : decide ((1024 : Int) < n4) = true := by simp; omega
    rotate_left
    all_goals
      clear hbad
      go_enter Tryd.func13, Tryd.ntmps13
      go_wp2_with fail
      go_ret
      rw [hE.out]
      exact ⟨none, 0, 0, rfl, by omega, Nat.le_refl _, by omega, Seg.nil _ _ _ _, Below.refl _ _⟩
  · have hd : decide ((64 : Int) < n2) = false := by simp; omega
    have hd2 : decide ((1024 : Int) < n4) = false := by simp; omega
    have h64 : n2 ≤ 64 := by omega
    have h1024 : n4 ≤ 1024 := by omega
    obtain ⟨C, HC⟩ : ∃ C, Hid (streamI key nonce plain = C) := ⟨_, rfl⟩
    have hE : Hid (sealI key nonce ad plain = blobB (blobB [] nonce) C ++ tagI key nonce ad C) := by show _ = _; rw [sealI, if_neg (by rw [HLT.out, HLV.out]; exact hbad), HC.out]
    clear hbad
    go_enter Tryd.func13, Tryd.ntmps13
    go_wp2_with fail
    refine (wcombine_any A A2 A4 n c n2 c2 n4 c4 key nonce plain w HS.out hn hc hm HT.out hn2 HV.out h1024 HK.out).mono ?_
    rintro e w1 ⟨v1, rfl, hR1, hb1⟩
    rw [HC.out] at hR1
    have HR1 := Lib.hid hR1
    obtain ⟨A5, c5, rfl, hc5, hm5⟩ := hR1.cut
    unfold maxLen at hm5
    have hzb1 := hb1.size
    clear hR1
    go_wp2_with fail
    refine (wblob_any none A2 0 0 n2 c2 [] nonce w1 (Seg.nil _ _ _ _) (by omega) (by omega) (by omega) ((HT.out.below hb1 (Nat.le_refl _)).more hzb1) (by omega) hc2 hm2).mono ?_
    rintro e w2 ⟨v2, k2, rfl, hk2, hR2, hb2⟩
    have HR2 := Lib.hid hR2
    obtain ⟨A6, c6, rfl, hc6, hm6⟩ := hR2.cut
    unfold maxLen at hm6
    have hbw2 := hb1.trans (hb2.mono hzb1)
    have hzb2 := hbw2.size
    have HC2 := Lib.hid (HR1.out.below hb2)
    clear hR2
    go_wp2_with fail
    refine (wblob_any A6 A5 k2 c6 n4 c5 _ C w2 HR2.out.seg (by omega) hc6 hm6 HC2.out.seg (by omega) hc5 hm5).mono ?_
    rintro e w3 ⟨v3, k3, rfl, hk3, hR3, hb3⟩
    have HR3 := Lib.hid hR3
    have hbw3 := hbw2.trans (hb3.mono hzb2)
    have hzb3 := hbw3.size
    have HC3 := Lib.hid (HC2.out.below hb3)
    have HK3 := Lib.hid (HK.out.below hbw3 hk0)
    clear hR3
    go_wp2_with fail
    refine (wtag_any A A2 A3 A5 n c n2 c2 n3 c3 n4 c5 key nonce ad C w3 ((HS.out.below hbw3 (Nat.le_refl _)).more hzb3) hn hc hm ((HT.out.below hbw3 (Nat.le_refl _)).more hzb3) hn2 hc2 (by unfold maxLen; omega) ((HU.out.below hbw3 (Nat.le_refl _)).more hzb3) hn3 hc3 (by unfold maxLen; omega) HC3.out.seg (by omega) hc5 (by unfold maxLen; omega) HK3.out).mono ?_
    rintro e w4 ⟨v4, rfl, hR4, hb4⟩
    have HR4 := Lib.hid hR4
    obtain ⟨A7, c7, rfl, _, _⟩ := hR4.cut
    have hbw4 := hbw3.trans (hb4.mono hzb3)
    have hzb4 := hbw4.size
    have hb24 := hb3.trans (hb4.mono hb3.size)
    have HR34 := Lib.hid (HR3.out.below hb4)
    have HL3 := Lib.hid HR34.out.length
    clear hR4
    go_wp2_with (at_builtin; refine wpList_app _ rfl (.tmp 27) (.tmp 32) 22 rfl w2.heap.size 5 i0 (.int .u8 0) 1 Tryd.underlying22 hi hz0 hz1 hz2 rfl .u8 v3 _ rfl HR34.out.own w4.heap.size A7 32 c7 (tagI key nonce ad C) rfl HR4.out.seg (by unfold maxLen; rw [HL3.out]; omega) (by rw [HL3.out]; omega) hb24.size ?_; intro v5 w5 hown5 hg5 hor5; have hb5 : Below w2.heap.size w2 w5 := own_below HR34.out.own hg5 hb24 hb24.size; have HR5 := Lib.hid hown5; clear hown5 hg5 hor5)
    have hR5 := HR5.out.row (n := k3 + 32) (by rw [List.length_append, HL3.out, tagI_length])
    obtain ⟨A8, c8, rfl, hc8, hm8⟩ := hR5.cut
    unfold maxLen at hm8
    have HR6 := Lib.hid hR5.seg
    clear hR5
    go_wp2
    go_ret
    rw [hE.out]
    exact ⟨A8, k3 + 32, c8, rfl, by omega, hc8, hm8, HR6.out, hbw2.trans (hb5.mono hzb2)⟩

set_option maxRecDepth 100000 in
set_option maxHeartbeats 4000000 in
theorem wopen_any (A A2 A3 : Option Addr) (n c n2 c2 n3 c3 : Nat) (key ad b : List Int) (w : World) (hs : Seg w w.heap.size .u8 A n key) (hn : n ≤ 1048576) (hc : n ≤ c) (hm : c ≤ 9223372036854775807)
    (ht : Seg w w.heap.size .u8 A2 n2 ad) (hn2 : n2 ≤ 1048576) (hc2 : n2 ≤ c2) (hm2 : c2 ≤ 9223372036854775807) (hu : Seg w w.heap.size .u8 A3 n3 b) (hn3 : n3 ≤ 1048576) (_hc3 : n3 ≤ c3) (_hm3 : c3 ≤ 9223372036854775807) (hB : InB b) (hK : Tab w 0 .u32 kay256) :
    Calls Tryd.prog 15 #[.slice A n c, .slice A2 n2 c2, .slice A3 n3 c3] w
      fun e w' => ∃ B k d, e = .returned (.tuple #[.slice B k d, .int .i64 (openI key ad b).2]) ∧ k ≤ 1048576 ∧ k ≤ d ∧ d ≤ 9223372036854775807 ∧ Seg w' w'.heap.size .u8 B k (openI key ad b).1 ∧ Below w.heap.size w w' := by
  have HS := Lib.hid hs
  have HT := Lib.hid ht
  have HU := Lib.hid hu
  have HBB := Lib.hid hB
  have HL3 := Lib.hid hu.1
  have HK := Lib.hid hK
  have hk0 := hK.lt
  clear hs ht hu hB hK
  go_enter Tryd.func15, Tryd.ntmps15
  go_wp2_with fail
  refine (wnew_any A3 n3 c3 b w HU.out (by omega)).mono ?_
  rintro e w1 ⟨g, rfl, hgw, hR1, hb1⟩
  have HR1 := Lib.hid hR1
  have hzb1 := hb1.size
  have hg1 : g < w1.heap.size := hR1.lt
  clear hR1
  go_wp2_with fail
  refine (wrblob_any g 0 b 0 64 w1 HR1.out (by rw [HL3.out]; omega) HBB.out).mono ?_
  rintro e w2 ⟨A4, k2, c4, rfl, hS2, hk2, hc4, hm4, hD2, hbt2⟩
  have hl2 := blob_le b 0 0 64 (by omega)
  rw [hS2.1] at hl2
  have HP : Hid (partsB b = ((blobR b 0 0 64).1, (blobR b (blobR b 0 0 64).2.1 (blobR b 0 0 64).2.2 1024).1,
   (rawR b (blobR b (blobR b 0 0 64).2.1 (blobR b 0 0 64).2.2 1024).2.1 (blobR b (blobR b 0 0 64).2.1 (blobR b 0 0 64).2.2 1024).2.2 32).1,
   endR b (rawR b (blobR b (blobR b 0 0 64).2.1 (blobR b 0 0 64).2.2 1024).2.1 (blobR b (blobR b 0 0 64).2.1 (blobR b 0 0 64).2.2 1024).2.2 32).2.1
     (rawR b (blobR b (blobR b 0 0 64).2.1 (blobR b 0 0 64).2.2 1024).2.1 (blobR b (blobR b 0 0 64).2.1 (blobR b 0 0 64).2.2 1024).2.2 32).2.2)) := rfl
  obtain ⟨X2, HX2⟩ : ∃ X, Hid (blobR b 0 0 64 = X) := ⟨_, rfl⟩
  rw [HX2.out] at HP hS2 hD2
  have HS2 := Lib.hid hS2
  have HD2 := Lib.hid hD2
  have hzb2 := hbt2.size
  clear hS2 hD2
  go_wp2_with fail
  refine (wrblob_any g X2.2.1 b X2.2.2 1024 w2 HD2.out (by rw [HL3.out]; omega) HBB.out).mono ?_
  rintro e w3 ⟨A5, k3, c5, rfl, hS3, hk3, hc5, hm5, hD3, hbt3⟩
  have hl3 := blob_le b X2.2.1 X2.2.2 1024 (by omega)
  rw [hS3.1] at hl3
  obtain ⟨X3, HX3⟩ : ∃ X, Hid (blobR b X2.2.1 X2.2.2 1024 = X) := ⟨_, rfl⟩
  rw [HX3.out] at HP hS3 hD3
  have HS3 := Lib.hid hS3
  have HD3 := Lib.hid hD3
  have hzb3 := hbt3.size
  have HN3 := Lib.hid (HS2.out.but2 hbt3 (Nat.le_refl _))
  clear hS3 hD3
  go_wp2_with fail
  refine (wrraw_any g X3.2.1 b X3.2.2 32 w3 HD3.out (by rw [HL3.out]; omega)).mono ?_
  rintro e w4 ⟨A6, k4, c6, rfl, hS4, hk4, hc6, hm6, hD4, hbt4⟩
  have hI4 := inB_raw b X3.2.1 X3.2.2 32 HBB.out
  obtain ⟨X4, HX4⟩ : ∃ X, Hid (rawR b X3.2.1 X3.2.2 32 = X) := ⟨_, rfl⟩
  rw [HX4.out] at HP hS4 hD4 hI4
  have HI4 := Lib.hid hI4
  have HS4 := Lib.hid hS4
  have HD4 := Lib.hid hD4
  have hzb4 := hbt4.size
  have HN4 := Lib.hid (HN3.out.but2 hbt4 (Nat.le_refl _))
  have HC4 := Lib.hid (HS3.out.but2 hbt4 (Nat.le_refl _))
  clear hS4 hD4 hI4
  go_wp2_with fail
  refine (wend_any g X4.2.1 b X4.2.2 w4 HD4.out).mono ?_
  rintro e w5 ⟨rfl, rfl⟩
  have hbt : But w1 w4 g := hbt2.trans (hbt3.trans hbt4)
  have hbw5 : Below w.heap.size w w4 := below_but hb1 hbt hgw hzb1
  have hzw5 := hbw5.size
  have hg5 : g ≤ w4.heap.size := by omega
  have HN5 := Lib.hid (HN4.out.more hg5)
  have HC5 := Lib.hid (HC4.out.more hg5)
  have HT5 := Lib.hid (HS4.out.more hg5)
  have HK5 := Lib.hid (HK.out.below hbw5 hk0)
  obtain ⟨E, HE⟩ : ∃ E, Hid (endR b X4.2.1 X4.2.2 = E) := ⟨_, rfl⟩
  rw [HE.out] at HP ⊢
  by_cases hE : E ≠ 0
  · have hd : (E != 0) = true := by simpa using hE
    have HO : Hid (openI key ad b = ([], E)) := by show _ = _; rw [openI, HP.out, openBox, if_pos hE]
    clear hE
    go_wp2_with fail
    go_ret2
    rw [HO.out]
    exact ⟨none, 0, 0, rfl, by omega, Nat.le_refl _, by omega, Seg.nil _ _ _ _, hbw5⟩
  · have hE0 : E = 0 := by omega
    have hd : (E != 0) = false := by simp [hE0]
    have HO : Hid (openI key ad b = if sameB X4.1 (tagI key X2.1 ad X3.1) = false then ([], 18) else (streamI key X2.1 X3.1, 0)) := by
      show _ = _
      rw [openI, HP.out, openBox, if_neg (by simpa using hE0)]
    clear hE hE0
    have hS5 := Lib.hid ((HS.out.below hbw5 (Nat.le_refl _)).more hzw5)
    have hA5 := Lib.hid ((HT.out.below hbw5 (Nat.le_refl _)).more hzw5)
    go_wp2_with fail
    refine (wtag_any A A4 A2 A5 n c k2 c4 n2 c2 k3 c5 key X2.1 ad X3.1 w4 hS5.out hn hc hm HN5.out (by omega) hc4 hm4 hA5.out hn2 hc2 (by unfold maxLen; omega) HC5.out (by omega) hc5 hm5 HK5.out).mono ?_
    rintro e w6 ⟨v6, rfl, hR6, hb6⟩
    have HR6 := Lib.hid hR6
    obtain ⟨A7, c7, rfl, _, _⟩ := hR6.cut
    have hbw6 := hbw5.trans (hb6.mono hzw5)
    have hzw6 := hbw6.size
    have hzb6 := hb6.size
    have HT6 := Lib.hid (HT5.out.below hb6 (Nat.le_refl _))
    have HN6 := Lib.hid ((HN5.out.below hb6 (Nat.le_refl _)).more hzb6)
    have HC6 := Lib.hid ((HC5.out.below hb6 (Nat.le_refl _)).more hzb6)
    have HK6 := Lib.hid (HK.out.below hbw6 hk0)
    have HS6 := Lib.hid ((HS.out.below hbw6 (Nat.le_refl _)).more hzw6)
    clear hR6
    go_wp2_with fail
    refine (mequal_any A6 A7 k4 c6 32 c7 _ _ X4.1 _ w6 HT6.out HR6.out.seg HI4.out (inB_sha2 _)).mono ?_
    rintro e w7 ⟨rfl, rfl⟩
    by_cases hsame : sameB X4.1 (tagI key X2.1 ad X3.1) = false
    · have HO2 : Hid (openI key ad b = ([], 18)) := by show _ = _; rw [HO.out, if_pos hsame]
      rw [hsame]
      clear hsame
      go_wp2_with fail
      go_ret2
      rw [HO2.out]
      exact ⟨none, 0, 0, rfl, by omega, Nat.le_refl _, by omega, Seg.nil _ _ _ _, hbw6⟩
    · have HO2 : Hid (openI key ad b = (streamI key X2.1 X3.1, 0)) := by show _ = _; rw [HO.out, if_neg hsame]
      have hst : sameB X4.1 (tagI key X2.1 ad X3.1) = true := by simpa using hsame
      rw [hst]
      clear hsame hst
      go_wp2_with fail
      refine (wcombine_any A A4 A5 n c k2 c4 k3 c5 key X2.1 X3.1 w6 HS6.out hn hc hm HN6.out (by omega) HC6.out (by omega) HK6.out).mono ?_
      rintro e w8 ⟨v8, rfl, hR8, hb8⟩
      obtain ⟨A8, c8, rfl, hc8, hm8⟩ := hR8.cut
      have HR8 := Lib.hid hR8.seg
      unfold maxLen at hm8
      clear hR8
      go_wp2_with fail
      go_ret2
      rw [HO2.out]
      exact ⟨A8, k3, c8, rfl, by omega, hc8, hm8, HR8.out, hbw6.trans (hb8.mono hzw6)⟩
end Go.Proofs.YtcmbnldeojlhbaaDoor
