/-
  The reference's Open.
-/
import Derived.Test.YtcmbnldeojlhbaaDoorRSeal
namespace Go.Proofs.YtcmbnldeojlhbaaDoor
open Go.RowKit

/-- What Open hands back: bytes of the call's own, and an error. -/
def Opened (w w' : World) (x : List Int × Int) (e : Ending) : Prop := ∃ v k, e = .returned (.tuple #[v, .int .i64 x.2]) ∧ k ≤ 1048576 ∧ Row w' w.heap.size 5 .u8 v k x.1

theorem blobR_len (xs : List Int) (p : Nat) (err m : Int) (h : 0 ≤ m) : ((blobR xs p err m).1.length : Int) ≤ m := by
  unfold blobR
  split
  · simpa using h
  · split
    · simpa using h
    · split
      · simpa using h
      · split
        · simpa using h
        · have : ((xs.drop (p + 2)).take (numI ((xs.drop p).take 2)).toNat).length ≤ (numI ((xs.drop p).take 2)).toNat := List.length_take_le _ _
          simp only
          omega
theorem blobR_pos (xs : List Int) (p : Nat) (err m : Int) (hp : p ≤ xs.length) : (blobR xs p err m).2.1 ≤ xs.length := by
  unfold blobR
  repeat' split
  all_goals simp only
  all_goals omega
theorem rawR_pos (xs : List Int) (p : Nat) (err m : Int) (hp : p ≤ xs.length) : (rawR xs p err m).2.1 ≤ xs.length := by
  unfold rawR
  repeat' split
  all_goals simp only
  all_goals omega

set_option maxRecDepth 100000 in
set_option maxHeartbeats 4000000 in
theorem ropen_any (A A2 A3 : Option Addr) (n c n2 c2 n3 c3 : Nat) (key ad b : List Int) (w : World) (hs : Seg w w.heap.size .u8 A n key) (hn : n ≤ 1048576)
    (ht : Seg w w.heap.size .u8 A2 n2 ad) (hn2 : n2 ≤ 1048576) (hc2 : n2 ≤ c2) (hm2 : c2 ≤ 9223372036854775807) (hu : Seg w w.heap.size .u8 A3 n3 b) (hn3 : n3 ≤ 1048576) (hc3 : n3 ≤ c3) (hm3 : c3 ≤ 9223372036854775807) (hB : InB b) :
    Calls Tryd.prog 16 #[.slice A n c, .slice A2 n2 c2, .slice A3 n3 c3] w fun e w' => Opened w w' (openI key ad b) e ∧ Below w.heap.size w w' := by
  have HS := Lib.hid hs
  have HT := Lib.hid ht
  have HU := Lib.hid hu
  have HBB := Lib.hid hB
  have HL3 := Lib.hid hu.1
  clear hs ht hu hB
  go_enter Tryd.func16, Tryd.ntmps16
  go_wp2_with fail
  refine (rnew_any A3 n3 c3 w).mono ?_
  rintro e w1 ⟨rfl, hR1, hb1⟩
  have HR1 := Lib.hid hR1
  have hzb1 := hb1.size
  have hg1 : w.heap.size < w1.heap.size := hR1.lt
  have HU1 := Lib.hid (HU.out.below hb1 (Nat.le_refl _))
  obtain ⟨g, HG⟩ : ∃ g, Hid (w.heap.size = g) := ⟨_, rfl⟩
  rw [HG.out] at HR1 HU1 hg1 hzb1 ⊢
  clear hR1
  go_wp2_with fail
  refine (rrblob_any g A3 n3 c3 0 0 64 b w1 HR1.out HU1.out HBB.out (by omega) (by omega) hc3 hm3).mono ?_
  rintro e w2 ⟨v2, k2, rfl, hk2, hR2, hD2, hbt2⟩
  have hp2 : (blobR b 0 0 64).2.1 ≤ n3 := by have := blobR_pos b 0 0 64 (by omega); rw [HL3.out] at this; exact this
  have hl2 := blobR_len b 0 0 64 (by omega)
  rw [hR2.length] at hl2
  have HP : Hid (partsB b = ((blobR b 0 0 64).1, (blobR b (blobR b 0 0 64).2.1 (blobR b 0 0 64).2.2 1024).1,
   (rawR b (blobR b (blobR b 0 0 64).2.1 (blobR b 0 0 64).2.2 1024).2.1 (blobR b (blobR b 0 0 64).2.1 (blobR b 0 0 64).2.2 1024).2.2 32).1,
   endR b (rawR b (blobR b (blobR b 0 0 64).2.1 (blobR b 0 0 64).2.2 1024).2.1 (blobR b (blobR b 0 0 64).2.1 (blobR b 0 0 64).2.2 1024).2.2 32).2.1
     (rawR b (blobR b (blobR b 0 0 64).2.1 (blobR b 0 0 64).2.2 1024).2.1 (blobR b (blobR b 0 0 64).2.1 (blobR b 0 0 64).2.2 1024).2.2 32).2.2)) := rfl
  obtain ⟨X2, HX2⟩ : ∃ X, Hid (blobR b 0 0 64 = X) := ⟨_, rfl⟩
  rw [HX2.out] at HP hR2 hD2 hp2
  have HR2 := Lib.hid hR2
  have HD2 := Lib.hid hD2
  have HU2 := Lib.hid (HU1.out.but hbt2)
  have hzb2 := hbt2.size
  obtain ⟨A4, c4, rfl, hc4, hm4⟩ := hR2.cut
  clear hR2 hD2
  go_wp2_with fail
  refine (rrblob_any g A3 n3 c3 X2.2.1 X2.2.2 1024 b w2 HD2.out HU2.out HBB.out (by omega) hp2 hc3 hm3).mono ?_
  rintro e w3 ⟨v3, k3, rfl, hk3, hR3, hD3, hbt3⟩
  have hp3 : (blobR b X2.2.1 X2.2.2 1024).2.1 ≤ n3 := by have := blobR_pos b X2.2.1 X2.2.2 1024 (by rw [HL3.out]; exact hp2); rw [HL3.out] at this; exact this
  have hl3 := blobR_len b X2.2.1 X2.2.2 1024 (by omega)
  rw [hR3.length] at hl3
  obtain ⟨X3, HX3⟩ : ∃ X, Hid (blobR b X2.2.1 X2.2.2 1024 = X) := ⟨_, rfl⟩
  rw [HX3.out] at HP hR3 hD3 hp3
  have HR3 := Lib.hid hR3
  have HD3 := Lib.hid hD3
  have HU3 := Lib.hid (HU2.out.but hbt3)
  have hzb3 := hbt3.size
  have HN3 := Lib.hid (HR2.out.but hbt3 hg1)
  obtain ⟨A5, c5, rfl, hc5, hm5⟩ := hR3.cut
  clear hR3 hD3
  go_wp2_with fail
  refine (rrraw_any g A3 n3 c3 X3.2.1 X3.2.2 32 b w3 HD3.out HU3.out (by omega) hp3 hc3 hm3).mono ?_
  rintro e w4 ⟨v4, k4, rfl, hk4, hR4, hD4, hbt4⟩
  have hp4 : (rawR b X3.2.1 X3.2.2 32).2.1 ≤ n3 := by have := rawR_pos b X3.2.1 X3.2.2 32 (by rw [HL3.out]; exact hp3); rw [HL3.out] at this; exact this
  obtain ⟨X4, HX4⟩ : ∃ X, Hid (rawR b X3.2.1 X3.2.2 32 = X) := ⟨_, rfl⟩
  rw [HX4.out] at HP hR4 hD4 hp4
  have HR4 := Lib.hid hR4
  have HD4 := Lib.hid hD4
  have hzb4 := hbt4.size
  have HN4 := Lib.hid (HN3.out.but hbt4 hg1)
  have HC4 := Lib.hid (HR3.out.but hbt4 (by omega))
  obtain ⟨A6, c6, rfl, hc6, hm6⟩ := hR4.cut
  clear hR4 hD4
  go_wp2_with fail
  refine (rend_any g A3 n3 c3 X4.2.1 X4.2.2 b w4 HD4.out (by omega) hp4 HL3.out).mono ?_
  rintro e w5 ⟨rfl, q, hq⟩
  have hb5 : Below w4.heap.size w4 w5 := by rw [hq]; exact below_drewN (Below.refl _ _) q
  have hzb5 := hb5.size
  have hbt : But w1 w5 g := (hbt2.trans (hbt3.trans hbt4)).trans (but_of_below hb5 g)
  have hbw5 : Below w.heap.size w w5 := below_but hb1 hbt (by rw [HG.out]; exact Nat.le_refl _) (by rw [HG.out]; exact hzb1)
  have HN5 := Lib.hid (HN4.out.below hb5)
  have HC5 := Lib.hid (HC4.out.below hb5)
  have HT5 := Lib.hid (HR4.out.below hb5)
  obtain ⟨E, HE⟩ : ∃ E, Hid (endR b X4.2.1 X4.2.2 = E) := ⟨_, rfl⟩
  rw [HE.out] at HP ⊢
  clear hq
  have hzw5 := hbw5.size
  by_cases hE : E ≠ 0
  · have hd : (E != 0) = true := by simpa using hE
    have HO : Hid (openI key ad b = ([], E)) := by show _ = _; rw [openI, HP.out, openBox, if_pos hE]
    have HEE := Lib.hid hE
    clear hE
    go_wp2_with fail
    go_ret2
    rw [HO.out]
    exact ⟨⟨_, 0, rfl, by omega, nil_row _ _ _ _⟩, hbw5⟩
  · have hE0 : E = 0 := by omega
    have hd : (E != 0) = false := by simp [hE0]
    have HO : Hid (openI key ad b = if sameB X4.1 (tagI key X2.1 ad X3.1) = false then ([], 18) else (streamI key X2.1 X3.1, 0)) := by
      show _ = _
      rw [openI, HP.out, openBox, if_neg (by simpa using hE0)]
    clear hE hE0
    have hS5 := Lib.hid ((HS.out.below hbw5 (Nat.le_refl _)).more hzw5)
    have hA5 := Lib.hid ((HT.out.below hbw5 (Nat.le_refl _)).more hzw5)
    go_wp2_with fail
    refine (rtag_any A A4 A2 A5 n c k2 c4 n2 c2 k3 c5 key X2.1 ad X3.1 w5 hS5.out hn HN5.out.seg (by omega) hc4 hm4 hA5.out hn2 hc2 (by unfold maxLen; omega) HC5.out.seg (by omega) hc5 hm5).mono ?_
    rintro e w6 ⟨v6, rfl, hR6, hb6⟩
    have HR6 := Lib.hid hR6
    obtain ⟨A7, c7, rfl, _, _⟩ := hR6.cut
    have hbw6 := hbw5.trans (hb6.mono hzw5)
    have hzw6 := hbw6.size
    have HT6 := Lib.hid (HT5.out.below hb6)
    have HN6 := Lib.hid (HN5.out.below hb6)
    have HC6 := Lib.hid (HC5.out.below hb6)
    clear hR6
    go_wp2_with fail
    refine (same_any A6 A7 k4 c6 32 c7 X4.1 _ w6 HT6.out.seg HR6.out.seg (by omega)).mono ?_
    rintro e w7 ⟨rfl, q7, hq7⟩
    have hb7 : Below w6.heap.size w6 w7 := by rw [hq7]; exact below_drewN (Below.refl _ _) q7
    have hbw7 := hbw6.trans (hb7.mono hzw6)
    have hzw7 := hbw7.size
    have HN7 := Lib.hid (HN6.out.below hb7)
    have HC7 := Lib.hid (HC6.out.below hb7)
    have hS7 := Lib.hid ((HS.out.below hbw7 (Nat.le_refl _)).more hzw7)
    clear hq7
    by_cases hsame : sameB X4.1 (tagI key X2.1 ad X3.1) = false
    · have HO2 : Hid (openI key ad b = ([], 18)) := by show _ = _; rw [HO.out, if_pos hsame]
      rw [hsame]
      clear hsame
      go_wp2_with fail
      go_ret2
      rw [HO2.out]
      exact ⟨⟨_, 0, rfl, by omega, nil_row _ _ _ _⟩, hbw7⟩
    · have HO2 : Hid (openI key ad b = (streamI key X2.1 X3.1, 0)) := by show _ = _; rw [HO.out, if_neg hsame]
      have hst : sameB X4.1 (tagI key X2.1 ad X3.1) = true := by simpa using hsame
      rw [hst]
      clear hsame hst
      go_wp2_with fail
      refine (rstream_any A A4 A5 n c k2 c4 k3 c5 key X2.1 X3.1 w7 hS7.out hn HN7.out.seg (by omega) HC7.out.seg (by omega)).mono ?_
      rintro e w8 ⟨v8, rfl, hR8, hb8⟩
      go_wp2_with fail
      go_ret2
      rw [HO2.out]
      exact ⟨⟨_, k3, rfl, by omega, (Own.less hR8.own hzw7).row hR8.length⟩, hbw7.trans (hb8.mono hzw7)⟩
end Go.Proofs.YtcmbnldeojlhbaaDoor
