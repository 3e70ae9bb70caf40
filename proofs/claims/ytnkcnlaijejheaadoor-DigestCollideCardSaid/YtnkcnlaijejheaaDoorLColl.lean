/-
  The walk of the statement on digests' beginnings.
-/
import Derived.Test.YtnkcnlaijejheaaDoorRColl
import Derived.Test.YtnkcnlaijejheaaDoorBytesIn
namespace Go.Proofs.YtnkcnlaijejheaaDoor
open Go.RowKit

theorem collideI_zero (xs ys : List Int) : collideI xs ys 0 = !sameB xs ys := by
  by_cases h : sameB xs ys = true
  · rw [collideI_same h, h]; rfl
  · have h' : sameB xs ys = false := by simpa using h
    rw [show (0 : Int) = ((0 : Nat) : Int) from rfl, collideI_in h' (by omega), h']
    simp [sameB]

set_option maxRecDepth 100000 in
set_option maxHeartbeats 2000000 in
theorem lawCollide (A : Option Addr) (n c : Nat) (xs : List Int) (A2 : Option Addr) (n2 c2 : Nat) (ys : List Int) (m : Int) (w : World) (hs : Seg w w.heap.size .u8 A n xs) (hc : n ≤ c) (hcm : c ≤ 9223372036854775807) (hx : InB xs)
    (ht : Seg w w.heap.size .u8 A2 n2 ys) (hc2 : n2 ≤ c2) (hcm2 : c2 ≤ 9223372036854775807) (hy : InB ys) (hK : Tab w 0 .u32 kay256) :
    Calls Tryd.prog 9 #[.slice A n c, .slice A2 n2 c2, .int .i64 m] w fun e w' => e = .returned (.bool true) ∧ Below w.heap.size w w' := by
  have HK := Lib.hid hK
  have HS := Lib.hid hs
  have HT := Lib.hid ht
  have HX := Lib.hid hx
  have HY := Lib.hid hy
  have h0 : 0 < w.heap.size := hK.lt
  clear hs ht hx hy hK
  go_enter Tryd.func9, Tryd.ntmps9
  go_wp2_with fail
  refine (awake_any w HK.out).mono ?_
  rintro e w1 ⟨rfl, hb1⟩
  by_cases hna : (100 : Int) < n
  · go_wp2_with fail
    go_ret
    exact ⟨rfl, hb1⟩
  by_cases hnb : (100 : Int) < n2
  · go_wp2_with fail
    go_ret
    exact ⟨rfl, hb1⟩
  have CP : Hid (∀ m W, Below w.heap.size w W → Calls Tryd.prog 23 #[.slice A n c, .slice A2 n2 c2, .int .i64 m] W fun e w' => e = .returned (.bool (collideI xs ys m)) ∧ Below w.heap.size w w') := fun m W hb => by
    refine (collide_any A A2 n c n2 c2 xs ys m W ((HS.out.below hb (Nat.le_refl _)).more hb.size) ((HT.out.below hb (Nat.le_refl _)).more hb.size) (by omega) (by omega) hc hcm hc2 hcm2 HX.out HY.out (HK.out.below hb h0)).mono ?_
    rintro e w' ⟨rfl, hb'⟩
    exact ⟨rfl, hb.trans (hb'.mono hb.size)⟩
  have CR : Hid (∀ m W, Below w.heap.size w W → Calls Tryd.prog 24 #[.slice A n c, .slice A2 n2 c2, .int .i64 m] W fun e w' => e = .returned (.bool (collideI xs ys m)) ∧ Below w.heap.size w w') := fun m W hb => by
    refine (rcollide_any A A2 n c n2 c2 xs ys m W ((HS.out.below hb (Nat.le_refl _)).more hb.size) ((HT.out.below hb (Nat.le_refl _)).more hb.size) (by omega) (by omega)).mono ?_
    rintro e w' ⟨rfl, hb'⟩
    exact ⟨rfl, hb.trans (hb'.mono hb.size)⟩
  have CQ : Hid (∀ W, Below w.heap.size w W → Calls Tryd.prog 23 #[.slice A n c, .slice A n c, .int .i64 4] W fun e w' => e = .returned (.bool false) ∧ Below w.heap.size w w') := fun W hb => by
    have h := (collide_any A A n c n c xs xs 4 W ((HS.out.below hb (Nat.le_refl _)).more hb.size) ((HS.out.below hb (Nat.le_refl _)).more hb.size) (by omega) (by omega) hc hcm hc hcm HX.out HX.out (HK.out.below hb h0))
    rw [collideI_same (sameB_self xs)] at h
    refine h.mono ?_
    rintro e w' ⟨rfl, hb'⟩
    exact ⟨rfl, hb.trans (hb'.mono hb.size)⟩
  have CE : Hid (∀ W, Below w.heap.size w W → Calls Tryd.prog 11 #[.slice A n c, .slice A2 n2 c2] W fun e w' => e = .returned (.bool (sameB xs ys)) ∧ Below w.heap.size w w') := fun W hb => by
    refine (same_any A A2 n c n2 c2 xs ys W ((HS.out.below hb (Nat.le_refl _)).more hb.size) ((HT.out.below hb (Nat.le_refl _)).more hb.size) (by omega)).mono ?_
    rintro e w' ⟨rfl, q, rfl⟩
    exact ⟨rfl, below_drewN hb q⟩
  have hv0 := collideI_zero xs ys
  have hv33 := collideI_out (xs := xs) (ys := ys) (n := 33) (.inr (by omega))
  have hvn := collideI_out (xs := xs) (ys := ys) (n := -1) (.inl (by omega))
  have C0 := Lib.hid (CP.out 0)
  have C33 := Lib.hid (CP.out 33)
  have CN := Lib.hid (CP.out (-1))
  have C1 := Lib.hid (CP.out 1)
  have R1 := Lib.hid (CR.out 1)
  have CM := Lib.hid (CP.out m)
  have RM := Lib.hid (CR.out m)
  rw [hv0] at C0
  rw [hv33] at C33
  rw [hvn] at CN
  clear hv0 hv33 hvn CP CR
  obtain ⟨s, hsv⟩ : ∃ s, sameB xs ys = s := ⟨_, rfl⟩
  obtain ⟨d, hdv⟩ : ∃ d, collideI xs ys m = d := ⟨_, rfl⟩
  obtain ⟨d1, hdv1⟩ : ∃ d, collideI xs ys 1 = d := ⟨_, rfl⟩
  rw [hsv] at CE C0
  rw [hdv] at CM RM
  rw [hdv1] at C1 R1
  clear hsv hdv hdv1
  go_wp2_with fail
  refine (CE.out _ hb1).mono ?_
  rintro e w2 ⟨rfl, hb2⟩
  go_wp2_with fail
  refine (CM.out _ hb2).mono ?_
  rintro e w3 ⟨rfl, hb3⟩
  go_wp2_with fail
  refine (RM.out _ hb3).mono ?_
  rintro e w4 ⟨rfl, hb4⟩
  go_wp2_with fail
  refine (C0.out _ hb4).mono ?_
  rintro e w5 ⟨rfl, hb5⟩
  go_wp2_with fail
  refine (C1.out _ hb5).mono ?_
  rintro e w6 ⟨rfl, hb6⟩
  go_wp2_with fail
  refine (R1.out _ hb6).mono ?_
  rintro e w7 ⟨rfl, hb7⟩
  go_wp2_with fail
  refine (CQ.out _ hb7).mono ?_
  rintro e w8 ⟨rfl, hb8⟩
  go_wp2_with fail
  refine (C33.out _ hb8).mono ?_
  rintro e w9 ⟨rfl, hb9⟩
  go_wp2_with fail
  refine (CN.out _ hb9).mono ?_
  rintro e w10 ⟨rfl, hb10⟩
  go_wp2_with fail
  go_ret
  exact ⟨rfl, hb10⟩
end Go.Proofs.YtnkcnlaijejheaaDoor
