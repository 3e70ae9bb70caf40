/-
  The program's comparison of digests' beginnings.
-/
import Derived.Test.YtnkcnlaijejheaaDoorEqual
namespace Go.Proofs.YtnkcnlaijejheaaDoor
open Go.RowKit

set_option maxRecDepth 100000 in
set_option maxHeartbeats 2000000 in
theorem collide_any (A A2 : Option Addr) (n c n2 c2 : Nat) (xs ys : List Int) (m : Int) (w : World) (hs : Seg w w.heap.size .u8 A n xs) (ht : Seg w w.heap.size .u8 A2 n2 ys) (hn : n ≤ 1048576) (hn2 : n2 ≤ 1048576)
    (hc : n ≤ c) (hcm : c ≤ 9223372036854775807) (hc2 : n2 ≤ c2) (hcm2 : c2 ≤ 9223372036854775807) (hx : InB xs) (hy : InB ys) (hK : Tab w 0 .u32 kay256) :
    Calls Tryd.prog 23 #[.slice A n c, .slice A2 n2 c2, .int .i64 m] w fun e w' => e = .returned (.bool (collideI xs ys m)) ∧ Below w.heap.size w w' := by
  have HK := Lib.hid hK
  have HS := Lib.hid hs
  have HT := Lib.hid ht
  have HX := Lib.hid hx
  have HY := Lib.hid hy
  have h0 : 0 < w.heap.size := hK.lt
  have CS : Hid (∀ W, Calls Tryd.prog 16 #[.int .i64 1] W fun e w' => e = .returned (.int .i64 32) ∧ W = w') := fun W => size_any 1 W
  clear hs ht hx hy hK
  by_cases hneg : m < 0
  · have HC := Lib.hid (collideI_out (xs := xs) (ys := ys) (.inl hneg))
    rw [HC.out]
    go_enter Tryd.func23, Tryd.ntmps23
    go_wp2_with fail
    go_ret
    exact ⟨rfl, Below.refl _ _⟩
  by_cases hbig : 32 < m
  · have HC := Lib.hid (collideI_out (xs := xs) (ys := ys) (.inr hbig))
    rw [HC.out]
    go_enter Tryd.func23, Tryd.ntmps23
    go_wp2_with (go_at_call 16; refine (CS.out _).mono ?_; rintro e w' ⟨rfl, rfl⟩)
    go_ret
    exact ⟨rfl, Below.refl _ _⟩
  obtain ⟨I, rfl⟩ : ∃ I : Nat, m = I := ⟨m.toNat, by omega⟩
  have hI : I ≤ 32 := by omega
  by_cases hsame : sameB xs ys = true
  · have HC := Lib.hid (collideI_same (n := I) hsame)
    rw [HC.out]
    have CE := Lib.hid (equal_any A A2 n c n2 c2 _ _ xs ys w HS.out HT.out HX.out HY.out)
    rw [hsame] at CE
    clear hsame
    go_enter Tryd.func23, Tryd.ntmps23
    go_wp2_with (first
      | (go_at_call 16; refine (CS.out _).mono ?_; rintro e w' ⟨rfl, rfl⟩)
      | (go_at_call 34; refine CE.out.mono ?_; rintro e w' ⟨rfl, rfl⟩))
    go_ret
    exact ⟨rfl, Below.refl _ _⟩
  · have hdiff : sameB xs ys = false := by simpa using hsame
    have HC := Lib.hid (collideI_in hdiff hI)
    rw [HC.out]
    have CE := Lib.hid (equal_any A A2 n c n2 c2 _ _ xs ys w HS.out HT.out HX.out HY.out)
    rw [hdiff] at CE
    clear hsame hdiff
    obtain ⟨X, HXX⟩ : ∃ X, Hid (sha256 xs = X) := ⟨_, rfl⟩
    obtain ⟨Y, HYY⟩ : ∃ Y, Hid (sha256 ys = Y) := ⟨_, rfl⟩
    have HXL : Hid (X.length = 32) := by rw [← HXX.out]; exact sha256_length xs
    have HYL : Hid (Y.length = 32) := by rw [← HYY.out]; exact sha256_length ys
    have HXB : Hid (InB X) := by rw [← HXX.out]; exact inB_bytesI _
    have HYB : Hid (InB Y) := by rw [← HYY.out]; exact inB_bytesI _
    rw [HXX.out, HYY.out]
    have CX : Hid (∀ W, Below w.heap.size w W → Calls Tryd.prog 12 #[.int .i64 1, .slice A n c] W fun e w' => ∃ A' c', e = .returned (.slice A' 32 c') ∧ 32 ≤ c' ∧ Seg w' w'.heap.size .u8 A' 32 X ∧ Below W.heap.size W w') := fun W hb => by
      refine (sum_any 1 A n c xs W ((HS.out.below hb (Nat.le_refl _)).more hb.size) (by omega) hc hcm (HK.out.below hb h0)).mono ?_
      rintro e w' ⟨v, rfl, hown, hb'⟩
      rw [show digestI 1 xs = sha256 xs from rfl, HXX.out] at hown
      obtain ⟨A', c', rfl, hc', _⟩ := Own.cut hown
      have hsg := Seg.of_own hown
      rw [HXL.out] at hsg hc' ⊢
      exact ⟨A', c', rfl, hc', hsg, hb'⟩
    have CY : Hid (∀ W, Below w.heap.size w W → Calls Tryd.prog 12 #[.int .i64 1, .slice A2 n2 c2] W fun e w' => ∃ A' c', e = .returned (.slice A' 32 c') ∧ 32 ≤ c' ∧ Seg w' w'.heap.size .u8 A' 32 Y ∧ Below W.heap.size W w') := fun W hb => by
      refine (sum_any 1 A2 n2 c2 ys W ((HT.out.below hb (Nat.le_refl _)).more hb.size) (by omega) hc2 hcm2 (HK.out.below hb h0)).mono ?_
      rintro e w' ⟨v, rfl, hown, hb'⟩
      rw [show digestI 1 ys = sha256 ys from rfl, HYY.out] at hown
      obtain ⟨A', c', rfl, hc', _⟩ := Own.cut hown
      have hsg := Seg.of_own hown
      rw [HYL.out] at hsg hc' ⊢
      exact ⟨A', c', rfl, hc', hsg, hb'⟩
    have hbd : Below w.heap.size w w.drew := (Below.refl _ _).drew
    go_enter Tryd.func23, Tryd.ntmps23
    go_wp2_with (first
      | (go_at_call 16; refine (CS.out _).mono ?_; rintro e w' ⟨rfl, rfl⟩)
      | (go_at_call 34; refine CE.out.mono ?_; rintro e w' ⟨rfl, rfl⟩))
    go_region_held3 (fun w' => Below w.heap.size w w')
      (first
        | exact hbd
        | exact hbw3
        | exact hbw2)
      ((first
        | (go_at_call 34; refine (equal_any A4 A5 I c4 I c5 _ _ (X.take I) (Y.take I) w3 hsX hsY (HXB.out.take I) (HYB.out.take I)).mono ?_; rintro e w' ⟨rfl, rfl⟩)
        | (go_at_call 12; refine (CY.out w2 hbw2).mono ?_; rintro e w3 ⟨A5, c5, rfl, hc5, hsg5, hb3⟩; have hbw3 := hbw2.trans (hb3.mono hbw2.size); have hsY := hsg5.take hI; have hsX := ((hsg4.below hb3 (Nat.le_refl _)).more hb3.size).take hI; have hsl5 := slice_to A5 32 c5 I (by omega))
        | (go_at_call 12; refine (CX.out _ hbd).mono ?_; rintro e w2 ⟨A4, c4, rfl, hc4, hsg4, hb2⟩; have hbw2 := hbd.trans (hb2.mono hbd.size); have hsl4 := slice_to A4 32 c4 I (by omega))))
    go_wp2
    go_ret
    exact ⟨rfl, hbw3⟩
end Go.Proofs.YtnkcnlaijejheaaDoor
