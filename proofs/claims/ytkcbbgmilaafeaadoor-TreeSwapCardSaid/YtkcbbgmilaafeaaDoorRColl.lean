/-
  The reference's comparison of digests' beginnings.
-/
import Derived.Test.YtkcbbgmilaafeaaDoorCollS
import Derived.Test.YtkcbbgmilaafeaaDoorRefC
namespace Go.Proofs.YtkcbbgmilaafeaaDoor
open Go.RowKit

set_option maxRecDepth 100000 in
set_option maxHeartbeats 2000000 in
theorem rcollide_any (A A2 : Option Addr) (n c n2 c2 : Nat) (xs ys : List Int) (m : Int) (w : World) (hs : Seg w w.heap.size .u8 A n xs) (ht : Seg w w.heap.size .u8 A2 n2 ys) (hn : n ≤ 1048576) (hn2 : n2 ≤ 1048576) :
    Calls Tryd.prog 29 #[.slice A n c, .slice A2 n2 c2, .int .i64 m] w fun e w' => e = .returned (.bool (collideI xs ys m)) ∧ Below w.heap.size w w' := by
  have HS := Lib.hid hs
  have HT := Lib.hid ht
  clear hs ht
  have hbd : Below w.heap.size w w.drew := (Below.refl _ _).drew
  by_cases hneg : m < 0
  · have HC := Lib.hid (collideI_out (xs := xs) (ys := ys) (.inl hneg))
    have hd : decide (0 ≤ m) = false := by simp; omega
    rw [HC.out]
    go_enter Tryd.func29, Tryd.ntmps29
    go_wp2_with fail
    go_quiet (fail)
    go_wp2
    go_ret
    exact ⟨rfl, below_drewN (Below.refl _ _) _⟩
  have hd0 : decide (0 ≤ m) = true := by simp; omega
  by_cases hbig : 32 < m
  · have HC := Lib.hid (collideI_out (xs := xs) (ys := ys) (.inr hbig))
    have hd : decide (m ≤ 32) = false := by simp; omega
    rw [HC.out]
    go_enter Tryd.func29, Tryd.ntmps29
    go_wp2_with fail
    go_quiet (fail)
    go_wp2
    go_ret
    exact ⟨rfl, below_drewN (Below.refl _ _) _⟩
  obtain ⟨I, rfl⟩ : ∃ I : Nat, m = I := ⟨m.toNat, by omega⟩
  have hI : I ≤ 32 := by omega
  have hd : decide ((I : Int) ≤ 32) = true := by simp; omega
  have CE : Hid (∀ W, Below w.heap.size w W → Calls Tryd.prog 12 #[.slice A n c, .slice A2 n2 c2] W fun e w' => e = .returned (.bool (sameB xs ys)) ∧ ∃ q, w' = W.drewN q) := fun W hb =>
    same_any A A2 n c n2 c2 xs ys W ((HS.out.below hb (Nat.le_refl _)).more hb.size) ((HT.out.below hb (Nat.le_refl _)).more hb.size) (by omega)
  by_cases hsame : sameB xs ys = true
  · have HC := Lib.hid (collideI_same (n := I) hsame)
    rw [HC.out]
    rw [hsame] at CE
    clear hsame
    go_enter Tryd.func29, Tryd.ntmps29
    go_wp2_with fail
    go_quiet ((go_at_call 12; refine (CE.out _ (below_drewN (Below.refl _ _) _)).mono ?_; rintro e w' ⟨rfl, q, rfl⟩; exact ⟨rfl, _, World.drewN_drewN _ _ _⟩))
    go_wp2
    go_ret
    exact ⟨rfl, below_drewN (Below.refl _ _) _⟩
  · have hdiff : sameB xs ys = false := by simpa using hsame
    have HC := Lib.hid (collideI_in hdiff hI)
    rw [HC.out]
    rw [hdiff] at CE
    clear hsame hdiff
    obtain ⟨X, HXX⟩ : ∃ X, Hid (sha256 xs = X) := ⟨_, rfl⟩
    obtain ⟨Y, HYY⟩ : ∃ Y, Hid (sha256 ys = Y) := ⟨_, rfl⟩
    have HXL : Hid (X.length = 32) := by rw [← HXX.out]; exact sha256_length xs
    have HYL : Hid (Y.length = 32) := by rw [← HYY.out]; exact sha256_length ys
    rw [HXX.out, HYY.out]
    have CX : Hid (∀ W, Below w.heap.size w W → Calls Tryd.prog 33 #[.slice A n c] W fun e w' => ∃ A' c', e = .returned (.slice A' 32 c') ∧ 32 ≤ c' ∧ Seg w' w'.heap.size .u8 A' 32 X ∧ Below W.heap.size W w') := fun W hb => by
      refine (rsum256_any A n c xs W ((HS.out.below hb (Nat.le_refl _)).more hb.size) (by omega)).mono ?_
      rintro e w' ⟨v, rfl, hown, hb'⟩
      rw [HXX.out] at hown
      obtain ⟨A', c', rfl, hc', _⟩ := Own.cut hown
      have hsg := Seg.of_own hown
      rw [HXL.out] at hsg hc' ⊢
      exact ⟨A', c', rfl, hc', hsg, hb'⟩
    have CY : Hid (∀ W, Below w.heap.size w W → Calls Tryd.prog 33 #[.slice A2 n2 c2] W fun e w' => ∃ A' c', e = .returned (.slice A' 32 c') ∧ 32 ≤ c' ∧ Seg w' w'.heap.size .u8 A' 32 Y ∧ Below W.heap.size W w') := fun W hb => by
      refine (rsum256_any A2 n2 c2 ys W ((HT.out.below hb (Nat.le_refl _)).more hb.size) (by omega)).mono ?_
      rintro e w' ⟨v, rfl, hown, hb'⟩
      rw [HYY.out] at hown
      obtain ⟨A', c', rfl, hc', _⟩ := Own.cut hown
      have hsg := Seg.of_own hown
      rw [HYL.out] at hsg hc' ⊢
      exact ⟨A', c', rfl, hc', hsg, hb'⟩
    go_enter Tryd.func29, Tryd.ntmps29
    go_wp2_with fail
    go_region_held3 (fun w' => Below w.heap.size w w')
      (first
        | exact hbd
        | exact hbw4
        | exact hbw3
        | exact hbw2
        | exact hbw1)
      ((first
        | (go_at_call 12; refine (same_any A4 A5 I c4 I c5 (X.take I) (Y.take I) w3 hsX hsY (by omega)).mono ?_; rintro e w4 ⟨rfl, q, hq⟩; have hbw4 : Below w.heap.size w w4 := (by rw [hq]; exact below_drewN hbw3 q); clear hq)
        | (go_at_call 33; refine (CY.out w2 hbw2).mono ?_; rintro e w3 ⟨A5, c5, rfl, hc5, hsg5, hb3⟩; have hbw3 := hbw2.trans (hb3.mono hbw2.size); have hsY := hsg5.take hI; have hsX := ((hsg4.below hb3 (Nat.le_refl _)).more hb3.size).take hI; have hsl5 := slice_to A5 32 c5 I (by omega))
        | (go_at_call 33; refine (CX.out w1 hbw1).mono ?_; rintro e w2 ⟨A4, c4, rfl, hc4, hsg4, hb2⟩; have hbw2 := hbw1.trans (hb2.mono hbw1.size); have hsl4 := slice_to A4 32 c4 I (by omega))
        | (go_at_call 12; refine (CE.out _ hbd).mono ?_; rintro e w1 ⟨rfl, q, hq⟩; have hbw1 : Below w.heap.size w w1 := (by rw [hq]; exact below_drewN hbd q); clear hq)))
    go_wp2
    go_ret
    exact ⟨rfl, hbw4⟩
end Go.Proofs.YtkcbbgmilaafeaaDoor
