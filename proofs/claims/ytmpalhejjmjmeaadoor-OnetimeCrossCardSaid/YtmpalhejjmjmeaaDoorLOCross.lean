/-
  The walk of the statement that each of two messages with different digits has a digit above the other's.
-/
import Derived.Test.YtmpalhejjmjmeaaDoorBase9
import Derived.Test.YtmpalhejjmjmeaaDoorBase7
namespace Go.Proofs.YtmpalhejjmjmeaaDoor
open Go.RowKit

/-- Does one of the first k numbers of X lie above that of Y? -/
def someGt (X Y : List Int) : Nat → Bool
  | 0 => false
  | k + 1 => someGt X Y k || decide (Y.getD k 0 < X.getD k 0)
theorem someGt_false (X Y : List Int) (k : Nat) : someGt X Y k = false ↔ ∀ j, j < k → X.getD j 0 ≤ Y.getD j 0 := by
  induction k with
  | zero => simp [someGt]
  | succ k ih =>
    rw [someGt, Bool.or_eq_false_iff, ih, decide_eq_false_iff_not]
    constructor
    · rintro ⟨h1, h2⟩ j hj
      rcases (by omega : j < k ∨ j = k) with h | rfl
      · exact h1 j h
      · omega
    · intro h
      exact ⟨fun j hj => h j (by omega), by have := h k (by omega); omega⟩
theorem digits_eq (a b : List Int) (h : ∀ j, j < 35 → (digitsI a).getD j 0 = (digitsI b).getD j 0) : digitsI a = digitsI b := by
  apply List.ext_getElem (by rw [digitsI_length, digitsI_length])
  intro j h1 h2
  have := h j (by rw [digitsI_length] at h1; exact h1)
  simpa [List.getD, h1, h2] using this
theorem cross_said (a b : List Int) : someGt (digitsI a) (digitsI b) 35 = someGt (digitsI b) (digitsI a) 35 ∧ (someGt (digitsI a) (digitsI b) 35 != sameB (digitsI a) (digitsI b)) = true := by
  cases h1 : someGt (digitsI a) (digitsI b) 35 with
  | false =>
    have h := digits_cross b a ((someGt_false _ _ _).1 h1)
    have e := digits_eq b a h
    have h2 : someGt (digitsI b) (digitsI a) 35 = false := (someGt_false _ _ _).2 fun j hj => by rw [e]; omega
    exact ⟨h2.symm, by rw [e, sameB_self]; rfl⟩
  | true =>
    have h2 : someGt (digitsI b) (digitsI a) 35 = true := by
      cases h2 : someGt (digitsI b) (digitsI a) 35 with
      | true => rfl
      | false =>
        have h := digits_cross a b ((someGt_false _ _ _).1 h2)
        have : someGt (digitsI a) (digitsI b) 35 = false := (someGt_false _ _ _).2 fun j hj => by have := h j hj; omega
        rw [this] at h1
        cases h1
    refine ⟨h2.symm, ?_⟩
    have h3 : sameB (digitsI a) (digitsI b) = false := by
      simp only [sameB, decide_eq_false_iff_not]
      intro e
      have : someGt (digitsI a) (digitsI b) 35 = false := (someGt_false _ _ _).2 fun j hj => by rw [e]; omega
      rw [this] at h1
      cases h1
    rw [h3]
    rfl

set_option maxRecDepth 100000 in
set_option maxHeartbeats 4000000 in
theorem lawOnetimeCross (A : Option Addr) (n c : Nat) (xs : List Int) (A2 : Option Addr) (n2 c2 : Nat) (ys : List Int) (w : World)
    (hs : Seg w w.heap.size .u8 A n xs) (hc : n ≤ c) (hm : c ≤ 9223372036854775807) (hs2 : Seg w w.heap.size .u8 A2 n2 ys) (hc2 : n2 ≤ c2) (hm2 : c2 ≤ 9223372036854775807) (hK : Tab w 0 .u32 kay256) :
    Calls Tryd.prog 9 #[.slice A n c, .slice A2 n2 c2] w fun e w' => e = .returned (.bool true) ∧ Below w.heap.size w w' := by
  have HS := Lib.hid hs
  have HS2 := Lib.hid hs2
  have HK := Lib.hid hK
  have hw0 := hK.lt
  clear hs hs2 hK
  go_enter Tryd.func9, Tryd.ntmps9
  go_wp2_with fail
  refine (awake5_any w HK.out).mono ?_
  rintro e w1 ⟨rfl, hb1⟩
  have hz1 := hb1.size
  have hshort : decide (n ≤ 100 ∧ n2 ≤ 100) = true ∨ decide (n ≤ 100 ∧ n2 ≤ 100) = false := by cases h : decide (n ≤ 100 ∧ n2 ≤ 100) <;> simp
  rcases hshort with hsh | hsh
  rotate_left
  · have HSH := Lib.hid hsh
    clear hsh
    go_wp2_with fail
    refine (short_any A A2 n c n2 c2 w1 _ HSH.out).mono ?_
    rintro e w2 ⟨rfl, rfl⟩
    go_wp2_with fail
    go_ret
    exact ⟨rfl, hb1⟩
  have hbd : n ≤ 100 ∧ n2 ≤ 100 := by simpa using hsh
  obtain ⟨hl1, hl2⟩ := hbd
  have HSH := Lib.hid hsh
  clear hsh
  go_wp2_with fail
  refine (short_any A A2 n c n2 c2 w1 _ HSH.out).mono ?_
  rintro e w2 ⟨rfl, rfl⟩
  go_wp2_with fail
  refine (wdigits_any A n c xs w1 (HS.out.up hb1) (by omega) hc hm (HK.out.below hb1 hw0)).mono ?_
  rintro e w2 ⟨B2, d2, rfl, hd2, hdm2, hS2, hb2⟩
  have HX := Lib.hid hS2
  have hbw2 := hb1.trans (hb2.mono hz1)
  have hz2 := hbw2.size
  clear hS2
  go_wp2_with fail
  refine (wdigits_any A2 n2 c2 ys w2 (HS2.out.up hbw2) (by omega) hc2 hm2 (HK.out.below hbw2 hw0)).mono ?_
  rintro e w3 ⟨B3, d3, rfl, hd3, hdm3, hS3, hb3⟩
  have HY := Lib.hid hS3
  have HX3 := Lib.hid (HX.out.up hb3)
  have hbw3 := hbw2.trans (hb3.mono hz2)
  have hz3 := hbw3.size
  clear hS3 HX HS HS2 HSH hb2 hb3 hb1
  obtain ⟨X, HEX⟩ : ∃ X, Hid (digitsI xs = X) := ⟨_, rfl⟩
  obtain ⟨Y, HEY⟩ : ∃ Y, Hid (digitsI ys = Y) := ⟨_, rfl⟩
  rw [HEX.out] at HX3
  rw [HEY.out] at HY
  obtain ⟨b, off, rfl, _, hc1⟩ := HX3.out.2 (by omega)
  obtain ⟨b2, off2, rfl, _, hc2'⟩ := HY.out.2 (by omega)
  have HC1 := Lib.hid hc1
  have HC2 := Lib.hid hc2'
  clear hc1 hc2'
  go_wp2_with fail
  go_loopw [7, 8, 9] (fun ab be i wr => ∃ k : Nat, k ≤ 35 ∧ ab = .bool (someGt X Y k) ∧ be = .bool (someGt Y X k) ∧ i = .int .i64 k ∧ ∃ q, wr = w3.drewN q) (fun _ _ i _ => 35 - (intOf i).toNat)
  case atStart => exact ⟨0, by omega, rfl, rfl, rfl, 0, rfl⟩
  case round =>
    obtain ⟨k, hk, rfl, rfl, rfl, q, rfl⟩ := hrel
    by_cases hlt : k < 35
    · have hd : decide ((k : Int) < 35) = true := by simp; omega
      obtain ⟨x, hx⟩ : ∃ x, Hid (X.getD k 0 = x) := ⟨_, rfl⟩
      obtain ⟨y, hy⟩ : ∃ y, Hid (Y.getD k 0 = y) := ⟨_, rfl⟩
      have h1 := HC1.out k hlt
      have h2 := HC2.out k hlt
      rw [hx.out] at h1
      rw [hy.out] at h2
      obtain ⟨p, hp⟩ : ∃ p, Hid (someGt X Y k = p) := ⟨_, rfl⟩
      obtain ⟨r, hr⟩ : ∃ r, Hid (someGt Y X k = r) := ⟨_, rfl⟩
      obtain ⟨s, hs⟩ : ∃ s, decide (y < x) = s := ⟨_, rfl⟩
      obtain ⟨t, ht⟩ : ∃ t, decide (x < y) = t := ⟨_, rfl⟩
      have hP : Hid (someGt X Y (k + 1) = (p || s)) := by show _ = _; rw [someGt, hp.out, hx.out, hy.out, hs]
      have hR : Hid (someGt Y X (k + 1) = (r || t)) := by show _ = _; rw [someGt, hr.out, hx.out, hy.out, ht]
      rw [hp.out, hr.out]
      have hki : (k : Int) < 35 := by omega
      clear hp hr
      cases p <;> cases r <;> cases s <;> cases t
      all_goals
        go_wp2_with fail
        go_quiet (fail)
        go_wp2_with fail
        go_quiet (fail)
        go_wp2_with fail
        go_roundw
        case measure => simp [intOf]; omega
        case rel => exact ⟨k + 1, by omega, by rw [hP.out]; rfl, by rw [hR.out]; rfl, by go_num, _, rfl⟩
    · have hd : decide ((k : Int) < 35) = false := by simp; omega
      have hkn : k = 35 := by omega
      subst hkn
      have HFIN := Lib.hid (cross_said xs ys)
      rw [HEX.out, HEY.out] at HFIN
      obtain ⟨v, hv⟩ : ∃ v, Hid (sameB X Y = v) := ⟨_, rfl⟩
      obtain ⟨p, hp⟩ : ∃ p, Hid (someGt X Y 35 = p) := ⟨_, rfl⟩
      obtain ⟨r, hr⟩ : ∃ r, Hid (someGt Y X 35 = r) := ⟨_, rfl⟩
      rw [hp.out, hr.out, hv.out] at HFIN
      rw [hp.out, hr.out]
      obtain ⟨rfl, hpv⟩ := HFIN.out
      have HI := Lib.hid (ints_any (some ⟨b, off, none⟩) (some ⟨b2, off2, none⟩) 35 d2 d3 X Y (w3.drewN q) (HX3.out.drewN q) (HY.out.drewN q) (by omega))
      rw [hv.out] at HI
      clear HFIN hp hr
      cases p <;> cases v
      case false.false => cases hpv
      case true.true => cases hpv
      all_goals
        clear hpv
        go_wp2_with fail
        refine HI.out.mono ?_
        rintro e w4 ⟨rfl, q', rfl⟩
        go_wp2_with fail
        go_ret
        exact ⟨rfl, below_drewN hbw3 (q + q')⟩
end Go.Proofs.YtmpalhejjmjmeaaDoor
