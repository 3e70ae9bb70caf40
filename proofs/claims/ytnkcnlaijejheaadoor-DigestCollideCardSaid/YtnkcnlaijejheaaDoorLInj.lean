/-
  The walk of the statement that frames are equal only if their tags and fields are.
-/
import Derived.Test.YtnkcnlaijejheaaDoorFew
namespace Go.Proofs.YtnkcnlaijejheaaDoor
open Go.RowKit

theorem be4_inj {x y : Int} (hx0 : 0 ≤ x) (hx : x < 4294967296) (hy0 : 0 ≤ y) (hy : y < 4294967296) (h : be4 x = be4 y) : x = y := by
  simp only [be4, List.cons.injEq, and_true] at h
  omega
def flatI (fs : List (List Int)) : List Int := (fs.map fun f => be4 ((f.length : Int) % 4294967296) ++ f).flatten
theorem flatI_inj : ∀ (fs gs : List (List Int)), (∀ f ∈ fs, f.length < 4294967296) → (∀ g ∈ gs, g.length < 4294967296) → flatI fs = flatI gs → fs = gs
  | [], [], _, _, _ => rfl
  | [], g :: gs, _, _, h => by simp [flatI, be4] at h
  | f :: fs, [], _, _, h => by simp [flatI, be4] at h
  | f :: fs, g :: gs, hf, hg, h => by
    have h1 : be4 ((f.length : Int) % 4294967296) ++ (f ++ flatI fs) = be4 ((g.length : Int) % 4294967296) ++ (g ++ flatI gs) := by simpa [flatI] using h
    obtain ⟨h2, h3⟩ := List.append_inj h1 rfl
    have hfl := hf f (by simp)
    have hgl := hg g (by simp)
    have h4 := be4_inj (by omega) (by omega) (by omega) (by omega) h2
    have hl : f.length = g.length := by omega
    obtain ⟨rfl, h5⟩ := List.append_inj h3 hl
    rw [flatI_inj fs gs (fun x hx => hf x (by simp [hx])) (fun x hx => hg x (by simp [hx])) h5]
theorem frameI_eq (s t : Int) (fs gs : List (List Int)) (hf : tot fs < 4294967296) (hg : tot gs < 4294967296) : sameB (frameI s fs) (frameI t gs) = (decide (s % 256 = t % 256) && listsB fs gs) := by
  have hm : ∀ (l : List (List Int)), tot l < 4294967296 → ∀ f ∈ l, f.length < 4294967296 := by
    intro l hl f hfm
    obtain ⟨i, hi, rfl⟩ := List.getElem_of_mem hfm
    have := tot_get_le l i hi
    simp [List.getD, hi] at this
    omega
  unfold sameB listsB
  rw [Bool.eq_iff_iff]
  simp only [decide_eq_true_eq, Bool.and_eq_true]
  constructor
  · intro h
    injection h with h1 h2
    exact ⟨h1, flatI_inj fs gs (hm fs hf) (hm gs hg) h2⟩
  · rintro ⟨h1, rfl⟩
    simp [frameI, h1]

set_option maxRecDepth 100000 in
set_option maxHeartbeats 2000000 in
theorem lawInj (s t : Int) (A : Option Addr) (n c : Nat) (fs : List (List Int)) (A2 : Option Addr) (n2 c2 : Nat) (gs : List (List Int)) (w : World) (hs : Fields w w.heap.size A n fs) (hc : n ≤ c) (hcm : c ≤ 9223372036854775807)
    (ht : Fields w w.heap.size A2 n2 gs) (hc2 : n2 ≤ c2) (hcm2 : c2 ≤ 9223372036854775807) (hK : Tab w 0 .u32 kay256) :
    Calls Tryd.prog 7 #[.int .i64 s, .int .i64 t, .slice A n c, .slice A2 n2 c2] w fun e w' => e = .returned (.bool true) ∧ Below w.heap.size w w' := by
  have HS := Lib.hid hs
  have HT := Lib.hid ht
  have HK := Lib.hid hK
  clear hs ht hK
  go_enter Tryd.func7, Tryd.ntmps7
  go_wp2_with fail
  refine (awake_any w HK.out).mono ?_
  rintro e w1 ⟨rfl, hb1⟩
  have hz1 := hb1.size
  have HF1 := Lib.hid (few_any A n c fs w1 ((HS.out.below hb1 (Nat.le_refl _)).more hz1) (by omega))
  have HF2 := Lib.hid (few_any A2 n2 c2 gs w1 ((HT.out.below hb1 (Nat.le_refl _)).more hz1) (by omega))
  go_wp2_with fail
  refine HF1.out.mono ?_
  rintro e w' ⟨rfl, rfl⟩
  by_cases hfew : fewB fs = true
  · obtain ⟨hl1, ht1⟩ := fewB_true hfew
    have hn1 := HS.out.1
    by_cases hfew2 : fewB gs = true
    · obtain ⟨hl2, ht2⟩ := fewB_true hfew2
      have hn2 := HT.out.1
      have hne : n ≤ 1048576 := by omega
      have hne2 : n2 ≤ 1048576 := by omega
      have hfr := frameI_eq s t fs gs (by omega) (by omega)
      have HFR := Lib.hid hfr
      clear hfr hl1 hl2 hn1 hn2
      by_cases hst : s % 256 = t % 256
      · have hst2 : (s % 256 == t % 256) = true := by simpa using hst
        have HE := Lib.hid hst
        clear hst
        go_wp2_with fail
        refine HF2.out.mono ?_
        rintro e w' ⟨rfl, rfl⟩
        go_wp2_with fail
        refine (lists_any A A2 n c n2 c2 fs gs w1 ((HS.out.below hb1 (Nat.le_refl _)).more hz1) ((HT.out.below hb1 (Nat.le_refl _)).more hz1) hne (by omega)).mono ?_
        rintro e w2 ⟨rfl, q, hq⟩
        have hb2 : Below w.heap.size w w2 := by rw [hq]; exact below_drewN hb1 q
        clear hq
        have hz2 := hb2.size
        go_wp2_with fail
        refine (frame_any s A n c fs w2 ((HS.out.below hb2 (Nat.le_refl _)).more hz2) hne (by omega)).mono ?_
        rintro e w3 ⟨v3, rfl, hown3, hb3⟩
        have hb3' := hb2.trans (hb3.mono hz2)
        have hz3 := hb3'.size
        obtain ⟨A3, c3, rfl, _, _⟩ := Own.cut hown3
        go_wp2_with fail
        refine (frame_any t A2 n2 c2 gs w3 ((HT.out.below hb3' (Nat.le_refl _)).more hz3) hne2 (by omega)).mono ?_
        rintro e w4 ⟨v4, rfl, hown4, hb4⟩
        have hb4' := hb3'.trans (hb4.mono hz3)
        obtain ⟨A4, c4, rfl, _, _⟩ := Own.cut hown4
        have hs3 := ((Seg.of_own hown3).below hb4 (Nat.le_refl _)).more hb4.size
        have hs4 := Seg.of_own hown4
        have hl3 : (frameI s fs).length ≤ 1099511627776 := by rw [frameI_length, HS.out.1]; omega
        go_wp2_with fail
        refine (same_any A3 A4 _ c3 _ c4 _ _ w4 hs3 hs4 hl3).mono ?_
        rintro e w5 ⟨rfl, q, hq⟩
        have hb5 : Below w.heap.size w w5 := by rw [hq]; exact below_drewN hb4' q
        clear hq
        have hfin : sameB (frameI s fs) (frameI t gs) = listsB fs gs := by rw [HFR.out]; simp [HE.out]
        rw [hfin]
        clear hfin
        go_wp2_with fail
        go_ret
        exact ⟨by simp, hb5⟩
      · have hst2 : (s % 256 == t % 256) = false := by simpa using hst
        have HE := Lib.hid hst
        clear hst
        go_wp2_with fail
        refine HF2.out.mono ?_
        rintro e w' ⟨rfl, rfl⟩
        go_wp2_with fail
        refine (frame_any s A n c fs w1 ((HS.out.below hb1 (Nat.le_refl _)).more hz1) hne (by omega)).mono ?_
        rintro e w3 ⟨v3, rfl, hown3, hb3⟩
        have hb3' := hb1.trans (hb3.mono hz1)
        have hz3 := hb3'.size
        obtain ⟨A3, c3, rfl, _, _⟩ := Own.cut hown3
        go_wp2_with fail
        refine (frame_any t A2 n2 c2 gs w3 ((HT.out.below hb3' (Nat.le_refl _)).more hz3) hne2 (by omega)).mono ?_
        rintro e w4 ⟨v4, rfl, hown4, hb4⟩
        have hb4' := hb3'.trans (hb4.mono hz3)
        obtain ⟨A4, c4, rfl, _, _⟩ := Own.cut hown4
        have hs3 := ((Seg.of_own hown3).below hb4 (Nat.le_refl _)).more hb4.size
        have hs4 := Seg.of_own hown4
        have hl3 : (frameI s fs).length ≤ 1099511627776 := by rw [frameI_length, HS.out.1]; omega
        go_wp2_with fail
        refine (same_any A3 A4 _ c3 _ c4 _ _ w4 hs3 hs4 hl3).mono ?_
        rintro e w5 ⟨rfl, q, hq⟩
        have hb5 : Below w.heap.size w w5 := by rw [hq]; exact below_drewN hb4' q
        clear hq
        have hfin : sameB (frameI s fs) (frameI t gs) = false := by rw [HFR.out]; simp [HE.out]
        rw [hfin]
        clear hfin
        go_wp2_with fail
        go_ret
        exact ⟨rfl, hb5⟩
    · have hf2 : fewB gs = false := by simpa using hfew2
      rw [hf2] at HF2
      clear hf2 hfew2 hl1 hn1
      go_wp2_with fail
      refine HF2.out.mono ?_
      rintro e w' ⟨rfl, rfl⟩
      go_wp2_with fail
      go_ret
      exact ⟨rfl, hb1⟩
  · have hf1 : fewB fs = false := by simpa using hfew
    clear hfew
    go_wp2_with fail
    go_ret
    exact ⟨rfl, hb1⟩
end Go.Proofs.YtnkcnlaijejheaaDoor
