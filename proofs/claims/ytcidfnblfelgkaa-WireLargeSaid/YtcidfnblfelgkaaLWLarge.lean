/-
  The walk of the statement on numbers above 2^63 - 1.
-/
import Derived.Test.YtcidfnblfelgkaaWake3
import Derived.Test.YtcidfnblfelgkaaRRu
import Derived.Test.YtcidfnblfelgkaaLarge
import Derived.Test.YtcidfnblfelgkaaFront
namespace Go.Proofs.Ytcidfnblfelgkaa
open Go.RowKit

set_option maxRecDepth 100000 in
set_option maxHeartbeats 4000000 in
theorem lawWireLarge (A : Option Addr) (n c : Nat) (xs : List Int) (w : World) (hs : Seg w w.heap.size .u8 A n xs) (_hc : n ≤ c) (_hcm : c ≤ 9223372036854775807) (hx : InB xs) :
    Calls Try.prog 8 #[.slice A n c] w fun e w' => e = .returned (.bool true) ∧ Below w.heap.size w w' := by
  have HS := Lib.hid hs
  have HX := Lib.hid hx
  have HL := Lib.hid hs.1
  clear hs hx
  go_enter Try.func8, Try.ntmps8
  go_wp2_with fail
  refine (awake3_any w).mono ?_
  rintro e w1 ⟨rfl, hb1⟩
  have hz1 := hb1.size
  by_cases hl : n < 8
  · have hd : decide ((n : Int) < 8) = true := by simp; omega
    go_wp2_with fail
    go_ret
    exact ⟨rfl, hb1⟩
  have hd : decide ((n : Int) < 8) = false := by simp; omega
  by_cases hl2 : 60 < n
  · have hd2 : decide ((60 : Int) < n) = true := by simp; omega
    go_wp2_with fail
    go_ret
    exact ⟨rfl, hb1⟩
  have hd2 : decide ((60 : Int) < n) = false := by simp; omega
  obtain ⟨N, ev, p, hu, hN, hcase⟩ := uint8R xs HX.out (by rw [HL.out]; omega)
  have HU := Lib.hid hu
  have HC := Lib.hid hcase
  clear hu hcase
  have hdN : decide ((0 : Int) ≤ N) = true := by simpa using hN
  go_wp2_with fail
  refine (wnew_any A n c xs w1 ((HS.out.below hb1 (Nat.le_refl _)).more hz1) (by omega)).mono ?_
  rintro e w2 ⟨g, rfl, hg1, hW2, hb2⟩
  have HW2 := Lib.hid hW2
  have hbw2 := hb1.trans (hb2.mono hz1)
  have hzw2 := hbw2.size
  have hg2 := hW2.lt
  have hg : w.heap.size ≤ g := by omega
  clear hW2
  go_wp2_with fail
  refine (rnew_any A n c w2).mono ?_
  rintro e w3 ⟨rfl, hR3, hb3⟩
  have HR3 := Lib.hid hR3
  have hbw3 := hbw2.trans (hb3.mono hzw2)
  have hzw3 := hbw3.size
  have HW3 := Lib.hid (HW2.out.below hb3 hg2)
  obtain ⟨h, HH⟩ : ∃ h, Hid (w2.heap.size = h) := ⟨_, rfl⟩
  have hgh : g < h := by rw [← HH.out]; exact hg2
  have hh3 := hR3.lt
  rw [HH.out] at HR3 hh3 ⊢
  clear hR3
  go_wp2_with fail
  refine (wruint_any g 0 xs 0 8 w3 HW3.out (by rw [HL.out]; omega) HX.out).mono ?_
  rintro e w4 ⟨rfl, hW4, hbt4⟩
  have HR4 := Lib.hid (hbt4.block h hh3 (by intro e; injection e with e; omega))
  have hbw4 := below_but hbw3 hbt4 hg hzw3
  have hzw4 := hbw4.size
  rw [HU.out] at hW4 ⊢
  have HW4 := Lib.hid hW4
  have hg4 := hW4.lt
  have HRR4 := Lib.hid ((HR4.out.trans HR3.out : Rdr w4 h 39 A n c 0 0))
  have HS4 := Lib.hid ((HS.out.below hbw4 (Nat.le_refl _)).more (Nat.le_trans hg (Nat.le_of_lt hgh)))
  clear hW4
  go_wp2_with fail
  obtain ⟨b, off, rfl, hbl, hcl⟩ := HS.out.2 (by omega)
  have hc0 := hcl 0 (by omega)
  obtain ⟨x, hx⟩ : ∃ x, Hid (xs.getD 0 0 = x) := ⟨_, rfl⟩
  rw [hx.out] at hc0 HC
  have HCC : Hid (∀ W, Below w.heap.size w W → W.cell? ⟨b, off, none⟩ = some (.int .u8 x)) := fun W hW => (hW.cell (p := ⟨b, off, none⟩) hbl).trans hc0
  have HRC : Hid (Calls Try.prog 26 #[.pointer (some ⟨h, 0, none⟩), .int .i64 8] w4.drew fun e w' => e = .returned (.int .i64 N) ∧ Below w.heap.size w w' ∧ w'.cell? ⟨h, 2, none⟩ = some (.int .i64 ev) ∧ w'.cell? ⟨b, off, none⟩ = some (.int .u8 x) ∧ WRdr w' g 53 xs p ev) := by
    refine (rruint_any h _ n c 0 0 8 xs w4.drew HRR4.out HS4.out HX.out (by omega) (by omega)).mono ?_
    rintro e w5 ⟨rfl, hR5, hbt5⟩
    rw [HU.out] at hR5 ⊢
    have hwd : Below w.heap.size w w4.drew := hbw4.drew
    have hb5 := below_but hwd hbt5 (Nat.le_trans hg (Nat.le_of_lt hgh)) hzw4
    exact ⟨rfl, hb5, hR5.cell2, HCC.out _ hb5, WRdr.but (w := w4.drew) HW4.out hbt5 hgh⟩
  clear hcl hc0
  rcases HC.out with ⟨hx1, rfl⟩ | ⟨hx1, rfl⟩
  focus
    have hd3 : decide ((128 : Int) ≤ x) = true := by simpa using hx1
  rotate_left
  focus
    have hd3 : decide ((128 : Int) ≤ x) = false := by simpa using hx1
  rotate_left
  all_goals
    have h0n : 0 < n := by omega
    refine wp_region_any (by kernel_rfl) ?_
    change wpAny _ _ _ _ _ _ _ (World.drew _)
    refine wpAny_take (i := 0) (v := _) rfl (by kernel_rfl) (by kernel_rfl) (by kernel_rfl) (fun _ _ _ h => h) (Or.inl ⟨by rfl, fun _ => by rfl⟩) ?_
    refine wpAny_take (i := 1) (v := _) rfl (by kernel_rfl) (by kernel_rfl) (by kernel_rfl) (fun _ _ _ h => h) (Or.inl ⟨by rfl, fun _ => by rfl⟩) ?_
    simp only [Act.put, List.setIfInBounds_toArray]
    refine wpAny_ready (rs := [2]) (by kernel_rfl) (by simp) ?_
    refine AllReady.cons rfl (fun K hK => ?_) AllReady.nil
    go_simp
    refine HRC.out.mono ?_
    rintro e w5 ⟨rfl, hbw5, k5, k05, hW5⟩
    have HW5 := Lib.hid hW5
    clear hW5
    go_simp
    refine hK _ _ ?_
    clear hK K
    refine wpAny_rest 3 (by kernel_rfl) (by rfl) (by kernel_rfl) ?_
    simp only [List.drop_succ_cons, List.drop_zero]
    repeat (go_big_quiet_step ((go_at_call 20; exact werr_q g p xs _ w5 HW5.out _)))
    refine wpQuiet_nil ?_
    intro _ hw'
    obtain ⟨nq, hw''⟩ := hw'
    subst hw''
    go_wp2
    go_ret
    exact ⟨rfl, below_drewN hbw5 _⟩
end Go.Proofs.Ytcidfnblfelgkaa
