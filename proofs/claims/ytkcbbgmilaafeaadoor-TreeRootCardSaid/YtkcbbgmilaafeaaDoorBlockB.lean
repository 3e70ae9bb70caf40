/-
  What the closure of sum1 does with a block.
-/
import Derived.Test.YtkcbbgmilaafeaaDoorBlock
namespace Go.Proofs.YtkcbbgmilaafeaaDoor
open Go.RowKit

set_option maxRecDepth 100000 in
set_option maxHeartbeats 2000000 in
theorem block1_any (b off cap g : Nat) (xs S : List Int) (w : World) (hcap : 64 ≤ cap) (hcm : cap ≤ 9223372036854775807) (hb : b < w.heap.size)
    (hx : ∀ j, j < 64 → w.cell? ⟨b, off + j, none⟩ = some (.int .u8 (xs.getD j 0))) (hS : S.length = 5) (hg : Blk w g 57 .u32 S) :
    Calls Tryd.prog 45 #[.slice (some ⟨b, off, none⟩) 64 cap, .pointer (some ⟨g, 0, none⟩)] w fun e w' => e = .returned (.tuple #[]) ∧ Blk w' g 57 .u32 (step1 S xs) ∧ But w w' g := by
  obtain ⟨s0, s1, s2, s3, s4, rfl⟩ := five hS
  have HE := Lib.hid (fun (W : World) (h : Below w.heap.size w W) => expand1_any b off cap xs W hcap hcm (Nat.lt_of_lt_of_le hb h.size) (fun j hj => (h.cell (p := ⟨b, off + j, none⟩) hb).trans (hx j hj)))
  have HC := Lib.hid (fun (W : World) (_ : Below w.heap.size w W) => compress1_any [s0, s1, s2, s3, s4] (sch (wordAtI xs) next1 80) W rfl (sch_length _ _ _))
  have hgl := hg.lt
  have HG := Lib.hid hg
  have HX := Lib.hid hx
  clear hx hg hS
  obtain ⟨W64, HW⟩ : ∃ l, Hid (sch (wordAtI xs) next1 80 = l) := ⟨_, rfl⟩
  rw [HW.out] at HE HC
  have hcells : ∀ W, Below w.heap.size w W → W.cell? ⟨g, 0, none⟩ = some (.int .u32 s0) ∧ W.cell? ⟨g, 1, none⟩ = some (.int .u32 s1) ∧ W.cell? ⟨g, 2, none⟩ = some (.int .u32 s2) ∧ W.cell? ⟨g, 3, none⟩ = some (.int .u32 s3) ∧
      W.cell? ⟨g, 4, none⟩ = some (.int .u32 s4) := fun W h => by
    have hb := HG.out.below h hgl
    exact ⟨hb.cell 0 (by simp), hb.cell 1 (by simp), hb.cell 2 (by simp), hb.cell 3 (by simp), hb.cell 4 (by simp)⟩
  have HCL := Lib.hid hcells
  have HFR := Lib.hid (fun (W : World) (h : Below w.heap.size w W) (i : Nat) => (HG.out.below h hgl).frozen i)
  obtain ⟨c0, c1, c2, c3, c4⟩ := hcells w (Below.refl _ _)
  clear hcells
  obtain ⟨r0, r1, r2, r3, r4, hR⟩ := five (s := comp1 W64 [s0, s1, s2, s3, s4]) (by simp [comp1, rounds1_length])
  have HR := Lib.hid hR
  have HC2 : Hid (∀ W, Below w.heap.size w W → Calls Tryd.prog 46 #[.agg #[.int .u32 s0, .int .u32 s1, .int .u32 s2, .int .u32 s3, .int .u32 s4], .agg (ints .u32 W64).toArray] W fun e w' =>
      e = .returned (.agg #[.int .u32 r0, .int .u32 r1, .int .u32 r2, .int .u32 r3, .int .u32 r4]) ∧ Below W.heap.size W w') := fun W h => by
    have := HC.out W h
    rw [hR] at this
    exact this
  clear hR HC
  go_enter Tryd.func45, Tryd.ntmps45
  go_wp2_with fail
  go_region_with (first
    | (go_at_call 47; refine (HE.out _ ?_).mono ?_; exact (Below.refl _ _).drew; rintro e w1 ⟨rfl, hb1⟩; have hbw1 : Below w.heap.size w w1 := (Below.refl _ _).drew.trans hb1; obtain ⟨d0, d1, d2, d3, d4⟩ := HCL.out w1 hbw1; clear hb1)
    | (go_at_call 46; refine (HC2.out _ ?_).mono ?_; assumption; rintro e w2 ⟨rfl, hb2⟩; have hbw2 : Below w.heap.size w w2 := hbw1.trans (hb2.mono hbw1.size); obtain ⟨e0, e1, e2, e3, e4⟩ := HCL.out w2 hbw2; have ef := HFR.out w2 hbw2; clear hb2))
  all_goals
    go_wp2
    go_end0
    refine ⟨rfl, ?_, ?_⟩
    · have hB := (((((HG.out.below hbw2 hgl).set_ 0 r0).set_ 1 r1).set_ 2 r2).set_ 3 r3).set_ 4 r4
      show Blk _ g 57 .u32 (comp1 (sch (wordAtI xs) next1 80) [s0, s1, s2, s3, s4])
      rw [HW.out, HR.out]
      exact hB
    · exact (((((but_of_below hbw2 g).set_ 0 _).set_ 1 _).set_ 2 _).set_ 3 _).set_ 4 _
end Go.Proofs.YtkcbbgmilaafeaaDoor
