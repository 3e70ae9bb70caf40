/-
  What the closures of sum256 and sum1 do with a block.
-/
import Derived.Test.YtkcbbgmilaafeaaDoorCompB
import Derived.Deep.RegionHeld3
namespace Go.Proofs.YtkcbbgmilaafeaaDoor
open Go.RowKit

set_option maxRecDepth 100000 in
set_option maxHeartbeats 2000000 in
theorem block256_any (b off cap g : Nat) (xs S : List Int) (w : World) (hcap : 64 ≤ cap) (hcm : cap ≤ 9223372036854775807) (hb : b < w.heap.size)
    (hx : ∀ j, j < 64 → w.cell? ⟨b, off + j, none⟩ = some (.int .u8 (xs.getD j 0))) (hS : S.length = 8) (hg : Blk w g 64 .u32 S) (hK : Tab w 0 .u32 kay256) :
    Calls Tryd.prog 49 #[.slice (some ⟨b, off, none⟩) 64 cap, .pointer (some ⟨g, 0, none⟩)] w fun e w' => e = .returned (.tuple #[]) ∧ Blk w' g 64 .u32 (step256 S xs) ∧ But w w' g := by
  obtain ⟨s0, s1, s2, s3, s4, s5, s6, s7, rfl⟩ := eight hS
  have HE := Lib.hid (fun (W : World) (h : Below w.heap.size w W) => expand256_any b off cap xs W hcap hcm (Nat.lt_of_lt_of_le hb h.size) (fun j hj => (h.cell (p := ⟨b, off + j, none⟩) hb).trans (hx j hj)))
  have HC := Lib.hid (fun (W : World) (h : Below w.heap.size w W) => compress256_any [s0, s1, s2, s3, s4, s5, s6, s7] (sch (wordAtI xs) next256 64) W rfl (sch_length _ _ _) (hK.below h hK.lt))
  have hgl := hg.lt
  have HG := Lib.hid hg
  have HX := Lib.hid hx
  have HKK := Lib.hid hK
  clear hx hK hg hS
  obtain ⟨W64, HW⟩ : ∃ l, Hid (sch (wordAtI xs) next256 64 = l) := ⟨_, rfl⟩
  rw [HW.out] at HE HC
  have hcells : ∀ W, Below w.heap.size w W → W.cell? ⟨g, 0, none⟩ = some (.int .u32 s0) ∧ W.cell? ⟨g, 1, none⟩ = some (.int .u32 s1) ∧ W.cell? ⟨g, 2, none⟩ = some (.int .u32 s2) ∧ W.cell? ⟨g, 3, none⟩ = some (.int .u32 s3) ∧
      W.cell? ⟨g, 4, none⟩ = some (.int .u32 s4) ∧ W.cell? ⟨g, 5, none⟩ = some (.int .u32 s5) ∧ W.cell? ⟨g, 6, none⟩ = some (.int .u32 s6) ∧ W.cell? ⟨g, 7, none⟩ = some (.int .u32 s7) := fun W h => by
    have hb := HG.out.below h hgl
    exact ⟨hb.cell 0 (by simp), hb.cell 1 (by simp), hb.cell 2 (by simp), hb.cell 3 (by simp), hb.cell 4 (by simp), hb.cell 5 (by simp), hb.cell 6 (by simp), hb.cell 7 (by simp)⟩
  have HCL := Lib.hid hcells
  have HFR := Lib.hid (fun (W : World) (h : Below w.heap.size w W) (i : Nat) => (HG.out.below h hgl).frozen i)
  obtain ⟨c0, c1, c2, c3, c4, c5, c6, c7⟩ := hcells w (Below.refl _ _)
  clear hcells
  obtain ⟨r0, r1, r2, r3, r4, r5, r6, r7, hR⟩ := eight (s := comp256 W64 [s0, s1, s2, s3, s4, s5, s6, s7]) (by simp [comp256, rounds256_length])
  have HR := Lib.hid hR
  have HC2 : Hid (∀ W, Below w.heap.size w W → Calls Tryd.prog 50 #[.agg #[.int .u32 s0, .int .u32 s1, .int .u32 s2, .int .u32 s3, .int .u32 s4, .int .u32 s5, .int .u32 s6, .int .u32 s7], .agg (ints .u32 W64).toArray] W fun e w' =>
      e = .returned (.agg #[.int .u32 r0, .int .u32 r1, .int .u32 r2, .int .u32 r3, .int .u32 r4, .int .u32 r5, .int .u32 r6, .int .u32 r7]) ∧ Below W.heap.size W w') := fun W h => by
    have := HC.out W h
    rw [hR] at this
    exact this
  clear hR HC
  go_enter Tryd.func49, Tryd.ntmps49
  go_wp2_with fail
  go_region_with (first
    | (go_at_call 51; refine (HE.out _ ?_).mono ?_; exact (Below.refl _ _).drew; rintro e w1 ⟨rfl, hb1⟩; have hbw1 : Below w.heap.size w w1 := (Below.refl _ _).drew.trans hb1; obtain ⟨d0, d1, d2, d3, d4, d5, d6, d7⟩ := HCL.out w1 hbw1; clear hb1)
    | (go_at_call 50; refine (HC2.out _ ?_).mono ?_; assumption; rintro e w2 ⟨rfl, hb2⟩; have hbw2 : Below w.heap.size w w2 := hbw1.trans (hb2.mono hbw1.size); obtain ⟨e0, e1, e2, e3, e4, e5, e6, e7⟩ := HCL.out w2 hbw2; have ef := HFR.out w2 hbw2; clear hb2))
  all_goals
    go_wp2
    go_end0
    refine ⟨rfl, ?_, ?_⟩
    · have hB := ((((((((HG.out.below hbw2 hgl).set_ 0 r0).set_ 1 r1).set_ 2 r2).set_ 3 r3).set_ 4 r4).set_ 5 r5).set_ 6 r6).set_ 7 r7
      show Blk _ g 64 .u32 (comp256 (sch (wordAtI xs) next256 64) [s0, s1, s2, s3, s4, s5, s6, s7])
      rw [HW.out, HR.out]
      exact hB
    · exact ((((((((but_of_below hbw2 g).set_ 0 _).set_ 1 _).set_ 2 _).set_ 3 _).set_ 4 _).set_ 5 _).set_ 6 _).set_ 7 _
end Go.Proofs.YtkcbbgmilaafeaaDoor
