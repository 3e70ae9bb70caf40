/-
  The walk of the statement that moving bytes from one field to the next changes the frame.
-/
import Derived.Test.YtnkcnlaijejheaaDoorLInj
namespace Go.Proofs.YtnkcnlaijejheaaDoor
open Go.RowKit

theorem size5run (W : World) : (sizeOf (Tryd.prog.elem 22)).run Tryd.prog W = .ok 1 W := by kernel_rfl
theorem slice_to (A : Option Addr) (n c I : Nat) (h : I ≤ c) (W : World) : (Instr.slice 22 (.slice A n c) none (some (.int .i64 (I : Int))) none).run Tryd.prog W = .ok (.slice A I c) W := by
  rw [run_slice_h W 22 A n c (by kernel_rfl) .i64 (I : Int) (by omega) (by omega), size5run]
  have e : ∀ a : Addr, a.add 0 = a := fun a => by unfold Addr.add; simp
  cases A <;> simp [Result.andThen, sliced, e]
theorem slice_from (A : Option Addr) (n c I : Nat) (h : I ≤ n) (W : World) : (Instr.slice 22 (.slice A n c) (some (.int .i64 (I : Int))) none none).run Tryd.prog W = .ok (.slice (if c = I then A else A.map (·.add I)) (n - I) (c - I)) W := by
  rw [run_slice_l W 22 A n c (by kernel_rfl) .i64 (I : Int) (by omega) (by omega), size5run]
  simp [Result.andThen, sliced]

/-- A list of two fields that the call itself has laid. -/
theorem fields2 (W : World) (g : Nat) (A1 A2 : Option Addr) (n1 c1 n2 c2 : Nat) (xs ys : List Int) (hc0 : W.cell? ⟨g, 0, none⟩ = some (.slice A1 n1 c1)) (hc1 : W.cell? ⟨g, 1, none⟩ = some (.slice A2 n2 c2))
    (h1 : Seg W W.heap.size .u8 A1 n1 xs) (h2 : Seg W W.heap.size .u8 A2 n2 ys) (b1 : n1 ≤ c1) (m1 : c1 ≤ maxLen) (b2 : n2 ≤ c2) (m2 : c2 ≤ maxLen) : Fields W W.heap.size (some ⟨g, 0, none⟩) 2 [xs, ys] :=
  ⟨rfl, fun _ => ⟨g, 0, rfl, block_lt_of_cell hc0, fun j hj => by
    rcases (by omega : j = 0 ∨ j = 1) with rfl | rfl
    · exact ⟨A1, n1, c1, hc0, h1, b1, m1⟩
    · exact ⟨A2, n2, c2, hc1, h2, b2, m2⟩⟩⟩
theorem fields1 (W : World) (g : Nat) (A1 : Option Addr) (n1 c1 : Nat) (xs : List Int) (hc0 : W.cell? ⟨g, 0, none⟩ = some (.slice A1 n1 c1))
    (h1 : Seg W W.heap.size .u8 A1 n1 xs) (b1 : n1 ≤ c1) (m1 : c1 ≤ maxLen) : Fields W W.heap.size (some ⟨g, 0, none⟩) 1 [xs] :=
  ⟨rfl, fun _ => ⟨g, 0, rfl, block_lt_of_cell hc0, fun j hj => by
    obtain rfl : j = 0 := by omega
    exact ⟨A1, n1, c1, hc0, h1, b1, m1⟩⟩⟩

theorem cell_made (W : World) (cs : Array Value) (t : TypeId) (g i : Nat) (v : Value) (hg : g = W.heap.size) (hv : cs[i]? = some v) : (W.alloc (.cells cs t)).cell? ⟨g, i, none⟩ = some v := by
  rw [World.cell?_alloc_at cs t g i hg]
  exact hv
theorem cell_made_drew (W : World) (cs : Array Value) (t : TypeId) (g i : Nat) (v : Value) (hg : g = W.heap.size) (hv : cs[i]? = some v) : (W.alloc (.cells cs t)).drew.cell? ⟨g, i, none⟩ = some v := cell_made W cs t g i v hg hv
theorem cell_made_past (W : World) (cs : Array Value) (t : TypeId) (o : Obj) (g i : Nat) (v : Value) (hg : g = W.heap.size) (hv : cs[i]? = some v) : ((W.alloc (.cells cs t)).alloc o).drew.cell? ⟨g, i, none⟩ = some v := by
  have h := cell_made W cs t g i v hg hv
  exact (World.cell?_alloc_lt _ o ⟨g, i, none⟩ (by simp; omega)).trans h
theorem cell_in {W w2 : World} (hb : Below W.heap.size W w2) {g i : Nat} {v : Value} (h : W.cell? ⟨g, i, none⟩ = some v) : w2.cell? ⟨g, i, none⟩ = some v := (hb.cell (block_lt_of_cell h)).trans h

/-- The frame of a byte string that is cut in two. -/
theorem frame_cut (tag : Int) (A : Option Addr) (n c I : Nat) (xs : List Int) (w : World) (hs : Seg w w.heap.size .u8 A n xs) (hc : n ≤ c) (hcm : c ≤ 9223372036854775807) (hI : I ≤ n) (hn : n ≤ 60) :
    ∀ (W : World) (g : Nat), Below w.heap.size w W → W.cell? ⟨g, 0, none⟩ = some (.slice A I c) → W.cell? ⟨g, 1, none⟩ = some (.slice (if c = I then A else A.map (·.add I)) (n - I) (c - I)) →
    Calls Tryd.prog 20 #[.int .i64 tag, .slice (some ⟨g, 0, none⟩) 2 2] W fun e w' => ∃ A3 c3, e = .returned (.slice A3 (9 + n) c3) ∧ Seg w' w'.heap.size .u8 A3 (9 + n) (frameI tag [xs.take I, xs.drop I]) ∧ Below W.heap.size W w' ∧ Below w.heap.size w w' := by
  intro W g hb h0 h1
  have hsW := (hs.below hb (Nat.le_refl _)).more hb.size
  have hl := hs.1
  have hF := fields2 W g _ _ _ _ _ _ (xs.take I) (xs.drop I) h0 h1 (hsW.take hI) (hsW.drop hI hc) (by omega) (by unfold maxLen; omega) (by omega) (by unfold maxLen; omega)
  refine (frame_any tag _ 2 2 _ W hF (by omega) (by simp [tot]; omega)).mono ?_
  rintro e w' ⟨v, rfl, hown, hb2⟩
  obtain ⟨A3, c3, hv, _, _⟩ := Own.cut hown
  have hlen : (frameI tag [xs.take I, xs.drop I]).length = 9 + n := by rw [frameI_length]; simp [tot]; omega
  subst hv
  have hseg := Seg.of_own hown
  rw [hlen] at hseg ⊢
  exact ⟨A3, c3, rfl, hseg, hb2, hb.trans (hb2.mono hb.size)⟩

/-- The frame of one byte string, its list laid in the block before the call. -/
theorem frame_one (tag : Int) (A : Option Addr) (n c : Nat) (xs : List Int) (w : World) (hs : Seg w w.heap.size .u8 A n xs) (hc : n ≤ c) (hcm : c ≤ 9223372036854775807) (hn : n ≤ 60) :
    ∀ (g : Nat), g = w.heap.size → Calls Tryd.prog 20 #[.int .i64 tag, .slice (some ⟨g, 0, none⟩) 1 1] (w.alloc (.cells #[.slice A n c] 22)) fun e w' => ∃ A3 c3, e = .returned (.slice A3 (5 + n) c3) ∧ Below w.heap.size w w' := by
  intro g hg
  have hb : Below w.heap.size w (w.alloc (.cells #[.slice A n c] 22)) := (Below.refl _ _).alloc (Nat.le_refl _) _
  have hsW := (hs.below hb (Nat.le_refl _)).more hb.size
  have hl := hs.1
  have hF := fields1 _ g A n c xs (cell_made w #[.slice A n c] 22 g 0 _ hg rfl) hsW hc (by unfold maxLen; omega)
  refine (frame_any tag _ 1 1 _ _ hF (by omega) (by simp [tot]; omega)).mono ?_
  rintro e w' ⟨v, rfl, hown, hb2⟩
  obtain ⟨A3, c3, hv, _, _⟩ := Own.cut hown
  have hlen : (frameI tag [xs]).length = 5 + n := by rw [frameI_length]; simp [tot]; omega
  subst hv
  rw [hlen]
  exact ⟨A3, c3, rfl, hb.trans (hb2.mono hb.size)⟩

set_option maxRecDepth 100000 in
set_option maxHeartbeats 4000000 in
theorem lawBord (tag : Int) (A : Option Addr) (n c : Nat) (xs : List Int) (i j : Int) (w : World) (hs : Seg w w.heap.size .u8 A n xs) (hc : n ≤ c) (hcm : c ≤ 9223372036854775807) (hK : Tab w 0 .u32 kay256) :
    Calls Tryd.prog 8 #[.int .i64 tag, .slice A n c, .int .i64 i, .int .i64 j] w fun e w' => e = .returned (.bool true) ∧ Below w.heap.size w w' := by
  have HS := Lib.hid hs
  have HK := Lib.hid hK
  clear hs hK
  go_enter Tryd.func8, Tryd.ntmps8
  go_wp2_with fail
  refine (awake_any w HK.out).mono ?_
  rintro e w1 ⟨rfl, hb1⟩
  have hz1 := hb1.size
  by_cases h60 : (60 : Int) < n
  · have hd : decide ((60 : Int) < n) = true := by simpa using h60
    go_wp2_with fail
    go_ret
    exact ⟨rfl, hb1⟩
  · have hd : decide ((60 : Int) < n) = false := by simpa using h60
    by_cases hi0 : i < 0
    · have hdi : decide (i < 0) = true := by simpa using hi0
      go_wp2_with fail
      go_ret
      exact ⟨rfl, hb1⟩
    · have hdi : decide (i < 0) = false := by simpa using hi0
      by_cases hj0 : j < 0
      · have hdj : decide (j < 0) = true := by simpa using hj0
        go_wp2_with fail
        go_ret
        exact ⟨rfl, hb1⟩
      · have hdj : decide (j < 0) = false := by simpa using hj0
        by_cases hin : (n : Int) < i
        · have hdin : decide ((n : Int) < i) = true := by simpa using hin
          go_wp2_with fail
          go_ret
          exact ⟨rfl, hb1⟩
        · have hdin : decide ((n : Int) < i) = false := by simpa using hin
          by_cases hjn : (n : Int) < j
          · have hdjn : decide ((n : Int) < j) = true := by simpa using hjn
            go_wp2_with fail
            go_ret
            exact ⟨rfl, hb1⟩
          · have hdjn : decide ((n : Int) < j) = false := by simpa using hjn
            obtain ⟨I, rfl⟩ := Int.eq_ofNat_of_zero_le (by omega : 0 ≤ i)
            obtain ⟨J, rfl⟩ := Int.eq_ofNat_of_zero_le (by omega : 0 ≤ j)
            have hI : I ≤ n := by omega
            have hJ : J ≤ n := by omega
            have hn60 : n ≤ 60 := by omega
            have HS1 := (HS.out.below hb1 (Nat.le_refl _)).more hz1
            have CI := Lib.hid (frame_cut tag A n c I xs w1 HS1 hc hcm hI hn60)
            have CJ := Lib.hid (frame_cut tag A n c J xs w1 HS1 hc hcm hJ hn60)
            have sI1 := slice_to A n c I (by omega)
            have sI2 := slice_from A n c I hI
            have sJ1 := slice_to A n c J (by omega)
            have sJ2 := slice_from A n c J hJ
            obtain ⟨AI, hAI⟩ : ∃ AI, (if c = I then A else A.map (·.add I)) = AI := ⟨_, rfl⟩
            obtain ⟨AJ, hAJ⟩ : ∃ AJ, (if c = J then A else A.map (·.add J)) = AJ := ⟨_, rfl⟩
            rw [hAI] at sI2 CI
            rw [hAJ] at sJ2 CJ
            have hlt1 : ¬ n < I ∧ ¬ n < J := ⟨by omega, by omega⟩
            clear hAI hAJ HS1
            go_wp2_with fail
            go_region_with (first
              | (go_at_call 20; refine (CI.out _ _ ?_ ?_ ?_).mono ?_; (first | exact (((Below.refl _ _).alloc (Nat.le_refl _) _).drew) | exact (((Below.refl _ _).alloc (Nat.le_refl _) _).alloc (by simp) _).drew); (first | exact cell_made_drew _ _ _ _ _ _ rfl rfl | exact cell_made_drew _ _ _ _ _ _ (size_alloc1 _ _) rfl | exact cell_made_past _ _ _ _ _ _ _ rfl rfl); (first | exact cell_made_drew _ _ _ _ _ _ rfl rfl | exact cell_made_drew _ _ _ _ _ _ (size_alloc1 _ _) rfl | exact cell_made_past _ _ _ _ _ _ _ rfl rfl); rintro e w2 ⟨A2, c2, rfl, hown2, hb2, hbw2⟩)
              | (go_at_call 20; refine (CJ.out _ _ ?_ ?_ ?_).mono ?_; (first | exact hbw2 | exact hbw2.alloc hbw2.size _); (first | exact cell_made _ _ _ _ _ _ rfl rfl | exact cell_in hb2 (cell_made_drew _ _ _ _ _ _ rfl rfl) | exact cell_in hb2 (cell_made_drew _ _ _ _ _ _ (size_alloc1 _ _) rfl) | exact cell_in hb2 (cell_made_past _ _ _ _ _ _ _ rfl rfl)); (first | exact cell_made _ _ _ _ _ _ rfl rfl | exact cell_in hb2 (cell_made_drew _ _ _ _ _ _ rfl rfl) | exact cell_in hb2 (cell_made_drew _ _ _ _ _ _ (size_alloc1 _ _) rfl) | exact cell_in hb2 (cell_made_past _ _ _ _ _ _ _ rfl rfl)); rintro e w3 ⟨A3, c3, rfl, hown3, hb3, hbw3⟩))
            all_goals
              have hs2 : Seg w3 w3.heap.size .u8 A2 (9 + n) (frameI tag [xs.take I, xs.drop I]) := by
                first
                  | exact (hown2.below hb3 (Nat.le_refl _)).more hb3.size
                  | exact ((hown2.below ((Below.refl _ _).alloc (Nat.le_refl _) _) (Nat.le_refl _)).below hb3 (by simp)).more (Nat.le_trans (by simp) hb3.size)
              have HSA := Lib.hid (same_any A2 A3 (9 + n) c2 (9 + n) c3 _ _ w3 hs2 hown3 (by omega))
              have hbw : Below w.heap.size w w3 := hb1.trans (hbw3.mono hz1)
              have hfr := frameI_eq tag tag [xs.take I, xs.drop I] [xs.take J, xs.drop J] (by simp [tot]; have := HS.out.1; omega) (by simp [tot]; have := HS.out.1; omega)
              have HFR := Lib.hid hfr
              clear hs2 hown2 hown3 hb2 hb3 hfr sI1 sI2 sJ1 sJ2
              by_cases hIJ : I = J
              · have hbool : ((I : Int) == J) = true := beq_iff_eq.2 (by omega)
                have hsame : sameB (frameI tag [xs.take I, xs.drop I]) (frameI tag [xs.take J, xs.drop J]) = true := by rw [HFR.out, hIJ]; simp [listsB]
                rw [hsame] at HSA
                clear hIJ hsame
                go_wp2_with fail
                refine HSA.out.mono ?_
                rintro e w4 ⟨rfl, q, hq⟩
                have hb4 : Below w.heap.size w w4 := by rw [hq]; exact below_drewN hbw q
                clear hq
                have HF5 := Lib.hid (frame_one tag A n c xs w4 ((HS.out.below hb4 (Nat.le_refl _)).more hb4.size) hc hcm hn60)
                go_wp2_with fail
                refine (HF5.out _ rfl).mono ?_
                rintro e w5 ⟨A5, c5, rfl, hb5⟩
                go_wp2_with fail
                go_ret
                exact ⟨rfl, hb4.trans (hb5.mono hb4.size)⟩
              · have hbool : ((I : Int) == J) = false := beq_eq_false_iff_ne.2 (by omega)
                have hsame : sameB (frameI tag [xs.take I, xs.drop I]) (frameI tag [xs.take J, xs.drop J]) = false := by
                  rw [HFR.out]
                  simp only [decide_true, Bool.true_and, listsB, decide_eq_false_iff_not]
                  intro e
                  injection e with e1 _
                  have h1 := congrArg List.length e1
                  have h2 := HS.out.1
                  rw [List.length_take, List.length_take] at h1
                  omega
                rw [hsame] at HSA
                clear hIJ hsame
                go_wp2_with fail
                refine HSA.out.mono ?_
                rintro e w4 ⟨rfl, q, hq⟩
                have hb4 : Below w.heap.size w w4 := by rw [hq]; exact below_drewN hbw q
                clear hq
                have HF5 := Lib.hid (frame_one tag A n c xs w4 ((HS.out.below hb4 (Nat.le_refl _)).more hb4.size) hc hcm hn60)
                go_wp2_with fail
                refine (HF5.out _ rfl).mono ?_
                rintro e w5 ⟨A5, c5, rfl, hb5⟩
                go_wp2_with fail
                go_ret
                exact ⟨rfl, hb4.trans (hb5.mono hb4.size)⟩
end Go.Proofs.YtnkcnlaijejheaaDoor
