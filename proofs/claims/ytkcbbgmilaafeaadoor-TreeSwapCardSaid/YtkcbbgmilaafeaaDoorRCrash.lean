/-
  The reference's search for a collision on two ways.
-/
import Derived.Test.YtkcbbgmilaafeaaDoorRRoot
import Derived.Test.YtkcbbgmilaafeaaDoorRColl
import Derived.BigRegion
import Derived.BigQuiet
import Derived.Deep.CutRange
namespace Go.Proofs.YtkcbbgmilaafeaaDoor
open Go.RowKit

/-- Four objects that a call has laid, one behind the other. -/
theorem laid_four (w : World) (o0 o1 o2 o3 : Obj) : let W := ((((w.alloc o0).alloc o1).alloc o2).alloc o3).drew
    W.heap[w.heap.size]? = some o0 ∧ W.heap[w.heap.size + 1]? = some o1 ∧ W.heap[w.heap.size + 1 + 1]? = some o2 ∧ W.heap[w.heap.size + 1 + 1 + 1]? = some o3 ∧ Below w.heap.size w W := by
  intro W
  have h0 := heap_alloc_new w o0
  have h1 := heap_alloc_new (w.alloc o0) o1
  have h2 := heap_alloc_new ((w.alloc o0).alloc o1) o2
  have h3 := heap_alloc_new (((w.alloc o0).alloc o1).alloc o2) o3
  have z1 : (w.alloc o0).heap.size = w.heap.size + 1 := by simp
  have z2 : ((w.alloc o0).alloc o1).heap.size = w.heap.size + 1 + 1 := by simp
  have z3 : (((w.alloc o0).alloc o1).alloc o2).heap.size = w.heap.size + 1 + 1 + 1 := by simp
  rw [z1] at h1
  rw [z2] at h2
  rw [z3] at h3
  refine ⟨?_, ?_, ?_, h3, ((((Below.refl _ _).alloc (Nat.le_refl _) _).alloc (by simp) _).alloc (by simp; omega) _).alloc (by simp; omega) _ |>.drew⟩
  · exact (heap_alloc_old _ _ (by rw [z3]; omega)).trans ((heap_alloc_old _ _ (by rw [z2]; omega)).trans ((heap_alloc_old _ _ (by rw [z1]; omega)).trans h0))
  · exact (heap_alloc_old _ _ (by rw [z3]; omega)).trans ((heap_alloc_old _ _ (by rw [z2]; omega)).trans h1)
  · exact (heap_alloc_old _ _ (by rw [z3]; omega)).trans h2
theorem crash_step (j I : Nat) (X Y P Q : List Int) (p q : List (List Int)) :
    crashF j X Y I (P :: p) (Q :: q) = (collideI (frameI 3 (stepT j I X P)) (frameI 3 (stepT j I Y Q)) 16 || crashF (j + 1) (hash16 3 (stepT j I X P)) (hash16 3 (stepT j I Y Q)) (I / 2) p q) := by
  rw [crashF]
  rfl

/-- Block g holds three slices, the first of which is over two bytes in a block of its own. -/
def PairAt (w : World) (B g : Nat) (x y : Int) (v1 v2 : Value) : Prop := ∃ b, B ≤ b ∧ B ≤ g ∧ w.heap[g]? = some (.cells #[.slice (some ⟨b, 0, none⟩) 2 2, v1, v2] 27 (0, 0)) ∧ w.heap[b]? = some (.cells #[.int .u8 x, .int .u8 y] 5 (0, 0))
section
variable {w w' : World} {B g : Nat} {x y : Int} {v1 v2 : Value}
theorem PairAt.mk_ {b : Nat} (h3 : w.heap[g]? = some (.cells #[.slice (some ⟨b, 0, none⟩) 2 2, v1, v2] 27 (0, 0))) (h4 : w.heap[b]? = some (.cells #[.int .u8 x, .int .u8 y] 5 (0, 0))) (h1 : B ≤ b) (h2 : B ≤ g) : PairAt w B g x y v1 v2 := ⟨b, h1, h2, h3, h4⟩
theorem PairAt.lt (h : PairAt w B g x y v1 v2) : g < w.heap.size := by
  obtain ⟨b, _, _, h, _⟩ := h
  exact (Array.getElem?_eq_some_iff.1 h).1
theorem PairAt.low (h : PairAt w B g x y v1 v2) : B ≤ g := by
  obtain ⟨b, _, h, _⟩ := h
  exact h
theorem PairAt.cell1 (h : PairAt w B g x y v1 v2) : w.cell? ⟨g, 1, none⟩ = some v1 := by
  obtain ⟨b, _, _, h, _⟩ := h
  exact cell_of_row w g 1 _ _ _ h
theorem PairAt.cell2 (h : PairAt w B g x y v1 v2) : w.cell? ⟨g, 2, none⟩ = some v2 := by
  obtain ⟨b, _, _, h, _⟩ := h
  exact cell_of_row w g 2 _ _ _ h
theorem PairAt.frozen (h : PairAt w B g x y v1 v2) (i : Nat) : w.frozen? ⟨g, i, none⟩ = false := by
  obtain ⟨b, _, _, h, _⟩ := h
  exact frozen_of_row w g i _ _ h
theorem PairAt.below (h : PairAt w B g x y v1 v2) (hb : Below w.heap.size w w') : PairAt w' B g x y v1 v2 := by
  obtain ⟨b, h1, h2, h3, h4⟩ := h
  exact ⟨b, h1, h2, (hb.block g (Array.getElem?_eq_some_iff.1 h3).1).trans h3, (hb.block b (Array.getElem?_eq_some_iff.1 h4).1).trans h4⟩
theorem PairAt.set_ (h : PairAt w B g x y v1 v2) (u1 u2 : Value) : PairAt ((w.setCell ⟨g, 1, none⟩ u1).setCell ⟨g, 2, none⟩ u2) B g x y u1 u2 := by
  obtain ⟨b, h1, h2, h3, h4⟩ := h
  have hne : b ≠ g := fun e => by subst e; rw [h3] at h4; injection h4 with h4; injection h4 with _ h4 _; cases h4
  refine ⟨b, h1, h2, ?_, ?_⟩
  · have s1 := heap_setCell_same w g 1 _ _ u1 h3
    have s2 := heap_setCell_same (w.setCell ⟨g, 1, none⟩ u1) g 2 _ _ u2 s1
    simpa using s2
  · exact (heap_setCell_other _ _ b u2 hne).trans ((heap_setCell_other _ _ b u1 hne).trans h4)
theorem PairAt.row (h : PairAt w B g x y v1 v2) : ∃ cs, w.heap[g]? = some (.cells cs 27 (0, 0)) := by
  obtain ⟨b, _, _, h, _⟩ := h
  exact ⟨_, h⟩
theorem row_set {g2 : Nat} (h : ∃ cs, w.heap[g2]? = some (.cells cs 27 (0, 0))) (i : Nat) (u : Value) : ∃ cs, (w.setCell ⟨g2, i, none⟩ u).heap[g2]? = some (.cells cs 27 (0, 0)) := by
  obtain ⟨cs, h⟩ := h
  exact ⟨_, heap_setCell_same w g2 i _ _ u h⟩
theorem PairAt.set_far {g2 : Nat} (h : PairAt w B g x y v1 v2) (h2 : ∃ cs, w.heap[g2]? = some (.cells cs 27 (0, 0))) (hne : g ≠ g2) (i : Nat) (u : Value) : PairAt (w.setCell ⟨g2, i, none⟩ u) B g x y v1 v2 := by
  obtain ⟨b, h1, h2', h3, h4⟩ := h
  obtain ⟨cs, k3⟩ := h2
  have hb : b ≠ g2 := fun e => by subst e; rw [k3] at h4; injection h4 with h4; injection h4 with _ h4 _; cases h4
  exact ⟨b, h1, h2', (heap_setCell_other _ _ g u hne).trans h3, (heap_setCell_other _ _ b u hb).trans h4⟩
theorem PairAt.set_two {g2 : Nat} (h : PairAt w B g x y v1 v2) (h2 : ∃ cs, w.heap[g2]? = some (.cells cs 27 (0, 0))) (hne : g ≠ g2) (u1 u2 : Value) : PairAt ((w.setCell ⟨g2, 1, none⟩ u1).setCell ⟨g2, 2, none⟩ u2) B g x y v1 v2 :=
  (h.set_far h2 hne 1 u1).set_far (row_set h2 1 u1) hne 2 u2
theorem PairAt.fields {A1 A2 : Option Addr} {n1 c1 n2 c2 : Nat} {X Y : List Int} (h : PairAt w B g x y (.slice A1 n1 c1) (.slice A2 n2 c2)) (h1 : Seg w w.heap.size .u8 A1 n1 X) (h2 : Seg w w.heap.size .u8 A2 n2 Y) (b1 : n1 ≤ c1) (m1 : c1 ≤ maxLen) (b2 : n2 ≤ c2) (m2 : c2 ≤ maxLen) :
    Fields w w.heap.size (some ⟨g, 0, none⟩) 3 [[x, y], X, Y] := by
  obtain ⟨b, _, _, h3, h4⟩ := h
  exact fields3 w g _ _ _ _ _ _ _ _ _ _ X Y (cell_of_row w g 0 _ _ _ h3) (cell_of_row w g 1 _ _ _ h3) (cell_of_row w g 2 _ _ _ h3) (Seg.const [x, y] _ (0, 0) b w h4) h1 h2 (Nat.le_refl _) (by unfold maxLen; simp) b1 m1 b2 m2
end

/-- Two lists of three fields that differ in the last two. -/
def MetAt (w : World) (B gf gg j i : Nat) (L M : List (List Int)) : Prop := ∃ B1 p1 d1 U1 B2 p2 d2 U2 B3 p3 d3 U3 B4 p4 d4 U4,
  PairAt w B gf ((j : Int) % 256) ((i : Int) % 256) (.slice B1 p1 d1) (.slice B2 p2 d2) ∧ PairAt w B gg ((j : Int) % 256) ((i : Int) % 256) (.slice B3 p3 d3) (.slice B4 p4 d4) ∧
  Seg w w.heap.size .u8 B1 p1 U1 ∧ Seg w w.heap.size .u8 B2 p2 U2 ∧ Seg w w.heap.size .u8 B3 p3 U3 ∧ Seg w w.heap.size .u8 B4 p4 U4 ∧
  (p1 ≤ 1000 ∧ p1 ≤ d1 ∧ d1 ≤ maxLen) ∧ (p2 ≤ 1000 ∧ p2 ≤ d2 ∧ d2 ≤ maxLen) ∧ (p3 ≤ 1000 ∧ p3 ≤ d3 ∧ d3 ≤ maxLen) ∧ (p4 ≤ 1000 ∧ p4 ≤ d4 ∧ d4 ≤ maxLen) ∧
  L = nodeF j i U1 U2 ∧ M = nodeF j i U3 U4

theorem below_alloc {w X : World} (h : Below w.heap.size w X) {o : Obj} : Below w.heap.size w (X.alloc o) := h.alloc h.size o

set_option maxRecDepth 100000 in
set_option maxHeartbeats 8000000 in
theorem rcrash_any (A A2 A3 A4 : Option Addr) (n c n2 c2 n3 c3 n4 c4 I : Nat) (a b : List Int) (p q : List (List Int)) (w : World) (ha : Seg w w.heap.size .u8 A n a) (hn : n ≤ 1000) (hc : n ≤ c) (hm : c ≤ maxLen) (hb : Seg w w.heap.size .u8 A2 n2 b) (hn2 : n2 ≤ 1000) (hc2 : n2 ≤ c2) (hm2 : c2 ≤ maxLen)
    (hI : I < 8) (hp : Fields w w.heap.size A3 n3 p) (hsp : ∀ x ∈ p, x.length ≤ 1000) (hn3 : n3 ≤ 1048576) (hq : Fields w w.heap.size A4 n4 q) (hsq : ∀ x ∈ q, x.length ≤ 1000) (hn4 : n4 ≤ 1048576) :
    Calls Tryd.prog 20 #[.slice A n c, .slice A2 n2 c2, .int .i64 I, .slice A3 n3 c3, .slice A4 n4 c4] w fun e w' => e = .returned (.bool (crashF 0 a b I p q)) ∧ Below w.heap.size w w' := by
  have HA := Lib.hid ha
  have HB := Lib.hid hb
  have HP := Lib.hid hp
  have HQ := Lib.hid hq
  have HLP := Lib.hid hp.1
  have HLQ := Lib.hid hq.1
  have HSP := Lib.hid hsp
  have HSQ := Lib.hid hsq
  clear ha hb hp hq hsp hsq
  obtain ⟨R, HR⟩ : ∃ R, Hid (crashF 0 a b I p q = R) := ⟨_, rfl⟩
  rw [HR.out]
  go_enter Tryd.func20, Tryd.ntmps20
  go_wp2_with fail
  go_loopw [2, 11, 12, 13, 14, 15] (fun i x y h _ _ wr => ∃ (I j : Nat) (A1 : Option Addr) (n1 c1 : Nat) (A2 : Option Addr) (n2 c2 : Nat) (X Y : List Int), i = .int .i64 I ∧ h = .int .i64 j ∧ x = .slice A1 n1 c1 ∧ y = .slice A2 n2 c2 ∧ j ≤ n3 ∧ j ≤ n4 ∧ I < 8 ∧ n1 ≤ 1000 ∧ n1 ≤ c1 ∧ Hid (c1 ≤ maxLen) ∧ n2 ≤ 1000 ∧ n2 ≤ c2 ∧ Hid (c2 ≤ maxLen) ∧ Hid (Seg wr wr.heap.size .u8 A1 n1 X) ∧ Hid (Seg wr wr.heap.size .u8 A2 n2 Y) ∧ Hid (crashF j X Y I (p.drop j) (q.drop j) = R) ∧ Below w.heap.size w wr) (fun _ _ _ h _ _ _ => n3 - (intOf h).toNat)
  case atStart => exact ⟨I, 0, A, n, c, A2, n2, c2, a, b, rfl, rfl, rfl, rfl, by omega, by omega, hI, hn, hc, hm, hn2, hc2, hm2, HA.out, HB.out, HR.out, Below.refl _ _⟩
  case round =>
    clear hI hn hc hm hn2 hc2 hm2 HA HB
    obtain ⟨I, j, A1, n1, c1, A2, n2, c2, X, Y, rfl, rfl, rfl, rfl, hj, hj2, hI, hn1, hc1, hm1, hn2, hc2, hm2, hX, hY, hCr, hb⟩ := hrel
    have hz := hb.size
    by_cases hlt : j < n3
    · by_cases hlt2 : j < n4
      · have hd1 : decide ((j : Int) < n3) = true := by simp; omega
        have hd2 : decide ((j : Int) < n4) = true := by simp; omega
        obtain ⟨bp, op, rfl, hbp, hcp⟩ := HP.out.2 (by omega)
        obtain ⟨bq, oq, rfl, hbq, hcq⟩ := HQ.out.2 (by omega)
        obtain ⟨A5, n5, c5, e5, s5, l5, x5⟩ := hcp j hlt
        obtain ⟨A6, n6, c6, e6, s6, l6, x6⟩ := hcq j hlt2
        have hcp' := (hb.cell (p := ⟨bp, op + j, none⟩) hbp).trans e5
        have hcq' := (hb.cell (p := ⟨bq, oq + j, none⟩) hbq).trans e6
        have hj0 : (0 : Int) ≤ (j : Int) := by omega
        have hj1 : (j : Int) < n3 := by omega
        have hj2' : (j : Int) < n4 := by omega
        have hbd := hb.drew
        obtain ⟨I2, hI2⟩ : ∃ I2, Hid (I / 2 = I2) := ⟨_, rfl⟩
        have hI28 : I2 < 8 := by have := hI2.out; omega
        have HB1 : Hid (IntKind.u8.wrap (j : Int) = (j : Int) % 256) := by show _ = _; simp [IntKind.wrap, IntKind.bits, IntKind.signed]
        have HB3 : Hid (IntKind.i64.wrap ((I : Int) / 2) = (I2 : Int)) := by show _ = _; rw [IntWalk.i64_in _ (by omega), ← hI2.out]; omega
        have HB2 : Hid (IntKind.u8.wrap (I2 : Int) = (I2 : Int) % 256) := by show _ = _; simp [IntKind.wrap, IntKind.bits, IntKind.signed]
        have HS5 := Lib.hid ((s5.below hb (Nat.le_refl _)).more hz)
        have HS6 := Lib.hid ((s6.below hb (Nat.le_refl _)).more hz)
        have hn5 : n5 ≤ 1000 := by rw [← s5.1]; exact get_short HSP.out j
        have hn6 : n6 ≤ 1000 := by rw [← s6.1]; exact get_short HSQ.out j
        obtain ⟨P, hP⟩ : ∃ P, Hid (p.getD j [] = P) := ⟨_, rfl⟩
        obtain ⟨Q, hQ⟩ : ∃ Q, Hid (q.getD j [] = Q) := ⟨_, rfl⟩
        rw [hP.out] at HS5
        rw [hQ.out] at HS6
        have HD : Hid (R = (collideI (frameI 3 (stepT j I X P)) (frameI 3 (stepT j I Y Q)) 16 || crashF (j + 1) (hash16 3 (stepT j I X P)) (hash16 3 (stepT j I Y Q)) I2 (p.drop (j + 1)) (q.drop (j + 1)))) := by
          show _ = _
          have h := hCr.out
          have hd : p.drop j = P :: p.drop (j + 1) := by
            rw [List.drop_eq_getElem_cons (by rw [HLP.out]; exact hlt), ← hP.out]
            simp [List.getD, HLP.out, hlt]
          have hd' : q.drop j = Q :: q.drop (j + 1) := by
            rw [List.drop_eq_getElem_cons (by rw [HLQ.out]; exact hlt2), ← hQ.out]
            simp [List.getD, HLQ.out, hlt2]
          rw [hd, hd', crash_step, hI2.out] at h
          exact h.symm
        have HCC : Hid (∀ W, Below w.heap.size w W → W.cell? ⟨bp, op + j, none⟩ = some (.slice A5 n5 c5) ∧ W.cell? ⟨bq, oq + j, none⟩ = some (.slice A6 n6 c6)) := fun W hW => ⟨(hW.cell (p := ⟨bp, op + j, none⟩) hbp).trans e5, (hW.cell (p := ⟨bq, oq + j, none⟩) hbq).trans e6⟩
        clear hcp hcq s5 s6 e5 e6
        go_wp2_with fail
        go_cut [14, 15] from 18 to 101 (fun f g wx => ∃ gf gg, f = .slice (some ⟨gf, 0, none⟩) 3 3 ∧ g = .slice (some ⟨gg, 0, none⟩) 3 3 ∧ gf ≠ gg ∧ Hid (PairAt wx wr.heap.size gf ((j : Int) % 256) ((I2 : Int) % 256) (.slice A1 n1 c1) (.slice A5 n5 c5)) ∧ Hid (PairAt wx wr.heap.size gg ((j : Int) % 256) ((I2 : Int) % 256) (.slice A2 n2 c2) (.slice A6 n6 c6)) ∧ Below wr.heap.size wr wx)
        case first =>
          go_region_held3 (fun W => W.cell? ⟨bp, op + j, none⟩ = some (.slice A5 n5 c5) ∧ W.cell? ⟨bq, oq + j, none⟩ = some (.slice A6 n6 c6)) ((refine HCC.out _ ?_; repeat (first | exact hbd | exact hb | refine Below.drew ?_ | refine below_alloc ?_))) ((first | fail))
          all_goals
            rw [HB1.out, HB3.out, HB2.out]
            try go_wp2_with fail
            go_meet
            refine ⟨_, _, rfl, rfl, by omega, ?_, ?_, (laid_four wr _ _ _ _).2.2.2.2⟩
            all_goals
              first
                | exact Lib.hid (PairAt.mk_ (laid_four wr _ _ _ _).2.2.1 (laid_four wr _ _ _ _).1 (by omega) (by omega))
                | exact Lib.hid (PairAt.mk_ (laid_four wr _ _ _ _).2.2.2.1 (laid_four wr _ _ _ _).2.1 (by omega) (by omega))
                | exact Lib.hid (PairAt.mk_ (laid_four wr _ _ _ _).2.2.1 (laid_four wr _ _ _ _).2.1 (by omega) (by omega))
                | exact Lib.hid (PairAt.mk_ (laid_four wr _ _ _ _).2.2.2.1 (laid_four wr _ _ _ _).1 (by omega) (by omega))
                | exact Lib.hid (PairAt.mk_ (laid_four wr _ _ _ _).2.1 (laid_four wr _ _ _ _).1 (by omega) (by omega))
                | exact Lib.hid (PairAt.mk_ (laid_four wr _ _ _ _).2.2.2.1 (laid_four wr _ _ _ _).2.2.1 (by omega) (by omega))
        case rest =>
          obtain ⟨gf, gg, rfl, rfl, hne, HF, HG, hbc⟩ := hcut
          have hbw := hb.trans (hbc.mono hz)
          have hfz := hbc.size
          have hlf := HF.out.low
          have hlg := HG.out.low
          have HS5c := Lib.hid ((HS5.out.below hbc (Nat.le_refl _)).more hfz)
          have HS6c := Lib.hid ((HS6.out.below hbc (Nat.le_refl _)).more hfz)
          have HXc := Lib.hid ((hX.out.below hbc (Nat.le_refl _)).more hfz)
          have HYc := Lib.hid ((hY.out.below hbc (Nat.le_refl _)).more hfz)
          clear HB1 HB2 HB3 hbd
          by_cases hev : I % 2 = 1
          focus
            have hr1 : (I : Int).tmod 2 = 1 := by rw [Int.tmod_eq_emod_of_nonneg (by omega)]; omega
            have hr2 : (I : Int) % 2 = 1 := by omega
            have f1 := HF.out.frozen 1
            have f2 := HF.out.frozen 2
            have f3 := HG.out.frozen 1
            have f4 := HG.out.frozen 2
            have k1 := HF.out.cell1
            have k2 := HF.out.cell2
            have k3 := HG.out.cell1
            have k4 := HG.out.cell2
            obtain ⟨hcp', hcq'⟩ := HCC.out _ hbw
            go_wp2_with fail
            go_region_held3 (fun W => W.cell? ⟨bp, op + j, none⟩ = some (.slice A5 n5 c5) ∧ W.cell? ⟨bq, oq + j, none⟩ = some (.slice A6 n6 c6)) ((refine HCC.out _ ?_; repeat (first | exact hbw | refine Below.drew ?_ | (refine Below.setCell ?_ (Nat.le_trans hz hlf) _) | (refine Below.setCell ?_ (Nat.le_trans hz hlg) _)))) ((first | fail))
            generalize hw5 : World.drew _ = w5
            have hb5 : Below wr.heap.size wr w5 := by rw [← hw5]; exact ((((hbc.setCell hlf _).setCell hlf _).setCell hlg _).setCell hlg _).drew
            have hz5 := hb5.size
            have HMet : Hid (MetAt w5 wr.heap.size gf gg j I2 (stepT j I X P) (stepT j I Y Q)) := by
              have hp1 : PairAt w5 wr.heap.size gf ((j : Int) % 256) ((I2 : Int) % 256) (.slice A5 n5 c5) (.slice A1 n1 c1) := by
                rw [← hw5]
                exact (HF.out.set_ (.slice A5 n5 c5) (.slice A1 n1 c1)).set_two (HG.out.set_two HF.out.row (Ne.symm hne) _ _).row hne _ _
              have hp2 : PairAt w5 wr.heap.size gg ((j : Int) % 256) ((I2 : Int) % 256) (.slice A6 n6 c6) (.slice A2 n2 c2) := by
                rw [← hw5]
                exact (HG.out.set_two HF.out.row (Ne.symm hne) (.slice A5 n5 c5) (.slice A1 n1 c1)).set_ (.slice A6 n6 c6) (.slice A2 n2 c2)
              exact ⟨_, _, _, _, _, _, _, _, _, _, _, _, _, _, _, _, hp1, hp2, (HS5.out.below hb5 (Nat.le_refl _)).more hz5, (hX.out.below hb5 (Nat.le_refl _)).more hz5, (HS6.out.below hb5 (Nat.le_refl _)).more hz5, (hY.out.below hb5 (Nat.le_refl _)).more hz5,
                ⟨hn5, l5, x5⟩, ⟨hn1, hc1, hm1.out⟩, ⟨hn6, l6, x6⟩, ⟨hn2, hc2, hm2.out⟩, by rw [stepT, if_neg (by omega), hI2.out], by rw [stepT, if_neg (by omega), hI2.out]⟩
            clear hw5 f1 f2 f3 f4 k1 k2 k3 k4 hcp' hcq' hr1 hr2 hev hbc hbw hfz HF HG HS5c HS6c HXc HYc
          rotate_left
          focus
            have hr1 : (I : Int).tmod 2 = 0 := by rw [Int.tmod_eq_emod_of_nonneg (by omega)]; omega
            have hr2 : (I : Int) % 2 = 0 := by omega
            obtain ⟨w5, rfl⟩ : ∃ w5 : World, w5 = wc := ⟨_, rfl⟩
            have hb5 := hbc
            have hz5 := hb5.size
            have HMet : Hid (MetAt w5 wr.heap.size gf gg j I2 (stepT j I X P) (stepT j I Y Q)) :=
              ⟨_, _, _, _, _, _, _, _, _, _, _, _, _, _, _, _, HF.out, HG.out, HXc.out, HS5c.out, HYc.out, HS6c.out, ⟨hn1, hc1, hm1.out⟩, ⟨hn5, l5, x5⟩, ⟨hn2, hc2, hm2.out⟩, ⟨hn6, l6, x6⟩, by rw [stepT, if_pos (by omega), hI2.out], by rw [stepT, if_pos (by omega), hI2.out]⟩
            go_wp2_with fail
            clear hr1 hr2 hev hbc hbw hfz HF HG HS5c HS6c HXc HYc
          rotate_left
          all_goals
            obtain ⟨B1, p1, d1, U1, B2, p2, d2, U2, B3, p3, d3, U3, B4, p4, d4, U4, hF, hG, hU1, hU2, hU3, hU4, ⟨q1, q2, q3⟩, ⟨q4, q5, q6⟩, ⟨q7, q8, q9⟩, ⟨qa, qb, qc⟩, hL, hM⟩ := HMet.out
            have HF := Lib.hid hF
            have HG := Lib.hid hG
            have HU1 := Lib.hid hU1
            have HU2 := Lib.hid hU2
            have HU3 := Lib.hid hU3
            have HU4 := Lib.hid hU4
            have HL := Lib.hid hL
            have HM := Lib.hid hM
            have HLT1 := Lib.hid hU1.1
            have HLT2 := Lib.hid hU2.1
            have HLT3 := Lib.hid hU3.1
            have HLT4 := Lib.hid hU4.1
            rw [HL.out, HM.out] at HD
            have hbw5 := hb.trans (hb5.mono hz)
            clear hF hG hU1 hU2 hU3 hU4 hL hM HMet HS5 HS6 hX hY
            try go_wp2_with fail
            refine (rframe_any 3 _ 3 3 (nodeF j I2 U1 U2) w5 (HF.out.fields HU1.out HU2.out q2 q3 q5 q6) (by omega) (by simp [nodeF, tot]; rw [HLT1.out, HLT2.out]; omega)).mono ?_
            rintro e w6 ⟨v6, rfl, hown6, hb6⟩
            have HR6 := Lib.hid (hown6.row (n := 15 + p1 + p2) (by rw [frameI_length]; simp [nodeF, tot]; rw [HLT1.out, HLT2.out]; omega))
            obtain ⟨A7, c7, rfl, _, _⟩ := HR6.out.cut
            have hz6 := hb6.size
            clear hown6
            go_wp2_with fail
            refine (rframe_any 3 _ 3 3 (nodeF j I2 U3 U4) w6 ((HG.out.below hb6).fields ((HU3.out.below hb6 (Nat.le_refl _)).more hz6) ((HU4.out.below hb6 (Nat.le_refl _)).more hz6) q8 q9 qb qc) (by omega) (by simp [nodeF, tot]; rw [HLT3.out, HLT4.out]; omega)).mono ?_
            rintro e w7 ⟨v7, rfl, hown7, hb7⟩
            have HR7 := Lib.hid (hown7.row (n := 15 + p3 + p4) (by rw [frameI_length]; simp [nodeF, tot]; rw [HLT3.out, HLT4.out]; omega))
            obtain ⟨A8, c8, rfl, _, _⟩ := HR7.out.cut
            have hz7 := hb7.size
            have hb57 := hb6.trans (hb7.mono hz6)
            have hz57 := hb57.size
            have HR67 := Lib.hid (HR6.out.below hb7)
            clear hown7
            go_wp2_with fail
            refine (rcollide_any A7 A8 (15 + p1 + p2) c7 (15 + p3 + p4) c8 _ _ 16 w7 HR67.out.seg HR7.out.seg (by omega) (by omega)).mono ?_
            rintro e w8 ⟨rfl, hb8⟩
            have hb58 := hb57.trans (hb8.mono hz57)
            have hz58 := hb58.size
            have hbw8 := hbw5.trans (hb58.mono hbw5.size)
            obtain ⟨V, hV⟩ : ∃ V, collideI (frameI 3 (nodeF j I2 U1 U2)) (frameI 3 (nodeF j I2 U3 U4)) 16 = V := ⟨_, rfl⟩
            rw [hV]
            rw [hV] at HD
            cases V
            · have HD2 : Hid (crashF (j + 1) (hash16 3 (nodeF j I2 U1 U2)) (hash16 3 (nodeF j I2 U3 U4)) I2 (p.drop (j + 1)) (q.drop (j + 1)) = R) := by show _ = _; rw [HD.out, Bool.false_or]
              have HF8 := Lib.hid (HF.out.below hb58)
              have HG8 := Lib.hid (HG.out.below hb58)
              have HC4 : Hid (∀ W, Below w5.heap.size w5 W → W.cell? ⟨gf, 1, none⟩ = some (.slice B1 p1 d1) ∧ W.cell? ⟨gf, 2, none⟩ = some (.slice B2 p2 d2) ∧ W.cell? ⟨gg, 1, none⟩ = some (.slice B3 p3 d3) ∧ W.cell? ⟨gg, 2, none⟩ = some (.slice B4 p4 d4)) := fun W hW => ⟨(HF.out.below hW).cell1, (HF.out.below hW).cell2, (HG.out.below hW).cell1, (HG.out.below hW).cell2⟩
              obtain ⟨hk1, hk2, hk3, hk4⟩ := HC4.out _ hb58
              have hb8d := hb58.drew
              have HS1 := Lib.hid ((HU1.out.below hb58 (Nat.le_refl _)).more hz58)
              have HS2 := Lib.hid ((HU2.out.below hb58 (Nat.le_refl _)).more hz58)
              have hquo : IntKind.i64.wrap ((I : Int) / 2) = (I2 : Int) := by rw [IntWalk.i64_in _ (by omega), ← hI2.out]; omega
              clear hV hb6 hb7 hb8 hb57 hz6 hz7 hz57
              go_wp2_with fail
              go_region_held3 (fun W => W.cell? ⟨gf, 1, none⟩ = some (.slice B1 p1 d1) ∧ W.cell? ⟨gf, 2, none⟩ = some (.slice B2 p2 d2) ∧ W.cell? ⟨gg, 1, none⟩ = some (.slice B3 p3 d3) ∧ W.cell? ⟨gg, 2, none⟩ = some (.slice B4 p4 d4))
                (first
                  | exact HC4.out _ hb510
                  | exact HC4.out _ hb59
                  | exact HC4.out _ hb8d)
                ((first
                  | (go_at_call 28; refine (rjoin_any B3 B4 p3 d3 p4 d4 j I2 U3 U4 w9 HS3.out (by omega) q8 q9 HS4.out (by omega) qb qc).mono ?_; rintro e w10 ⟨v10, rfl, hR10, hbx10⟩; obtain ⟨A10, c10, rfl, hc10, hm10⟩ := hR10.cut; have hb510 : Below w5.heap.size w5 w10 := hb59.trans (hbx10.mono hb59.size); have HY10 := Lib.hid hR10.seg; have HX10 := Lib.hid ((HX9.out.below hbx10 (Nat.le_refl _)).more hbx10.size); clear hR10)
                  | (go_at_call 28; refine (rjoin_any B1 B2 p1 d1 p2 d2 j I2 U1 U2 w8.drew HS1.out (by omega) q2 q3 HS2.out (by omega) q5 q6).mono ?_; rintro e w9 ⟨v9, rfl, hR9, hbx9⟩; obtain ⟨A9, c9, rfl, hc9, hm9⟩ := hR9.cut; have hb59 : Below w5.heap.size w5 w9 := hb8d.trans (hbx9.mono hb8d.size); have HX9 := Lib.hid hR9.seg; have HS3 := Lib.hid ((HU3.out.below hb59 (Nat.le_refl _)).more hb59.size); have HS4 := Lib.hid ((HU4.out.below hb59 (Nat.le_refl _)).more hb59.size); clear hR9)))
              have hbw10 := hbw5.trans (hb510.mono hbw5.size)
              clear hb8d hk1 hk2 hk3 hk4 HS1 HS2 HS3 HS4 HC4 HF8 HG8
              go_wp2
              go_roundw
              case measure => simp [intOf]; omega
              case rel => exact ⟨I2, j + 1, A9, 16, c9, A10, 16, c10, _, _, by first | rfl | rw [hquo], by go_num, rfl, rfl, by omega, by omega, hI28, by omega, hc9, hm9, by omega, hc10, hm10, HX10.out, HY10.out, HD2.out, hbw10⟩
            · have HD2 : Hid (R = true) := by show _ = _; rw [HD.out, Bool.true_or]
              go_wp2_with fail
              go_ret
              exact ⟨by rw [HD2.out]; rfl, hbw8⟩
      · have hd1 : decide ((j : Int) < n3) = true := by simp; omega
        have hd2 : decide ((j : Int) < n4) = false := by simp; omega
        have HE : Hid (R = false) := by
          show _ = _
          rw [← hCr.out, List.drop_of_length_le (l := q) (by rw [HLQ.out]; omega)]
          rcases p.drop j with _ | ⟨_, _⟩ <;> rw [crashF]
        go_wp2_with fail
        go_ret
        exact ⟨by rw [HE.out]; rfl, hb⟩
    · have hd1 : decide ((j : Int) < n3) = false := by simp; omega
      have HE : Hid (R = false) := by
        show _ = _
        rw [← hCr.out, List.drop_of_length_le (l := p) (by rw [HLP.out]; omega), crashF]
      go_wp2_with fail
      go_ret
      exact ⟨by rw [HE.out]; rfl, hb⟩
end Go.Proofs.YtkcbbgmilaafeaaDoor
