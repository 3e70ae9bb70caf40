/-
  The program's Reader: its state in memory, New, Left, Err, End.
-/
import Derived.Test.YtcmbnldeojlhbaaDoorRd
import Derived.Test.YtcmbnldeojlhbaaDoorCat
namespace Go.Proofs.YtcmbnldeojlhbaaDoor
open Go.RowKit

theorem Seg.but2 {w w' : World} {B g : Nat} {k : IntKind} {A : Option Addr} {n : Nat} {xs : List Int} (h : Seg w B k A n xs) (hb : But w w' g) (hB : B ≤ g) : Seg w' B k A n xs :=
  ⟨h.1, fun hn => by
    obtain ⟨b, off, e, hlt, hc⟩ := h.2 hn
    refine ⟨b, off, e, hlt, fun j hj => ?_⟩
    have h1 := hc j hj
    exact (World.cell?_of_block (w := w) (w' := w') (a := ⟨b, off + j, none⟩) (hb.block b (block_lt_of_cell h1) (by intro e; injection e with e; omega))).trans h1⟩

/-- A Reader of two cells: what has not been read of xs (p bytes of them have), its error. The bytes lie below it. -/
def WRdr (w : World) (g : Nat) (T : TypeId) (xs : List Int) (p : Nat) (err : Int) : Prop :=
  ∃ A n c, w.heap[g]? = some (.cells #[.slice A n c, .int .i64 err] T (0, 0)) ∧ Seg w g .u8 A n (xs.drop p) ∧ p + n = xs.length ∧ n ≤ c ∧ c ≤ 9223372036854775807
section
variable {w w' : World} {g p : Nat} {T : TypeId} {xs : List Int} {err : Int}
theorem WRdr.lt (h : WRdr w g T xs p err) : g < w.heap.size := by
  obtain ⟨_, _, _, h, _⟩ := h
  exact (Array.getElem?_eq_some_iff.1 h).1
theorem WRdr.drewN (h : WRdr w g T xs p err) (q : Nat) : WRdr (w.drewN q) g T xs p err := h
theorem WRdr.below {B : Nat} (h : WRdr w g T xs p err) (hb : Below B w w') (hg : g < B) : WRdr w' g T xs p err := by
  obtain ⟨A, n, c, h1, h2, h3⟩ := h
  exact ⟨A, n, c, (hb.block g hg).trans h1, h2.below hb (Nat.le_of_lt hg), h3⟩
theorem WRdr.but {g' : Nat} (h : WRdr w g T xs p err) (hb : But w w' g') (hg : g < g') : WRdr w' g T xs p err := by
  have hl := h.lt
  obtain ⟨A, n, c, h1, h2, h3⟩ := h
  exact ⟨A, n, c, (hb.block g hl (by intro e; injection e with e; omega)).trans h1, h2.but2 hb (Nat.le_of_lt hg), h3⟩
theorem WRdr.le (h : WRdr w g T xs p err) : p ≤ xs.length := by
  obtain ⟨_, _, _, _, _, h, _⟩ := h
  omega
end

set_option maxRecDepth 100000 in
set_option maxHeartbeats 1000000 in
theorem wnew_any (A : Option Addr) (n c : Nat) (xs : List Int) (w : World) (hs : Seg w w.heap.size .u8 A n xs) (hn : n ≤ 1099511627776) :
    Calls Tryd.prog 25 #[.slice A n c] w fun e w' => ∃ g, e = .returned (.pointer (some ⟨g, 0, none⟩)) ∧ w.heap.size ≤ g ∧ WRdr w' g 53 xs 0 0 ∧ Below w.heap.size w w' := by
  have HL := Lib.hid hs.1
  have HS := Lib.hid hs
  clear hs
  go_enter Tryd.func25, Tryd.ntmps25
  go_wp2_with fail
  refine (clone_any A n c xs w HS.out hn).mono ?_
  rintro e w1 ⟨v1, rfl, hR1, hb1⟩
  obtain ⟨A1, c1, rfl, hc1, hcm1⟩ := hR1.cut
  have HR1 := Lib.hid hR1
  have hz1 := hb1.size
  clear hR1
  go_wp2_with fail
  go_ret
  refine ⟨_, rfl, hz1, ⟨A1, n, c1, heap_alloc_new w1 _, ?_, by have := HL.out; omega, hc1, by unfold maxLen at hcm1; omega⟩, hb1.alloc hz1 _⟩
  exact HR1.out.seg.below ((Below.refl _ _).alloc (Nat.le_refl _) _) (Nat.le_refl _)

set_option maxHeartbeats 1000000 in
theorem wleft_any (g p : Nat) (xs : List Int) (err : Int) (w : World) (h : WRdr w g 53 xs p err) :
    Calls Tryd.prog 49 #[.pointer (some ⟨g, 0, none⟩)] w fun e w' => e = .returned (.int .i64 (leftR xs p)) ∧ w = w' := by
  obtain ⟨A, n, c, h1, h2, h3, h4, h5⟩ := h
  have c0 : w.cell? ⟨g, 0, none⟩ = some (.slice A n c) := cell_of_row w g 0 _ _ (0, 0) h1
  have HE : Hid (leftR xs p = (n : Int)) := by show _ = _; unfold leftR; omega
  clear h1 h2 h3
  go_enter Tryd.func49, Tryd.ntmps49
  go_wp2_with fail
  go_ret
  exact ⟨by rw [HE.out]; rfl, rfl⟩

set_option maxHeartbeats 1000000 in
theorem werr_any (g p : Nat) (xs : List Int) (err : Int) (w : World) (h : WRdr w g 53 xs p err) :
    Calls Tryd.prog 48 #[.pointer (some ⟨g, 0, none⟩)] w fun e w' => e = .returned (.int .i64 err) ∧ w = w' := by
  obtain ⟨A, n, c, h1, h2, h3, h4, h5⟩ := h
  have c1 : w.cell? ⟨g, 1, none⟩ = some (.int .i64 err) := cell_of_row w g 1 _ _ (0, 0) h1
  clear h1 h2 h3
  go_enter Tryd.func48, Tryd.ntmps48
  go_wp2_with fail
  go_ret
  exact ⟨rfl, rfl⟩

set_option maxHeartbeats 1000000 in
theorem wend_any (g p : Nat) (xs : List Int) (err : Int) (w : World) (h : WRdr w g 53 xs p err) :
    Calls Tryd.prog 28 #[.pointer (some ⟨g, 0, none⟩)] w fun e w' => e = .returned (.int .i64 (endR xs p err)) ∧ w = w' := by
  have H := Lib.hid h
  clear h
  by_cases he : err = 0
  · subst he
    by_cases hl : 0 < leftR xs p
    · have hE : Hid (endR xs p 0 = 3) := by show _ = _; rw [endR, if_pos ⟨rfl, hl⟩]
      have hd : decide (0 < leftR xs p) = true := by simpa using hl
      clear hl
      go_enter Tryd.func28, Tryd.ntmps28
      go_wp2_with (first
        | (go_at_call 49; refine (wleft_any g p xs _ w H.out).mono ?_; rintro e w' ⟨rfl, rfl⟩)
        | (go_at_call 48; refine (werr_any g p xs _ w H.out).mono ?_; rintro e w' ⟨rfl, rfl⟩))
      go_ret
      exact ⟨by rw [hE.out]; rfl, rfl⟩
    · have hE : Hid (endR xs p 0 = 0) := by show _ = _; rw [endR, if_neg (fun h => hl h.2)]
      have hd : decide (0 < leftR xs p) = false := by simpa using hl
      clear hl
      go_enter Tryd.func28, Tryd.ntmps28
      go_wp2_with (first
        | (go_at_call 49; refine (wleft_any g p xs _ w H.out).mono ?_; rintro e w' ⟨rfl, rfl⟩)
        | (go_at_call 48; refine (werr_any g p xs _ w H.out).mono ?_; rintro e w' ⟨rfl, rfl⟩))
      go_ret
      exact ⟨by rw [hE.out]; rfl, rfl⟩
  · have hE : Hid (endR xs p err = err) := by show _ = _; rw [endR, if_neg (fun h => he h.1)]
    have hd : (err == 0) = false := by simpa using he
    clear he
    go_enter Tryd.func28, Tryd.ntmps28
    go_wp2_with (first
      | (go_at_call 49; refine (wleft_any g p xs _ w H.out).mono ?_; rintro e w' ⟨rfl, rfl⟩)
      | (go_at_call 48; refine (werr_any g p xs _ w H.out).mono ?_; rintro e w' ⟨rfl, rfl⟩))
    go_ret
    exact ⟨by rw [hE.out]; rfl, rfl⟩

/-! The same, met in a region that draws its order. -/
theorem wleft_q (g p : Nat) (xs : List Int) (err : Int) (w : World) (h : WRdr w g 53 xs p err) (n : Nat) :
    Calls Tryd.prog 49 #[.pointer (some ⟨g, 0, none⟩)] (w.drewN n) fun e w'' => e = .returned (.int .i64 (leftR xs p)) ∧ ∃ m, w'' = w.drewN m :=
  (wleft_any g p xs err _ (h.drewN n)).mono fun _ _ ⟨he, hw⟩ => ⟨he, n, hw.symm⟩
theorem werr_q (g p : Nat) (xs : List Int) (err : Int) (w : World) (h : WRdr w g 53 xs p err) (n : Nat) :
    Calls Tryd.prog 48 #[.pointer (some ⟨g, 0, none⟩)] (w.drewN n) fun e w'' => e = .returned (.int .i64 err) ∧ ∃ m, w'' = w.drewN m :=
  (werr_any g p xs err _ (h.drewN n)).mono fun _ _ ⟨he, hw⟩ => ⟨he, n, hw.symm⟩
theorem wend_q (g p : Nat) (xs : List Int) (err : Int) (w : World) (h : WRdr w g 53 xs p err) (n : Nat) :
    Calls Tryd.prog 28 #[.pointer (some ⟨g, 0, none⟩)] (w.drewN n) fun e w'' => e = .returned (.int .i64 (endR xs p err)) ∧ ∃ m, w'' = w.drewN m :=
  (wend_any g p xs err _ (h.drewN n)).mono fun _ _ ⟨he, hw⟩ => ⟨he, n, hw.symm⟩
end Go.Proofs.YtcmbnldeojlhbaaDoor
