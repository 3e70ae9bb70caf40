/-
  The reference's Reader: its state in memory, New, need, Left, End.
-/
import Derived.Test.YtcmbnldeojlhbaaDoorBase3
namespace Go.Proofs.YtcmbnldeojlhbaaDoor
open Go.RowKit

/-- A Reader of three cells: its bytes, how many have been read, its error. -/
def Rdr (w : World) (g : Nat) (T : TypeId) (A : Option Addr) (n c : Nat) (p : Nat) (err : Int) : Prop := w.heap[g]? = some (.cells #[.slice A n c, .int .i64 (p : Int), .int .i64 err] T (0, 0))
section
variable {w w' : World} {g n c p : Nat} {T : TypeId} {A : Option Addr} {err : Int}
theorem Rdr.lt (h : Rdr w g T A n c p err) : g < w.heap.size := (Array.getElem?_eq_some_iff.1 h).1
theorem Rdr.cell0 (h : Rdr w g T A n c p err) : w.cell? ⟨g, 0, none⟩ = some (.slice A n c) := cell_of_row w g 0 _ T (0, 0) h
theorem Rdr.cell1 (h : Rdr w g T A n c p err) : w.cell? ⟨g, 1, none⟩ = some (.int .i64 (p : Int)) := cell_of_row w g 1 _ T (0, 0) h
theorem Rdr.cell2 (h : Rdr w g T A n c p err) : w.cell? ⟨g, 2, none⟩ = some (.int .i64 err) := cell_of_row w g 2 _ T (0, 0) h
theorem Rdr.frozen (h : Rdr w g T A n c p err) (i : Nat) : w.frozen? ⟨g, i, none⟩ = false := frozen_of_row w g i _ T h
theorem Rdr.drewN (h : Rdr w g T A n c p err) (q : Nat) : Rdr (w.drewN q) g T A n c p err := h
theorem Rdr.set1 (h : Rdr w g T A n c p err) (q : Nat) : Rdr (w.setCell ⟨g, 1, none⟩ (.int .i64 (q : Int))) g T A n c q err := by
  have := heap_setCell_same w g 1 _ T (.int .i64 (q : Int)) h
  simpa [Rdr] using this
theorem Rdr.set2 (h : Rdr w g T A n c p err) (e : Int) : Rdr (w.setCell ⟨g, 2, none⟩ (.int .i64 e)) g T A n c p e := by
  have := heap_setCell_same w g 2 _ T (.int .i64 e) h
  simpa [Rdr] using this
theorem Rdr.below {B : Nat} (h : Rdr w g T A n c p err) (hb : Below B w w') (hg : g < B) : Rdr w' g T A n c p err := (hb.block g hg).trans h
theorem Rdr.but {g' : Nat} (h : Rdr w g T A n c p err) (hb : But w w' g') (hg : g ≠ g') : Rdr w' g T A n c p err := (hb.block g h.lt (by intro e; injection e with e; exact hg e)).trans h
end

theorem rnew_any (A : Option Addr) (n c : Nat) (w : World) :
    Calls Tryd.prog 30 #[.slice A n c] w fun e w' => e = .returned (.pointer (some ⟨w.heap.size, 0, none⟩)) ∧ Rdr w' w.heap.size 58 A n c 0 0 ∧ Below w.heap.size w w' := by
  go_enter Tryd.func30, Tryd.ntmps30
  go_wp2_with fail
  go_ret
  exact ⟨rfl, heap_alloc_new w _, (Below.refl _ _).alloc (Nat.le_refl _) _⟩

set_option maxRecDepth 100000 in
set_option maxHeartbeats 1000000 in
/-- Enough bytes are left. -/
theorem rneed_ok (g : Nat) (A : Option Addr) (n c p : Nat) (m : Int) (w : World) (h : Rdr w g 58 A n c p 0) (hn : n ≤ 1099511627776) (hp : p ≤ n) (hm : m ≤ (n : Int) - p) :
    Calls Tryd.prog 51 #[.pointer (some ⟨g, 0, none⟩), .int .i64 m] w fun e w' => e = .returned (.bool true) ∧ ∃ q, w' = w.drewN q := by
  have c0 := h.cell0
  have c1 := h.cell1
  have c2 := h.cell2
  have hd : decide ((n : Int) - p < m) = false := by simp; omega
  clear h
  go_enter Tryd.func51, Tryd.ntmps51
  go_wp2_with fail
  go_quiet (fail)
  go_wp2_with fail
  go_ret
  exact ⟨rfl, _, rfl⟩

set_option maxRecDepth 100000 in
set_option maxHeartbeats 1000000 in
/-- Too few bytes are left. -/
theorem rneed_no (g : Nat) (A : Option Addr) (n c p : Nat) (m : Int) (w : World) (h : Rdr w g 58 A n c p 0) (hn : n ≤ 1099511627776) (hp : p ≤ n) (hm : (n : Int) - p < m) :
    Calls Tryd.prog 51 #[.pointer (some ⟨g, 0, none⟩), .int .i64 m] w fun e w' => e = .returned (.bool false) ∧ Rdr w' g 58 A n c p 2 ∧ But w w' g := by
  have c0 := h.cell0
  have c1 := h.cell1
  have c2 := h.cell2
  have f2 := h.frozen 2
  have H := Lib.hid h
  have hd : decide ((n : Int) - p < m) = true := by simp; omega
  clear h
  go_enter Tryd.func51, Tryd.ntmps51
  go_wp2_with fail
  go_quiet (fail)
  go_wp2_with fail
  go_ret
  exact ⟨rfl, (H.out.drewN _).set2 2, ((but_refl w g).drewN _).set_ 2 _⟩

set_option maxHeartbeats 1000000 in
theorem rleft_any (g : Nat) (A : Option Addr) (n c p : Nat) (err : Int) (w : World) (h : Rdr w g 58 A n c p err) (hn : n ≤ 1099511627776) (hp : p ≤ n) :
    Calls Tryd.prog 52 #[.pointer (some ⟨g, 0, none⟩)] w fun e w' => e = .returned (.int .i64 ((n : Int) - p)) ∧ ∃ q, w' = w.drewN q := by
  have c0 := h.cell0
  have c1 := h.cell1
  clear h
  go_enter Tryd.func52, Tryd.ntmps52
  go_wp2_with fail
  go_quiet (fail)
  go_wp2_with fail
  go_ret
  exact ⟨rfl, _, rfl⟩

set_option maxHeartbeats 1000000 in
theorem rend_any (g : Nat) (A : Option Addr) (n c p : Nat) (err : Int) (xs : List Int) (w : World) (h : Rdr w g 58 A n c p err) (hn : n ≤ 1099511627776) (hp : p ≤ n) (hx : xs.length = n) :
    Calls Tryd.prog 33 #[.pointer (some ⟨g, 0, none⟩)] w fun e w' => e = .returned (.int .i64 (endR xs p err)) ∧ ∃ q, w' = w.drewN q := by
  have c2 := h.cell2
  have HL := Lib.hid (rleft_any g A n c p err w h hn hp)
  have HX := Lib.hid hx
  clear h hx
  by_cases he : err = 0
  · subst he
    by_cases hl : p < n
    · have hE : Hid (endR xs p 0 = 3) := by
        show _ = _
        rw [endR, if_pos]
        exact ⟨rfl, by unfold leftR; rw [HX.out]; omega⟩
      have hd : decide ((0 : Int) < (n : Int) - p) = true := by simp; omega
      go_enter Tryd.func33, Tryd.ntmps33
      go_wp2_with (go_at_call 52; refine HL.out.mono ?_; rintro e w' ⟨rfl, q, rfl⟩)
      go_ret
      exact ⟨by rw [hE.out]; rfl, _, rfl⟩
    · have hE : Hid (endR xs p 0 = 0) := by
        show _ = _
        rw [endR, if_neg]
        rintro ⟨_, h2⟩
        unfold leftR at h2
        rw [HX.out] at h2
        omega
      have hd : decide ((0 : Int) < (n : Int) - p) = false := by simp; omega
      go_enter Tryd.func33, Tryd.ntmps33
      go_wp2_with (go_at_call 52; refine HL.out.mono ?_; rintro e w' ⟨rfl, q, rfl⟩)
      go_ret
      exact ⟨by rw [hE.out]; rfl, _, rfl⟩
  · have hE : Hid (endR xs p err = err) := by
      show _ = _
      rw [endR, if_neg]
      rintro ⟨h1, _⟩
      exact he h1
    have hd : (err == 0) = false := by simpa using he
    go_enter Tryd.func33, Tryd.ntmps33
    go_wp2_with fail
    go_ret
    exact ⟨by rw [hE.out]; rfl, 0, rfl⟩
end Go.Proofs.YtcmbnldeojlhbaaDoor
