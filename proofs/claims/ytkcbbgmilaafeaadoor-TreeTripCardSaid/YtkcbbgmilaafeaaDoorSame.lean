/-
  The reference's comparison of byte strings.
-/
import Derived.Test.YtkcbbgmilaafeaaDoorRow
namespace Go.Proofs.YtkcbbgmilaafeaaDoor
open Go.RowKit

/-- Are two byte strings equal? -/
def sameB (xs ys : List Int) : Bool := decide (xs = ys)
theorem sameB_self (xs : List Int) : sameB xs xs = true := by simp [sameB]
theorem take_next {xs ys : List Int} {k : Nat} (h : xs.take k = ys.take k) (hx : k < xs.length) (hy : k < ys.length) (e : xs.getD k 0 = ys.getD k 0) : xs.take (k + 1) = ys.take (k + 1) := by
  rw [List.take_add_one, List.take_add_one, h, List.getElem?_eq_getElem hx, List.getElem?_eq_getElem hy]
  have : xs[k] = ys[k] := by simpa [List.getD, hx, hy] using e
  rw [this]

set_option maxRecDepth 100000 in
set_option maxHeartbeats 1000000 in
theorem same_any (A A2 : Option Addr) (n c n2 c2 : Nat) (xs ys : List Int) (w : World) (hs : Seg w w.heap.size .u8 A n xs) (ht : Seg w w.heap.size .u8 A2 n2 ys) (hn : n ≤ 1099511627776) :
    Calls Tryd.prog 12 #[.slice A n c, .slice A2 n2 c2] w fun e w' => e = .returned (.bool (sameB xs ys)) ∧ ∃ q, w' = w.drewN q := by
  have HS := Lib.hid hs
  have HT := Lib.hid ht
  clear hs ht
  by_cases hnn : n = n2
  · subst hnn
    go_enter Tryd.func12, Tryd.ntmps12
    go_wp2_with fail
    go_loopw [5] (fun i wr => ∃ k : Nat, k ≤ n ∧ i = .int .i64 k ∧ Hid (xs.take k = ys.take k) ∧ ∃ q, wr = w.drewN q) (fun i _ => n - (intOf i).toNat)
    case atStart => exact ⟨0, by omega, rfl, rfl, 0, rfl⟩
    case round =>
      obtain ⟨k, hk, rfl, htk, q, rfl⟩ := hrel
      by_cases hlt : k < n
      · have hd : decide ((k : Int) < n) = true := by simp; omega
        obtain ⟨b, off, rfl, _, hc⟩ := HS.out.2 (by omega)
        obtain ⟨b2, off2, rfl, _, hc2⟩ := HT.out.2 (by omega)
        obtain ⟨x, hx⟩ : ∃ x, Hid (xs.getD k 0 = x) := ⟨_, rfl⟩
        obtain ⟨y, hy⟩ : ∃ y, Hid (ys.getD k 0 = y) := ⟨_, rfl⟩
        have h1 := hc k hlt
        have h2 := hc2 k hlt
        rw [hx.out] at h1
        rw [hy.out] at h2
        clear hc hc2
        have hki : (k : Int) < n := by omega
        by_cases hxy : x = y
        · have hne : (x != y) = false := by rw [bne_eq_false_iff_eq]; exact hxy
          have HXY := Lib.hid hxy
          clear hxy
          go_wp2_with fail
          go_quiet (fail)
          go_wp2_with fail
          go_roundw
          case measure => simp [intOf]; omega
          case rel => exact ⟨k + 1, by omega, by go_num, take_next htk.out (by rw [HS.out.1]; exact hlt) (by rw [HT.out.1]; exact hlt) (by rw [hx.out, hy.out, HXY.out]), _, rfl⟩
        · have hne : (x != y) = true := by rw [bne_iff_ne]; exact hxy
          have hfin : sameB xs ys = false := by
            simp only [sameB, decide_eq_false_iff_not]
            intro e
            exact hxy (by rw [← hx.out, ← hy.out, e])
          have HF := Lib.hid hfin
          clear hxy hfin
          go_wp2_with fail
          go_quiet (fail)
          go_wp2_with fail
          go_ret
          exact ⟨by rw [HF.out]; rfl, _, World.drewN_drewN _ _ _⟩
      · have hd : decide ((k : Int) < n) = false := by simp; omega
        have hfin : sameB xs ys = true := by
          have hkn : k = n := by omega
          have h1 := htk.out
          rw [hkn, List.take_of_length_le (by rw [HS.out.1]; omega), List.take_of_length_le (by rw [HT.out.1]; omega)] at h1
          simp [sameB, h1]
        have HF := Lib.hid hfin
        clear hfin
        go_wp2_with fail
        go_ret
        exact ⟨by rw [HF.out]; rfl, _, rfl⟩
  · have hne : ((n : Int) != n2) = true := by rw [bne_iff_ne]; omega
    have hfin : sameB xs ys = false := by
      simp only [sameB, decide_eq_false_iff_not]
      intro e
      exact hnn (by rw [← HS.out.1, ← HT.out.1, e])
    have HF := Lib.hid hfin
    clear hfin hnn
    go_enter Tryd.func12, Tryd.ntmps12
    go_wp2_with fail
    go_ret
    exact ⟨by rw [HF.out]; rfl, 0, rfl⟩
theorem same_self (A A2 : Option Addr) (n c c2 : Nat) (D : List Int) (W : World) (h1 : Seg W W.heap.size .u8 A n D) (h2 : Seg W W.heap.size .u8 A2 n D) (hn : n ≤ 1099511627776) :
    Calls Tryd.prog 12 #[.slice A n c, .slice A2 n c2] W fun e w' => e = .returned (.bool true) ∧ Below W.heap.size W w' := by
  refine (same_any A A2 n c n c2 D D W h1 h2 hn).mono ?_
  rintro e w' ⟨rfl, q, rfl⟩
  rw [sameB_self]
  exact ⟨rfl, below_drewN (Below.refl _ _) q⟩
end Go.Proofs.YtkcbbgmilaafeaaDoor
