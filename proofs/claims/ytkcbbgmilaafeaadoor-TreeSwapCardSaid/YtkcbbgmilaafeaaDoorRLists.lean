/-
  The reference's comparison of lists of byte strings.
-/
import Derived.Test.YtkcbbgmilaafeaaDoorFld
import Derived.Test.YtkcbbgmilaafeaaDoorSame
namespace Go.Proofs.YtkcbbgmilaafeaaDoor
open Go.RowKit

theorem take_field (fs : List (List Int)) (k : Nat) (h : k < fs.length) : fs.take (k + 1) = fs.take k ++ [fs.getD k []] := by
  rw [List.take_add_one, List.getElem?_eq_getElem h]; simp [List.getD, h]
/-- Are two lists of byte strings equal? -/
def listsB (fs gs : List (List Int)) : Bool := decide (fs = gs)

set_option maxRecDepth 100000 in
set_option maxHeartbeats 1000000 in
theorem lists_any (A A2 : Option Addr) (n c n2 c2 : Nat) (fs gs : List (List Int)) (w : World) (hs : Fields w w.heap.size A n fs) (ht : Fields w w.heap.size A2 n2 gs) (hn : n ≤ 1048576) (hb : tot fs ≤ 1099511627776) :
    Calls Tryd.prog 15 #[.slice A n c, .slice A2 n2 c2] w fun e w' => e = .returned (.bool (listsB fs gs)) ∧ ∃ q, w' = w.drewN q := by
  have HS := Lib.hid hs
  have HT := Lib.hid ht
  clear hs ht
  by_cases hnn : n = n2
  · subst hnn
    go_enter Tryd.func15, Tryd.ntmps15
    go_wp2_with fail
    go_loopw [5] (fun i wr => ∃ k : Nat, k ≤ n ∧ i = .int .i64 k ∧ Hid (fs.take k = gs.take k) ∧ Hid (∃ q, wr = w.drewN q)) (fun i _ => n - (intOf i).toNat)
    case atStart => exact ⟨0, by omega, rfl, rfl, 0, rfl⟩
    case round =>
      obtain ⟨k, hk, rfl, htk, hq⟩ := hrel
      by_cases hlt : k < n
      · have hd : decide ((k : Int) < n) = true := by simp; omega
        obtain ⟨b, off, rfl, _, hc⟩ := HS.out.2 (by omega)
        obtain ⟨b2, off2, rfl, _, hc2⟩ := HT.out.2 (by omega)
        obtain ⟨A', n', c', h1, h2, _, _⟩ := hc k hlt
        obtain ⟨A'', n'', c'', h1', h2', _, _⟩ := hc2 k hlt
        obtain ⟨x, hx⟩ : ∃ x, Hid (fs.getD k [] = x) := ⟨_, rfl⟩
        obtain ⟨y, hy⟩ : ∃ y, Hid (gs.getD k [] = y) := ⟨_, rfl⟩
        have hkf : k < fs.length := by rw [HS.out.1]; exact hlt
        have hkg : k < gs.length := by rw [HT.out.1]; exact hlt
        have hln : n' ≤ 1099511627776 := by have := h2.1; have := tot_get_le fs k hkf; omega
        rw [hx.out] at h2
        rw [hy.out] at h2'
        obtain ⟨q, hq2⟩ := hq.out
        have h1r : wr.cell? ⟨b, off + k, none⟩ = some (.slice A' n' c') := by rw [hq2]; exact h1
        have h1r' : wr.cell? ⟨b2, off2 + k, none⟩ = some (.slice A'' n'' c'') := by rw [hq2]; exact h1'
        have h2r : Seg wr wr.heap.size .u8 A' n' x := by rw [hq2]; exact h2.drewN q
        have h2r' : Seg wr wr.heap.size .u8 A'' n'' y := by rw [hq2]; exact h2'.drewN q
        have HC := Lib.hid (fun m => same_any A' A'' n' c' n'' c'' x y (wr.drewN m) (h2r.drewN m) (h2r'.drewN m) hln)
        clear hq2 h1 h1' h2r h2r'
        have hki : (k : Int) < n := by omega
        clear hc hc2 h2 h2'
        by_cases hxy : x = y
        · have hs : sameB x y = true := by rw [hxy]; exact sameB_self y
          rw [hs] at HC
          have HXY := Lib.hid hxy
          clear hxy hs
          go_wp2_with fail
          go_quiet ((go_at_call 12; exact Calls.quiet_of (HC.out _)))
          go_wp2_with fail
          go_roundw
          case measure => simp [intOf]; omega
          case rel =>
            obtain ⟨q, hq2⟩ := hq.out
            refine ⟨k + 1, by omega, by go_num, ?_, q + nq, by rw [hq2, World.drewN_drewN]⟩
            show _ = _
            rw [take_field fs k hkf, take_field gs k hkg, htk.out, hx.out, hy.out, HXY.out]
        · have hs : sameB x y = false := by simp [sameB, hxy]
          rw [hs] at HC
          have hfin : listsB fs gs = false := by
            simp only [listsB, decide_eq_false_iff_not]
            intro e
            exact hxy (by rw [← hx.out, ← hy.out, e])
          have HF := Lib.hid hfin
          clear hxy hfin hs
          go_wp2_with fail
          go_quiet ((go_at_call 12; exact Calls.quiet_of (HC.out _)))
          go_wp2_with fail
          go_ret
          obtain ⟨q, hq2⟩ := hq.out
          exact ⟨by rw [HF.out]; rfl, q + nq, by rw [hq2, World.drewN_drewN]⟩
      · have hd : decide ((k : Int) < n) = false := by simp; omega
        have hfin : listsB fs gs = true := by
          have hkn : k = n := by omega
          have h1 := htk.out
          rw [hkn, List.take_of_length_le (by rw [HS.out.1]; omega), List.take_of_length_le (by rw [HT.out.1]; omega)] at h1
          simp [listsB, h1]
        have HF := Lib.hid hfin
        clear hfin
        go_wp2_with fail
        go_ret
        obtain ⟨q, hq2⟩ := hq.out
        exact ⟨by rw [HF.out]; rfl, q, hq2⟩
  · have hne : ((n : Int) != n2) = true := by rw [bne_iff_ne]; omega
    have hfin : listsB fs gs = false := by
      simp only [listsB, decide_eq_false_iff_not]
      intro e
      exact hnn (by rw [← HS.out.1, ← HT.out.1, e])
    have HF := Lib.hid hfin
    clear hfin hnn
    go_enter Tryd.func15, Tryd.ntmps15
    go_wp2_with fail
    go_ret
    exact ⟨by rw [HF.out]; rfl, 0, rfl⟩
end Go.Proofs.YtkcbbgmilaafeaaDoor
