/-
  The bound that the statements put on lists of fields, and the reference's comparison of lists.
-/
import Derived.Test.YtnkcnlaijejheaaDoorField
namespace Go.Proofs.YtnkcnlaijejheaaDoor
open Go.RowKit

def fewB (fs : List (List Int)) : Bool := decide (∀ f ∈ fs.take 10, f.length ≤ 300) && (decide (fs.length < 10) && decide (tot (fs.take 10) < 600))
theorem fewB_true {fs : List (List Int)} (h : fewB fs = true) : fs.length < 10 ∧ tot fs < 600 := by
  simp only [fewB, Bool.and_eq_true, decide_eq_true_eq] at h
  have e : fs.take 10 = fs := List.take_of_length_le (by omega)
  rw [e] at h
  exact ⟨h.2.1, h.2.2⟩
theorem take_field (fs : List (List Int)) (k : Nat) (h : k < fs.length) : fs.take (k + 1) = fs.take k ++ [fs.getD k []] := by
  rw [List.take_add_one, List.getElem?_eq_getElem h]; simp [List.getD, h]
theorem mem_take_of (fs : List (List Int)) (k : Nat) (h : k < fs.length) (hk : k < 10) : fs.getD k [] ∈ fs.take 10 := by
  have h1 : fs.getD k [] = (fs.take 10)[k]'(by simp; omega) := by simp [List.getD, h]
  rw [h1]
  exact List.getElem_mem _

set_option maxRecDepth 100000 in
set_option maxHeartbeats 1000000 in
theorem few_any (A : Option Addr) (n c : Nat) (fs : List (List Int)) (w : World) (hs : Fields w w.heap.size A n fs) (hn : n ≤ 9223372036854775807) :
    Calls Tryd.prog 18 #[.slice A n c] w fun e w' => e = .returned (.bool (fewB fs)) ∧ w = w' := by
  have HS := Lib.hid hs
  have HLN := Lib.hid hs.1
  clear hs
  go_enter Tryd.func18, Tryd.ntmps18
  go_wp2_with fail
  go_loop [3, 4] (fun s i => ∃ k : Nat, k ≤ n ∧ k ≤ 10 ∧ i = .int .i64 k ∧ s = .int .i64 (tot (fs.take k)) ∧ Hid ((∀ f ∈ fs.take k, f.length ≤ 300) ∧ tot (fs.take k) ≤ 300 * k)) (fun _ i => 10 - (intOf i).toNat)
  case atStart => exact ⟨0, by omega, by omega, rfl, rfl, by intro f hf; simp at hf, by simp [tot]⟩
  case round =>
    obtain ⟨k, hk, hk10, rfl, rfl, hall⟩ := hrel
    obtain ⟨s, hs⟩ : ∃ s, Hid (tot (fs.take k) = s) := ⟨_, rfl⟩
    rw [hs.out] at hall ⊢
    have hsb : s ≤ 3000 := by have := hall.out.2; omega
    by_cases hlt : k < n
    · have hd : decide ((k : Int) < n) = true := by simp; omega
      by_cases hlt10 : k < 10
      · have hd10 : decide ((k : Int) < 10) = true := by simp; omega
        obtain ⟨b, off, rfl, _, hc⟩ := HS.out.2 (by omega)
        obtain ⟨A', n', c', h1, h2, _, hcm⟩ := hc k hlt
        have HL := Lib.hid h2.1
        clear hc h2
        have hkl : k < fs.length := by rw [HLN.out]; exact hlt
        by_cases hbig : (300 : Int) < n'
        · have hfin : fewB fs = false := by
            have hm := mem_take_of fs k hkl hlt10
            have hl := HL.out
            simp only [fewB, Bool.and_eq_false_iff, decide_eq_false_iff_not]
            left
            intro hall2
            have := hall2 _ hm
            omega
          have HF := Lib.hid hfin
          clear hfin
          go_wp2_with fail
          go_ret
          exact ⟨by rw [HF.out]; rfl, rfl⟩
        · have hstep : (∀ f ∈ fs.take (k + 1), f.length ≤ 300) ∧ tot (fs.take (k + 1)) ≤ 300 * (k + 1) ∧ tot (fs.take (k + 1)) = s + n' := by
            have hl := HL.out
            have h3 := tot_take fs k hkl
            have h4 := hs.out
            refine ⟨?_, by have := hall.out.2; omega, by omega⟩
            intro f hf
            rw [take_field fs k hkl] at hf
            rcases List.mem_append.1 hf with hf | hf
            · exact hall.out.1 f hf
            · simp only [List.mem_singleton] at hf
              subst hf
              omega
          have HST := Lib.hid hstep
          clear hstep
          go_wp2_with fail
          go_round
          case measure => simp [intOf]; omega
          case rel => exact ⟨k + 1, by omega, by omega, by go_num, by rw [HST.out.2.2]; congr 1, HST.out.1, HST.out.2.1⟩
      · have hd10 : decide ((k : Int) < 10) = false := by simp; omega
        have hn10 : decide ((n : Int) < 10) = false := by simp; omega
        have hfin : fewB fs = false := by
          have := HLN.out
          simp only [fewB, Bool.and_eq_false_iff, decide_eq_false_iff_not]
          right; left; omega
        have HF := Lib.hid hfin
        clear hfin
        go_wp2_with fail
        go_ret
        exact ⟨by rw [HF.out]; rfl, rfl⟩
    · have hd : decide ((k : Int) < n) = false := by simp; omega
      have hkn : k = n := by omega
      by_cases hlt10 : k < 10
      · have hn10 : decide ((n : Int) < 10) = true := by simp; omega
        have he : fs.take 10 = fs.take k := by rw [List.take_of_length_le (by rw [HLN.out]; omega), List.take_of_length_le (by rw [HLN.out]; omega)]
        have hfin : fewB fs = decide ((s : Int) < 600) := by
          have h1 : decide (fs.length < 10) = true := decide_eq_true (by rw [HLN.out]; omega)
          have h2 : decide (∀ f ∈ fs.take k, f.length ≤ 300) = true := decide_eq_true hall.out.1
          have h3 : decide (s < 600) = decide ((s : Int) < 600) := decide_eq_decide.2 (by omega)
          unfold fewB
          rw [he, hs.out, h2, h1, h3]
          rfl
        have HF := Lib.hid hfin
        clear hfin hkn he
        go_wp2_with fail
        go_ret
        exact ⟨by rw [HF.out]; rfl, rfl⟩
      · have hn10 : decide ((n : Int) < 10) = false := by simp; omega
        have hfin : fewB fs = false := by
          have := HLN.out
          simp only [fewB, Bool.and_eq_false_iff, decide_eq_false_iff_not]
          right; left; omega
        have HF := Lib.hid hfin
        clear hfin hkn
        go_wp2_with fail
        go_ret
        exact ⟨by rw [HF.out]; rfl, rfl⟩

/-- Are two lists of byte strings equal? -/
def listsB (fs gs : List (List Int)) : Bool := decide (fs = gs)

set_option maxRecDepth 100000 in
set_option maxHeartbeats 1000000 in
theorem lists_any (A A2 : Option Addr) (n c n2 c2 : Nat) (fs gs : List (List Int)) (w : World) (hs : Fields w w.heap.size A n fs) (ht : Fields w w.heap.size A2 n2 gs) (hn : n ≤ 1048576) (hb : tot fs ≤ 1099511627776) :
    Calls Tryd.prog 22 #[.slice A n c, .slice A2 n2 c2] w fun e w' => e = .returned (.bool (listsB fs gs)) ∧ ∃ q, w' = w.drewN q := by
  have HS := Lib.hid hs
  have HT := Lib.hid ht
  clear hs ht
  by_cases hnn : n = n2
  · subst hnn
    go_enter Tryd.func22, Tryd.ntmps22
    go_wp2_with fail
    go_loopw [5] (fun i wr => ∃ k : Nat, k ≤ n ∧ i = .int .i64 k ∧ Hid (fs.take k = gs.take k) ∧ Hid (∃ q, wr = w.drewN q)) (fun i _ => n - (intOf i).toNat)
    case atStart => exact ⟨0, by omega, rfl, rfl, 0, rfl⟩
    case round =>
      obtain ⟨k, hk, rfl, htk, hq⟩ := hrel
      by_cases hlt : k < n
      · have hd : decide ((k : Int) < n) = true := by simp; omega
        obtain ⟨b, off, rfl, _, hc⟩ := HS.out.2 (by omega)
        obtain ⟨b2, off2, rfl, _, hc2⟩ := HT.out.2 (by omega)
        obtain ⟨A', n', c', h1, h2, _, _⟩ := hc k hlt
        obtain ⟨A'', n'', c'', h1', h2', _, _⟩ := hc2 k hlt
        obtain ⟨x, hx⟩ : ∃ x, Hid (fs.getD k [] = x) := ⟨_, rfl⟩
        obtain ⟨y, hy⟩ : ∃ y, Hid (gs.getD k [] = y) := ⟨_, rfl⟩
        have hkf : k < fs.length := by rw [HS.out.1]; exact hlt
        have hkg : k < gs.length := by rw [HT.out.1]; exact hlt
        have hln : n' ≤ 1099511627776 := by have := h2.1; have := tot_get_le fs k hkf; omega
        rw [hx.out] at h2
        rw [hy.out] at h2'
        obtain ⟨q, hq2⟩ := hq.out
        have h1r : wr.cell? ⟨b, off + k, none⟩ = some (.slice A' n' c') := by rw [hq2]; exact h1
        have h1r' : wr.cell? ⟨b2, off2 + k, none⟩ = some (.slice A'' n'' c'') := by rw [hq2]; exact h1'
        have h2r : Seg wr wr.heap.size .u8 A' n' x := by rw [hq2]; exact h2.drewN q
        have h2r' : Seg wr wr.heap.size .u8 A'' n'' y := by rw [hq2]; exact h2'.drewN q
        have HC := Lib.hid (fun m => same_any A' A'' n' c' n'' c'' x y (wr.drewN m) (h2r.drewN m) (h2r'.drewN m) hln)
        clear hq2 h1 h1' h2r h2r'
        have hki : (k : Int) < n := by omega
        clear hc hc2 h2 h2'
        by_cases hxy : x = y
        · have hs : sameB x y = true := by rw [hxy]; exact sameB_self y
          rw [hs] at HC
          have HXY := Lib.hid hxy
          clear hxy hs
          go_wp2_with fail
          go_quiet ((go_at_call 11; exact Calls.quiet_of (HC.out _)))
          go_wp2_with fail
          go_roundw
          case measure => simp [intOf]; omega
          case rel =>
            obtain ⟨q, hq2⟩ := hq.out
            refine ⟨k + 1, by omega, by go_num, ?_, q + nq, by rw [hq2, World.drewN_drewN]⟩
            show _ = _
            rw [take_field fs k hkf, take_field gs k hkg, htk.out, hx.out, hy.out, HXY.out]
        · have hs : sameB x y = false := by simp [sameB, hxy]
          rw [hs] at HC
          have hfin : listsB fs gs = false := by
            simp only [listsB, decide_eq_false_iff_not]
            intro e
            exact hxy (by rw [← hx.out, ← hy.out, e])
          have HF := Lib.hid hfin
          clear hxy hfin hs
          go_wp2_with fail
          go_quiet ((go_at_call 11; exact Calls.quiet_of (HC.out _)))
          go_wp2_with fail
          go_ret
          obtain ⟨q, hq2⟩ := hq.out
          exact ⟨by rw [HF.out]; rfl, q + nq, by rw [hq2, World.drewN_drewN]⟩
      · have hd : decide ((k : Int) < n) = false := by simp; omega
        have hfin : listsB fs gs = true := by
          have hkn : k = n := by omega
          have h1 := htk.out
          rw [hkn, List.take_of_length_le (by rw [HS.out.1]; omega), List.take_of_length_le (by rw [HT.out.1]; omega)] at h1
          simp [listsB, h1]
        have HF := Lib.hid hfin
        clear hfin
        go_wp2_with fail
        go_ret
        obtain ⟨q, hq2⟩ := hq.out
        exact ⟨by rw [HF.out]; rfl, q, hq2⟩
  · have hne : ((n : Int) != n2) = true := by rw [bne_iff_ne]; omega
    have hfin : listsB fs gs = false := by
      simp only [listsB, decide_eq_false_iff_not]
      intro e
      exact hnn (by rw [← HS.out.1, ← HT.out.1, e])
    have HF := Lib.hid hfin
    clear hfin hnn
    go_enter Tryd.func22, Tryd.ntmps22
    go_wp2_with fail
    go_ret
    exact ⟨by rw [HF.out]; rfl, 0, rfl⟩
end Go.Proofs.YtnkcnlaijejheaaDoor
