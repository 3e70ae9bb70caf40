/-
  The library's Grow, Concat and Clone of bytes, as the program's text holds them.
-/
import Derived.Test.YtcmbnldeojlhbaaDoorFld
import Derived.Test.YtcmbnldeojlhbaaDoorZeros
import Derived.Lib.SliceRun
namespace Go.Proofs.YtcmbnldeojlhbaaDoor
open Go.RowKit

theorem Row.less {w : World} {B B' : Nat} {e : TypeId} {k : IntKind} {v : Value} {n : Nat} {xs : List Int} (h : Row w B e k v n xs) (hB : B' ≤ B) : Row w B' e k v n xs := by
  refine ⟨h.1, ?_⟩
  rcases h.2 with h' | ⟨g, cap, cur, hv, hg, hh⟩
  · exact .inl h'
  · exact .inr ⟨g, cap, cur, hv, by omega, hh⟩
/-- The beginning of a row. -/
theorem Row.cutTo {w : World} {B : Nat} {e : TypeId} {k : IntKind} {A : Option Addr} {n c : Nat} {xs : List Int} (h : Row w B e k (.slice A n c) n xs) {m : Nat} (hm : m ≤ n) (hA : A ≠ none) : Row w B e k (.slice A m c) m (xs.take m) := by
  have hl := h.length
  rcases h.2 with ⟨h1, _⟩ | ⟨g, cap, cur, hv, hg, hh, h1, h2, h3, h4⟩
  · injection h1 with h1; exact absurd h1 hA
  · injection hv with e1 e2 e3
    subst e1 e3
    refine ⟨by simp [ints]; omega, .inr ⟨g, c, cur, rfl, hg, hh, by omega, h2, h3, ?_⟩⟩
    have h5 : cur.toList.take n = ints k xs := by simpa using h4
    rw [Nat.mul_one, show m = min m n by omega, ← List.take_take, h5]
    simp [ints, List.map_take, show min m n = m by omega]

set_option maxRecDepth 100000 in
set_option maxHeartbeats 1000000 in
theorem grow_nil (n : Nat) (w : World) (hn : n ≤ 1099511627776) :
    Calls Tryd.prog 57 #[.slice none 0 0, .int .i64 n] w fun e w' => ∃ v, e = .returned v ∧ Row w' w.heap.size 5 .u8 v 0 [] ∧ Below w.heap.size w w' := by
  obtain ⟨i0, hi, hz0, hz1, hz2⟩ := info_parts Tryd.infoU8
  have hd0 : decide ((n : Int) < 0) = false := by simp
  by_cases h0 : n = 0
  · subst h0
    go_enter Tryd.func57, Tryd.ntmps57
    go_wp2_with fail
    go_ret
    exact ⟨_, rfl, nil_row _ _ _ _, Below.refl _ _⟩
  · have hd1 : decide ((0 : Int) < n) = true := by simp; omega
    have h0' : 0 < n := by omega
    clear h0
    go_enter Tryd.func57, Tryd.ntmps57
    go_wp2_with (at_builtin; refine wpList_appz _ rfl (.tmp 20) (.tmp 21) 22 3 rfl w.heap.size 5 i0 .u8 .i64 .i64 Tryd.underlying22 Tryd.underlying3 hi hz0 hz1 hz2 (.slice none 0 0) 0 n [] rfl (nil_row _ _ _ _) _ rfl rfl (by omega) (Nat.le_refl _) ?_; intro v1 w1 hR1 hg1; have hb1 : Below w.heap.size w w1 := (Below.refl _ _).grown hg1 (Nat.le_refl _) (fun r hr => by cases hr); have HR1 := Lib.hid hR1; clear hR1 hg1)
    obtain ⟨g, c, rfl, hg⟩ := HR1.out.at_ (by omega)
    obtain ⟨_, _, hv, hc, hcm⟩ := HR1.out.cut
    injection hv with _ _ hv
    subst hv
    have hsl : ∀ W : World, (Instr.slice 22 (.slice (some ⟨g, 0, none⟩) (0 + n) c) none (some (.int .i64 0)) none).run Tryd.prog W = .ok (.slice (some ⟨g, 0, none⟩) 0 c) W := fun W => slice_to (some ⟨g, 0, none⟩) (0 + n) c 0 (by omega) W
    have HR2 := Lib.hid (HR1.out.cutTo (m := 0) (by omega) (by simp))
    go_wp2_with fail
    go_ret
    refine ⟨_, rfl, ?_, hb1⟩
    have h := HR2.out
    rw [List.take_zero] at h
    have ha := ‹some (⟨g, 0, none⟩ : Addr) = _›
    subst ha
    exact h

set_option maxRecDepth 100000 in
set_option maxHeartbeats 2000000 in
theorem concat_any (A : Option Addr) (n c : Nat) (fs : List (List Int)) (w : World) (hs : Fields w w.heap.size A n fs) (hn : n ≤ 1048576) (ht : tot fs ≤ 1099511627776) :
    Calls Tryd.prog 39 #[.slice A n c] w fun e w' => ∃ v, e = .returned v ∧ Row w' w.heap.size 5 .u8 v (tot fs) fs.flatten ∧ Below w.heap.size w w' := by
  obtain ⟨i0, hi, hz0, hz1, hz2⟩ := info_parts Tryd.infoU8
  have HS := Lib.hid hs
  have HLN := Lib.hid hs.1
  have HTOT := Lib.hid ht
  clear hs ht
  go_enter Tryd.func39, Tryd.ntmps39
  go_wp2_with fail
  go_loop [3, 11] (fun s i => ∃ k : Nat, k ≤ n ∧ i = .int .i64 k ∧ s = .int .i64 ((tot (fs.take k) : Nat) : Int)) (fun _ i => n - (intOf i).toNat)
  case atStart => exact ⟨0, by omega, rfl, rfl⟩
  case round =>
    obtain ⟨k, hk, rfl, rfl⟩ := hrel
    obtain ⟨s, hsz⟩ : ∃ s, Hid (tot (fs.take k) = s) := ⟨_, rfl⟩
    rw [hsz.out]
    have hsb : s ≤ 1099511627776 := by have := tot_take_le fs k; have := hsz.out; have := HTOT.out; omega
    by_cases hlt : k < n
    · obtain ⟨b, off, rfl, _, hc⟩ := HS.out.2 (by omega)
      obtain ⟨A', n', c', h1, h2, _, _⟩ := hc k hlt
      have hn' : n' ≤ 1099511627776 := by have := h2.1; have := tot_get_le fs k (by rw [HLN.out]; exact hlt); have := HTOT.out; omega
      have HL := Lib.hid h2.1
      have hd : decide ((k : Int) < n) = true := by simp; omega
      have hd2 : decide ((s : Int) + n' < 0) = false := by simp; omega
      clear hc h2
      go_wp2_with fail
      go_round
      case measure => simp [intOf]; omega
      case rel =>
        refine ⟨k + 1, by omega, by go_num, ?_⟩
        have h := tot_take fs k (by rw [HLN.out]; exact hlt)
        have h3 := HL.out
        have h4 := hsz.out
        rw [h, h3]
        congr 1
        omega
    · have hd : decide ((k : Int) < n) = false := by simp; omega
      have hkn : k = n := by omega
      have HST : Hid (tot fs = s) := by
        show _ = _
        rw [← hsz.out, hkn, List.take_of_length_le (by rw [HLN.out]; omega)]
      clear hkn
      go_wp2_with (go_at_call 57; refine (grow_nil s w hsb).mono ?_; rintro e w1 ⟨v1, rfl, hR1, hb1⟩; have HR1 := Lib.hid hR1; clear hR1)
      go_loopw [6, 27] (fun v i wr => ∃ k : Nat, k ≤ n ∧ i = .int .i64 k ∧ Hid (Row wr w.heap.size 5 .u8 v (tot (fs.take k)) (fs.take k).flatten) ∧ Below w.heap.size w wr) (fun _ i _ => n - (intOf i).toNat)
      case atStart => exact ⟨0, by omega, rfl, HR1, hb1⟩
      case round =>
        clear hb1 HR1
        obtain ⟨j, hj, rfl, hR, hb⟩ := hrel
        have hz := hb.size
        have HRL := Lib.hid hR.out.length
        have HRB : Hid (tot (fs.take j) ≤ 1099511627776) := by
          have := tot_take_le fs j
          have := HTOT.out
          show _ ≤ _
          omega
        by_cases hjt : j < n
        · obtain ⟨b, off, rfl, hbl, hc⟩ := HS.out.2 (by omega)
          obtain ⟨A', n', c', h1, h2, hnc, hcm⟩ := hc j hjt
          have hn' : n' ≤ 1099511627776 := by have := h2.1; have := tot_get_le fs j (by rw [HLN.out]; exact hjt); have := HTOT.out; omega
          have h1r := (hb.cell (p := ⟨b, off + j, none⟩) hbl).trans h1
          have HFS := Lib.hid (h2.below hb (Nat.le_refl _))
          have HF := Lib.hid h2.1
          have hd : decide ((j : Int) < n) = true := by simp; omega
          clear hc h2 h1
          go_wp2_with (at_builtin; refine wpList_app _ rfl (.tmp 31) (.tmp 32) 22 rfl w.heap.size 5 i0 (.int .u8 0) 1 Tryd.underlying22 hi hz0 hz1 hz2 rfl .u8 _ _ rfl hR.out.own _ A' n' c' _ rfl HFS.out (by rw [HRL.out]; have := HRB.out; unfold maxLen; omega) (by rw [HRL.out]; have := HRB.out; omega) hz ?_; intro v5 w5 hown5 hg5 hor5; have hb5 : Below w.heap.size w w5 := own_below hR.out.own hg5 hb hz; have HR5 := Lib.hid hown5; clear hg5 hor5 hown5)
          refine ⟨⟨j + 1, by omega, by go_num, ?_, hb5⟩, by simp [intOf]; omega⟩
          show Row _ _ _ _ _ _ _
          have e : fs.take (j + 1) = fs.take j ++ [fs.getD j []] := by rw [List.take_add_one, List.getElem?_eq_getElem (by rw [HLN.out]; exact hjt)]; simp [List.getD, show j < fs.length by rw [HLN.out]; exact hjt]
          have hfl : (fs.take (j + 1)).flatten = (fs.take j).flatten ++ fs.getD j [] := by rw [e]; simp
          rw [hfl, tot_take fs j (by rw [HLN.out]; exact hjt)]
          exact Own.row HR5.out (by rw [List.length_append, HRL.out])
        · have hd : decide ((j : Int) < n) = false := by simp; omega
          have hR' := hR.out
          rw [List.take_of_length_le (by rw [HLN.out]; omega)] at hR'
          have HR' := Lib.hid hR'
          clear hR'
          go_wp2_with fail
          go_ret
          exact ⟨_, rfl, HR'.out, hb⟩

set_option maxRecDepth 100000 in
set_option maxHeartbeats 1000000 in
theorem clone_any (A : Option Addr) (n c : Nat) (xs : List Int) (w : World) (hs : Seg w w.heap.size .u8 A n xs) (hn : n ≤ 1099511627776) :
    Calls Tryd.prog 44 #[.slice A n c] w fun e w' => ∃ v, e = .returned v ∧ Row w' w.heap.size 5 .u8 v n xs ∧ Below w.heap.size w w' := by
  obtain ⟨i0, hi, hz0, hz1, hz2⟩ := info_parts Tryd.infoU8
  have hq : ∀ (w : World) (a : Option Addr) (n c n' c' : Nat), (binOp .eql 22 (.slice a n c) (.slice none n' c')).run Tryd.prog w = .ok (.bool a.isNone) w := fun w a n c n' c' => Lib.run_eql_slice_nil w _ _ a n c n' c' Tryd.underlying22
  have HL := Lib.hid hs.1
  have hb0 : Below w.heap.size w (w.alloc (.cells #[] 5)) := (Below.refl _ _).alloc (Nat.le_refl _) _
  have HS0 := Lib.hid (hs.below hb0 (Nat.le_refl _))
  have HO := Lib.hid (own_empty w 5 .u8 w.heap.size (Nat.le_refl _))
  have hz := hb0.size
  have HN : Hid (A = none → n = 0) := by
    intro h
    rcases Nat.eq_zero_or_pos n with h0 | h0
    · exact h0
    · obtain ⟨_, _, h1, _⟩ := hs.2 h0
      rw [h] at h1
      cases h1
  clear hs
  cases A with
  | none =>
    have h0 := HN.out rfl
    subst h0
    have hx : xs = [] := List.eq_nil_of_length_eq_zero HL.out
    subst hx
    clear HN
    go_enter Tryd.func44, Tryd.ntmps44
    go_wp2_with fail
    go_ret
    exact ⟨_, rfl, nil_row _ _ _ _, Below.refl _ _⟩
  | some a =>
    clear HN
    go_enter Tryd.func44, Tryd.ntmps44
    go_wp2_with (at_builtin; refine wpList_app _ rfl (.tmp 5) (.tmp 6) 22 rfl w.heap.size 5 i0 (.int .u8 0) 1 Tryd.underlying22 hi hz0 hz1 hz2 rfl .u8 (.slice (some ⟨w.heap.size, 0, none⟩) 0 0) [] rfl HO.out w.heap.size (some a) n c xs rfl HS0.out (by unfold maxLen; simp; omega) (by simp; omega) hz ?_; intro v2 w2 hown2 hg2 hor2; have hb2 := own_below (k := .u8) (xs := []) HO.out hg2 hb0 hz; clear hg2 hor2)
    go_ret
    exact ⟨_, rfl, Own.row hown2 HL.out, hb2⟩
end Go.Proofs.YtcmbnldeojlhbaaDoor
