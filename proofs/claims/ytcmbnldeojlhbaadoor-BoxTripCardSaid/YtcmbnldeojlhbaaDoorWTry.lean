/-
  The program's Reader tries a read for bytes and takes it back if it fails.
-/
import Derived.Test.YtcmbnldeojlhbaaDoorWRu
namespace Go.Proofs.YtcmbnldeojlhbaaDoor
open Go.RowKit

/-- What a try for bytes hands back. -/
def GotBlob (w : World) (g : Nat) (xs : List Int) (r : List Int × Nat × Int) (e : Ending) (w' : World) : Prop :=
  ∃ A k c q, e = .returned (.tuple #[.slice A k c, .int .i64 r.2.2]) ∧ Seg w' g .u8 A k r.1 ∧ k ≤ xs.length ∧ k ≤ c ∧ c ≤ 9223372036854775807 ∧ WRdr w' g 53 xs q 0 ∧ But w w' g ∧ (r.2.2 = 0 → q = r.2.1)
theorem GotRaw.blob {w w' : World} {g : Nat} {xs : List Int} {r : List Int × Nat × Int} {e : Ending} (h : GotRaw w g xs r e w') : GotBlob w g xs r e w' := by
  obtain ⟨A, k, c, h1, h2, h3, h4, h5, h6, h7⟩ := h
  exact ⟨A, k, c, _, h1, h2, h3, h4, h5, h6, h7, fun _ => rfl⟩

set_option maxRecDepth 100000 in
set_option maxHeartbeats 2000000 in
theorem wblobt_any (g p : Nat) (xs : List Int) (m : Int) (w : World) (h : WRdr w g 53 xs p 0) (hxl : xs.length ≤ 1099511627776) (hx : InB xs) :
    Calls Tryd.prog 46 #[.pointer (some ⟨g, 0, none⟩), .int .i64 m] w (GotBlob w g xs (blobR xs p 0 m)) := by
  have H := Lib.hid h
  have hp := h.le
  have HN := Lib.hid (wnumber_any g p xs 2 w h hxl hx)
  have HX := Lib.hid hx
  clear h hx
  by_cases hlen : xs.length < p + 2
  · have HU : Hid (blobR xs p 0 m = ([], p, 2)) := by show _ = _; rw [blobR, if_neg (by omega), if_pos (by omega)]
    have HR : Hid (uintR xs p 0 2 = (0, p, 2)) := by show _ = _; rw [uintR, if_neg (by omega), if_neg (by omega), if_pos (by omega)]
    rw [HR.out] at HN
    rw [HU.out]
    clear hlen
    go_enter Tryd.func46, Tryd.ntmps46
    go_wp2_with (go_at_call 63; refine HN.out.mono ?_; rintro e w1 ⟨q, rfl, hW1, hB1, hq⟩)
    go_ret2
    exact ⟨none, 0, 0, q, rfl, Seg.nil _ _ _ _, Nat.zero_le _, Nat.le_refl _, by omega, hW1, hB1, fun h => by cases h⟩
  · obtain ⟨D, HD⟩ : ∃ D, Hid ((xs.drop p).take 2 = D) := ⟨_, rfl⟩
    have HDB : Hid (InB D) := by show InB D; rw [← HD.out]; exact fun y hy => HX.out y (List.mem_of_mem_drop (List.mem_of_mem_take hy))
    have hDl : D.length = 2 := by rw [← HD.out, List.length_take, List.length_drop]; omega
    have hNb := numI_bound D HDB.out
    rw [hDl] at hNb
    obtain ⟨N, hN⟩ : ∃ N : Nat, numI D = N := ⟨(numI D).toNat, by omega⟩
    have hN6 : N < 65536 := by have := hNb.2; rw [hN] at this; omega
    have HR : Hid (uintR xs p 0 2 = ((N : Int), p + 2, 0)) := by
      show _ = _
      rw [uintR, if_neg (by omega), if_neg (by omega), if_neg (by omega), show (2 : Int).toNat = 2 from rfl, HD.out, hN, if_neg (by omega)]
    have HU : Hid (blobR xs p 0 m = if m < (N : Int) then ([], p, 4) else if (xs.length : Int) - p < 2 + (N : Int) then ([], p, 2) else ((xs.drop (p + 2)).take N, p + 2 + N, 0)) := by
      show _ = _
      rw [blobR, if_neg (by omega), if_neg (by omega), HD.out, hN, Int.toNat_natCast]
    rw [HR.out] at HN
    clear hNb hN hDl
    by_cases hm : m < (N : Int)
    · have hd : decide (m < (N : Int)) = true := by simpa using hm
      have HU2 : Hid (blobR xs p 0 m = ([], p, 4)) := by show _ = _; rw [HU.out, if_pos hm]
      rw [HU2.out]
      clear hm hlen
      go_enter Tryd.func46, Tryd.ntmps46
      go_wp2_with (go_at_call 63; refine HN.out.mono ?_; rintro e w1 ⟨q, rfl, hW1, hB1, hq⟩; clear hq)
      go_ret2
      exact ⟨none, 0, 0, q, rfl, Seg.nil _ _ _ _, Nat.zero_le _, Nat.le_refl _, by omega, hW1, hB1, fun h => by cases h⟩
    · have hd : decide (m < (N : Int)) = false := by simpa using hm
      have HB : Hid (∀ W : World, WRdr W g 53 xs (p + 2) 0 → Calls Tryd.prog 47 #[.pointer (some ⟨g, 0, none⟩), .int .i64 (N : Int)] W (GotRaw W g xs (rawR xs (p + 2) 0 N))) := fun W hW => wbytes_any g (p + 2) xs N W hW hxl
      by_cases hl2 : (xs.length : Int) - p < 2 + (N : Int)
      focus
        have HU2 : Hid (blobR xs p 0 m = ([], p, 2)) := by show _ = _; rw [HU.out, if_neg hm, if_pos hl2]
        have HRR : Hid (rawR xs (p + 2) 0 N = ([], p + 2, 2)) := by show _ = _; rw [rawR, if_neg (by omega), if_neg (by omega), if_pos (by omega)]
        rw [HRR.out] at HB
      rotate_left
      focus
        have HU2 : Hid (blobR xs p 0 m = ((xs.drop (p + 2)).take N, p + 2 + N, 0)) := by show _ = _; rw [HU.out, if_neg hm, if_neg hl2]
        have HRR : Hid (rawR xs (p + 2) 0 N = ((xs.drop (p + 2)).take N, p + 2 + N, 0)) := by show _ = _; rw [rawR, if_neg (by omega), if_neg (by omega), if_neg (by omega), Int.toNat_natCast]
        rw [HRR.out] at HB
      rotate_left
      all_goals
        rw [HU2.out]
        clear hm hlen hl2 HRR HU HU2 HR
        go_enter Tryd.func46, Tryd.ntmps46
        go_wp2_with (first
          | (go_at_call 47; refine (HB.out w1 HW1.out).mono ?_; rintro e w2 ⟨A2, k2, c2, rfl, hS2, hk2, hc2, hcm2, hW2, hB2⟩)
          | (go_at_call 63; refine HN.out.mono ?_; rintro e w1 ⟨q, rfl, hW1, hB1, hq⟩; have hq2 := hq rfl; rw [hq2] at hW1; have HW1 := Lib.hid hW1; clear hq hq2 hW1))
        go_ret2
        exact ⟨A2, k2, c2, _, rfl, hS2, hk2, hc2, hcm2, hW2, hB1.trans hB2, fun h => (by first | rfl | cases h)⟩

theorem rdr_back {w w1 : World} {g p q : Nat} {T : TypeId} {xs : List Int} {A : Option Addr} {n c : Nat} (err : Int) (h2 : Seg w g .u8 A n (xs.drop p)) (h3 : p + n = xs.length) (h4 : n ≤ c) (h5 : c ≤ 9223372036854775807)
    (hW : WRdr w1 g T xs q 0) (hB : But w w1 g) : WRdr ((w1.setCell ⟨g, 0, none⟩ (.slice A n c)).setCell ⟨g, 1, none⟩ (.int .i64 err)) g T xs p err ∧ But w ((w1.setCell ⟨g, 0, none⟩ (.slice A n c)).setCell ⟨g, 1, none⟩ (.int .i64 err)) g := by
  obtain ⟨A1, n1, c1, e1, _⟩ := hW
  have hB2 : But w ((w1.setCell ⟨g, 0, none⟩ (.slice A n c)).setCell ⟨g, 1, none⟩ (.int .i64 err)) g := (hB.set_ 0 _).set_ 1 _
  refine ⟨⟨A, n, c, ?_, h2.but hB2, h3, h4, h5⟩, hB2⟩
  have s1 := heap_setCell_same w1 g 0 _ T (.slice A n c) e1
  have s2 := heap_setCell_same (w1.setCell ⟨g, 0, none⟩ (.slice A n c)) g 1 _ T (.int .i64 err) s1
  simpa using s2

set_option maxRecDepth 100000 in
set_option maxHeartbeats 2000000 in
theorem trybytes_err (g p : Nat) (xs : List Int) (err : Int) (he : err ≠ 0) (f : Value) (m : Int) (w : World) (h : WRdr w g 53 xs p err) :
    Calls Tryd.prog 45 #[.pointer (some ⟨g, 0, none⟩), f, .int .i64 m] w fun e w' => e = .returned (.slice none 0 0) ∧ w = w' := by
  obtain ⟨A, n, c, h1, h2, h3, h4, h5⟩ := h
  have c1 : w.cell? ⟨g, 1, none⟩ = some (.int .i64 err) := cell_of_row w g 1 _ _ (0, 0) h1
  have hd : (err != 0) = true := by simpa using he
  clear h1 h2 h3 he
  go_enter Tryd.func45, Tryd.ntmps45
  go_wp2_with fail
  go_ret
  exact ⟨rfl, rfl⟩

set_option maxRecDepth 100000 in
set_option maxHeartbeats 2000000 in
theorem trybytes_ok (K : FuncId) (hcf : ∀ args W, (callFunc K args).run Tryd.prog W = .ok (.enter K args) W) (g p : Nat) (xs : List Int) (m : Int) (r : List Int × Nat × Int) (w : World) (h : WRdr w g 53 xs p 0)
    (hK : Calls Tryd.prog K #[.pointer (some ⟨g, 0, none⟩), .int .i64 m] w (GotBlob w g xs r)) (hr : r.2.2 ≠ 0 → r.1 = [] ∧ r.2.1 = p) :
    Calls Tryd.prog 45 #[.pointer (some ⟨g, 0, none⟩), .func (.func K) #[.pointer (some ⟨g, 0, none⟩)] #[], .int .i64 m] w
      fun e w' => ∃ A k c, e = .returned (.slice A k c) ∧ Seg w' g .u8 A k r.1 ∧ k ≤ xs.length ∧ k ≤ c ∧ c ≤ 9223372036854775807 ∧ WRdr w' g 53 xs r.2.1 r.2.2 ∧ But w w' g := by
  obtain ⟨A, n, c, h1, h2, h3, h4, h5⟩ := h
  have c0 : w.cell? ⟨g, 0, none⟩ = some (.slice A n c) := cell_of_row w g 0 _ _ (0, 0) h1
  have c1 : w.cell? ⟨g, 1, none⟩ = some (.int .i64 0) := cell_of_row w g 1 _ _ (0, 0) h1
  have HS := Lib.hid h2
  have H3 := Lib.hid h3
  have HK := Lib.hid hK
  have HR := Lib.hid hr
  clear h1 h2 h3 hK hr
  obtain ⟨x, q, er⟩ := r
  by_cases he : er = 0
  · subst he
    go_enter Tryd.func45, Tryd.ntmps45
    go_wp2_with fail
    refine HK.out.mono ?_
    rintro e w1 ⟨A2, k2, c2, q1, rfl, hS2, hk2, hc2, hcm2, hW1, hB1, hq⟩
    have HW1 := Lib.hid hW1
    have HQ := Lib.hid (hq rfl)
    have HS2 := Lib.hid hS2
    clear hq hW1 hS2
    go_wp2_with fail
    go_ret
    refine ⟨_, _, _, rfl, HS2.out, hk2, hc2, hcm2, ?_, hB1⟩
    have h := HW1.out
    rw [HQ.out] at h
    exact h
  · have hd : (er != 0) = true := by simpa using he
    have HE : Hid (x = [] ∧ q = p) := HR.out he
    clear he
    go_enter Tryd.func45, Tryd.ntmps45
    go_wp2_with fail
    refine HK.out.mono ?_
    rintro e w1 ⟨A2, k2, c2, q1, rfl, hS2, hk2, hc2, hcm2, hW1, hB1, hq⟩
    have HW1 := Lib.hid hW1
    obtain ⟨A1, n1, c1', e1, _⟩ := hW1
    have d0 : w1.cell? ⟨g, 0, none⟩ = some (.slice A1 n1 c1') := cell_of_row w1 g 0 _ _ (0, 0) e1
    have d1 : w1.cell? ⟨g, 1, none⟩ = some (.int .i64 0) := cell_of_row w1 g 1 _ _ (0, 0) e1
    have f0 := frozen_of_row w1 g 0 _ _ e1
    have f1 := frozen_of_row w1 g 1 _ _ e1
    clear hq e1 hS2
    go_wp2_with fail
    go_ret
    obtain ⟨hx, hq⟩ := HE.out
    subst hx hq
    have h := rdr_back er HS.out H3.out h4 h5 HW1.out hB1
    exact ⟨none, 0, 0, rfl, Seg.nil _ _ _ _, Nat.zero_le _, Nat.le_refl _, by omega, h.1, h.2⟩

theorem uintR_back (xs : List Int) (p : Nat) (size : Int) : (uintR xs p 0 size).2.2 ≠ 0 → (uintR xs p 0 size).1 = 0 ∧ (uintR xs p 0 size).2.1 = p := by
  unfold uintR
  rw [if_neg (by omega)]
  split
  · exact fun _ => ⟨rfl, rfl⟩
  split
  · exact fun _ => ⟨rfl, rfl⟩
  split
  · exact fun _ => ⟨rfl, rfl⟩
  · intro h; exact absurd rfl h
theorem rawR_back (xs : List Int) (p : Nat) (m : Int) : (rawR xs p 0 m).2.2 ≠ 0 → (rawR xs p 0 m).1 = [] ∧ (rawR xs p 0 m).2.1 = p := by
  unfold rawR
  rw [if_neg (by omega)]
  split
  · exact fun _ => ⟨rfl, rfl⟩
  split
  · exact fun _ => ⟨rfl, rfl⟩
  · intro h; exact absurd rfl h
theorem blobR_back (xs : List Int) (p : Nat) (m : Int) : (blobR xs p 0 m).2.2 ≠ 0 → (blobR xs p 0 m).1 = [] ∧ (blobR xs p 0 m).2.1 = p := by
  unfold blobR
  rw [if_neg (by omega)]
  split
  · exact fun _ => ⟨rfl, rfl⟩
  split
  · exact fun _ => ⟨rfl, rfl⟩
  split
  · exact fun _ => ⟨rfl, rfl⟩
  · intro h; exact absurd rfl h
theorem uintR_err (xs : List Int) (p : Nat) (err size : Int) (he : err ≠ 0) : uintR xs p err size = (0, p, err) := by rw [uintR, if_pos he]
theorem rawR_err (xs : List Int) (p : Nat) (err m : Int) (he : err ≠ 0) : rawR xs p err m = ([], p, err) := by rw [rawR, if_pos he]
theorem blobR_err (xs : List Int) (p : Nat) (err m : Int) (he : err ≠ 0) : blobR xs p err m = ([], p, err) := by rw [blobR, if_pos he]
end Go.Proofs.YtcmbnldeojlhbaaDoor
