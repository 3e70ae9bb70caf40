/-
  The program's Reader takes bytes and numbers.
-/
import Derived.Test.YtcmbnldeojlhbaaDoorWRd
import Derived.Test.YtcmbnldeojlhbaaDoorWLow
import Derived.Laws.Bits64
namespace Go.Proofs.YtcmbnldeojlhbaaDoor
open Go.RowKit

/-- What bytes hands back: the bytes that rawR says, or its error. -/
def GotRaw (w : World) (g : Nat) (xs : List Int) (r : List Int × Nat × Int) (e : Ending) (w' : World) : Prop :=
  ∃ A k c, e = .returned (.tuple #[.slice A k c, .int .i64 r.2.2]) ∧ Seg w' g .u8 A k r.1 ∧ k ≤ xs.length ∧ k ≤ c ∧ c ≤ 9223372036854775807 ∧ WRdr w' g 53 xs r.2.1 0 ∧ But w w' g

set_option maxRecDepth 100000 in
set_option maxHeartbeats 1000000 in
theorem wbytes_any (g p : Nat) (xs : List Int) (m : Int) (w : World) (h : WRdr w g 53 xs p 0) (hxl : xs.length ≤ 1099511627776) :
    Calls Tryd.prog 47 #[.pointer (some ⟨g, 0, none⟩), .int .i64 m] w (GotRaw w g xs (rawR xs p 0 m)) := by
  have H := Lib.hid h
  obtain ⟨A, n, c, h1, h2, h3, h4, h5⟩ := h
  have c0 : w.cell? ⟨g, 0, none⟩ = some (.slice A n c) := cell_of_row w g 0 _ _ (0, 0) h1
  have f0 : w.frozen? ⟨g, 0, none⟩ = false := frozen_of_row w g 0 _ _ h1
  have H1 := Lib.hid h1
  have HS := Lib.hid h2
  have H3 := Lib.hid h3
  have hn : n ≤ 1099511627776 := by omega
  clear h1 h2 h3 hxl
  by_cases hm : m < 0
  · have HU : Hid (rawR xs p 0 m = ([], p, 1)) := by show _ = _; rw [rawR, if_neg (by omega), if_pos hm]
    have hd : decide (m < 0) = true := by simpa using hm
    rw [HU.out]
    go_enter Tryd.func47, Tryd.ntmps47
    go_wp2_with fail
    go_ret2
    exact ⟨none, 0, 0, rfl, Seg.nil _ _ _ _, Nat.zero_le _, Nat.le_refl _, by omega, H.out, but_refl w g⟩
  · have hd : decide (m < 0) = false := by simpa using hm
    obtain ⟨s, rfl⟩ : ∃ s : Nat, m = s := ⟨m.toNat, by omega⟩
    by_cases hlen : n < s
    · have HU : Hid (rawR xs p 0 s = ([], p, 2)) := by show _ = _; rw [rawR, if_neg (by omega), if_neg hm, if_pos (by have := H3.out; omega)]
      have hd2 : decide (n < s) = true := by simpa using hlen
      rw [HU.out]
      clear hlen
      go_enter Tryd.func47, Tryd.ntmps47
      go_wp2_with fail
      go_ret2
      exact ⟨none, 0, 0, rfl, Seg.nil _ _ _ _, Nat.zero_le _, Nat.le_refl _, by omega, H.out, but_refl w g⟩
    · have hd2 : decide (n < s) = false := by simpa using hlen
      have HU : Hid (rawR xs p 0 s = ((xs.drop p).take s, p + s, 0)) := by
        show _ = _
        rw [rawR, if_neg (by omega), if_neg hm, if_neg (by have := H3.out; omega), Int.toNat_natCast]
      have hsn : s ≤ n := by omega
      have hs1 := slice_hm A n c s (by omega)
      have hs2 := slice_from A n c s hsn
      obtain ⟨A2, hA2⟩ : ∃ A2, Hid ((if c = s then A else A.map (·.add s)) = A2) := ⟨_, rfl⟩
      rw [hA2.out] at hs2
      rw [HU.out]
      clear hlen hm
      go_enter Tryd.func47, Tryd.ntmps47
      go_wp2_with fail
      go_ret2
      have hb : But w (w.setCell ⟨g, 0, none⟩ (.slice A2 (n - s) (c - s))) g := (but_refl w g).set_ 0 _
      refine ⟨A, s, s, rfl, (HS.out.take hsn).but hb, by have := H3.out; omega, Nat.le_refl _, by omega, ⟨A2, n - s, c - s, ?_, ?_, by have := H3.out; show p + s + (n - s) = _; omega, by omega, by omega⟩, hb⟩
      · have := heap_setCell_same w g 0 _ _ (.slice A2 (n - s) (c - s)) H1.out
        simpa using this
      · have h := (HS.out.drop (i := s) (cap := c) hsn h4).but hb
        rw [hA2.out, List.drop_drop] at h
        exact h

/-- A try: the number that r says (or none), or its error; on success as many bytes taken as r says. -/
def GotNum (w : World) (g : Nat) (xs : List Int) (r : Int × Nat × Int) (e : Ending) (w' : World) : Prop :=
  ∃ q, e = .returned (.tuple #[.int .i64 r.1, .int .i64 r.2.2]) ∧ WRdr w' g 53 xs q 0 ∧ But w w' g ∧ (r.2.2 = 0 → q = r.2.1)

set_option maxRecDepth 100000 in
set_option maxHeartbeats 4000000 in
theorem wnumber_any (g p : Nat) (xs : List Int) (size : Int) (w : World) (h : WRdr w g 53 xs p 0) (hxl : xs.length ≤ 1099511627776) (hx : InB xs) :
    Calls Tryd.prog 63 #[.pointer (some ⟨g, 0, none⟩), .int .i64 size] w (GotNum w g xs (uintR xs p 0 size)) := by
  have H := Lib.hid h
  have HX := Lib.hid hx
  have hp := h.le
  clear h hx
  by_cases hsz : size < 1 ∨ 8 < size
  · have HU : Hid (uintR xs p 0 size = (0, p, 1)) := by show _ = _; rw [uintR, if_neg (by omega), if_pos hsz]
    have hv : decide (1 ≤ size ∧ size ≤ 8) = false := by simp; omega
    have HV := Lib.hid hv
    rw [HU.out]
    clear hv hsz
    go_enter Tryd.func63, Tryd.ntmps63
    go_wp2_with (go_at_call 58; refine (valid_any size false HV.out w).mono ?_; rintro e w' ⟨rfl, rfl⟩)
    go_ret2
    exact ⟨p, rfl, H.out, but_refl w g, fun _ => rfl⟩
  · obtain ⟨s, rfl⟩ : ∃ s : Nat, size = s := ⟨size.toNat, by omega⟩
    have hv : decide (1 ≤ (s : Int) ∧ (s : Int) ≤ 8) = true := by simp; omega
    have HV := Lib.hid hv
    have hs8 : s ≤ 8 := by omega
    have HB := Lib.hid (wbytes_any g p xs s w H.out hxl)
    by_cases hlen : xs.length < p + s
    · have HU : Hid (uintR xs p 0 s = (0, p, 2)) := by show _ = _; rw [uintR, if_neg (by omega), if_neg hsz, if_pos (by omega)]
      have HR : Hid (rawR xs p 0 s = ([], p, 2)) := by show _ = _; rw [rawR, if_neg (by omega), if_neg (by omega), if_pos (by omega)]
      rw [HR.out] at HB
      rw [HU.out]
      clear hv hsz hlen
      go_enter Tryd.func63, Tryd.ntmps63
      go_wp2_with (first
        | (go_at_call 58; refine (valid_any s true HV.out w).mono ?_; rintro e w' ⟨rfl, rfl⟩)
        | (go_at_call 47; refine HB.out.mono ?_; rintro e w1 ⟨A1, k1, c1, rfl, hS1, hk1, hc1, hcm1, hW1, hB1⟩))
      go_ret2
      exact ⟨p, rfl, hW1, hB1, fun _ => rfl⟩
    · obtain ⟨D, HD⟩ : ∃ D, Hid ((xs.drop p).take s = D) := ⟨_, rfl⟩
      have HDL : Hid (D.length = s) := by show _ = _; rw [← HD.out, List.length_take, List.length_drop]; omega
      have HDB : Hid (InB D) := by show InB D; rw [← HD.out]; exact fun y hy => HX.out y (List.mem_of_mem_drop (List.mem_of_mem_take hy))
      have HU : Hid (uintR xs p 0 s = if 9223372036854775808 ≤ numI D then (0, p, 4) else (numI D, p + s, 0)) := by
        show _ = _
        rw [uintR, if_neg (by omega), if_neg hsz, if_neg (by omega), Int.toNat_natCast, HD.out]
      have HR : Hid (rawR xs p 0 s = (D, p + s, 0)) := by show _ = _; rw [rawR, if_neg (by omega), if_neg (by omega), if_neg (by omega), Int.toNat_natCast, HD.out]
      rw [HR.out] at HB
      clear hv hsz hlen
      go_enter Tryd.func63, Tryd.ntmps63
      go_wp2_with (first
        | (go_at_call 58; refine (valid_any s true HV.out w).mono ?_; rintro e w' ⟨rfl, rfl⟩)
        | (go_at_call 47; refine HB.out.mono ?_; rintro e w1 ⟨A1, k1, c1, rfl, hS1, hk1, hc1, hcm1, hW1, hB1⟩; have hks : k1 = s := (by rw [← hS1.1, HDL.out]); have HS1 := Lib.hid hS1; have HW1 := Lib.hid hW1; subst hks; clear hS1 hW1))
      go_loop [8, 25] (fun v i => ∃ k : Nat, k ≤ k1 ∧ i = .int .i64 k ∧ v = .int .u64 (numI (D.take k))) (fun _ i => k1 - (intOf i).toNat)
      case atStart => exact ⟨0, by omega, rfl, rfl⟩
      case round =>
        obtain ⟨k, hk, rfl, rfl⟩ := hrel
        by_cases hlt : k < k1
        · have hd : decide ((k : Int) < k1) = true := by simp; omega
          obtain ⟨b, off, rfl, _, hc⟩ := HS1.out.2 (by omega)
          have hcx := hc k hlt
          obtain ⟨x, hx⟩ : ∃ x, Hid (D.getD k 0 = x) := ⟨_, rfl⟩
          obtain ⟨hx0, hx1⟩ := inB_getD HDB.out k (by rw [HDL.out]; exact hlt)
          rw [hx.out] at hcx hx0 hx1
          obtain ⟨N, hN⟩ : ∃ N, Hid (numI (D.take k) = N) := ⟨_, rfl⟩
          rw [hN.out]
          clear hc
          go_wp2_with fail
          go_round
          case measure => simp [intOf]; omega
          case rel =>
            refine ⟨k + 1, by omega, by go_num, ?_⟩
            have hb := num_small HDB.out k (by omega)
            rw [hN.out] at hb
            rw [num_take D k (by rw [HDL.out]; omega), hN.out, hx.out, join8 N x hb.1 hb.2 hx0 hx1]
        · have hd : decide ((k : Int) < k1) = false := by simp; omega
          have hks : k = k1 := by omega
          obtain ⟨N, hN⟩ : ∃ N, Hid (numI (D.take k) = N) := ⟨_, rfl⟩
          have hN0 : 0 ≤ N := by rw [← hN.out]; exact (numI_bound _ (HDB.out.take k)).1
          have HU2 : Hid (uintR xs p 0 k1 = if 9223372036854775808 ≤ N then (0, p, 4) else (N, p + k1, 0)) := by
            show _ = _
            rw [HU.out, ← hN.out, List.take_of_length_le (by rw [HDL.out]; omega)]
          rw [hN.out]
          clear hks
          by_cases hbig : 9223372036854775808 ≤ N
          · have hdb : decide (9223372036854775807 < N) = true := by simp; omega
            have HU3 : Hid (uintR xs p 0 k1 = (0, p, 4)) := by show _ = _; rw [HU2.out, if_pos hbig]
            clear hbig
            go_wp2_with fail
            go_ret2
            rw [HU3.out]
            exact ⟨_, rfl, HW1.out, hB1, fun h => by cases h⟩
          · have hdb : decide (9223372036854775807 < N) = false := by simp; omega
            have HU3 : Hid (uintR xs p 0 k1 = (N, p + k1, 0)) := by show _ = _; rw [HU2.out, if_neg hbig]
            have hN1 : N < 9223372036854775808 := by omega
            clear hbig
            go_wp2_with fail
            go_ret2
            rw [HU3.out]
            exact ⟨_, rfl, HW1.out, hB1, fun _ => rfl⟩
end Go.Proofs.YtcmbnldeojlhbaaDoor
