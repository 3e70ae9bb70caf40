/-
  The reference's Reader reads a number.
-/
import Derived.Test.YtcidfnblfelgkaaRRd
import Derived.Laws.Bits64
namespace Go.Proofs.Ytcidfnblfelgkaa
open Go.RowKit

set_option maxRecDepth 100000 in
set_option maxHeartbeats 4000000 in
theorem rruint_any (g : Nat) (A : Option Addr) (n c p : Nat) (err size : Int) (xs : List Int) (w : World) (h : Rdr w g 39 A n c p err) (hs : Seg w g .u8 A n xs) (hx : InB xs) (hn : n ≤ 1099511627776) (hp : p ≤ n) :
    Calls Try.prog 26 #[.pointer (some ⟨g, 0, none⟩), .int .i64 size] w
      fun e w' => e = .returned (.int .i64 (uintR xs p err size).1) ∧ Rdr w' g 39 A n c (uintR xs p err size).2.1 (uintR xs p err size).2.2 ∧ But w w' g := by
  have H := Lib.hid h
  have HS := Lib.hid hs
  have HX := Lib.hid hx
  have HL := Lib.hid hs.1
  have c0 := h.cell0
  have c1 := h.cell1
  have c2 := h.cell2
  have f1 := h.frozen 1
  have f2 := h.frozen 2
  clear h hs hx
  by_cases he : err = 0
  · subst he
    by_cases hsz : size < 1 ∨ 8 < size
    · have hU : uintR xs p 0 size = (0, p, 1) := by rw [uintR, if_neg (by omega), if_pos hsz]
      rw [hU]
      clear hU
      rcases (by omega : size < 1 ∨ (1 ≤ size ∧ 8 < size)) with h1 | ⟨h1, h2⟩
      focus
        have hd : decide (size < 1) = true := by simpa using h1
      rotate_left
      focus
        have hd : decide (size < 1) = false := by simp; omega
        have hd2 : decide (8 < size) = true := by simpa using h2
      rotate_left
      all_goals
        clear hsz
        go_enter Try.func26, Try.ntmps26
        go_wp2_with fail
        go_ret
        exact ⟨rfl, H.out.set2 1, (but_refl w g).set_ 2 _⟩
    · have hd : decide (size < 1) = false := by simp; omega
      have hd2 : decide (8 < size) = false := by simp; omega
      by_cases hlen : (n : Int) - p < size
      · have hU : uintR xs p 0 size = (0, p, 2) := by rw [uintR, if_neg (by omega), if_neg hsz, HL.out, if_pos hlen]
        rw [hU]
        have HN := Lib.hid (rneed_no g A n c p size w H.out hn hp hlen)
        clear hU hsz hlen
        go_enter Try.func26, Try.ntmps26
        go_wp2_with (go_at_call 37; refine HN.out.mono ?_; rintro e w' ⟨rfl, hR, hB⟩)
        go_ret
        exact ⟨rfl, hR, hB⟩
      · obtain ⟨s, rfl⟩ : ∃ s : Nat, size = s := ⟨size.toNat, by omega⟩
        have HN := Lib.hid (rneed_ok g A n c p s w H.out hn hp (by omega))
        have hs1 : 1 ≤ s := by omega
        have hs8 : s ≤ 8 := by omega
        have hps : p + s ≤ n := by omega
        have hU : uintR xs p 0 s = if 9223372036854775808 ≤ numI ((xs.drop p).take s) then (0, p, 4) else (numI ((xs.drop p).take s), p + s, 0) := by
          rw [uintR, if_neg (by omega), if_neg hsz, HL.out, if_neg hlen, Int.toNat_natCast]
        have HU := Lib.hid hU
        obtain ⟨D, HD⟩ : ∃ D, Hid (xs.drop p = D) := ⟨_, rfl⟩
        have HDB : Hid (InB D) := by show InB D; rw [← HD.out]; exact fun y hy => HX.out y (List.mem_of_mem_drop hy)
        have HDL : Hid (D.length = n - p) := by show _ = _; rw [← HD.out, List.length_drop, HL.out]
        clear hU hsz hlen
        obtain ⟨b, off, hA, hbg, hc⟩ := HS.out.2 (by omega)
        subst hA
        go_enter Try.func26, Try.ntmps26
        clear hc
        go_wp2_with (go_at_call 37; refine HN.out.mono ?_; rintro e w' ⟨rfl, q, rfl⟩)
        go_loopw [5, 6] (fun v i wr => ∃ k : Nat, k ≤ s ∧ i = .int .i64 k ∧ v = .int .u64 (numI (D.take k)) ∧ ∃ q, wr = w.drewN q) (fun _ i _ => s - (intOf i).toNat)
        case atStart => exact ⟨0, by omega, rfl, rfl, _, rfl⟩
        case round =>
          obtain ⟨k, hk, rfl, rfl, q, rfl⟩ := hrel
          by_cases hlt : k < s
          · have hdk : decide ((k : Int) < s) = true := by simp; omega
            obtain ⟨_, _, hA, _, hc⟩ := HS.out.2 (by omega)
            injection hA with hA
            injection hA with hA1 hA2
            subst hA1 hA2
            have hcx := hc (p + k) (by omega)
            have e1 : xs.getD (p + k) 0 = D.getD k 0 := by rw [← HD.out]; simp [List.getD]
            rw [e1] at hcx
            obtain ⟨x, hx⟩ : ∃ x, Hid (D.getD k 0 = x) := ⟨_, rfl⟩
            have hxb : 0 ≤ x ∧ x < 256 := by
              rw [← hx.out]
              refine HDB.out _ ?_
              have : D[k]? = some (D.getD k 0) := by rw [List.getElem?_eq_getElem (by rw [HDL.out]; omega)]; simp [List.getD, show k < D.length by rw [HDL.out]; omega]
              exact List.mem_of_getElem? this
            obtain ⟨hx0, hx1⟩ := hxb
            rw [hx.out] at hcx
            obtain ⟨N, hN⟩ : ∃ N, Hid (numI (D.take k) = N) := ⟨_, rfl⟩
            rw [hN.out]
            clear hc e1
            have w1 : IntKind.i64.wrap ((p : Int) + k) = (p : Int) + k := IntWalk.i64_in _ (by omega)
            have w2 : ((p : Int) + k).toNat = p + k := by omega
            have w3 : (0 : Int) ≤ (p : Int) + k := by omega
            have w4 : (p : Int) + k < n := by omega
            go_wp2_with fail
            go_quiet (fail)
            go_wp2_with fail
            go_roundw
            case measure => simp [intOf]; omega
            case rel =>
              refine ⟨k + 1, by omega, by go_num, ?_, _, rfl⟩
              have hb := num_small HDB.out k (by omega)
              rw [hN.out] at hb
              rw [num_take D k (by rw [HDL.out]; omega), hN.out, hx.out, join8 N x hb.1 hb.2 hx0 hx1]
          · have hdk : decide ((k : Int) < s) = false := by simp; omega
            have hks : k = s := by omega
            obtain ⟨N, hN⟩ : ∃ N, Hid (numI (D.take k) = N) := ⟨_, rfl⟩
            have hN0 : 0 ≤ N := by rw [← hN.out]; exact (numI_bound _ (HDB.out.take k)).1
            have HU2 : Hid (uintR xs p 0 s = if 9223372036854775808 ≤ N then (0, p, 4) else (N, p + s, 0)) := by
              show _ = _
              rw [HU.out, HD.out, ← hks, hN.out]
            rw [hN.out]
            clear hks
            by_cases hbig : 9223372036854775808 ≤ N
            · have hdb : decide (9223372036854775808 ≤ N) = true := by simpa using hbig
              have HU3 : Hid (uintR xs p 0 s = (0, p, 4)) := by show _ = _; rw [HU2.out, if_pos hbig]
              clear hbig
              go_wp2_with fail
              go_ret
              rw [HU3.out]
              exact ⟨rfl, (H.out.drewN _).set2 4, ((but_refl w g).drewN _).set_ 2 _⟩
            · have hdb : decide (9223372036854775808 ≤ N) = false := by simpa using hbig
              have HU3 : Hid (uintR xs p 0 s = (N, p + s, 0)) := by show _ = _; rw [HU2.out, if_neg hbig]
              have hN1 : N < 9223372036854775808 := by omega
              clear hbig
              go_wp2_with fail
              go_ret
              rw [HU3.out]
              have hs1' := (H.out.drewN q).set1 (p + s)
              exact ⟨rfl, by simpa using hs1', ((but_refl w g).drewN _).set_ 1 _⟩
  · have hd : (err == 0) = false := by simpa using he
    have hd2 : (err != 0) = true := by simpa using he
    have hU : uintR xs p err size = (0, p, err) := by rw [uintR, if_pos he]
    rw [hU]
    clear hU
    have HE := Lib.hid he
    clear he
    go_enter Try.func26, Try.ntmps26
    go_wp2_with fail
    go_ret
    exact ⟨rfl, H.out, but_refl w g⟩
end Go.Proofs.Ytcidfnblfelgkaa
