/-
  The reference's writing of numbers and blobs.
-/
import Derived.Test.YtcmbnldeojlhbaaDoorBase3
namespace Go.Proofs.YtcmbnldeojlhbaaDoor
open Go.RowKit

theorem beI_next (size k : Nat) (n : Int) (h : k < size) : (beI size n).take (k + 1) = (beI size n).take k ++ [n % 18446744073709551616 / 2 ^ (8 * (size - 1 - k)) % 256] := by
  rw [List.take_add_one, beI, List.getElem?_map, List.getElem?_range h]
  rfl

set_option maxRecDepth 100000 in
set_option maxHeartbeats 2000000 in
theorem ruint_any (A : Option Addr) (l c : Nat) (b : List Int) (size n : Int) (w : World) (hs : Seg w w.heap.size .u8 A l b) (hl : l ≤ 1099511627776) :
    Calls Tryd.prog 43 #[.slice A l c, .int .i64 size, .int .i64 n] w
      fun e w' => ∃ v k, e = .returned v ∧ k ≤ l + 8 ∧ Row w' w.heap.size 5 .u8 v k (uintB b size n) ∧ Below w.heap.size w w' := by
  obtain ⟨i0, hi, hz0, hz1, hz2⟩ := info_parts Tryd.infoU8
  have HL := Lib.hid hs.1
  have hown0 := own_empty w 5 .u8 w.heap.size (Nat.le_refl _)
  have hb0 : Below w.heap.size w (w.alloc (.cells #[] 5)) := (Below.refl _ _).alloc (Nat.le_refl _) _
  have HS0 := Lib.hid (hs.below hb0 (Nat.le_refl _))
  have HO := Lib.hid hown0
  have hz := hb0.size
  clear hs hown0
  by_cases hsz : size < 1 ∨ 8 < size
  · have HU : Hid (uintB b size n = b) := by show _ = _; rw [uintB, if_pos hsz]
    rcases (by omega : size < 1 ∨ (1 ≤ size ∧ 8 < size)) with h1 | ⟨h1, h2⟩
    focus
      have hd : decide (size < 1) = true := by simpa using h1
    rotate_left
    focus
      have hd : decide (size < 1) = false := by simp; omega
      have hd2 : decide (8 < size) = true := by simpa using h2
    rotate_left
    all_goals
      clear hsz
      go_enter Tryd.func43, Tryd.ntmps43
      go_wp2_with (at_builtin; refine wpList_app _ rfl (.tmp 9) (.tmp 10) 22 rfl w.heap.size 5 i0 (.int .u8 0) 1 Tryd.underlying22 hi hz0 hz1 hz2 rfl .u8 (.slice (some ⟨w.heap.size, 0, none⟩) 0 0) [] rfl HO.out w.heap.size A l c b rfl HS0.out (by unfold maxLen; simp; omega) (by simp; omega) hz ?_; intro v2 w2 hown2 hg2 hor2; have hb2 := own_below (k := .u8) (xs := []) HO.out hg2 hb0 hz; clear hg2 hor2)
      go_ret
      refine ⟨_, l, rfl, by omega, ?_, hb2⟩
      rw [HU.out]
      exact Own.row hown2 HL.out
  · obtain ⟨s, rfl⟩ : ∃ s : Nat, size = s := ⟨size.toNat, by omega⟩
    have HU : Hid (uintB b s n = b ++ beI s n) := by show _ = _; rw [uintB, if_neg hsz, Int.toNat_natCast]
    have hd : decide ((s : Int) < 1) = false := by simp; omega
    have hd2 : decide ((8 : Int) < s) = false := by simp; omega
    have hs1 : 1 ≤ s := by omega
    have hs8 : s ≤ 8 := by omega
    clear hsz
    go_enter Tryd.func43, Tryd.ntmps43
    go_wp2_with (at_builtin; refine wpList_app _ rfl (.tmp 9) (.tmp 10) 22 rfl w.heap.size 5 i0 (.int .u8 0) 1 Tryd.underlying22 hi hz0 hz1 hz2 rfl .u8 (.slice (some ⟨w.heap.size, 0, none⟩) 0 0) [] rfl HO.out w.heap.size A l c b rfl HS0.out (by unfold maxLen; simp; omega) (by simp; omega) hz ?_; intro v2 w2 hown2 hg2 hor2; have hb2 := own_below (k := .u8) (xs := []) HO.out hg2 hb0 hz; clear hg2 hor2)
    have hR2 : Row w2 w.heap.size 5 .u8 v2 (l + 0) (b ++ (beI s n).take 0) := by
      rw [List.take_zero, List.append_nil]
      exact Own.row hown2 HL.out
    clear hown2
    go_loopw [7, 8] (fun v i wr => ∃ k : Nat, k ≤ s ∧ i = .int .i64 ((s : Int) - 1 - k) ∧ Hid (Row wr w.heap.size 5 .u8 v (l + k) (b ++ (beI s n).take k)) ∧ Below w.heap.size w wr) (fun _ i _ => (intOf i + 1).toNat)
    case atStart => exact ⟨0, by omega, by go_num, hR2, hb2⟩
    case round =>
      clear hR2 hb2
      obtain ⟨k, hk, rfl, hR, hb⟩ := hrel
      have hzr := hb.size
      by_cases hlt : k < s
      · obtain ⟨q, hq⟩ : ∃ q : Nat, (s : Int) - 1 - k = q := ⟨s - 1 - k, by omega⟩
        have HQ := Lib.hid hq
        have hq7 : q ≤ 7 := by omega
        rw [hq]
        clear hq
        have hdk : decide ((0 : Int) ≤ q) = true := by simp
        obtain ⟨X, HX⟩ : ∃ X, Hid (IntKind.u64.wrap n / 2 ^ (8 * q) % 256 = X) := ⟨_, rfl⟩
        have HRL := Lib.hid hR.out.length
        have hRo := hR.out.own
        have HRO := Lib.hid hRo
        clear hRo
        go_wp2_with (at_builtin; rw [HX.out]; refine wpList_app _ rfl (.tmp 25) (.tmp 33) 22 rfl w.heap.size 5 i0 (.int .u8 0) 1 Tryd.underlying22 hi hz0 hz1 hz2 rfl .u8 _ (b ++ (beI s n).take k) rfl (World.ownsRow.alloc HRO.out _) (wr.heap.size + 1) (some ⟨wr.heap.size, 0, none⟩) 1 1 [X] rfl ((Seg.of_blk (Blk.new wr 5 .u8 [X])).more (by simp)) (by unfold maxLen; rw [HRL.out]; omega) (by rw [HRL.out]; omega) (by simp; omega) ?_; intro v3 w3 hown3 hg3 hor3; have hb3 : Below w.heap.size w w3 := own_below (World.ownsRow.alloc HRO.out _) hg3 (hb.alloc hzr _) (by simp; omega); have HR3 : Hid (Row w3 w.heap.size 5 .u8 v3 (l + (k + 1)) (b ++ (beI s n).take k ++ [X])) := Own.row hown3 (by rw [List.length_append, HRL.out]; rfl); clear hown3 hg3 hor3)
        go_roundw
        case measure => simp [intOf]
        case rel =>
          refine ⟨k + 1, by omega, ?_, ?_, hb3⟩
          · have := HQ.out
            congr 1
            omega
          · show Row _ _ _ _ _ _ _
            have e : IntKind.u64.wrap n = n % 18446744073709551616 := IntKind.wrap_u64 n
            rw [beI_next s k n hlt, ← List.append_assoc, show s - 1 - k = q by have := HQ.out; omega, ← e, HX.out]
            exact HR3.out
      · have hks : k = s := by omega
        have hdk : decide ((0 : Int) ≤ (s : Int) - 1 - k) = false := by simp; omega
        have HKS := Lib.hid hks
        clear hks
        go_wp2_with fail
        go_ret
        refine ⟨_, l + k, rfl, by omega, ?_, hb⟩
        have h := hR.out
        rw [HU.out]
        rw [List.take_of_length_le (by rw [beI_length]; have := HKS.out; omega)] at h
        exact h

set_option maxRecDepth 100000 in
set_option maxHeartbeats 2000000 in
theorem rblob_any (A A2 : Option Addr) (l c l2 c2 : Nat) (b x : List Int) (w : World) (hs : Seg w w.heap.size .u8 A l b) (hl : l ≤ 1048576) (ht : Seg w w.heap.size .u8 A2 l2 x) (hl2 : l2 ≤ 1048576) (hc2 : l2 ≤ c2) (hcm2 : c2 ≤ 9223372036854775807) :
    Calls Tryd.prog 24 #[.slice A l c, .slice A2 l2 c2] w
      fun e w' => ∃ v k, e = .returned v ∧ k ≤ l + 65545 ∧ Row w' w.heap.size 5 .u8 v k (blobB b x) ∧ Below w.heap.size w w' := by
  obtain ⟨i0, hi, hz0, hz1, hz2⟩ := info_parts Tryd.infoU8
  have HS := Lib.hid hs
  have HT := Lib.hid ht
  clear hs ht
  obtain ⟨X, HXX⟩ : ∃ X, Hid (x.take 65535 = X) := ⟨_, rfl⟩
  have hmb : blobB b x = uintB b 2 ((X.length : Nat) : Int) ++ X := by rw [blobB, HXX.out]
  rw [hmb]
  clear hmb
  by_cases hlong : 65535 < l2
  focus
    have hd : decide ((65535 : Int) < l2) = true := by simp; omega
    have h65 : 65535 ≤ c2 := by omega
    have HX : Hid (Seg w w.heap.size .u8 A2 65535 X) := by
      show Seg _ _ _ _ _ _
      rw [← HXX.out]
      exact HT.out.take (by omega)
    have HXL : Hid (((X.length : Nat) : Int) = 65535) := by
      show _ = _
      rw [HX.out.1]; rfl
    go_enter Tryd.func24, Tryd.ntmps24
    go_wp2_with fail
    obtain ⟨m, HM⟩ : ∃ m : Nat, Hid (65535 = m) := ⟨_, rfl⟩
    have hm : m ≤ 65535 := by have := HM.out; omega
    rw [HM.out] at HX ⊢
  rotate_left
  focus
    have hd : decide ((65535 : Int) < l2) = false := by simp; omega
    obtain ⟨m, rfl⟩ : ∃ m, m = l2 := ⟨_, rfl⟩
    have hm : m ≤ 65535 := by omega
    have HX : Hid (Seg w w.heap.size .u8 A2 m X) := by
      show Seg _ _ _ _ _ _
      rw [← HXX.out, List.take_of_length_le (by rw [HT.out.1]; omega)]
      exact HT.out
    have HXL : Hid (((X.length : Nat) : Int) = m) := by
      show _ = _
      rw [HX.out.1]
    go_enter Tryd.func24, Tryd.ntmps24
    go_wp2_with fail
  rotate_left
  all_goals
    clear hlong hd
    refine (ruint_any A l c b 2 _ w HS.out (by omega)).mono ?_
    rintro e w1 ⟨v1, k1, rfl, hk1, hR1, hb1⟩
    have HR1 := Lib.hid hR1
    have hzb1 := hb1.size
    have HX1 := Lib.hid (HX.out.below hb1 (Nat.le_refl _))
    clear hR1
    go_wp2_with (at_builtin; refine wpList_app _ rfl (.tmp 13) (.tmp 14) 22 rfl w.heap.size 5 i0 (.int .u8 0) 1 Tryd.underlying22 hi hz0 hz1 hz2 rfl .u8 v1 _ rfl HR1.out.own w.heap.size A2 m c2 X rfl HX1.out (by unfold maxLen; rw [HR1.out.length]; omega) (by rw [HR1.out.length]; omega) hzb1 ?_; intro v2 w2 hown2 hg2 hor2; have hb2 : Below w.heap.size w w2 := own_below HR1.out.own hg2 hb1 hzb1; have HR2 := Lib.hid hown2; clear hown2 hg2 hor2)
    go_ret
    refine ⟨_, k1 + X.length, rfl, by have := HXL.out; omega, ?_, hb2⟩
    rw [HXL.out]
    exact Own.row HR2.out (by rw [List.length_append, HR1.out.length])
end Go.Proofs.YtcmbnldeojlhbaaDoor
