/-
  The walk of the statement that another key or other additional data do not open a box.
-/
import Derived.Test.YtcmbnldeojlhbaaDoorBoxL
import Derived.Test.YtcmbnldeojlhbaaDoorRBox
import Derived.Test.YtcmbnldeojlhbaaDoorSame
import Derived.IntWalk
namespace Go.Proofs.YtcmbnldeojlhbaaDoor
open Go.RowKit

theorem lens6 (W : World) (A1 A2 A3 A4 A5 A6 : Option Addr) (n1 n2 n3 n4 n5 n6 c1 c2 c3 c4 c5 c6 : Nat) (t : TypeId) (g : Nat) (hg : g = W.heap.size) :
    Lens (W.alloc (.cells #[.slice A1 n1 c1, .slice A2 n2 c2, .slice A3 n3 c3, .slice A4 n4 c4, .slice A5 n5 c5, .slice A6 n6 c6] t)) g [n1, n2, n3, n4, n5, n6] := by
  intro j hj
  match j, hj with
  | 0, _ => exact ⟨_, _, cell_made W _ t g 0 _ hg rfl⟩
  | 1, _ => exact ⟨_, _, cell_made W _ t g 1 _ hg rfl⟩
  | 2, _ => exact ⟨_, _, cell_made W _ t g 2 _ hg rfl⟩
  | 3, _ => exact ⟨_, _, cell_made W _ t g 3 _ hg rfl⟩
  | 4, _ => exact ⟨_, _, cell_made W _ t g 4 _ hg rfl⟩
  | 5, _ => exact ⟨_, _, cell_made W _ t g 5 _ hg rfl⟩
theorem small6 {n1 n2 n3 n4 n5 n6 : Nat} (h : smallB [n1, n2, n3, n4, n5, n6] = true) : n1 ≤ 120 ∧ n2 ≤ 120 ∧ n3 ≤ 120 ∧ n4 ≤ 120 ∧ n5 ≤ 120 ∧ n6 ≤ 120 := by
  simpa [smallB] using h

set_option maxRecDepth 100000 in
set_option maxHeartbeats 4000000 in
theorem lawBoxKeys (A : Option Addr) (n c : Nat) (key : List Int) (A1 : Option Addr) (n1 c1 : Nat) (other : List Int) (A2 : Option Addr) (n2 c2 : Nat) (nonce : List Int) (A3 : Option Addr) (n3 c3 : Nat) (ad : List Int) (A5 : Option Addr) (n5 c5 : Nat) (data : List Int) (A4 : Option Addr) (n4 c4 : Nat) (plain : List Int) (w : World)
    (hs : Seg w w.heap.size .u8 A n key) (hc : n ≤ c) (hm : c ≤ 9223372036854775807) (hs1 : Seg w w.heap.size .u8 A1 n1 other) (hc1 : n1 ≤ c1) (hm1 : c1 ≤ 9223372036854775807) (hs2 : Seg w w.heap.size .u8 A2 n2 nonce) (hc2 : n2 ≤ c2) (hm2 : c2 ≤ 9223372036854775807) (hx2 : InB nonce)
    (hs3 : Seg w w.heap.size .u8 A3 n3 ad) (hc3 : n3 ≤ c3) (hm3 : c3 ≤ 9223372036854775807) (hs5 : Seg w w.heap.size .u8 A5 n5 data) (hc5 : n5 ≤ c5) (hm5 : c5 ≤ 9223372036854775807) (hs4 : Seg w w.heap.size .u8 A4 n4 plain) (hc4 : n4 ≤ c4) (hm4 : c4 ≤ 9223372036854775807) (hK : Tab w 0 .u32 kay256) :
    Calls Tryd.prog 7 #[.slice A n c, .slice A1 n1 c1, .slice A2 n2 c2, .slice A3 n3 c3, .slice A5 n5 c5, .slice A4 n4 c4] w fun e w' => e = .returned (.bool true) ∧ Below w.heap.size w w' := by
  have HS := Lib.hid hs
  have HS1 := Lib.hid hs1
  have HS2 := Lib.hid hs2
  have HS3 := Lib.hid hs3
  have HS4 := Lib.hid hs4
  have HS5 := Lib.hid hs5
  have HX2 := Lib.hid hx2
  have HL2 := Lib.hid hs2.1
  have HL4 := Lib.hid hs4.1
  have HK := Lib.hid hK
  have hw0 := hK.lt
  clear hs hs1 hs2 hs3 hs4 hs5 hK hx2
  go_enter Tryd.func7, Tryd.ntmps7
  go_wp2_with fail
  refine (awake4_any w HK.out).mono ?_
  rintro e w1 ⟨rfl, hb1⟩
  have hz1 := hb1.size
  cases hsm : smallB [n, n1, n2, n3, n5, n4] with
  | false => ?_
  | true => ?_
  · have HSM := Lib.hid hsm
    clear hsm
    go_wp2_with fail
    refine (small_any w1.heap.size 6 6 [n, n1, n2, n3, n5, n4] _ (lens6 w1 A A1 A2 A3 A5 A4 n n1 n2 n3 n5 n4 c c1 c2 c3 c5 c4 _ _ rfl) rfl (by omega)).mono ?_
    rw [HSM.out]
    rintro e w2 ⟨rfl, rfl⟩
    go_wp2_with fail
    go_ret
    exact ⟨rfl, hb1.alloc hz1 _⟩
  obtain ⟨l0, l1, l2, l3, l5, l4⟩ := small6 hsm
  have HSM := Lib.hid hsm
  clear hsm
  go_wp2_with fail
  refine (small_any w1.heap.size 6 6 [n, n1, n2, n3, n5, n4] _ (lens6 w1 A A1 A2 A3 A5 A4 n n1 n2 n3 n5 n4 c c1 c2 c3 c5 c4 _ _ rfl) rfl (by omega)).mono ?_
  rw [HSM.out]
  rintro e w2 ⟨rfl, hw2⟩
  have hb2 : Below w.heap.size w w2 := by rw [← hw2]; exact hb1.alloc hz1 _
  have hz2 := hb2.size
  clear hw2
  by_cases h64 : 64 < n2
  · have hd : decide ((64 : Int) < n2) = true := by simp; omega
    go_wp2_with fail
    go_ret
    exact ⟨rfl, hb2⟩
  have hd : decide ((64 : Int) < n2) = false := by simp; omega
  go_wp2_with fail
  refine (wseal_any A A2 A3 A4 n c n2 c2 n3 c3 n4 c4 key nonce ad plain w2 (HS.out.up hb2) (by omega) hc hm (HS2.out.up hb2) (by omega) hc2 hm2 (HS3.out.up hb2) (by omega) hc3 hm3 (HS4.out.up hb2) (by omega) hc4 hm4 (HK.out.below hb2 hw0)).mono ?_
  rintro e w3 ⟨B3, k3, d3, rfl, hk3, hd3, hdm3, hS3, hb3⟩
  have hk3n : k3 = 36 + n2 + n4 := by rw [← hS3.1, sealI_length _ _ _ _ (by rw [HL2.out]; omega) (by rw [HL4.out]; omega), HL2.out, HL4.out]
  have HK3 := Lib.hid hk3n
  have hdk : decide ((k3 : Int) < 36 + (n2 : Int)) = false := by simp; omega
  have hk3a : k3 ≤ 220 := by omega
  have hk3b : 36 + n2 ≤ k3 := by omega
  have HR3 := Lib.hid hS3
  have hbw3 := hb2.trans (hb3.mono hz2)
  have hz3 := hbw3.size
  clear hS3 hk3n
  go_wp2_with fail
  refine (wopen_any A1 A5 B3 n1 c1 n5 c5 k3 d3 other data (sealI key nonce ad plain) w3 (HS1.out.up hbw3) (by omega) hc1 hm1 (HS5.out.up hbw3) (by omega) hc5 hm5 HR3.out (by omega) hd3 hdm3 (inB_seal _ _ _ _ HX2.out) (HK.out.below hbw3 hw0)).mono ?_
  rw [open_parts other data key nonce ad plain (by rw [HL2.out]; omega) (by rw [HL4.out]; omega), open_err]
  rintro e w4 ⟨B4, k4, d4, rfl, hk4, hd4, hdm4, hS4, hb4⟩
  have hbw4 := hbw3.trans (hb4.mono hz3)
  have hz4 := hbw4.size
  have HR4 := Lib.hid (HR3.out.up hb4)
  obtain ⟨er, HER⟩ : ∃ er : Int, Hid ((if sameB (tagI other nonce data (streamI key nonce plain)) (tagI key nonce ad (streamI key nonce plain)) = true then (0 : Int) else 18) = er) := ⟨_, rfl⟩
  rw [HER.out]
  clear hS4
  obtain ⟨p4, HP4⟩ : ∃ p4 : Nat, Hid (4 + n2 = p4) := ⟨_, rfl⟩
  obtain ⟨q4, HQ4⟩ : ∃ q4 : Nat, Hid (k3 - 32 = q4) := ⟨_, rfl⟩
  have hpq : p4 ≤ q4 := by have := HP4.out; have := HQ4.out; omega
  have hq3 : q4 ≤ k3 := by have := HQ4.out; omega
  have hs1' : (4 : Int) + n2 = p4 := by have := HP4.out; omega
  have hs2' : (k3 : Int) - 32 = q4 := by have := HQ4.out; omega
  have hsl := slice_lh B3 k3 d3 p4 q4 hpq (by omega)
  have hsf := slice_from B3 k3 d3 q4 hq3
  obtain ⟨A8, HA8⟩ : ∃ A8, Hid ((if d3 = p4 then B3 else B3.map (·.add p4)) = A8) := ⟨_, rfl⟩
  obtain ⟨A9, HA9⟩ : ∃ A9, Hid ((if d3 = q4 then B3 else B3.map (·.add q4)) = A9) := ⟨_, rfl⟩
  rw [HA8.out] at hsl
  rw [HA9.out] at hsf
  have hqp : q4 - p4 = n4 := by have := HP4.out; have := HQ4.out; have := HK3.out; omega
  have hkq : k3 - q4 = 32 := by have := HQ4.out; omega
  have HC8 : Hid (Seg w4 w4.heap.size .u8 A8 n4 (streamI key nonce plain)) := by
    have h := (HR4.out.drop (i := p4) (cap := d3) (by omega) hd3).take (i := n4) (by omega)
    rw [HA8.out, ← HP4.out, ← HL2.out, ← HL4.out, seal_mid key nonce ad plain (by rw [HL2.out]; omega) (by rw [HL4.out]; omega), HL4.out] at h
    exact h
  have HC9 : Hid (Seg w4 w4.heap.size .u8 A9 32 (tagI key nonce ad (streamI key nonce plain))) := by
    have h := HR4.out.drop (i := q4) (cap := d3) hq3 hd3
    have e : q4 = 4 + nonce.length + plain.length := by rw [HL2.out, HL4.out]; have := HQ4.out; have := HK3.out; omega
    rw [HA9.out, hkq, e, seal_end key nonce ad plain (by rw [HL2.out]; omega) (by rw [HL4.out]; omega)] at h
    exact h
  rw [hqp] at hsl
  rw [hkq] at hsf
  have hcc8 : n4 ≤ d3 - p4 := by have := HP4.out; have := HK3.out; omega
  clear hqp hkq
  go_wp2_with fail
  have hbd : Below w.heap.size w w4.drew := hbw4.drew
  have HC8d : Hid (Seg w4.drew w4.drew.heap.size .u8 A8 n4 (streamI key nonce plain)) := by
    show Seg _ _ _ _ _ _
    exact HC8.out.drewN 1
  have HC9d : Hid (Seg w4.drew w4.drew.heap.size .u8 A9 32 (tagI key nonce ad (streamI key nonce plain))) := by
    show Seg _ _ _ _ _ _
    exact HC9.out.drewN 1
  have hwk : IntKind.i64.wrap ((k3 : Int) - 32) = q4 := by rw [hs2']; exact IntWalk.i64_in _ (by omega)
  have hcm8 : d3 - p4 ≤ maxLen := by unfold maxLen; omega
  cases hsb : sameB (tagI other nonce data (streamI key nonce plain)) (tagI key nonce ad (streamI key nonce plain)) with
  | true => ?_
  | false => ?_
  focus
    have hde : (er == 0) = true := by rw [← HER.out, hsb]; rfl
  rotate_left
  focus
    have hde : (er == 18) = true := by rw [← HER.out, hsb]; rfl
  rotate_left
  all_goals
    have HSB := Lib.hid hsb
    clear hsb hs1' hs2' hsl
    go_region_held3 (fun _ => True)
      (trivial)
      (first
        | (go_at_call 12; refine (same_any A7 A9 32 c7 32 (d3 - q4) _ _ w5 HA7.out HB9.out (by omega)).mono ?_; rw [HSB.out]; rintro e w6 ⟨rfl, q6, hq6⟩; have hbw6 : Below w.heap.size w w6 := (by rw [hq6]; exact below_drewN hbw5 q6); clear hq6)
        | (go_at_call 18; refine (rtag_any A1 A2 A5 A8 n1 c1 n2 c2 n5 c5 n4 (d3 - p4) other nonce data (streamI key nonce plain) w4.drew (HS1.out.up hbd) (by omega) (HS2.out.up hbd) (by omega) hc2 (by unfold maxLen; omega) (HS5.out.up hbd) (by omega) hc5 (by unfold maxLen; omega) HC8d.out (by omega) hcc8 hcm8).mono ?_; rintro e w5 ⟨v5, rfl, hR5, hb5⟩; obtain ⟨A7, c7, rfl, _, _⟩ := hR5.cut; have HA7 := Lib.hid hR5.seg; have HB9 := Lib.hid (HC9d.out.up hb5); have hbw5 := hbd.trans (hb5.mono hz4); clear hR5))
    go_wp2
    go_ret
    exact ⟨rfl, hbw6⟩
end Go.Proofs.YtcmbnldeojlhbaaDoor
