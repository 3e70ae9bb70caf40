/-
  The walk of the statement that a changed byte of the nonce or the ciphertext is detected.
-/
import Derived.Test.YtcmbnldeojlhbaaDoorBoxT
import Derived.Test.YtcmbnldeojlhbaaDoorBase8
import Derived.Test.YtcmbnldeojlhbaaDoorAlike
import Derived.Test.YtcmbnldeojlhbaaDoorFull
import Derived.IntWalk
namespace Go.Proofs.YtcmbnldeojlhbaaDoor
open Go.RowKit

set_option maxRecDepth 100000 in
set_option maxHeartbeats 8000000 in
theorem lawBoxTampered (A : Option Addr) (n c : Nat) (key : List Int) (A2 : Option Addr) (n2 c2 : Nat) (nonce : List Int) (A3 : Option Addr) (n3 c3 : Nat) (ad : List Int) (A4 : Option Addr) (n4 c4 : Nat) (plain : List Int) (at' x : Int) (w : World)
    (hs : Seg w w.heap.size .u8 A n key) (hc : n ≤ c) (hm : c ≤ 9223372036854775807) (hs2 : Seg w w.heap.size .u8 A2 n2 nonce) (hc2 : n2 ≤ c2) (hm2 : c2 ≤ 9223372036854775807) (hx2 : InB nonce)
    (hs3 : Seg w w.heap.size .u8 A3 n3 ad) (hc3 : n3 ≤ c3) (hm3 : c3 ≤ 9223372036854775807) (hs4 : Seg w w.heap.size .u8 A4 n4 plain) (hc4 : n4 ≤ c4) (hm4 : c4 ≤ 9223372036854775807) (hK : Tab w 0 .u32 kay256) :
    Calls Tryd.prog 6 #[.slice A n c, .slice A2 n2 c2, .slice A3 n3 c3, .slice A4 n4 c4, .int .i64 at', .int .u8 x] w fun e w' => e = .returned (.bool true) ∧ Below w.heap.size w w' := by
  have HS := Lib.hid hs
  have HS2 := Lib.hid hs2
  have HS3 := Lib.hid hs3
  have HS4 := Lib.hid hs4
  have HX2 := Lib.hid hx2
  have HL2 := Lib.hid hs2.1
  have HL4 := Lib.hid hs4.1
  have HK := Lib.hid hK
  have hw0 := hK.lt
  clear hs hs2 hs3 hs4 hK hx2
  go_enter Tryd.func6, Tryd.ntmps6
  go_wp2_with fail
  refine (awake4_any w HK.out).mono ?_
  rintro e w1 ⟨rfl, hb1⟩
  have hz1 := hb1.size
  have HSM := Lib.hid (small_any w1.heap.size 4 4 [n, n2, n3, n4] _ (lens4 w1 A A2 A3 A4 n n2 n3 n4 c c2 c3 c4 22 _ rfl) rfl (by omega))
  have hb2' : Below w.heap.size w (w1.alloc (.cells #[.slice A n c, .slice A2 n2 c2, .slice A3 n3 c3, .slice A4 n4 c4] 22)) := hb1.alloc hz1 _
  cases hsm : smallB [n, n2, n3, n4] with
  | false => ?_
  | true => ?_
  · rw [hsm] at HSM
    clear hsm
    go_wp2_with fail
    refine HSM.out.mono ?_
    rintro e w2 ⟨rfl, rfl⟩
    go_wp2_with fail
    go_ret
    exact ⟨rfl, hb2'⟩
  obtain ⟨l1, l2, l3, l4⟩ := small4 hsm
  rw [hsm] at HSM
  clear hsm
  by_cases hout : 64 < n2 ∨ x = 0
  · rcases (by omega : 64 < n2 ∨ (n2 ≤ 64 ∧ x = 0)) with h | ⟨h, h'⟩
    focus
      have d1 : decide ((64 : Int) < n2) = true := by simp; omega
    rotate_left
    focus
      have d1 : decide ((64 : Int) < n2) = false := by simp; omega
      have d2 : (x == 0) = true := by simpa using h'
      have HZ := Lib.hid h'
      clear h'
    rotate_left
    all_goals
      clear hout
      go_wp2_with fail
      refine HSM.out.mono ?_
      rintro e w2 ⟨rfl, rfl⟩
      go_wp2_with fail
      go_ret
      exact ⟨rfl, hb2'⟩
  have h64 : n2 ≤ 64 := by omega
  have d1 : decide ((64 : Int) < n2) = false := by simp; omega
  have d2 : (x == 0) = false := by rw [beq_eq_false_iff_ne]; omega
  clear hout
  go_wp2_with fail
  refine HSM.out.mono ?_
  rintro e w2 ⟨rfl, hw2⟩
  have hb2 : Below w.heap.size w w2 := by rw [← hw2]; exact hb2'
  have hz2 := hb2.size
  clear hw2 hb2' HSM
  go_wp2_with fail
  refine (wseal_any A A2 A3 A4 n c n2 c2 n3 c3 n4 c4 key nonce ad plain w2 (HS.out.up hb2) (by omega) hc hm (HS2.out.up hb2) (by omega) hc2 hm2 (HS3.out.up hb2) (by omega) hc3 hm3 (HS4.out.up hb2) (by omega) hc4 hm4 (HK.out.below hb2 hw0)).mono ?_
  rintro e w3 ⟨B3, k3, d3, rfl, hk3, hd3, hdm3, hS3, hb3⟩
  obtain ⟨C, HC⟩ : ∃ C, Hid (streamI key nonce plain = C) := ⟨_, rfl⟩
  obtain ⟨T, HT⟩ : ∃ T, Hid (tagI key nonce ad C = T) := ⟨_, rfl⟩
  have HCL : Hid (C.length = n4) := by show _ = _; rw [← HC.out, streamI_length _ _ _ (by rw [HL4.out]; omega), HL4.out]
  have HTL : Hid (T.length = 32) := by show _ = _; rw [← HT.out, tagI_length]
  have HCI : Hid (InB C) := by show InB C; rw [← HC.out]; exact inB_stream _ _ _
  have HTI : Hid (InB T) := by show InB T; rw [← HT.out]; exact inB_mac _ _
  have HSE : Hid (sealI key nonce ad plain = boxB nonce C T) := by show _ = _; rw [seal_box _ _ _ _ (by rw [HL2.out]; omega) (by rw [HL4.out]; omega), HC.out, HT.out]
  have HSI : Hid (InB (boxB nonce C T)) := by show InB _; rw [← HSE.out]; exact inB_seal _ _ _ _ HX2.out
  rw [HSE.out] at hS3
  obtain ⟨N, HN⟩ : ∃ N : Nat, Hid (N = n2 + n4) := ⟨_, rfl⟩
  have HK3 : Hid (k3 = 36 + N) := by show _ = _; rw [← hS3.1, boxB_length, HL2.out, HCL.out, HTL.out, HN.out]; omega
  have HR3 := Lib.hid hS3
  have hbw3 := hb2.trans (hb3.mono hz2)
  have hz3 := hbw3.size
  clear hS3
  go_wp2_with fail
  refine (copy_any B3 k3 d3 (boxB nonce C T) w3 HR3.out (by omega)).mono ?_
  rintro e w4 ⟨v4, rfl, hR4, hb4⟩
  obtain ⟨g, d4, rfl, hg⟩ := hR4.at_ (by have := HK3.out; omega)
  obtain ⟨hkd4, hdm4⟩ := hR4.caps
  have HR4 := Lib.hid hR4
  have hbw4 := hbw3.trans (hb4.mono hz3)
  have hz4 := hbw4.size
  have hgw : w.heap.size ≤ g := by omega
  have hn1 : (n2 : Int) + n4 = N := by have := HN.out; omega
  have hk3e : ((k3 : Int) != 36 + N) = false := by rw [bne_eq_false_iff_eq]; have := HK3.out; omega
  clear hR4
  by_cases hN0 : N = 0
  · have d3' : ((N : Int) == 0) = true := by simpa using hN0
    have HN0 := Lib.hid hN0
    clear hN0
    go_wp2_with fail
    go_ret
    exact ⟨rfl, hbw4⟩
  have d3' : ((N : Int) == 0) = false := by rw [beq_eq_false_iff_ne]; omega
  have hNp : 0 < N := by omega
  have hN2 : N ≤ 184 := by have := HN.out; omega
  clear hN0
  have hrem := rem_in at' N hNp
  obtain ⟨r, hr⟩ : ∃ r, Hid (at'.tmod N = r) := ⟨_, rfl⟩
  rw [hr.out] at hrem
  rcases hrem with ⟨hr0, hr1⟩ | ⟨hr0, hr1, hr2⟩
  focus
    obtain ⟨kk, rfl⟩ : ∃ kk : Nat, r = kk := ⟨r.toNat, by omega⟩
    have hkN : kk < N := by omega
    have hdr : decide (at'.tmod N < 0) = false := by rw [hr.out]; simp
    go_wp2_with fail
    rw [hr.out]
    clear hdr hr0 hr1
  rotate_left
  focus
    obtain ⟨kk, hkk⟩ : ∃ kk : Nat, r + N = kk := ⟨(r + N).toNat, by omega⟩
    have hkN : kk < N := by omega
    have hdr : decide (at'.tmod N < 0) = true := by rw [hr.out]; simpa using hr0
    have hw1 : IntKind.i64.wrap (at'.tmod N + N) = at'.tmod N + N := by rw [hr.out]; exact IntWalk.i64_in _ (by omega)
    have hw2 : RowKit.wrap64 (at'.tmod N + N) = at'.tmod N + N := by rw [hr.out]; unfold RowKit.wrap64; omega
    have HKK := Lib.hid hkk
    clear hkk
    go_wp2_with fail
    rw [hr.out, HKK.out]
    clear hdr hw1 hw2 hr0 hr1 hr2
  rotate_left
  all_goals
    clear hr
    have hk3' := HK3.out
    have hN' := HN.out
    obtain ⟨p4, HP4⟩ : ∃ p4 : Nat, Hid (4 + n2 = p4) := ⟨_, rfl⟩
    obtain ⟨q4, HQ4⟩ : ∃ q4 : Nat, Hid (4 + N = q4) := ⟨_, rfl⟩
    have hp4 := HP4.out
    have hq4 := HQ4.out
    have u1 : IntKind.i64.wrap (4 + (n2 : Int)) = p4 := by rw [show (4 : Int) + n2 = p4 by omega]; exact IntWalk.i64_in _ (by omega)
    have u2 : IntKind.i64.wrap (4 + (N : Int)) = q4 := by rw [show (4 : Int) + N = q4 by omega]; exact IntWalk.i64_in _ (by omega)
    have hsl := slice_lh (some ⟨g, 0, none⟩) k3 d4 p4 q4 (by omega) (by omega)
    obtain ⟨A8, HA8⟩ : ∃ A8, Hid ((if d4 = p4 then (some ⟨g, 0, none⟩ : Option Addr) else (some (⟨g, 0, none⟩ : Addr)).map (·.add p4)) = A8) := ⟨_, rfl⟩
    rw [HA8.out, show q4 - p4 = n4 by omega] at hsl
    have hbd : Below w.heap.size w w4.drew := hbw4.drew
    have HC8 : Hid (Seg w4.drew w4.drew.heap.size .u8 A8 n4 C) := by
      show Seg _ _ _ _ _ _
      have h := ((HR4.out.seg.drop (i := p4) (cap := d4) (by omega) hkd4).take (i := n4) (by omega)).drewN 1
      rw [HA8.out] at h
      have e : ((boxB nonce C T).drop p4).take n4 = C := by
        have h := box_mid nonce C T
        rw [HL2.out, HCL.out, hp4] at h
        exact h
      rw [e] at h
      exact h
    clear hk3' hN' hp4 hq4
    go_region_held3 (fun _ => True)
      (trivial)
      (first
        | (go_at_call 17; refine (copy_any A8 n4 (d4 - p4) C w5 HC85.out (by omega)).mono ?_; rintro e w6 ⟨v6, rfl, hR6, hb6⟩; have HR6 := Lib.hid hR6; have HO6 := Lib.hid (HO5.out.below hb6); have hbw6 := hbw5.trans (hb6.mono hbw5.size); have HB6 := Lib.hid ((HR4.out.drewN 1).below hb5 |>.below hb6); clear hR6)
        | (go_at_call 17; refine (copy_any A2 n2 c2 nonce w4.drew (HS2.out.up hbd) (by omega)).mono ?_; rintro e w5 ⟨v5, rfl, hR5, hb5⟩; have HO5 := Lib.hid hR5; have HC85 := Lib.hid (HC8.out.up hb5); have hbw5 := hbd.trans (hb5.mono hbd.size); have hlt5 := hb5.size; clear hR5))
    clear u1 u2 hsl
    have hg4 : g < w4.heap.size := block_lt_of_cell (HR4.out.cell 0 (by have := HK3.out; omega))
    have hd45 : w4.heap.size ≤ w5.heap.size := hlt5
    have hk36 : k3 = 36 + N := HK3.out
    have hNn : N = n2 + n4 := HN.out
    by_cases hside : kk < n2
    focus
      obtain ⟨go, co, rfl, hgo'⟩ := HO6.out.at_ (by omega)
      have hgo : w4.heap.size ≤ go := hgo'
      have hgo5 : go < w5.heap.size := block_lt_of_cell (HO5.out.cell 0 (by omega))
      obtain ⟨nk, hnk⟩ : ∃ nk, Hid (nonce.getD kk 0 = nk) := ⟨_, rfl⟩
      obtain ⟨v, hv⟩ : ∃ v, Hid (bits .xor .u8 nk x = v) := ⟨_, rfl⟩
      have hik : 2 + kk < k3 := by omega
      have HBA : Hid (Row (w6.setCell ⟨go, kk, none⟩ (.int .u8 (bits .xor .u8 nk x))) w3.heap.size 5 .u8 (.slice (some ⟨g, 0, none⟩) k3 d4) k3 (boxB nonce C T)) :=
        HB6.out.far ((but_refl w6 go).set_ kk _) (by omega)
      have c1 := HO6.out.cell kk hside
      have f1 := HO6.out.frozen kk
      have hgg : ¬ go = g := by omega
      have c2' := HB6.out.cell (2 + kk) hik
      have f2' := HB6.out.frozen (2 + kk)
      rw [hnk.out] at c1
      have e2 : (boxB nonce C T).getD (2 + kk) 0 = nk := by rw [box_get_nonce _ _ _ _ (by rw [HL2.out]; exact hside), hnk.out]
      rw [e2] at c2'
      have dk : decide ((n2 : Int) ≤ kk) = false := by simp; omega
      have HOB : Hid (Row ((w6.setCell ⟨go, kk, none⟩ (.int .u8 (bits .xor .u8 nk x))).setCell ⟨g, 2 + kk, none⟩ (.int .u8 (bits .xor .u8 nk x))) w4.drew.heap.size 5 .u8 (.slice (some ⟨go, 0, none⟩) n2 co) n2 (nonce.set kk (bits .xor .u8 nk x))) :=
        (HO6.out.set_ kk _).far ((but_refl _ g).set_ (2 + kk) _) (by omega)
      have HBB : Hid (Row ((w6.setCell ⟨go, kk, none⟩ (.int .u8 (bits .xor .u8 nk x))).setCell ⟨g, 2 + kk, none⟩ (.int .u8 (bits .xor .u8 nk x))) w3.heap.size 5 .u8 (.slice (some ⟨g, 0, none⟩) k3 d4) k3 (boxB (nonce.set kk (bits .xor .u8 nk x)) C T)) := by
        have h := HBA.out.set_ (2 + kk) (bits .xor .u8 nk x)
        rw [show (boxB nonce C T).set (2 + kk) (bits .xor .u8 nk x) = boxB (nonce.set kk (bits .xor .u8 nk x)) C T by rw [box_set_nonce _ _ _ _ (by rw [HL2.out]; exact hside)]] at h
        exact h
      have HCB : Hid (Row ((w6.setCell ⟨go, kk, none⟩ (.int .u8 (bits .xor .u8 nk x))).setCell ⟨g, 2 + kk, none⟩ (.int .u8 (bits .xor .u8 nk x))) w5.heap.size 5 .u8 v6 n4 C) :=
        (HR6.out.but ((but_refl w6 go).set_ kk _) hgo5).but ((but_refl _ g).set_ (2 + kk) _) (by omega)
      have hbwB : Below w.heap.size w ((w6.setCell ⟨go, kk, none⟩ (.int .u8 (bits .xor .u8 nk x))).setCell ⟨g, 2 + kk, none⟩ (.int .u8 (bits .xor .u8 nk x))) := (hbw6.setCell (by show w.heap.size ≤ go; omega) _).setCell hgw _
      obtain ⟨A6, d6, rfl, hd6, hdm6⟩ := HCB.out.cut
      have hki : (kk : Int) < n2 := by omega
      have hi3 : (2 : Int) + kk < k3 := by omega
      have hit : ((2 : Int) + kk).toNat = 2 + kk := by omega
      clear e2 hk36 hNn
      go_wp2_with fail
      obtain ⟨hcc, hcm⟩ := HOB.out.caps
      obtain ⟨wB, hwB⟩ : ∃ wB, wB = (w6.setCell ⟨go, kk, none⟩ (.int .u8 (bits .xor .u8 nk x))).setCell ⟨g, 2 + kk, none⟩ (.int .u8 (bits .xor .u8 nk x)) := ⟨_, rfl⟩
      obtain ⟨AO, hAO⟩ : ∃ AO : Option Addr, AO = some (⟨go, 0, none⟩ : Addr) := ⟨_, rfl⟩
      obtain ⟨cO, hcO⟩ : ∃ cO : Nat, cO = co := ⟨_, rfl⟩
      obtain ⟨AC, hAC⟩ : ∃ AC : Option Addr, AC = A6 := ⟨_, rfl⟩
      obtain ⟨cC, hcC⟩ : ∃ cC : Nat, cC = d6 := ⟨_, rfl⟩
      obtain ⟨N1, hN1⟩ : ∃ N1, N1 = nonce.set kk (bits .xor .u8 nk x) := ⟨_, rfl⟩
      obtain ⟨C1, hC1⟩ : ∃ C1, C1 = C := ⟨_, rfl⟩
      have HOS : Hid (Seg wB wB.heap.size .u8 AO n2 N1) := by show Seg _ _ _ _ _ _; rw [hwB, hAO, hN1]; exact HOB.out.seg
      have HCS : Hid (Seg wB wB.heap.size .u8 AC n4 C1) := by show Seg _ _ _ _ _ _; rw [hwB, hAC, hC1]; exact HCB.out.seg
      have HBS : Hid (Seg wB wB.heap.size .u8 (some ⟨g, 0, none⟩) k3 (boxB N1 C1 T)) := by show Seg _ _ _ _ _ _; rw [hwB, hN1, hC1]; exact HBB.out.seg
      have HBI : Hid (InB (boxB N1 C1 T)) := by show InB _; rw [hN1, hC1]; exact by rw [← box_set_nonce _ _ _ _ (by rw [HL2.out]; exact hside)]; exact HSI.out.set_ _ (xor8_in _ _)
      have hbB : Below w.heap.size w wB := by rw [hwB]; exact hbwB
      have hnO : n2 ≤ cO := by omega
      have hmO : cO ≤ maxLen := by omega
      have hnC : n4 ≤ cC := by omega
      have hmC : cC ≤ maxLen := by omega
      rw [← hwB, ← hAO, ← hcO, ← hAC, ← hcC]
      clear hwB hAO hcO hAC hcC hN1 hC1 hbwB
    rotate_left
    focus
      obtain ⟨gc, cc, rfl, hgc'⟩ := HR6.out.at_ (by omega)
      have hgc : w5.heap.size ≤ gc := hgc'
      obtain ⟨j, hj⟩ : ∃ j : Nat, (kk : Int) - n2 = j := ⟨kk - n2, by omega⟩
      have hkj : kk = n2 + j := by omega
      have hjn : j < n4 := by omega
      obtain ⟨nk, hnk⟩ : ∃ nk, Hid (C.getD j 0 = nk) := ⟨_, rfl⟩
      have hik : 2 + kk + 2 < k3 := by omega
      have hgg : ¬ gc = g := by omega
      have hidx : 2 + kk + 2 = 4 + (nonce.length + j) := by rw [HL2.out]; omega
      have HBA : Hid (Row (w6.setCell ⟨gc, j, none⟩ (.int .u8 (bits .xor .u8 nk x))) w3.heap.size 5 .u8 (.slice (some ⟨g, 0, none⟩) k3 d4) k3 (boxB nonce C T)) :=
        HB6.out.far ((but_refl w6 gc).set_ j _) (by omega)
      have c1 := HR6.out.cell j hjn
      have f1 := HR6.out.frozen j
      have c2' := HB6.out.cell (2 + kk + 2) hik
      have f2' := HB6.out.frozen (2 + kk + 2)
      rw [hnk.out] at c1
      have e2 : (boxB nonce C T).getD (2 + kk + 2) 0 = nk := by rw [hidx, box_get_text _ _ _ _ (by rw [HCL.out]; exact hjn), hnk.out]
      rw [e2] at c2'
      have dk : decide (n2 ≤ kk) = true := by simp; omega
      have HCB : Hid (Row ((w6.setCell ⟨gc, j, none⟩ (.int .u8 (bits .xor .u8 nk x))).setCell ⟨g, 2 + kk + 2, none⟩ (.int .u8 (bits .xor .u8 nk x))) w5.heap.size 5 .u8 (.slice (some ⟨gc, 0, none⟩) n4 cc) n4 (C.set j (bits .xor .u8 nk x))) :=
        (HR6.out.set_ j _).far ((but_refl _ g).set_ (2 + kk + 2) _) (by omega)
      have HBB : Hid (Row ((w6.setCell ⟨gc, j, none⟩ (.int .u8 (bits .xor .u8 nk x))).setCell ⟨g, 2 + kk + 2, none⟩ (.int .u8 (bits .xor .u8 nk x))) w3.heap.size 5 .u8 (.slice (some ⟨g, 0, none⟩) k3 d4) k3 (boxB nonce (C.set j (bits .xor .u8 nk x)) T)) := by
        have h := HBA.out.set_ (2 + kk + 2) (bits .xor .u8 nk x)
        rw [show (boxB nonce C T).set (2 + kk + 2) (bits .xor .u8 nk x) = boxB nonce (C.set j (bits .xor .u8 nk x)) T by rw [hidx, box_set_text _ _ _ _ (by rw [HCL.out]; exact hjn)]] at h
        exact h
      have HOB0 : Hid (Row (w6.setCell ⟨gc, j, none⟩ (.int .u8 (bits .xor .u8 nk x))) w4.drew.heap.size 5 .u8 v5 n2 nonce) := by
        refine World.ownsRow.kept HO6.out ((but_refl w6 gc).set_ j _) ?_
        rcases hv5 : v5.ownBlock with _ | r
        · exact .inl rfl
        · refine .inr (fun e => ?_)
          have h1 := (World.ownsRow.lt HO5.out r hv5).2
          have h2 : r = gc := Option.some.inj e
          omega
      have HOB : Hid (Row ((w6.setCell ⟨gc, j, none⟩ (.int .u8 (bits .xor .u8 nk x))).setCell ⟨g, 2 + kk + 2, none⟩ (.int .u8 (bits .xor .u8 nk x))) w4.drew.heap.size 5 .u8 v5 n2 nonce) := HOB0.out.but ((but_refl _ g).set_ (2 + kk + 2) _) hg4
      have hbwB : Below w.heap.size w ((w6.setCell ⟨gc, j, none⟩ (.int .u8 (bits .xor .u8 nk x))).setCell ⟨g, 2 + kk + 2, none⟩ (.int .u8 (bits .xor .u8 nk x))) := (hbw6.setCell (by show w.heap.size ≤ gc; omega) _).setCell hgw _
      obtain ⟨A5, d5, rfl, hd5, hdm5⟩ := HOB.out.cut
      obtain ⟨hcc, hcm⟩ := HCB.out.caps
      have hi3 : (2 : Int) + kk + 2 < k3 := by omega
      have hit : ((2 : Int) + kk + 2).toNat = 2 + kk + 2 := by omega
      have hji : (j : Int) < n4 := by omega
      have hsetI : InB (boxB nonce (C.set j (bits .xor .u8 nk x)) T) := by rw [← box_set_text _ _ _ _ (by rw [HCL.out]; exact hjn)]; exact HSI.out.set_ _ (xor8_in _ _)
      have HSTI := Lib.hid hsetI
      clear e2 hk36 hNn hkj hidx hsetI
      go_wp2_with fail
      obtain ⟨wB, hwB⟩ : ∃ wB, wB = (w6.setCell ⟨gc, j, none⟩ (.int .u8 (bits .xor .u8 nk x))).setCell ⟨g, 2 + kk + 2, none⟩ (.int .u8 (bits .xor .u8 nk x)) := ⟨_, rfl⟩
      obtain ⟨AO, hAO⟩ : ∃ AO : Option Addr, AO = A5 := ⟨_, rfl⟩
      obtain ⟨cO, hcO⟩ : ∃ cO : Nat, cO = d5 := ⟨_, rfl⟩
      obtain ⟨AC, hAC⟩ : ∃ AC : Option Addr, AC = some (⟨gc, 0, none⟩ : Addr) := ⟨_, rfl⟩
      obtain ⟨cC, hcC⟩ : ∃ cC : Nat, cC = cc := ⟨_, rfl⟩
      obtain ⟨N1, hN1⟩ : ∃ N1, N1 = nonce := ⟨_, rfl⟩
      obtain ⟨C1, hC1⟩ : ∃ C1, C1 = C.set j (bits .xor .u8 nk x) := ⟨_, rfl⟩
      have HOS : Hid (Seg wB wB.heap.size .u8 AO n2 N1) := by show Seg _ _ _ _ _ _; rw [hwB, hAO, hN1]; exact HOB.out.seg
      have HCS : Hid (Seg wB wB.heap.size .u8 AC n4 C1) := by show Seg _ _ _ _ _ _; rw [hwB, hAC, hC1]; exact HCB.out.seg
      have HBS : Hid (Seg wB wB.heap.size .u8 (some ⟨g, 0, none⟩) k3 (boxB N1 C1 T)) := by show Seg _ _ _ _ _ _; rw [hwB, hN1, hC1]; exact HBB.out.seg
      have HBI : Hid (InB (boxB N1 C1 T)) := by show InB _; rw [hN1, hC1]; exact HSTI.out
      have hbB : Below w.heap.size w wB := by rw [hwB]; exact hbwB
      have hnO : n2 ≤ cO := by omega
      have hmO : cO ≤ maxLen := by omega
      have hnC : n4 ≤ cC := by omega
      have hmC : cC ≤ maxLen := by omega
      rw [← hwB, ← hAO, ← hcO, ← hAC, ← hcC]
      clear hwB hAO hcO hAC hcC hN1 hC1 hbwB
    rotate_left
    all_goals
      have hN1l : N1.length = n2 := HOS.out.1
      have hC1l : C1.length = n4 := HCS.out.1
      have HOP : Hid (openI key ad (boxB N1 C1 T) = openBox key ad (N1, C1, T, 0)) := open_box _ _ _ _ _ (by omega) (by omega) HTL.out
      have HEN : Hid ((boxB N1 C1 T).drop (k3 - 32) = T) := by
        show _ = _
        rw [show k3 - 32 = 4 + N1.length + C1.length by have := HK3.out; have := HN.out; omega, box_end]
      clear hN1l hC1l hside
      have hzB := hbB.size
      have hk300 : 32 ≤ k3 ∧ k3 ≤ 300 := by have := HK3.out; omega
      obtain ⟨hk32, hk300⟩ := hk300
      have hd4m : d4 ≤ 9223372036854775807 := by unfold maxLen at hdm4; omega
      try clear hk36 hNn
      refine (wopen_any A A3 (some ⟨g, 0, none⟩) n c n3 c3 k3 d4 key ad (boxB N1 C1 T) wB (HS.out.up hbB) (by omega) hc hm (HS3.out.up hbB) (by omega) hc3 hm3 HBS.out (by omega) hkd4 hd4m HBI.out (HK.out.below hbB hw0)).mono ?_
      rw [HOP.out, open_err]
      rintro e wE ⟨BP, kP, dP, rfl, hkP, hdP, hdmP, hSP, hbE⟩
      have hbwE := hbB.trans (hbE.mono hzB)
      have hzE := hbwE.size
      have HOE := Lib.hid (HOS.out.up hbE)
      have HCE := Lib.hid (HCS.out.up hbE)
      have HBE := Lib.hid (HBS.out.up hbE)
      obtain ⟨q5, HQ5⟩ : ∃ q5 : Nat, Hid (k3 - 32 = q5) := ⟨_, rfl⟩
      have hq5 := HQ5.out
      have hsf := slice_from (some ⟨g, 0, none⟩) k3 d4 q5 (by omega)
      obtain ⟨A9, HA9⟩ : ∃ A9, Hid ((if d4 = q5 then (some ⟨g, 0, none⟩ : Option Addr) else (some (⟨g, 0, none⟩ : Addr)).map (·.add q5)) = A9) := ⟨_, rfl⟩
      rw [HA9.out, show k3 - q5 = 32 by omega] at hsf
      have hwk : IntKind.i64.wrap ((k3 : Int) - 32) = q5 := by rw [show (k3 : Int) - 32 = q5 by omega]; exact IntWalk.i64_in _ (by omega)
      have hbd5 : Below w.heap.size w wE.drew := hbwE.drew
      have HOD : Hid (Seg wE.drew wE.drew.heap.size .u8 AO n2 N1) := by
        show Seg _ _ _ _ _ _
        exact HOE.out.drewN 1
      have HCD : Hid (Seg wE.drew wE.drew.heap.size .u8 AC n4 C1) := by
        show Seg _ _ _ _ _ _
        exact HCE.out.drewN 1
      have HTD : Hid (Seg wE.drew wE.drew.heap.size .u8 A9 32 T) := by
        show Seg _ _ _ _ _ _
        have h := (HBE.out.drop (i := q5) (cap := d4) (by omega) hkd4).drewN 1
        rw [HA9.out, show k3 - q5 = 32 by omega, ← hq5, HEN.out] at h
        exact h
      clear hq5
      obtain ⟨er, HER⟩ : ∃ er : Int, Hid ((if sameB (tagI key N1 ad C1) T = true then (0 : Int) else 18) = er) := ⟨_, rfl⟩
      rw [HER.out]
      cases hsb : sameB (tagI key N1 ad C1) T with
      | true => ?_
      | false => ?_
      focus
        have hde : (er == 0) = true := by rw [← HER.out, hsb]; rfl
        clear hSP
      rotate_left
      focus
        have hde : (er == 18) = true := by rw [← HER.out, hsb]; rfl
        have hP0 : kP = 0 := by
          have h := hSP.1
          rw [open_got key ad N1 C1 T hsb] at h
          exact h.symm
        subst hP0
        clear hSP
      rotate_left
      all_goals
        have HSB := Lib.hid hsb
        clear hsb
        go_wp2_with fail
        go_region_held3 (fun _ => True)
          (trivial)
          (first
            | (go_at_call 12; refine (same_any A7 A9 32 _ 32 (d4 - q5) _ _ wF HA7.out HB9.out (by omega)).mono ?_; rw [HSB.out]; rintro e wG ⟨rfl, q6, hq6⟩; have hbwG : Below w.heap.size w wG := (by rw [hq6]; exact below_drewN hbwF q6); clear hq6)
            | (go_at_call 18; refine (rtag_any A AO A3 AC n c n2 cO n3 c3 n4 cC key N1 ad C1 wE.drew (HS.out.up hbd5) (by omega) HOD.out (by omega) hnO hmO (HS3.out.up hbd5) (by omega) hc3 (by unfold maxLen; omega) HCD.out (by omega) hnC hmC).mono ?_; rintro e wF ⟨vF, rfl, hRF, hbF⟩; obtain ⟨A7, c7, rfl, _, _⟩ := hRF.cut; have HA7 := Lib.hid hRF.seg; have HB9 := Lib.hid (HTD.out.up hbF); have hbwF := hbd5.trans (hbF.mono hbd5.size); clear hRF))
        go_wp2
        go_ret
        exact ⟨rfl, hbwG⟩
end Go.Proofs.YtcmbnldeojlhbaaDoor
