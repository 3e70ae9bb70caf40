/-
  The walk of the statement that two plaintexts under one key and nonce are combined with the same bytes.
-/
import Derived.Test.YtcmbnldeojlhbaaDoorBoxL
import Derived.Test.YtcmbnldeojlhbaaDoorRDer
import Derived.IntWalk
namespace Go.Proofs.YtcmbnldeojlhbaaDoor
open Go.RowKit

theorem seal_at (key nonce ad plain : List Int) (h1 : nonce.length ≤ 64) (h2 : plain.length ≤ 1024) (i : Nat) (hi : i < plain.length) :
    (sealI key nonce ad plain).getD (4 + nonce.length + i) 0 = bits .xor .u8 (plain.getD i 0) ((deriveI key (strI labelE) nonce plain.length).getD i 0) := by
  have h := seal_mid key nonce ad plain h1 h2
  have e : (sealI key nonce ad plain).getD (4 + nonce.length + i) 0 = (((sealI key nonce ad plain).drop (4 + nonce.length)).take plain.length).getD i 0 := by
    simp [List.getD, hi]
  rw [e, h, streamI, xorL_get _ _ _ hi (by rw [deriveI_len _ _ _ _ h2]; exact hi)]

set_option maxRecDepth 100000 in
set_option maxHeartbeats 4000000 in
theorem lawBoxStream (A : Option Addr) (n c : Nat) (key : List Int) (A2 : Option Addr) (n2 c2 : Nat) (nonce : List Int) (A3 : Option Addr) (n3 c3 : Nat) (xs : List Int) (A4 : Option Addr) (n4 c4 : Nat) (ys : List Int) (w : World)
    (hs : Seg w w.heap.size .u8 A n key) (hc : n ≤ c) (hm : c ≤ 9223372036854775807) (hs2 : Seg w w.heap.size .u8 A2 n2 nonce) (hc2 : n2 ≤ c2) (hm2 : c2 ≤ 9223372036854775807)
    (hs3 : Seg w w.heap.size .u8 A3 n3 xs) (hc3 : n3 ≤ c3) (hm3 : c3 ≤ 9223372036854775807) (hs4 : Seg w w.heap.size .u8 A4 n4 ys) (hc4 : n4 ≤ c4) (hm4 : c4 ≤ 9223372036854775807) (hK : Tab w 0 .u32 kay256) :
    Calls Tryd.prog 9 #[.slice A n c, .slice A2 n2 c2, .slice A3 n3 c3, .slice A4 n4 c4] w fun e w' => e = .returned (.bool true) ∧ Below w.heap.size w w' := by
  have HS := Lib.hid hs
  have HS2 := Lib.hid hs2
  have HS3 := Lib.hid hs3
  have HS4 := Lib.hid hs4
  have HK := Lib.hid hK
  have hw0 := hK.lt
  clear hs hs2 hs3 hs4 hK
  go_enter Tryd.func9, Tryd.ntmps9
  go_wp2_with fail
  refine (awake4_any w HK.out).mono ?_
  rintro e w1 ⟨rfl, hb1⟩
  have hz1 := hb1.size
  have HSM := Lib.hid (small_any w1.heap.size 4 4 [n, n2, n3, n4] _ (lens4 w1 A A2 A3 A4 n n2 n3 n4 c c2 c3 c4 22 _ rfl) rfl (by omega))
  have hb2' : Below w.heap.size w (w1.alloc (.cells #[.slice A n c, .slice A2 n2 c2, .slice A3 n3 c3, .slice A4 n4 c4] 22)) := hb1.alloc hz1 _
  by_cases hout : smallB [n, n2, n3, n4] = false ∨ 64 < n2 ∨ n3 ≠ n4 ∨ n3 = 0
  · rcases (by
      rcases hout with h | h
      · exact Or.inl h
      · cases hsm : smallB [n, n2, n3, n4] with
        | false => exact Or.inl rfl
        | true => exact Or.inr ⟨rfl, by omega⟩ : smallB [n, n2, n3, n4] = false ∨ (smallB [n, n2, n3, n4] = true ∧ (64 < n2 ∨ (n2 ≤ 64 ∧ (n3 ≠ n4 ∨ (n3 = n4 ∧ n3 = 0)))))) with h | ⟨h, h2⟩
    · clear hout
      rw [h] at HSM
      clear h
      go_wp2_with fail
      refine HSM.out.mono ?_
      rintro e w2 ⟨rfl, rfl⟩
      go_wp2_with fail
      go_ret
      exact ⟨rfl, hb2'⟩
    · clear hout
      rw [h] at HSM
      clear h
      rcases h2 with h3 | ⟨h3, h4 | ⟨h4, h5⟩⟩
      focus
        have d1 : decide ((64 : Int) < n2) = true := by simp; omega
      rotate_left
      focus
        have d1 : decide ((64 : Int) < n2) = false := by simp; omega
        have d2 : ((n3 : Int) != n4) = true := by rw [bne_iff_ne]; omega
        have HN := Lib.hid h4
        clear h4
      rotate_left
      focus
        subst h5
        subst h4
        have d1 : decide ((64 : Int) < n2) = false := by simp; omega
      rotate_left
      all_goals
        go_wp2_with fail
        refine HSM.out.mono ?_
        rintro e w2 ⟨rfl, rfl⟩
        go_wp2_with fail
        go_ret
        exact ⟨rfl, hb2'⟩
  have hsm : smallB [n, n2, n3, n4] = true := by
    cases h : smallB [n, n2, n3, n4] with
    | true => rfl
    | false => exact absurd (Or.inl h) hout
  obtain ⟨l1, l2, l3, l4⟩ := small4 hsm
  have hin : n2 ≤ 64 ∧ n3 = n4 ∧ 0 < n3 := by omega
  clear hout
  rw [hsm] at HSM
  clear hsm
  obtain ⟨h64, h34, h0⟩ := hin
  subst h34
  have HL2 := Lib.hid HS2.out.1
  have HL3 := Lib.hid HS3.out.1
  have HL4 := Lib.hid HS4.out.1
  have d1 : decide ((64 : Int) < n2) = false := by simp; omega
  have d3 : ((n3 : Int) == 0) = false := by rw [beq_eq_false_iff_ne]; omega
  go_wp2_with fail
  refine HSM.out.mono ?_
  rintro e w2 ⟨rfl, hw2⟩
  have hb2 : Below w.heap.size w w2 := by rw [← hw2]; exact hb2'
  have hz2 := hb2.size
  clear hw2 hb2' HSM
  go_wp2_with fail
  refine (wseal_any A A2 none A3 n c n2 c2 0 0 n3 c3 key nonce [] xs w2 (HS.out.up hb2) (by omega) hc hm (HS2.out.up hb2) (by omega) hc2 hm2 (Seg.nil _ _ _ _) (by omega) (by omega) (by omega) (HS3.out.up hb2) (by omega) hc3 hm3 (HK.out.below hb2 hw0)).mono ?_
  rintro e w3 ⟨B3, k3, e3, rfl, hk3, hd3, hdm3, hS3, hb3⟩
  have HK3 : Hid (k3 = 36 + n2 + n3) := by show _ = _; rw [← hS3.1, sealI_length _ _ _ _ (by rw [HL2.out]; omega) (by rw [HL3.out]; omega), HL2.out, HL3.out]
  have HR3 := Lib.hid hS3
  have hbw3 := hb2.trans (hb3.mono hz2)
  have hz3 := hbw3.size
  clear hS3
  go_wp2_with fail
  refine (wseal_any A A2 none A4 n c n2 c2 0 0 n3 c4 key nonce [] ys w3 (HS.out.up hbw3) (by omega) hc hm (HS2.out.up hbw3) (by omega) hc2 hm2 (Seg.nil _ _ _ _) (by omega) (by omega) (by omega) (HS4.out.up hbw3) (by omega) hc4 hm4 (HK.out.below hbw3 hw0)).mono ?_
  rintro e w4 ⟨B4, k4, e4, rfl, hk4, hd4, hdm4, hS4, hb4⟩
  have hk4n : k4 = k3 := by rw [HK3.out, ← hS4.1, sealI_length _ _ _ _ (by rw [HL2.out]; omega) (by rw [HL4.out]; omega), HL2.out, HL4.out]
  rw [hk4n] at hS4 ⊢
  have HR4 := Lib.hid hS4
  have HR34 := Lib.hid (HR3.out.up hb4)
  have hbw4 := hbw3.trans (hb4.mono hz3)
  have hz4 := hbw4.size
  clear hS4 hk4n
  go_wp2_with fail
  refine (rderive_any A A2 n c n2 c2 key nonce labelE n3 w4 (HS.out.up hbw4) (by omega) (HS2.out.up hbw4) (by omega) (by decide)).mono ?_
  rintro e w5 ⟨A5, k5, c5, rfl, ⟨hk5, hkc5, hcm5⟩, hS5, hb5⟩
  have hk5n : k5 = n3 := by rw [← hS5.1]; exact deriveI_len _ _ _ _ (by omega)
  rw [hk5n] at hS5 ⊢
  have HR5 := Lib.hid hS5
  have HX := Lib.hid (HR34.out.up hb5)
  have HY := Lib.hid (HR4.out.up hb5)
  have hbw5 := hbw4.trans (hb5.mono hz4)
  have hz5 := hbw5.size
  have HA := Lib.hid (HS3.out.up hbw5)
  have HB := Lib.hid (HS4.out.up hbw5)
  have d4 : ((k3 : Int) != 36 + (n2 : Int) + n3) = false := by rw [bne_eq_false_iff_eq]; have := HK3.out; omega
  clear hS5 hk5n HR3 HR34 HR4
  go_wp2_with fail
  go_loopw [12] (fun i wr => ∃ j : Nat, j ≤ n3 ∧ i = .int .i64 j ∧ ∃ q, wr = w5.drewN q) (fun i _ => n3 - (intOf i).toNat)
  case atStart => exact ⟨0, by omega, rfl, 0, rfl⟩
  case round =>
    obtain ⟨j, hj, rfl, q, rfl⟩ := hrel
    by_cases hjt : j < n3
    · have hd : decide ((j : Int) < n3) = true := by simp; omega
      have hk3n := HK3.out
      obtain ⟨p, hp⟩ : ∃ p : Nat, (p : Int) = 4 + n2 + j := ⟨4 + n2 + j, by omega⟩
      obtain ⟨bx, ox, rfl, _, hcx⟩ := HX.out.2 (by omega)
      obtain ⟨by', oy, rfl, _, hcy⟩ := HY.out.2 (by omega)
      obtain ⟨ba, oa, rfl, _, hca⟩ := HA.out.2 (by omega)
      obtain ⟨bb, ob, rfl, _, hcb⟩ := HB.out.2 (by omega)
      obtain ⟨bk, ok, rfl, _, hck⟩ := HR5.out.2 (by omega)
      have vx := hcx p (by omega)
      have vy := hcy p (by omega)
      have va := hca j hjt
      have vb := hcb j hjt
      have vk := hck j hjt
      have px := seal_at key nonce [] xs (by rw [HL2.out]; omega) (by rw [HL3.out]; omega) j (by rw [HL3.out]; exact hjt)
      have py := seal_at key nonce [] ys (by rw [HL2.out]; omega) (by rw [HL4.out]; omega) j (by rw [HL4.out]; exact hjt)
      rw [HL2.out, HL3.out, show 4 + n2 + j = p by omega] at px
      rw [HL2.out, HL4.out, show 4 + n2 + j = p by omega] at py
      rw [px] at vx
      rw [py] at vy
      obtain ⟨a, ha⟩ : ∃ x, Hid (xs.getD j 0 = x) := ⟨_, rfl⟩
      obtain ⟨b, hb⟩ : ∃ x, Hid (ys.getD j 0 = x) := ⟨_, rfl⟩
      obtain ⟨k, hk⟩ : ∃ x, Hid ((deriveI key (strI labelE) nonce (n3 : Nat)).getD j 0 = x) := ⟨_, rfl⟩
      rw [ha.out] at va vx
      rw [hb.out] at vb vy
      rw [hk.out] at vk vx vy
      clear hcx hcy hca hcb hck px py
      have hpk : (p : Int) < k3 := by omega
      have hpz : (0 : Int) ≤ p := by omega
      have hji : (j : Int) < n3 := by omega
      have hjz : (0 : Int) ≤ j := by omega
      have u1 : IntKind.i64.wrap (4 + (n2 : Int)) = 4 + n2 := IntWalk.i64_in _ (by omega)
      have u2 : IntKind.i64.wrap (4 + (n2 : Int) + j) = p := by rw [← hp]; exact IntWalk.i64_in _ (by omega)
      clear hp hk3n
      go_wp2_with fail
      go_quiet (fail)
      clear u1 u2
      go_wp2_with fail
      go_roundw
      case measure => simp [intOf]; omega
      case rel => exact ⟨j + 1, by omega, by go_num, _, rfl⟩
    · have hd : decide ((j : Int) < n3) = false := by simp; omega
      go_wp2_with fail
      go_ret
      exact ⟨rfl, below_drewN hbw5 q⟩
end Go.Proofs.YtcmbnldeojlhbaaDoor
