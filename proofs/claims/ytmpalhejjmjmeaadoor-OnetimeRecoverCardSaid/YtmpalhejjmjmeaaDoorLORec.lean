/-
  The walk of the statement on the public value to which any bytes lead.
-/
import Derived.Test.YtmpalhejjmjmeaaDoorBase9
import Derived.Test.YtmpalhejjmjmeaaDoorRRec
import Derived.Test.YtmpalhejjmjmeaaDoorFull
import Derived.IntWalk
namespace Go.Proofs.YtmpalhejjmjmeaaDoor
open Go.RowKit

theorem and7_in (x : Int) : 0 ≤ bits .and .i64 x 7 ∧ bits .and .i64 x 7 ≤ 7 := by
  have e : bits .and .i64 x 7 = IntKind.i64.wrap ((BitVec.ofInt IntKind.i64.bits x &&& BitVec.ofInt IntKind.i64.bits 7).toNat) := rfl
  have h : (BitVec.ofInt IntKind.i64.bits x &&& BitVec.ofInt IntKind.i64.bits 7).toNat ≤ 7 := by
    rw [BitVec.toNat_and]; exact Nat.le_trans Nat.and_le_right (by decide)
  rw [e, IntWalk.i64_in _ (by omega)]
  omega
theorem recover_is (leaf : Int) (msg raw : List Int) (h0 : 0 ≤ leaf) (h1 : leaf ≤ 7) : (recoverI leaf msg raw).2 = decide (raw.length = 560) ∧ (raw.length ≠ 560 → (recoverI leaf msg raw).1 = []) := by
  rw [recoverI]
  by_cases h : raw.length = 560
  · rw [if_neg (by omega)]; simp [h]
  · rw [if_pos (by omega)]; simp [h]

set_option maxRecDepth 100000 in
set_option maxHeartbeats 8000000 in
theorem lawOnetimeRecover (A : Option Addr) (n c : Nat) (key : List Int) (leaf : Int) (A2 : Option Addr) (n2 c2 : Nat) (msg : List Int) (A3 : Option Addr) (n3 c3 : Nat) (other : List Int) (at' x : Int) (A4 : Option Addr) (n4 c4 : Nat) (raw : List Int) (w : World)
    (hs : Seg w w.heap.size .u8 A n key) (_hc : n ≤ c) (_hm : c ≤ 9223372036854775807) (hs2 : Seg w w.heap.size .u8 A2 n2 msg) (hc2 : n2 ≤ c2) (hm2 : c2 ≤ 9223372036854775807)
    (hs3 : Seg w w.heap.size .u8 A3 n3 other) (hc3 : n3 ≤ c3) (hm3 : c3 ≤ 9223372036854775807) (hs4 : Seg w w.heap.size .u8 A4 n4 raw) (hc4 : n4 ≤ c4) (hm4 : c4 ≤ 9223372036854775807) (hK : Tab w 0 .u32 kay256) :
    Calls Tryd.prog 7 #[.slice A n c, .int .i64 leaf, .slice A2 n2 c2, .slice A3 n3 c3, .int .i64 at', .int .u8 x, .slice A4 n4 c4] w fun e w' => e = .returned (.bool true) ∧ Below w.heap.size w w' := by
  have HS := Lib.hid hs
  have HS2 := Lib.hid hs2
  have HS3 := Lib.hid hs3
  have HS4 := Lib.hid hs4
  have HK := Lib.hid hK
  have hw0 := hK.lt
  clear hs hs2 hs3 hs4 hK
  go_enter Tryd.func7, Tryd.ntmps7
  go_wp2_with fail
  refine (awake5_any w HK.out).mono ?_
  rintro e w1 ⟨rfl, hb1⟩
  have hz1 := hb1.size
  have hshort : decide (n ≤ 100 ∧ n2 ≤ 100) = true ∨ decide (n ≤ 100 ∧ n2 ≤ 100) = false := by cases h : decide (n ≤ 100 ∧ n2 ≤ 100) <;> simp
  by_cases hbig : n3 ≤ 100 ∧ n4 ≤ 600
  rotate_left
  · obtain ⟨sh, HSH⟩ : ∃ sh, Hid (decide (n ≤ 100 ∧ n2 ≤ 100) = sh) := ⟨_, rfl⟩
    clear hshort
    rcases (by omega : 100 < n3 ∨ (n3 ≤ 100 ∧ 600 < n4)) with h | ⟨h, h'⟩
    focus
      have d1 : decide ((100 : Int) < n3) = true := by simp; omega
    rotate_left
    focus
      have d1 : decide ((100 : Int) < n3) = false := by simp; omega
      have d2 : decide ((600 : Int) < n4) = true := by simp; omega
    rotate_left
    all_goals
      clear hbig
      cases sh
      all_goals
        go_wp2_with fail
        refine (short_any A A2 n c n2 c2 w1 _ HSH.out).mono ?_
        rintro e w2 ⟨rfl, rfl⟩
        go_wp2_with fail
        go_ret
        exact ⟨rfl, hb1⟩
  obtain ⟨hl3, hl4⟩ := hbig
  have d1 : decide ((100 : Int) < n3) = false := by simp; omega
  have d2 : decide ((600 : Int) < n4) = false := by simp; omega
  rcases hshort with hsh | hsh
  rotate_left
  · have HSH := Lib.hid hsh
    clear hsh
    go_wp2_with fail
    refine (short_any A A2 n c n2 c2 w1 _ HSH.out).mono ?_
    rintro e w2 ⟨rfl, rfl⟩
    go_wp2_with fail
    go_ret
    exact ⟨rfl, hb1⟩
  have hbd : n ≤ 100 ∧ n2 ≤ 100 := by simpa using hsh
  obtain ⟨hl1, hl2⟩ := hbd
  have HSH := Lib.hid hsh
  clear hsh
  go_wp2_with fail
  refine (short_any A A2 n c n2 c2 w1 _ HSH.out).mono ?_
  rintro e w2 ⟨rfl, rfl⟩
  go_wp2_with fail
  have hL := and7_in leaf
  obtain ⟨hL0, hL7⟩ := hL
  obtain ⟨L, HL⟩ : ∃ L, Hid (bits .and .i64 leaf 7 = L) := ⟨_, rfl⟩
  rw [HL.out] at hL0 hL7
  rw [HL.out]
  refine (rsign_any A A2 n c n2 c2 key msg L w1 (HS.out.up hb1) (by omega) (HS2.out.up hb1) (by omega) hc2 (by unfold maxLen; omega)).mono ?_
  rintro e w3 ⟨v3, k3, rfl, hk3, hR3, hb3⟩
  have hkk3 : k3 = 560 := by rw [← hR3.length, signI_length _ _ _ hL0 (by omega)]
  subst hkk3
  obtain ⟨SG, HSG⟩ : ∃ SG, Hid (signI key L msg = SG) := ⟨_, rfl⟩
  rw [HSG.out] at hR3
  obtain ⟨g, d3, rfl, hg⟩ := hR3.at_ (by omega)
  obtain ⟨hkd3, hdm3⟩ := hR3.caps
  have hgw : w.heap.size ≤ g := by omega
  have hd3 : d3 ≤ 9223372036854775807 := by unfold maxLen at hdm3; omega
  have HR3 := Lib.hid hR3
  have hbw3 := hb1.trans (hb3.mono hz1)
  clear hR3 hg
  rcases (by omega : (0 ≤ at' ∧ at' < 560) ∨ at' < 0 ∨ (0 ≤ at' ∧ 560 ≤ at')) with ⟨ha, hb⟩ | ha | ⟨ha, hb⟩
  focus
    obtain ⟨kk, rfl⟩ : ∃ kk : Nat, at' = kk := ⟨at'.toNat, by omega⟩
    have hkk : kk < 560 := by omega
    have d3' : decide ((0 : Int) ≤ kk) = true := by simp
    have d4 : decide ((kk : Int) < 560) = true := by simp; omega
    have c1 := HR3.out.cell kk hkk
    have f1 := HR3.out.frozen kk
    obtain ⟨s, hs⟩ : ∃ s, Hid (SG.getD kk 0 = s) := ⟨_, rfl⟩
    rw [hs.out] at c1
    have HRB : Hid (Row (w3.setCell ⟨g, kk, none⟩ (.int .u8 (bits .xor .u8 s x))) w1.heap.size 5 .u8 (.slice (some ⟨g, 0, none⟩) 560 d3) 560 (SG.set kk (bits .xor .u8 s x))) := HR3.out.set_ kk _
    have hbwB : Below w.heap.size w (w3.setCell ⟨g, kk, none⟩ (.int .u8 (bits .xor .u8 s x))) := hbw3.setCell hgw _
    clear ha
    go_wp2_with fail
    obtain ⟨wB, hwB⟩ : ∃ wB, wB = w3.setCell ⟨g, kk, none⟩ (.int .u8 (bits .xor .u8 s x)) := ⟨_, rfl⟩
    obtain ⟨U, hU⟩ : ∃ U, U = SG.set kk (bits .xor .u8 s x) := ⟨_, rfl⟩
    have HB : Hid (Seg wB wB.heap.size .u8 (some ⟨g, 0, none⟩) 560 U) := by show Seg _ _ _ _ _ _; rw [hwB, hU]; exact HRB.out.seg
    have hbB : Below w.heap.size w wB := by rw [hwB]; exact hbwB
    rw [← hwB]
    clear hwB hU hbwB HRB c1 f1 d3' d4 hb
  rotate_left
  focus
    have d3' : decide ((0 : Int) ≤ at') = false := by simp; omega
    go_wp2_with fail
    obtain ⟨wB, hwB⟩ : ∃ wB, wB = w3 := ⟨_, rfl⟩
    obtain ⟨U, hU⟩ : ∃ U, U = SG := ⟨_, rfl⟩
    have HB : Hid (Seg wB wB.heap.size .u8 (some ⟨g, 0, none⟩) 560 U) := by show Seg _ _ _ _ _ _; rw [hwB, hU]; exact HR3.out.seg
    have hbB : Below w.heap.size w wB := by rw [hwB]; exact hbw3
    rw [← hwB]
    clear hwB hU d3'
  rotate_left
  focus
    have d3' : decide ((0 : Int) ≤ at') = true := by simp; omega
    have d4 : decide (at' < 560) = false := by simp; omega
    go_wp2_with fail
    obtain ⟨wB, hwB⟩ : ∃ wB, wB = w3 := ⟨_, rfl⟩
    obtain ⟨U, hU⟩ : ∃ U, U = SG := ⟨_, rfl⟩
    have HB : Hid (Seg wB wB.heap.size .u8 (some ⟨g, 0, none⟩) 560 U) := by show Seg _ _ _ _ _ _; rw [hwB, hU]; exact HR3.out.seg
    have hbB : Below w.heap.size w wB := by rw [hwB]; exact hbw3
    rw [← hwB]
    clear hwB hU d3' d4
  rotate_left
  all_goals
    have hzB := hbB.size
    clear hbw3 HR3 hb3
    refine (wrecover_any A3 (some ⟨g, 0, none⟩) n3 c3 560 d3 other U leaf wB (HS3.out.up hbB) (by omega) hc3 hm3 HB.out (by omega) hkd3 hd3 (HK.out.below hbB hw0)).mono ?_
    rintro e w4 ⟨B4, k4, d4, rfl, hk4, hd4, hdm4, hS4, hb4⟩
    have HP4 := Lib.hid hS4
    have HB4 := Lib.hid (HB.out.up hb4)
    have hbw4 := hbB.trans (hb4.mono hzB)
    have hz4 := hbw4.size
    clear hS4
    go_wp2_with fail
    refine (rrecover_any A3 (some ⟨g, 0, none⟩) n3 c3 560 d3 other U leaf w4 (HS3.out.up hbw4) (by omega) hc3 (by unfold maxLen; omega) HB4.out hkd3 hdm3 hd3).mono ?_
    rintro e w5 ⟨B5, k5, d5, rfl, hk5, hd5, hdm5, hS5, hb5⟩
    have HQ5 := Lib.hid hS5
    have HP5 := Lib.hid (HP4.out.up hb5)
    have HB5 := Lib.hid (HB4.out.up hb5)
    have hbw5 := hbw4.trans (hb5.mono hz4)
    have hz5 := hbw5.size
    have hkk5 : k5 = k4 := by rw [← HP4.out.1, ← HQ5.out.1]
    subst hkk5
    clear hS5 HP4 HB4
    obtain ⟨v1, hv1⟩ : ∃ v, Hid ((recoverI leaf other U).2 = v) := ⟨_, rfl⟩
    obtain ⟨P1, hP1⟩ : ∃ v, Hid ((recoverI leaf other U).1 = v) := ⟨_, rfl⟩
    rw [hP1.out] at HP5 HQ5
    rw [hv1.out]
    clear hv1 hP1
    go_wp2_with fail
    rw [HL.out]
    refine (wrecover_any A2 (some ⟨g, 0, none⟩) n2 c2 560 d3 msg U L w5 (HS2.out.up hbw5) (by omega) hc2 hm2 HB5.out (by omega) hkd3 hd3 (HK.out.below hbw5 hw0)).mono ?_
    rintro e w6 ⟨B6, k6, d6, rfl, hk6, hd6, hdm6, hS6, hb6⟩
    have HR6 := Lib.hid hS6
    have HP6 := Lib.hid (HP5.out.up hb6)
    have HQ6 := Lib.hid (HQ5.out.up hb6)
    have HB6 := Lib.hid (HB5.out.up hb6)
    have hbw6 := hbw5.trans (hb6.mono hz5)
    have hz6 := hbw6.size
    clear hS6 HP5 HQ5 HB5
    go_wp2_with fail
    rw [HL.out]
    refine (rrecover_any A2 (some ⟨g, 0, none⟩) n2 c2 560 d3 msg U L w6 (HS2.out.up hbw6) (by omega) hc2 (by unfold maxLen; omega) HB6.out hkd3 hdm3 hd3).mono ?_
    rintro e w7 ⟨B7, k7, d7, rfl, hk7, hd7, hdm7, hS7, hb7⟩
    have HS7 := Lib.hid hS7
    have HP7 := Lib.hid (HP6.out.up hb7)
    have HQ7 := Lib.hid (HQ6.out.up hb7)
    have HR7 := Lib.hid (HR6.out.up hb7)
    have hbw7 := hbw6.trans (hb7.mono hz6)
    have hz7 := hbw7.size
    have hkk7 : k7 = k6 := by rw [← HR6.out.1, ← HS7.out.1]
    subst hkk7
    clear hS7 HP6 HQ6 HR6 HB6
    obtain ⟨v2, hv2⟩ : ∃ v, Hid ((recoverI L msg U).2 = v) := ⟨_, rfl⟩
    obtain ⟨P2, hP2⟩ : ∃ v, Hid ((recoverI L msg U).1 = v) := ⟨_, rfl⟩
    rw [hP2.out] at HR7 HS7
    rw [hv2.out]
    clear hv2 hP2
    go_wp2_with fail
    rw [HL.out]
    refine (wrecover_any A2 A4 n2 c2 n4 c4 msg raw L w7 (HS2.out.up hbw7) (by omega) hc2 hm2 (HS4.out.up hbw7) (by omega) hc4 hm4 (HK.out.below hbw7 hw0)).mono ?_
    rintro e w8 ⟨B8, k8, d8, rfl, hk8, hd8, hdm8, hS8, hb8⟩
    have HP8 := Lib.hid (HP7.out.up hb8)
    have HQ8 := Lib.hid (HQ7.out.up hb8)
    have HR8 := Lib.hid (HR7.out.up hb8)
    have HS8 := Lib.hid (HS7.out.up hb8)
    have hbw8 := hbw7.trans (hb8.mono hz7)
    have hz8 := hbw8.size
    obtain ⟨his, hem⟩ := recover_is L msg raw hL0 hL7
    rw [HS4.out.1] at his hem
    rw [his]
    have hlk : k8 = (recoverI L msg raw).1.length := hS8.1.symm
    clear HP7 HQ7 HR7 HS7 hS8 his
    by_cases h560 : n4 = 560
    focus
      have d5' : ((n4 : Int) == 560) = true := by simp; omega
      have d6' : decide (n4 = 560) = true := by simpa using h560
      rw [d6']
      clear h560 hlk hem d6'
    rotate_left
    focus
      have d5' : ((n4 : Int) == 560) = false := by simp; omega
      have d6' : decide (n4 = 560) = false := by simpa using h560
      rw [d6']
      rw [hem h560] at hlk
      subst hlk
      clear h560 hem d6'
    rotate_left
    all_goals
      cases v1 <;> cases v2
      all_goals
        go_wp2_with fail
        refine (same_self B4 B5 k5 d4 d5 P1 w8 HP8.out HQ8.out (by omega)).mono ?_
        rintro e w9 ⟨rfl, hb9⟩
        have HR9 := Lib.hid (HR8.out.up hb9)
        have HS9 := Lib.hid (HS8.out.up hb9)
        have hbw9 := hbw8.trans (hb9.mono hz8)
        go_wp2_with fail
        refine (same_self B6 B7 k7 d6 d7 P2 w9 HR9.out HS9.out (by omega)).mono ?_
        rintro e w10 ⟨rfl, hb10⟩
        have hbw10 := hbw9.trans (hb10.mono hbw9.size)
        go_wp2_with fail
        go_ret
        exact ⟨rfl, hbw10⟩
end Go.Proofs.YtmpalhejjmjmeaaDoor
