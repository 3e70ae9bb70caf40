/-
  The program's key derivation.
-/
import Derived.Test.YtcmbnldeojlhbaaDoorDer
namespace Go.Proofs.YtcmbnldeojlhbaaDoor
open Go.RowKit

set_option maxRecDepth 100000 in
set_option maxHeartbeats 2000000 in
theorem derive_out (A A2 : Option Addr) (n c n2 c2 : Nat) (label : ByteArray) (m : Int) (w : World) (hm : m < 1 ∨ 1024 < m) :
    Calls Tryd.prog 37 #[.slice A n c, .string label, .slice A2 n2 c2, .int .i64 m] w
      fun e w' => e = .returned (.slice none 0 0) ∧ Below w.heap.size w w' := by
  go_enter Tryd.func37, Tryd.ntmps37
  have hb : ∀ o1 o2 o3 o4 : Obj, Below w.heap.size w ((((w.alloc o1).alloc o2).alloc o3).alloc o4) := fun o1 o2 o3 o4 =>
    ((((Below.refl _ _).alloc (Nat.le_refl _) _).alloc (by simp) _).alloc (by simp; omega) _).alloc (by simp; omega) _
  rcases hm with hm | hm
  · have hd : decide (m < 1) = true := by simpa using hm
    go_wp2_with fail
    go_ret
    exact ⟨rfl, hb _ _ _ _⟩
  · have hd : decide (m < 1) = false := by simp; omega
    have hd2 : decide (1024 < m) = true := by simpa using hm
    go_wp2_with fail
    go_ret
    exact ⟨rfl, hb _ _ _ _⟩

set_option maxRecDepth 100000 in
set_option maxHeartbeats 2000000 in
theorem derive_in (A A2 : Option Addr) (n c n2 c2 : Nat) (key ctx : List Int) (label : ByteArray) (m : Nat) (w : World) (hs : Seg w w.heap.size .u8 A n key) (hn : n ≤ 1048576) (hc : n ≤ c) (hcm : c ≤ 9223372036854775807)
    (ht : Seg w w.heap.size .u8 A2 n2 ctx) (hn2 : n2 ≤ 1048576) (hlab : label.size ≤ 1048576) (hm0 : 1 ≤ m) (hm1 : m ≤ 1024) (hK : Tab w 0 .u32 kay256) :
    Calls Tryd.prog 37 #[.slice A n c, .string label, .slice A2 n2 c2, .int .i64 (m : Int)] w
      fun e w' => ∃ v, e = .returned v ∧ (∃ A', v = .slice A' m m ∧ Seg w' w'.heap.size .u8 A' m (deriveI key (strI label) ctx m)) ∧ Below w.heap.size w w' := by
  obtain ⟨i0, hi, hz0, hz1, hz2⟩ := info_parts Tryd.infoU8
  have HS := Lib.hid hs
  have HT := Lib.hid ht
  have HK := Lib.hid hK
  have h0 : 0 < w.heap.size := hK.lt
  have hd : decide ((m : Int) < 1) = false := by simp; omega
  have hd2 : decide ((1024 : Int) < m) = false := by simp; omega
  have CS : Hid (∀ W, Calls Tryd.prog 56 #[.int .i64 1] W fun e w' => e = .returned (.int .i64 32) ∧ W = w') := fun W => size_any 1 W
  obtain ⟨P, HP⟩ : ∃ P : Nat, Hid (P = (m + 31) / 32) := ⟨_, rfl⟩
  have hP : ((m : Int) + 32 - 1) / 32 = (P : Int) := by rw [HP.out]; omega
  have hPb : 32 * P < m + 32 := by rw [HP.out]; omega
  have hPm : m ≤ 32 * P := by rw [HP.out]; omega
  clear hs ht hK
  go_enter Tryd.func37, Tryd.ntmps37
  go_wp2_with (first
    | (go_at_call 56; refine (CS.out _).mono ?_; rintro e w' ⟨rfl, rfl⟩)
    | (at_make; generalize hw0 : World.alloc _ _ = w0; refine wpList_make_own _ rfl _ _ 22 rfl w0.heap.size 5 i0 (.int .u8 0) 1 Tryd.underlying22 hi hz0 hz1 .i64 .i64 _ (P * 32) rfl rfl (by omega) (by rw [hz2]; omega) (by unfold maxLen; omega) (Nat.le_refl _) ?_; intro w1 hown1 hg1))
  have hb0 : Below w.heap.size w w0 := by
    rw [← hw0]
    exact ((((Below.refl _ _).alloc (Nat.le_refl _) _).alloc (by simp) _).alloc (by simp; omega) _).alloc (by simp; omega) _
  obtain ⟨hc0, hc1, hc2', hc3⟩ := four_boxes w (.slice A n c) (.string label) (.slice A2 n2 c2) (.int .i64 m) 22 9 22 3
  rw [hw0] at hc0 hc1 hc2' hc3
  obtain ⟨gn, HGN⟩ : ∃ g, Hid (w.heap.size + 1 + 1 + 1 = g) := ⟨_, rfl⟩
  obtain ⟨gc, HGC⟩ : ∃ g, Hid (w.heap.size + 1 + 1 = g) := ⟨_, rfl⟩
  obtain ⟨gl, HGL⟩ : ∃ g, Hid (w.heap.size + 1 = g) := ⟨_, rfl⟩
  rw [HGN.out] at hc3 ⊢
  rw [HGC.out] at hc2' ⊢
  rw [HGL.out] at hc1 ⊢
  have bk := block_lt_of_cell hc0
  have bl := block_lt_of_cell hc1
  have bc := block_lt_of_cell hc2'
  have bn := block_lt_of_cell hc3
  have H0 := Lib.hid hc0
  have H1 := Lib.hid hc1
  have H2 := Lib.hid hc2'
  have H3 := Lib.hid hc3
  have hb1 : Below w0.heap.size w0 w1 := (Below.refl _ _).grown hg1 (Nat.le_refl _) (fun r hr => by cases hr)
  have hz0' := hb0.size
  have HS0 := Lib.hid (HS.out.below hb0 (Nat.le_refl _))
  have HT0 := Lib.hid (HT.out.below hb0 (Nat.le_refl _))
  have HK0 := Lib.hid (HK.out.below hb0 h0)
  clear hc0 hc1 hc2' hc3 hw0 hg1
  go_loopw [12, 33] (fun v i wr => ∃ k : Nat, k ≤ P ∧ i = .int .i64 k ∧ Hid (Row wr w0.heap.size 5 .u8 v (32 * k) (partsI key (strI label) ctx m k)) ∧ Below w0.heap.size w0 wr) (fun _ i _ => P - (intOf i).toNat)
  case atStart => exact ⟨0, by omega, rfl, hown1, hb1⟩
  case round =>
    clear hown1 hb1
    obtain ⟨k, hk, rfl, hR, hb⟩ := hrel
    have hz := hb.size
    by_cases hlt : k < P
    · have hdk : decide ((k : Int) < P) = true := by simp; omega
      have HSr := Lib.hid ((HS0.out.below hb hz0').more (Nat.le_trans hz0' hz))
      have HTr := Lib.hid ((HT0.out.below hb hz0').more (Nat.le_trans hz0' hz))
      have HKr := Lib.hid (HK0.out.below hb HK0.out.lt)
      go_wp2_with fail
      refine (part_any ((k : Int) + 1) gl gc w.heap.size gn label A A2 n c n2 c2 key ctx m wr ((hb.cell (p := ⟨gl, 0, none⟩) bl).trans H1.out) ((hb.cell (p := ⟨gc, 0, none⟩) bc).trans H2.out) ((hb.cell (p := ⟨w.heap.size, 0, none⟩) bk).trans H0.out) ((hb.cell (p := ⟨gn, 0, none⟩) bn).trans H3.out) HSr.out hn hc hcm HTr.out hn2 hlab (by omega) (by omega) (by omega) (by omega) HKr.out).mono ?_
      rintro e w2 ⟨v2, rfl, hR2, hb2⟩
      have HR2 := Lib.hid hR2
      obtain ⟨A3, c3, rfl, _, _⟩ := hR2.cut
      have hbw2 := hb.trans (hb2.mono hz)
      have hzw2 := hbw2.size
      have HO := Lib.hid (hR.out.below hb2)
      have HOL := Lib.hid hR.out.length
      clear hR2
      go_wp2_with (at_builtin; refine wpList_app _ rfl (.tmp 36) (.tmp 40) 22 rfl w0.heap.size 5 i0 (.int .u8 0) 1 Tryd.underlying22 hi hz0 hz1 hz2 rfl .u8 _ (partsI key (strI label) ctx m k) rfl HO.out.own w2.heap.size A3 32 c3 (partI key (strI label) ctx m ((k : Int) + 1)) rfl HR2.out.seg (by unfold maxLen; rw [HOL.out]; omega) (by rw [HOL.out]; omega) hzw2 ?_; intro v4 w4 hown4 hg4 hor4; have hb4 : Below w0.heap.size w0 w4 := own_below HO.out.own hg4 hbw2 hzw2)
      go_roundw
      case measure => simp [intOf]; omega
      case rel => exact ⟨k + 1, by omega, by go_num, hown4.row (by rw [List.length_append, HOL.out, partI_length]; omega), hb4⟩
    · have hdk : decide ((k : Int) < P) = false := by simp; omega
      have hkP : k = P := by omega
      rw [hkP] at hR
      obtain ⟨A5, c5, rfl, hc5, hcm5⟩ := hR.out.cut
      have hrun := fun W => slice_hm A5 (32 * P) c5 m (by omega) W
      have hn3 := (hb.cell (p := ⟨gn, 0, none⟩) bn).trans H3.out
      clear hkP
      have hD : deriveI key (strI label) ctx m = (partsI key (strI label) ctx m P).take m := by
        rw [deriveI, if_neg (by omega), Int.toNat_natCast, HP.out]
      have HD := Lib.hid hD
      clear hD
      go_wp2_with fail
      go_ret
      refine ⟨_, rfl, ⟨A5, rfl, ?_⟩, hb0.trans (hb.mono hz0')⟩
      rw [HD.out]
      exact hR.out.seg.take hPm

/-- Key derivation for any number of bytes. -/
theorem derive_any (A A2 : Option Addr) (n c n2 c2 : Nat) (key ctx : List Int) (label : ByteArray) (m : Int) (w : World) (hs : Seg w w.heap.size .u8 A n key) (hn : n ≤ 1048576) (hc : n ≤ c) (hcm : c ≤ 9223372036854775807)
    (ht : Seg w w.heap.size .u8 A2 n2 ctx) (hn2 : n2 ≤ 1048576) (hlab : label.size ≤ 1048576) (hK : Tab w 0 .u32 kay256) :
    Calls Tryd.prog 37 #[.slice A n c, .string label, .slice A2 n2 c2, .int .i64 m] w
      fun e w' => ∃ A' k c', e = .returned (.slice A' k c') ∧ (k ≤ 1024 ∧ k ≤ c' ∧ c' ≤ maxLen) ∧ Seg w' w'.heap.size .u8 A' k (deriveI key (strI label) ctx m) ∧ Below w.heap.size w w' := by
  by_cases hm : m < 1 ∨ 1024 < m
  · refine (derive_out A A2 n c n2 c2 label m w hm).mono ?_
    rintro e w' ⟨rfl, hb⟩
    refine ⟨none, 0, 0, rfl, ⟨by omega, by omega, by unfold maxLen; omega⟩, ?_, hb⟩
    rw [deriveI, if_pos hm]
    exact Seg.nil _ _ _ _
  · obtain ⟨q, rfl⟩ : ∃ q : Nat, m = q := ⟨m.toNat, by omega⟩
    refine (derive_in A A2 n c n2 c2 key ctx label q w hs hn hc hcm ht hn2 hlab (by omega) (by omega) hK).mono ?_
    rintro e w' ⟨v, rfl, ⟨A', rfl, h⟩, hb⟩
    exact ⟨A', q, q, rfl, ⟨by omega, by omega, by unfold maxLen; omega⟩, h, hb⟩
end Go.Proofs.YtcmbnldeojlhbaaDoor
