/-
  The reference's key derivation.
-/
import Derived.Test.YtcmbnldeojlhbaaDoorDerive
import Derived.Test.YtcmbnldeojlhbaaDoorRMac
namespace Go.Proofs.YtcmbnldeojlhbaaDoor
open Go.RowKit

set_option maxHeartbeats 1000000 in
theorem rfour_any (x : Int) (w : World) (h0 : 0 ≤ x) (h1 : x ≤ 1073741824) :
    Calls Tryd.prog 36 #[.int .i64 x] w fun e w' => ∃ v, e = .returned v ∧ Row w' w.heap.size 5 .u8 v 4 (be4 x) ∧ Below w.heap.size w w' := by
  have HE : Hid (be4 x = [x / 16777216, x / 65536 % 256, x / 256 % 256, x % 256]) := by
    show _ = _
    rw [be4, show x / 16777216 % 256 = x / 16777216 by omega]
  go_enter Tryd.func36, Tryd.ntmps36
  go_wp2_with fail
  go_ret
  refine ⟨_, rfl, ?_, (Below.refl _ _).alloc (Nat.le_refl _) _⟩
  rw [HE.out]
  exact (Own.of_blk (Blk.new w 5 .u8 [x / 16777216, x / 65536 % 256, x / 256 % 256, x % 256]) (Nat.le_refl _) (by unfold maxLen; simp)).row rfl

set_option maxRecDepth 100000 in
set_option maxHeartbeats 2000000 in
theorem rderive_out (A A2 : Option Addr) (n c n2 c2 : Nat) (label : ByteArray) (m : Int) (w : World) (hm : m < 1 ∨ 1024 < m) :
    Calls Tryd.prog 19 #[.slice A n c, .string label, .slice A2 n2 c2, .int .i64 m] w
      fun e w' => e = .returned (.slice none 0 0) ∧ Below w.heap.size w w' := by
  go_enter Tryd.func19, Tryd.ntmps19
  rcases hm with hm | hm
  · have hd : decide (m < 1) = true := by simpa using hm
    go_wp2_with fail
    go_ret
    exact ⟨rfl, Below.refl _ _⟩
  · have hd : decide (m < 1) = false := by simp; omega
    have hd2 : decide (1024 < m) = true := by simpa using hm
    go_wp2_with fail
    go_ret
    exact ⟨rfl, Below.refl _ _⟩

set_option maxRecDepth 100000 in
set_option maxHeartbeats 4000000 in
theorem rderive_in (A A2 : Option Addr) (n c n2 c2 : Nat) (key ctx : List Int) (label : ByteArray) (m : Nat) (w : World) (hs : Seg w w.heap.size .u8 A n key) (hn : n ≤ 1048576)
    (ht : Seg w w.heap.size .u8 A2 n2 ctx) (hn2 : n2 ≤ 1048576) (hlab : label.size ≤ 1048576) (hm0 : 1 ≤ m) (hm1 : m ≤ 1024) :
    Calls Tryd.prog 19 #[.slice A n c, .string label, .slice A2 n2 c2, .int .i64 (m : Int)] w
      fun e w' => ∃ A' c', e = .returned (.slice A' m c') ∧ (m ≤ c' ∧ c' ≤ maxLen) ∧ Seg w' w'.heap.size .u8 A' m (deriveI key (strI label) ctx m) ∧ Below w.heap.size w w' := by
  obtain ⟨i0, hi, hz0, hz1, hz2⟩ := info_parts Tryd.infoU8
  have HS := Lib.hid hs
  have HT := Lib.hid ht
  have hd : decide ((m : Int) < 1) = false := by simp; omega
  have hd2 : decide ((1024 : Int) < m) = false := by simp; omega
  have HL1 := Lib.hid (strI_length label)
  have HTL := Lib.hid ht.1
  clear hs ht
  go_enter Tryd.func19, Tryd.ntmps19
  go_wp2_with fail
  go_loopw [9, 10] (fun v i wr => ∃ (k : Nat) (A' : Option Addr) (c' : Nat), 32 * k < m + 32 ∧ i = .int .i64 ((k : Int) + 1) ∧ v = .slice A' (32 * k) c' ∧ Hid (32 * k ≤ c' ∧ c' ≤ maxLen) ∧ Hid (Row wr w.heap.size 5 .u8 v (32 * k) (partsI key (strI label) ctx m k)) ∧ Below w.heap.size w wr) (fun v _ _ => m - lenOf v)
  case atStart => exact ⟨0, none, 0, by omega, rfl, rfl, by show _ ∧ _; unfold maxLen; omega, nil_row _ _ _ _, Below.refl _ _⟩
  case round =>
    obtain ⟨k, A', c', hk, rfl, rfl, hkc, hR, hb⟩ := hrel
    have hz := hb.size
    by_cases hlt : 32 * k < m
    · have hdk : decide (32 * k < m) = true := by simp; omega
      have hdk' : decide ((32 * (k : Int)) < m) = true := by simp; omega
      have HTr := Lib.hid ((HT.out.below hb (Nat.le_refl _)).more hz)
      have HSr := Lib.hid ((HS.out.below hb (Nat.le_refl _)).more hz)
      have HLN1 : Hid ((be4 ((k : Int) + 1) ++ strI label).length = 4 + label.size) := by show _ = _; rw [List.length_append, HL1.out]; rfl
      have HLN2 : Hid ((be4 ((k : Int) + 1) ++ strI label ++ [0]).length = 5 + label.size) := by show _ = _; rw [List.length_append, HLN1.out]; simp; omega
      have HLN3 : Hid ((be4 ((k : Int) + 1) ++ strI label ++ [0] ++ ctx).length = 5 + label.size + n2) := by show _ = _; rw [List.length_append, HLN2.out, HTL.out]
      have HLN4 : Hid ((be4 ((k : Int) + 1) ++ strI label ++ [0] ++ ctx ++ be4 (8 * (m : Int))).length = 9 + label.size + n2) := by show _ = _; rw [List.length_append, HLN3.out]; simp [be4]; omega
      go_wp2_with fail
      refine (rfour_any ((k : Int) + 1) wr (by omega) (by omega)).mono ?_
      rintro e w1 ⟨v1, rfl, hR1, hb1⟩
      have HR1 := Lib.hid hR1
      have hzb1 := hb1.size
      clear hR1
      go_wp2_with (first
        | (at_builtin; refine wpList_apps _ rfl (.tmp 25) (.tmp 26) 22 9 rfl wr.heap.size 5 i0 Tryd.underlying22 Tryd.underlying9 hi hz0 hz1 hz2 v1 4 (be4 ((k : Int) + 1)) rfl HR1.out label rfl (by omega) hzb1 ?_; intro v2 w2 hR2 hg2; have hb2 : Below wr.heap.size wr w2 := own_below HR1.out.own hg2 hb1 hzb1; have HR2 := Lib.hid hR2.own; have hzb2 := hb2.size; clear hR2 hg2)
        | (at_builtin; refine wpList_app _ rfl (.tmp 28) (.tmp 29) 22 rfl wr.heap.size 5 i0 (.int .u8 0) 1 Tryd.underlying22 hi hz0 hz1 hz2 rfl .u8 v2 (be4 ((k : Int) + 1) ++ strI label) rfl (HR2.out.alloc _) (w2.heap.size + 1) (some ⟨w2.heap.size, 0, none⟩) 1 1 [0] rfl ((Seg.of_blk (Blk.new w2 5 .u8 [0])).more (by simp)) (by unfold maxLen; rw [HLN1.out]; omega) (by rw [HLN1.out]; omega) (by simp; omega) ?_; intro v3 w3 hown3 hg3 hor3; have hb3 : Below wr.heap.size wr w3 := own_below (HR2.out.alloc _) hg3 (hb2.alloc hzb2 _) (by simp; omega); have HR3 := Lib.hid hown3; have hzb3 := hb3.size; have HT3 := Lib.hid (HTr.out.below hb3 (Nat.le_refl _)); clear hown3 hg3 hor3)
        | (at_builtin; refine wpList_app _ rfl (.tmp 30) (.tmp 31) 22 rfl wr.heap.size 5 i0 (.int .u8 0) 1 Tryd.underlying22 hi hz0 hz1 hz2 rfl .u8 v3 (be4 ((k : Int) + 1) ++ strI label ++ [0]) rfl HR3.out wr.heap.size A2 n2 c2 ctx rfl HT3.out (by unfold maxLen; rw [HLN2.out]; omega) (by rw [HLN2.out]; omega) hzb3 ?_; intro v4 w4 hown4 hg4 hor4; have hb4 : Below wr.heap.size wr w4 := own_below HR3.out hg4 hb3 hzb3; have HR4 := Lib.hid (hown4.row HLN3.out); have hzb4 := hb4.size; clear hown4 hg4 hor4))
      refine (rfour_any (8 * (m : Int)) w4 (by omega) (by omega)).mono ?_
      rintro e w5 ⟨v5, rfl, hR5, hb5⟩
      obtain ⟨A5, c5, rfl, _, _⟩ := hR5.cut
      have HS5 := Lib.hid hR5.seg
      have hb5' : Below wr.heap.size wr w5 := hb4.trans (hb5.mono hzb4)
      have hzb5 := hb5'.size
      have HR45 := Lib.hid (HR4.out.below hb5)
      clear hR5
      go_wp2_with (at_builtin; refine wpList_app _ rfl (.tmp 32) (.tmp 35) 22 rfl wr.heap.size 5 i0 (.int .u8 0) 1 Tryd.underlying22 hi hz0 hz1 hz2 rfl .u8 v4 (be4 ((k : Int) + 1) ++ strI label ++ [0] ++ ctx) rfl HR45.out.own w5.heap.size A5 4 c5 (be4 (8 * (m : Int))) rfl HS5.out (by unfold maxLen; rw [HLN3.out]; omega) (by rw [HLN3.out]; omega) hzb5 ?_; intro v6 w6 hown6 hg6 hor6; have hb6 : Below wr.heap.size wr w6 := own_below HR45.out.own hg6 hb5' hzb5; have hR6 := hown6.row HLN4.out; have hzb6 := hb6.size; clear hown6 hg6 hor6)
      obtain ⟨A6, c6, rfl, _, _⟩ := hR6.cut
      have HS6 := Lib.hid hR6.seg
      clear hR6
      go_wp2_with fail
      refine (rmac_any A A6 n c (9 + label.size + n2) c6 key _ w6 ((HSr.out.below hb6 (Nat.le_refl _)).more hzb6) (by omega) HS6.out (by omega)).mono ?_
      rintro e w7 ⟨v7, rfl, hR7, hb7⟩
      have HR7 : Hid (Row w7 w6.heap.size 5 .u8 v7 32 (partI key (strI label) ctx m ((k : Int) + 1))) := hR7
      obtain ⟨A7, c7, rfl, _, _⟩ := HR7.out.cut
      have hb7' : Below wr.heap.size wr w7 := hb6.trans (hb7.mono hzb6)
      have hbw7 := hb.trans (hb7'.mono hz)
      have hzb7 := hbw7.size
      have HOut := Lib.hid (hR.out.below hb7')
      have HOL := Lib.hid hR.out.length
      clear hR7
      go_wp2_with (at_builtin; refine wpList_app _ rfl (.tmp 37) (.tmp 40) 22 rfl w.heap.size 5 i0 (.int .u8 0) 1 Tryd.underlying22 hi hz0 hz1 hz2 rfl .u8 _ (partsI key (strI label) ctx m k) rfl HOut.out.own w7.heap.size A7 32 c7 (partI key (strI label) ctx m ((k : Int) + 1)) rfl HR7.out.seg (by unfold maxLen; rw [HOL.out]; omega) (by rw [HOL.out]; omega) hzb7 ?_; intro v8 w8 hown8 hg8 hor8; have hb8 : Below w.heap.size w w8 := own_below HOut.out.own hg8 hbw7 hzb7; have HR8 : Hid (Row w8 w.heap.size 5 .u8 v8 (32 * (k + 1)) (partsI key (strI label) ctx m (k + 1))) := hown8.row (by rw [List.length_append, HOL.out, partI_length]; omega); clear hown8 hg8 hor8)
      obtain ⟨A8, c8, rfl, hc8, hm8⟩ := HR8.out.cut
      have HC8 : Hid (32 * (k + 1) ≤ c8 ∧ c8 ≤ maxLen) := ⟨hc8, hm8⟩
      go_roundw
      case measure => simp [lenOf]; omega
      case rel => exact ⟨k + 1, A8, c8, by omega, by go_num, rfl, HC8.out, HR8.out, hb8⟩
    · have hdk : decide (32 * k < m) = false := by simp; omega
      have hdk' : decide ((32 * (k : Int)) < m) = false := by simp; omega
      have hmc : m ≤ c' := by have := hkc.out.1; omega
      have hD : deriveI key (strI label) ctx m = (partsI key (strI label) ctx m k).take m := by
        rw [deriveI, if_neg (by omega), Int.toNat_natCast, show (m + 31) / 32 = k by omega]
      have HD := Lib.hid hD
      clear hD
      go_wp2_with fail
      go_ret
      refine ⟨A', c', rfl, ⟨hmc, hkc.out.2⟩, ?_, hb⟩
      rw [HD.out]
      exact hR.out.seg.take (by omega)

/-- The reference's key derivation for any number of bytes. -/
theorem rderive_any (A A2 : Option Addr) (n c n2 c2 : Nat) (key ctx : List Int) (label : ByteArray) (m : Int) (w : World) (hs : Seg w w.heap.size .u8 A n key) (hn : n ≤ 1048576)
    (ht : Seg w w.heap.size .u8 A2 n2 ctx) (hn2 : n2 ≤ 1048576) (hlab : label.size ≤ 1048576) :
    Calls Tryd.prog 19 #[.slice A n c, .string label, .slice A2 n2 c2, .int .i64 m] w
      fun e w' => ∃ A' k c', e = .returned (.slice A' k c') ∧ (k ≤ 1024 ∧ k ≤ c' ∧ c' ≤ maxLen) ∧ Seg w' w'.heap.size .u8 A' k (deriveI key (strI label) ctx m) ∧ Below w.heap.size w w' := by
  by_cases hm : m < 1 ∨ 1024 < m
  · refine (rderive_out A A2 n c n2 c2 label m w hm).mono ?_
    rintro e w' ⟨rfl, hb⟩
    refine ⟨none, 0, 0, rfl, ⟨by omega, by omega, by unfold maxLen; omega⟩, ?_, hb⟩
    rw [deriveI, if_pos hm]
    exact Seg.nil _ _ _ _
  · obtain ⟨q, rfl⟩ : ∃ q : Nat, m = q := ⟨m.toNat, by omega⟩
    refine (rderive_in A A2 n c n2 c2 key ctx label q w hs hn ht hn2 hlab (by omega) (by omega)).mono ?_
    rintro e w' ⟨A', c', rfl, hcc, h, hb⟩
    exact ⟨A', q, c', rfl, ⟨by omega, hcc.1, hcc.2⟩, h, hb⟩
end Go.Proofs.YtcmbnldeojlhbaaDoor
