/-
  The walk of the statement that a signature leads to the public value of its leaf.
-/
import Derived.Test.YtmpalhejjmjmeaaDoorBase9
namespace Go.Proofs.YtmpalhejjmjmeaaDoor
open Go.RowKit

set_option maxRecDepth 100000 in
set_option maxHeartbeats 4000000 in
theorem lawOnetimeTrip (A : Option Addr) (n c : Nat) (key : List Int) (leaf : Int) (A2 : Option Addr) (n2 c2 : Nat) (msg : List Int) (w : World)
    (hs : Seg w w.heap.size .u8 A n key) (hc : n ≤ c) (hm : c ≤ 9223372036854775807) (hl0 : 0 ≤ leaf) (hl8 : leaf < 256) (hs2 : Seg w w.heap.size .u8 A2 n2 msg) (hc2 : n2 ≤ c2) (hm2 : c2 ≤ 9223372036854775807) (hK : Tab w 0 .u32 kay256) :
    Calls Tryd.prog 8 #[.slice A n c, .int .u8 leaf, .slice A2 n2 c2] w fun e w' => e = .returned (.bool true) ∧ Below w.heap.size w w' := by
  have hl9 : leaf ≤ 255 := by omega
  have HS := Lib.hid hs
  have HS2 := Lib.hid hs2
  have HK := Lib.hid hK
  have hw0 := hK.lt
  clear hs hs2 hK
  go_enter Tryd.func8, Tryd.ntmps8
  go_wp2_with fail
  refine (awake5_any w HK.out).mono ?_
  rintro e w1 ⟨rfl, hb1⟩
  have hz1 := hb1.size
  have hshort : decide (n ≤ 100 ∧ n2 ≤ 100) = true ∨ decide (n ≤ 100 ∧ n2 ≤ 100) = false := by cases h : decide (n ≤ 100 ∧ n2 ≤ 100) <;> simp
  rcases hshort with hsh | hsh
  rotate_left
  · have HSH := Lib.hid hsh
    clear hsh
    go_wp2_with fail
    refine (short_any A A2 n c n2 c2 w1 _ HSH.out).mono ?_
    rintro e w2 ⟨rfl, rfl⟩
    go_wp2_with fail
    go_ret
    exact ⟨rfl, hb1⟩
  have hbd : n ≤ 100 ∧ n2 ≤ 100 := by simpa using hsh
  obtain ⟨hl1, hl2⟩ := hbd
  have HSH := Lib.hid hsh
  clear hsh
  go_wp2_with fail
  refine (short_any A A2 n c n2 c2 w1 _ HSH.out).mono ?_
  rintro e w2 ⟨rfl, rfl⟩
  go_wp2_with fail
  refine (wsign_any A A2 n c n2 c2 key msg leaf w1 (HS.out.up hb1) (by omega) hc hm (HS2.out.up hb1) (by omega) hc2 hm2 (HK.out.below hb1 hw0)).mono ?_
  rintro e w3 ⟨B3, k3, d3, rfl, hk3, hd3, hdm3, hS3, hb3⟩
  have HS3 := Lib.hid hS3
  have hbw3 := hb1.trans (hb3.mono hz1)
  have hz3 := hbw3.size
  clear hS3
  go_wp2_with fail
  refine (wrecover_any A2 B3 n2 c2 k3 d3 msg (signI key leaf msg) leaf w3 (HS2.out.up hbw3) (by omega) hc2 hm2 HS3.out (by omega) hd3 hdm3 (HK.out.below hbw3 hw0)).mono ?_
  rw [recover_sign key msg leaf hl0 hl9]
  rintro e w4 ⟨B4, k4, d4, rfl, hk4, hd4, hdm4, hS4, hb4⟩
  have hkk4 : k4 = 16 := by rw [← hS4.1]; exact publicI_length _ _ hl0 hl9
  subst hkk4
  have HS4 := Lib.hid hS4
  have hbw4 := hbw3.trans (hb4.mono hz3)
  have hz4 := hbw4.size
  clear hS4
  go_wp2_with fail
  refine (wpublic_any A n c key leaf w4 (HS.out.up hbw4) (by omega) hc hm (HK.out.below hbw4 hw0)).mono ?_
  rintro e w5 ⟨B5, k5, d5, rfl, hk5, hd5, hdm5, hS5, hb5⟩
  have hkk5 : k5 = 16 := by rw [← hS5.1]; exact publicI_length _ _ hl0 hl9
  subst hkk5
  have HS5 := Lib.hid hS5
  have HS45 := Lib.hid (HS4.out.up hb5)
  have hbw5 := hbw4.trans (hb5.mono hz4)
  have hz5 := hbw5.size
  clear hS5
  go_wp2_with fail
  refine (same_self B4 B5 16 d4 d5 _ w5 HS45.out HS5.out (by omega)).mono ?_
  rintro e w6 ⟨rfl, hb6⟩
  go_wp2_with fail
  go_ret
  exact ⟨rfl, hbw5.trans (hb6.mono hz5)⟩
end Go.Proofs.YtmpalhejjmjmeaaDoor
