/-
  The walk of the statement on the bytes of a signature.
-/
import Derived.Test.YtmpalhejjmjmeaaDoorBase9
import Derived.Test.YtmpalhejjmjmeaaDoorBase7
namespace Go.Proofs.YtmpalhejjmjmeaaDoor
open Go.RowKit

set_option maxRecDepth 100000 in
set_option maxHeartbeats 4000000 in
theorem lawOnetimeSign (A : Option Addr) (n c : Nat) (key : List Int) (leaf : Int) (A2 : Option Addr) (n2 c2 : Nat) (msg : List Int) (w : World)
    (hs : Seg w w.heap.size .u8 A n key) (hc : n ≤ c) (hm : c ≤ 9223372036854775807) (hs2 : Seg w w.heap.size .u8 A2 n2 msg) (hc2 : n2 ≤ c2) (hm2 : c2 ≤ 9223372036854775807) (hK : Tab w 0 .u32 kay256) :
    Calls Tryd.prog 6 #[.slice A n c, .int .i64 leaf, .slice A2 n2 c2] w fun e w' => e = .returned (.bool true) ∧ Below w.heap.size w w' := by
  have HS := Lib.hid hs
  have HS2 := Lib.hid hs2
  have HK := Lib.hid hK
  have hw0 := hK.lt
  clear hs hs2 hK
  go_enter Tryd.func6, Tryd.ntmps6
  go_wp2_with fail
  refine (awake5_any w HK.out).mono ?_
  rintro e w1 ⟨rfl, hb1⟩
  have hz1 := hb1.size
  have hshort : decide (n ≤ 100 ∧ n2 ≤ 100) = true ∨ decide (n ≤ 100 ∧ n2 ≤ 100) = false := by cases h : decide (n ≤ 100 ∧ n2 ≤ 100) <;> simp
  rcases hshort with hsh | hsh
  rotate_left
  · have HSH := Lib.hid hsh
    clear hsh
    go_wp2_with fail
    refine (short_any A A2 n c n2 c2 w1 _ HSH.out).mono ?_
    rintro e w2 ⟨rfl, rfl⟩
    go_wp2_with fail
    go_ret
    exact ⟨rfl, hb1⟩
  have hbd : n ≤ 100 ∧ n2 ≤ 100 := by simpa using hsh
  obtain ⟨hl1, hl2⟩ := hbd
  have HSH := Lib.hid hsh
  clear hsh
  go_wp2_with fail
  refine (short_any A A2 n c n2 c2 w1 _ HSH.out).mono ?_
  rintro e w2 ⟨rfl, rfl⟩
  go_wp2_with fail
  refine (wsign_any A A2 n c n2 c2 key msg _ w1 (HS.out.up hb1) (by omega) hc hm (HS2.out.up hb1) (by omega) hc2 hm2 (HK.out.below hb1 hw0)).mono ?_
  rintro e w3a ⟨B3, k3, d3, rfl, hk3, _, _, hS3, hb3a⟩
  have HP3 := Lib.hid hS3
  have hbw3a := hb1.trans (hb3a.mono hz1)
  have hz3a := hbw3a.size
  clear hS3
  go_wp2_with fail
  refine (rsign_any A A2 n c n2 c2 key msg _ w3a (HS.out.up hbw3a) (by omega) (HS2.out.up hbw3a) (by omega) hc2 (by unfold maxLen; omega)).mono ?_
  rintro e w3b ⟨v3, n3', rfl, hn3', hR3, hb3b⟩
  obtain ⟨A3', c3', rfl, _, _⟩ := hR3.cut
  have HQ3 := Lib.hid hR3.seg
  have HPP3 := Lib.hid (HP3.out.up hb3b)
  have hbw3b := hbw3a.trans (hb3b.mono hz3a)
  have hz3b := hbw3b.size
  have hkk3 : k3 = n3' := by rw [← HP3.out.1, ← HQ3.out.1]
  subst hkk3
  clear hR3
  go_wp2_with fail
  refine (same_self B3 A3' k3 d3 c3' _ w3b HPP3.out HQ3.out (by omega)).mono ?_
  rintro e w3c ⟨rfl, hb3c⟩
  have hbw3c := hbw3b.trans (hb3c.mono hz3b)
  have hz3c := hbw3c.size
  go_wp2_with fail
  refine (wsign_any A A2 n c n2 c2 key msg _ w3c (HS.out.up hbw3c) (by omega) hc hm (HS2.out.up hbw3c) (by omega) hc2 hm2 (HK.out.below hbw3c hw0)).mono ?_
  rintro e w4a ⟨B4, k4, d4, rfl, hk4, _, _, hS4, hb4a⟩
  have HP4 := Lib.hid hS4
  have hbw4a := hbw3c.trans (hb4a.mono hz3c)
  have hz4a := hbw4a.size
  clear hS4
  go_wp2_with fail
  refine (rsign_any A A2 n c n2 c2 key msg _ w4a (HS.out.up hbw4a) (by omega) (HS2.out.up hbw4a) (by omega) hc2 (by unfold maxLen; omega)).mono ?_
  rintro e w4b ⟨v4, n4', rfl, hn4', hR4, hb4b⟩
  obtain ⟨A4', c4', rfl, _, _⟩ := hR4.cut
  have HQ4 := Lib.hid hR4.seg
  have HPP4 := Lib.hid (HP4.out.up hb4b)
  have hbw4b := hbw4a.trans (hb4b.mono hz4a)
  have hz4b := hbw4b.size
  have hkk4 : k4 = n4' := by rw [← HP4.out.1, ← HQ4.out.1]
  subst hkk4
  clear hR4
  go_wp2_with fail
  refine (same_self B4 A4' k4 d4 c4' _ w4b HPP4.out HQ4.out (by omega)).mono ?_
  rintro e w4c ⟨rfl, hb4c⟩
  have hbw4c := hbw4b.trans (hb4c.mono hz4b)
  have hz4c := hbw4c.size
  go_wp2_with fail
  go_ret
  exact ⟨rfl, hbw4c⟩
end Go.Proofs.YtmpalhejjmjmeaaDoor
