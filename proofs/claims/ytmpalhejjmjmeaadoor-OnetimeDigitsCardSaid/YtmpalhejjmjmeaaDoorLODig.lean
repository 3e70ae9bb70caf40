/-
  The walk of the statement on the positions that a message selects.
-/
import Derived.Test.YtmpalhejjmjmeaaDoorBase9
import Derived.Test.YtmpalhejjmjmeaaDoorBase7
namespace Go.Proofs.YtmpalhejjmjmeaaDoor
open Go.RowKit

set_option maxRecDepth 100000 in
set_option maxHeartbeats 4000000 in
theorem lawOnetimeDigits (A : Option Addr) (n c : Nat) (key : List Int) (w : World)
    (hs : Seg w w.heap.size .u8 A n key) (hc : n ≤ c) (hm : c ≤ 9223372036854775807) (hK : Tab w 0 .u32 kay256) :
    Calls Tryd.prog 3 #[.slice A n c] w fun e w' => e = .returned (.bool true) ∧ Below w.heap.size w w' := by
  have HS := Lib.hid hs
  have HK := Lib.hid hK
  have hw0 := hK.lt
  clear hs hK
  go_enter Tryd.func3, Tryd.ntmps3
  go_wp2_with fail
  refine (awake5_any w HK.out).mono ?_
  rintro e w1 ⟨rfl, hb1⟩
  have hz1 := hb1.size
  by_cases hl : 200 < n
  · have hd : decide ((200 : Int) < n) = true := by simp; omega
    go_wp2_with fail
    go_ret
    exact ⟨rfl, hb1⟩
  have hd : decide ((200 : Int) < n) = false := by simp; omega
  go_wp2_with fail
  refine (wdigits_any A n c key w1 (HS.out.up hb1) (by omega) hc hm (HK.out.below hb1 hw0)).mono ?_
  rintro e w2 ⟨B2, d2, rfl, hd2, hdm2, hS2, hb2⟩
  have HS2 := Lib.hid hS2
  have hbw2 := hb1.trans (hb2.mono hz1)
  have hz2 := hbw2.size
  clear hS2
  go_wp2_with fail
  refine (rdigits_any A n c key w2 (HS.out.up hbw2) (by omega) hc (by unfold maxLen; omega)).mono ?_
  rintro e w3 ⟨v3, rfl, hR3, hb3⟩
  obtain ⟨A3, c3, rfl, _, _⟩ := hR3.cut
  have HR3 := Lib.hid hR3.seg
  have HS23 := Lib.hid (HS2.out.up hb3)
  have hbw3 := hbw2.trans (hb3.mono hz2)
  have hz3 := hbw3.size
  clear hR3
  go_wp2_with fail
  refine (ints_any B2 A3 35 d2 c3 _ _ w3 HS23.out HR3.out (by omega)).mono ?_
  rw [sameB_self]
  rintro e w4 ⟨rfl, q, rfl⟩
  go_wp2_with fail
  go_ret
  exact ⟨rfl, below_drewN hbw3 q⟩
end Go.Proofs.YtmpalhejjmjmeaaDoor
