/-
  The walk of the statement on the public value of any leaf.
-/
import Derived.Test.YtmpalhejjmjmeaaDoorBase9
import Derived.Test.YtmpalhejjmjmeaaDoorBase6
namespace Go.Proofs.YtmpalhejjmjmeaaDoor
open Go.RowKit

set_option maxRecDepth 100000 in
set_option maxHeartbeats 4000000 in
theorem lawOnetimePublic (A : Option Addr) (n c : Nat) (key : List Int) (leaf : Int) (w : World)
    (hs : Seg w w.heap.size .u8 A n key) (hc : n ≤ c) (hm : c ≤ 9223372036854775807) (hK : Tab w 0 .u32 kay256) :
    Calls Tryd.prog 5 #[.slice A n c, .int .i64 leaf] w fun e w' => e = .returned (.bool true) ∧ Below w.heap.size w w' := by
  have HS := Lib.hid hs
  have HK := Lib.hid hK
  have hw0 := hK.lt
  clear hs hK
  go_enter Tryd.func5, Tryd.ntmps5
  go_wp2_with fail
  refine (awake5_any w HK.out).mono ?_
  rintro e w1 ⟨rfl, hb1⟩
  have hz1 := hb1.size
  by_cases hl : 100 < n
  · have hd : decide ((100 : Int) < n) = true := by simp; omega
    go_wp2_with fail
    go_ret
    exact ⟨rfl, hb1⟩
  have hd : decide ((100 : Int) < n) = false := by simp; omega
  go_wp2_with fail
  refine (wpublic_any A n c key _ w1 (HS.out.up hb1) (by omega) hc hm (HK.out.below hb1 hw0)).mono ?_
  rintro e w2a ⟨B2, k2, d2, rfl, hk2, _, _, hS2, hb2a⟩
  have HP2 := Lib.hid hS2
  have hbw2a := hb1.trans (hb2a.mono hz1)
  have hz2a := hbw2a.size
  clear hS2
  go_wp2_with fail
  refine (rpublic_any A n c key _ w2a (HS.out.up hbw2a) (by omega)).mono ?_
  rintro e w2b ⟨n2', hn2', A2', c2', rfl, _, _, hR2, hb2b⟩
  have HQ2 := Lib.hid hR2
  have HPP2 := Lib.hid (HP2.out.up hb2b)
  have hbw2b := hbw2a.trans (hb2b.mono hz2a)
  have hz2b := hbw2b.size
  have hkk2 : k2 = n2' := by rw [← HP2.out.1, ← HQ2.out.1]
  subst hkk2
  clear hR2
  go_wp2_with fail
  refine (same_self B2 A2' k2 d2 c2' _ w2b HPP2.out HQ2.out (by omega)).mono ?_
  rintro e w2c ⟨rfl, hb2c⟩
  have hbw2c := hbw2b.trans (hb2c.mono hz2b)
  have hz2c := hbw2c.size
  go_wp2_with fail
  refine (wpublic_any A n c key _ w2c (HS.out.up hbw2c) (by omega) hc hm (HK.out.below hbw2c hw0)).mono ?_
  rintro e w3a ⟨B3, k3, d3, rfl, hk3, _, _, hS3, hb3a⟩
  have HP3 := Lib.hid hS3
  have hbw3a := hbw2c.trans (hb3a.mono hz2c)
  have hz3a := hbw3a.size
  clear hS3
  go_wp2_with fail
  refine (rpublic_any A n c key _ w3a (HS.out.up hbw3a) (by omega)).mono ?_
  rintro e w3b ⟨n3', hn3', A3', c3', rfl, _, _, hR3, hb3b⟩
  have HQ3 := Lib.hid hR3
  have HPP3 := Lib.hid (HP3.out.up hb3b)
  have hbw3b := hbw3a.trans (hb3b.mono hz3a)
  have hz3b := hbw3b.size
  have hkk3 : k3 = n3' := by rw [← HP3.out.1, ← HQ3.out.1]
  subst hkk3
  clear hR3
  go_wp2_with fail
  refine (same_self B3 A3' k3 d3 c3' _ w3b HPP3.out HQ3.out (by omega)).mono ?_
  rintro e w3c ⟨rfl, hb3c⟩
  have hbw3c := hbw3b.trans (hb3c.mono hz3b)
  have hz3c := hbw3c.size
  go_wp2_with fail
  go_ret
  exact ⟨rfl, hbw3c⟩
end Go.Proofs.YtmpalhejjmjmeaaDoor
