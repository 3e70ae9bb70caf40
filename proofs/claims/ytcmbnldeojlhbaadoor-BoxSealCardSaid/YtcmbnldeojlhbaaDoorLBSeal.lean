/-
  The walk of the statement on the bytes of an encrypted box.
-/
import Derived.Test.YtcmbnldeojlhbaaDoorBase5
import Derived.Test.YtcmbnldeojlhbaaDoorROpen
namespace Go.Proofs.YtcmbnldeojlhbaaDoor
open Go.RowKit

set_option maxRecDepth 100000 in
set_option maxHeartbeats 2000000 in
theorem lawBoxSeal (A : Option Addr) (n c : Nat) (key : List Int) (A2 : Option Addr) (n2 c2 : Nat) (nonce : List Int) (A3 : Option Addr) (n3 c3 : Nat) (ad : List Int) (A4 : Option Addr) (n4 c4 : Nat) (plain : List Int) (w : World)
    (hs : Seg w w.heap.size .u8 A n key) (hc : n ≤ c) (hm : c ≤ 9223372036854775807) (hs2 : Seg w w.heap.size .u8 A2 n2 nonce) (hc2 : n2 ≤ c2) (hm2 : c2 ≤ 9223372036854775807)
    (hs3 : Seg w w.heap.size .u8 A3 n3 ad) (hc3 : n3 ≤ c3) (hm3 : c3 ≤ 9223372036854775807) (hs4 : Seg w w.heap.size .u8 A4 n4 plain) (hc4 : n4 ≤ c4) (hm4 : c4 ≤ 9223372036854775807) (hK : Tab w 0 .u32 kay256) :
    Calls Tryd.prog 3 #[.slice A n c, .slice A2 n2 c2, .slice A3 n3 c3, .slice A4 n4 c4] w fun e w' => e = .returned (.bool true) ∧ Below w.heap.size w w' := by
  have HS := Lib.hid hs
  have HS2 := Lib.hid hs2
  have HS3 := Lib.hid hs3
  have HS4 := Lib.hid hs4
  have HK := Lib.hid hK
  have hw0 := hK.lt
  clear hs hs2 hs3 hs4 hK
  go_enter Tryd.func3, Tryd.ntmps3
  go_wp2_with fail
  refine (awake4_any w HK.out).mono ?_
  rintro e w1 ⟨rfl, hb1⟩
  have hz1 := hb1.size
  cases hsm : smallB [n, n2, n3, n4] with
  | false => ?_
  | true => ?_
  · have HSM := Lib.hid hsm
    clear hsm
    go_wp2_with fail
    refine (small_any w1.heap.size 4 4 [n, n2, n3, n4] _ (lens4 w1 A A2 A3 A4 n n2 n3 n4 c c2 c3 c4 _ _ rfl) rfl (by omega)).mono ?_
    rw [HSM.out]
    rintro e w2 ⟨rfl, rfl⟩
    go_wp2_with fail
    go_ret
    exact ⟨rfl, hb1.alloc hz1 _⟩
  obtain ⟨l1, l2, l3, l4⟩ := small4 hsm
  have HSM := Lib.hid hsm
  clear hsm
  go_wp2_with fail
  refine (small_any w1.heap.size 4 4 [n, n2, n3, n4] _ (lens4 w1 A A2 A3 A4 n n2 n3 n4 c c2 c3 c4 _ _ rfl) rfl (by omega)).mono ?_
  rw [HSM.out]
  rintro e w2 ⟨rfl, hw2⟩
  have hb2 : Below w.heap.size w w2 := by rw [← hw2]; exact hb1.alloc hz1 _
  have hz2 := hb2.size
  clear hw2
  go_wp2_with fail
  refine (wseal_any A A2 A3 A4 n c n2 c2 n3 c3 n4 c4 key nonce ad plain w2 (HS.out.up hb2) (by omega) hc hm (HS2.out.up hb2) (by omega) hc2 hm2 (HS3.out.up hb2) (by omega) hc3 hm3 (HS4.out.up hb2) (by omega) hc4 hm4 (HK.out.below hb2 hw0)).mono ?_
  rintro e w3 ⟨B3, k3, d3, rfl, hk3, hd3, hdm3, hS3, hb3⟩
  have HR3 := Lib.hid hS3
  have hbw3 := hb2.trans (hb3.mono hz2)
  have hz3 := hbw3.size
  clear hS3
  go_wp2_with fail
  refine (rseal_any A A2 A3 A4 n c n2 c2 n3 c3 n4 c4 key nonce ad plain w3 (HS.out.up hbw3) (by omega) (HS2.out.up hbw3) (by omega) hc2 hm2 (HS3.out.up hbw3) (by omega) hc3 hm3 (HS4.out.up hbw3) (by omega)).mono ?_
  rintro e w4 ⟨v4, k4, rfl, hk4, hR4, hb4⟩
  have hk34 : k3 = k4 := by rw [← HR3.out.1, ← hR4.length]
  subst hk34
  obtain ⟨A5, c5, rfl, _, _⟩ := hR4.cut
  have HR4 := Lib.hid hR4.seg
  have HR3' := Lib.hid (HR3.out.up hb4)
  have hbw4 := hbw3.trans (hb4.mono hz3)
  have hz4 := hbw4.size
  clear hR4
  go_wp2_with fail
  refine (same_self B3 A5 k3 d3 c5 _ w4 HR3'.out HR4.out (by omega)).mono ?_
  rintro e w5 ⟨rfl, hb5⟩
  go_wp2_with fail
  go_ret
  exact ⟨rfl, hbw4.trans (hb5.mono hz4)⟩
end Go.Proofs.YtcmbnldeojlhbaaDoor
