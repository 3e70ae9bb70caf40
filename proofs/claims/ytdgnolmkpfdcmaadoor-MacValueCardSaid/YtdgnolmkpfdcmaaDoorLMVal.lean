/-
  The walk of the statement on the authentication code of any message.
-/
import Derived.Test.YtdgnolmkpfdcmaaDoorWake2
import Derived.Test.YtdgnolmkpfdcmaaDoorRMac
import Derived.Test.YtdgnolmkpfdcmaaDoorAlike
namespace Go.Proofs.YtdgnolmkpfdcmaaDoor
open Go.RowKit

set_option maxRecDepth 100000 in
set_option maxHeartbeats 2000000 in
theorem lawMacValue (A : Option Addr) (n c : Nat) (key : List Int) (A2 : Option Addr) (n2 c2 : Nat) (xs : List Int) (w : World) (hs : Seg w w.heap.size .u8 A n key) (hc : n ≤ c) (hcm : c ≤ 9223372036854775807)
    (ht : Seg w w.heap.size .u8 A2 n2 xs) (_hc2 : n2 ≤ c2) (_hcm2 : c2 ≤ 9223372036854775807) (hK : Tab w 0 .u32 kay256) :
    Calls Tryd.prog 3 #[.slice A n c, .slice A2 n2 c2] w fun e w' => e = .returned (.bool true) ∧ Below w.heap.size w w' := by
  have HK := Lib.hid hK
  have HS := Lib.hid hs
  have HT := Lib.hid ht
  have h0 : 0 < w.heap.size := hK.lt
  clear hs ht hK
  go_enter Tryd.func3, Tryd.ntmps3
  go_wp2_with fail
  refine (awake2_any w HK.out).mono ?_
  rintro e w1 ⟨rfl, hb1⟩
  have hz1 := hb1.size
  by_cases hn : 200 < n
  · have hd : decide ((200 : Int) < n) = true := by simp; omega
    go_wp2_with fail
    go_ret
    exact ⟨rfl, hb1⟩
  have hd : decide ((200 : Int) < n) = false := by simp; omega
  by_cases hn2 : 200 < n2
  · have hd2 : decide ((200 : Int) < n2) = true := by simp; omega
    go_wp2_with fail
    go_ret
    exact ⟨rfl, hb1⟩
  have hd2 : decide ((200 : Int) < n2) = false := by simp; omega
  go_wp2_with fail
  refine (mac_any A A2 n c n2 c2 key xs w1 ((HS.out.below hb1 (Nat.le_refl _)).more hz1) (by omega) hc hcm ((HT.out.below hb1 (Nat.le_refl _)).more hz1) (by omega) (HK.out.below hb1 h0)).mono ?_
  rintro e w2 ⟨v2, rfl, hR2, hb2⟩
  obtain ⟨A3, c3, rfl, _, _⟩ := hR2.cut
  have hbw2 := hb1.trans (hb2.mono hz1)
  have hz2 := hbw2.size
  have HS2 := Lib.hid hR2.seg
  clear hR2
  go_wp2_with fail
  refine (rmac_any A A2 n c n2 c2 key xs w2 ((HS.out.below hbw2 (Nat.le_refl _)).more hz2) (by omega) ((HT.out.below hbw2 (Nat.le_refl _)).more hz2) (by omega)).mono ?_
  rintro e w3 ⟨v3, rfl, hR3, hb3⟩
  obtain ⟨A4, c4, rfl, _, _⟩ := hR3.cut
  have hbw3 := hbw2.trans (hb3.mono hz2)
  have HS3 := Lib.hid hR3.seg
  have HS23 := Lib.hid ((HS2.out.below hb3 (Nat.le_refl _)).more hb3.size)
  clear hR3
  go_wp2_with fail
  refine (same_self A3 A4 32 c3 c4 _ w3 HS23.out HS3.out (by omega)).mono ?_
  rintro e w4 ⟨rfl, hb4⟩
  go_wp2_with fail
  go_ret
  exact ⟨rfl, hbw3.trans (hb4.mono hbw3.size)⟩
end Go.Proofs.YtdgnolmkpfdcmaaDoor
