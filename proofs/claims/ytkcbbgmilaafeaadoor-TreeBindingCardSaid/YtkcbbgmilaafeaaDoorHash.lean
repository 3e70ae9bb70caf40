/-
  The program's hash of a frame.
-/
import Derived.Test.YtkcbbgmilaafeaaDoorField
import Derived.Test.YtkcbbgmilaafeaaDoorGot
namespace Go.Proofs.YtkcbbgmilaafeaaDoor
open Go.RowKit

set_option maxRecDepth 100000 in
set_option maxHeartbeats 1000000 in
/-- The hash of a frame. -/
theorem hash_any (tag : Int) (A : Option Addr) (n c : Nat) (fs : List (List Int)) (w : World) (hs : Fields w w.heap.size A n fs) (hn : n ≤ 1048576) (ht : tot fs ≤ 1073741824) (hK : Tab w 0 .u32 kay256) :
    Calls Tryd.prog 31 #[.int .i64 tag, .slice A n c] w fun e w' => ∃ v, e = .returned v ∧ Own w' w.heap.size 5 .u8 v (sha256 (frameI tag fs)) ∧ Below w.heap.size w w' := by
  have HS := Lib.hid hs
  have HK := Lib.hid hK
  have HLN := Lib.hid hs.1
  clear hs hK
  go_enter Tryd.func31, Tryd.ntmps31
  go_wp2_with fail
  refine (frame_any tag A n c fs w HS.out hn (by omega)).mono ?_
  rintro e w1 ⟨v1, rfl, hown1, hb1⟩
  obtain ⟨A1, c1, rfl, h1, h2⟩ := Own.cut hown1
  have hseg := Seg.of_own hown1
  have hfl : (frameI tag fs).length ≤ 1099511627776 := by rw [frameI_length, HLN.out]; omega
  unfold maxLen at h2
  go_wp2_with fail
  refine (sum_any 1 A1 _ c1 _ w1 hseg hfl h1 (by omega) (HK.out.below hb1 HK.out.lt)).mono ?_
  rintro e w2 ⟨v2, rfl, hown2, hb2⟩
  go_wp2
  go_ret
  exact ⟨_, rfl, Own.less hown2 hb1.size, hb1.trans (hb2.mono hb1.size)⟩
end Go.Proofs.YtkcbbgmilaafeaaDoor
