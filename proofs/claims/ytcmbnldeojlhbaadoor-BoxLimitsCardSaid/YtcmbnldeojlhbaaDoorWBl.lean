/-
  The program writes a blob.
-/
import Derived.Test.YtcmbnldeojlhbaaDoorWLow
import Derived.Lib.MinMax
namespace Go.Proofs.YtcmbnldeojlhbaaDoor
open Go.RowKit

set_option maxRecDepth 100000 in
set_option maxHeartbeats 2000000 in
theorem wblob_any (A A2 : Option Addr) (l c l2 c2 : Nat) (b x : List Int) (w : World) (hs : Seg w w.heap.size .u8 A l b) (hl : l ≤ 549755813888) (hc : l ≤ c) (hcm : c ≤ 9223372036854775807) (ht : Seg w w.heap.size .u8 A2 l2 x) (hl2 : l2 ≤ 549755813888) (hc2 : l2 ≤ c2) (hcm2 : c2 ≤ 9223372036854775807) :
    Calls Tryd.prog 21 #[.slice A l c, .slice A2 l2 c2] w
      fun e w' => ∃ v k, e = .returned v ∧ k ≤ l + 65545 ∧ Row w' w.heap.size 5 .u8 v k (blobB b x) ∧ Below w.heap.size w w' := by
  have HS := Lib.hid hs
  have HX0 := Lib.hid ht
  clear hs ht
  obtain ⟨m, HM⟩ : ∃ m : Nat, Hid (min l2 65535 = m) := ⟨_, rfl⟩
  have hm : m ≤ l2 := by have := HM.out; omega
  have hm2 : m ≤ 65535 := by have := HM.out; omega
  obtain ⟨X, HXX⟩ : ∃ X, Hid (x.take 65535 = X) := ⟨_, rfl⟩
  have HX : Hid (Seg w w.heap.size .u8 A2 m X) := by
    show Seg _ _ _ _ _ _
    have h := HX0.out.take (i := m) hm
    have e : x.take m = X := by
      rw [← HXX.out, ← HM.out, ← HX0.out.1, Nat.min_comm, ← List.take_eq_take_min]
    rw [e] at h
    exact h
  have HB : Hid (blobB b x = b ++ lowB 2 (m : Int) ++ X) := by
    show _ = _
    rw [blobB, HXX.out, uintB_low, HX.out.1]
  have hmin : min (l2 : Int) 65535 = (m : Int) := by have := HM.out; omega
  have hsl := slice_to A2 l2 c2 m (by omega)
  go_enter Tryd.func21, Tryd.ntmps21
  go_wp2_with fail
  refine (lowest_any 2 m w).mono ?_
  rintro e w1 ⟨v1, k1, rfl, hk1, hR1, hb1⟩
  obtain ⟨A1, c1, rfl, hc1, hcm1⟩ := hR1.cut
  have HR1 := Lib.hid hR1
  have hz1 := hb1.size
  clear hR1
  go_wp2_with fail
  have hba : Below w1.heap.size w1 (w1.alloc (.cells #[.slice A l c, .slice A1 k1 c1, .slice A2 m c2] 22)) := (Below.refl _ _).alloc (Nat.le_refl _) _
  have HF : Hid (Fields (w1.alloc (.cells #[.slice A l c, .slice A1 k1 c1, .slice A2 m c2] 22)) (w1.alloc (.cells #[.slice A l c, .slice A1 k1 c1, .slice A2 m c2] 22)).heap.size (some ⟨w1.heap.size, 0, none⟩) 3 [b, lowB 2 m, X]) :=
    fields3 _ _ A A1 A2 l c k1 c1 m c2 b (lowB 2 m) X (cell_made w1 _ _ _ 0 _ rfl rfl) (cell_made w1 _ _ _ 1 _ rfl rfl) (cell_made w1 _ _ _ 2 _ rfl rfl)
      (((HS.out.below hb1 (Nat.le_refl _)).more hz1 |>.below hba (Nat.le_refl _)).more hba.size) ((HR1.out.seg.below hba (Nat.le_refl _)).more hba.size)
      (((HX.out.below hb1 (Nat.le_refl _)).more hz1 |>.below hba (Nat.le_refl _)).more hba.size) hc (by unfold maxLen; omega) hc1 hcm1 (by omega) (by unfold maxLen; omega)
  have hbw : Below w.heap.size w (w1.alloc (.cells #[.slice A l c, .slice A1 k1 c1, .slice A2 m c2] 22)) := hb1.trans (hba.mono hz1)
  have HT : Hid (tot [b, lowB 2 m, X] = l + k1 + m) := by show _ = _; simp [tot, HS.out.1, HR1.out.length, HX.out.1]; omega
  have HE : Hid ([b, lowB 2 m, X].flatten = blobB b x) := by show _ = _; rw [HB.out]; simp
  generalize hwa : World.alloc _ _ = wa at HF hbw ⊢
  clear hwa hba
  refine (concat_any _ 3 3 _ wa HF.out (by omega) (by rw [HT.out]; omega)).mono ?_
  rintro e w2 ⟨v2, rfl, hR2, hb2⟩
  rw [HT.out, HE.out] at hR2
  have HR2 := Lib.hid hR2
  have hz2 := hbw.size
  have hbw2 := hbw.trans (hb2.mono hz2)
  clear hR2
  go_wp2_with fail
  go_ret
  exact ⟨_, l + k1 + m, rfl, by omega, Row.less HR2.out hz2, hbw2⟩
end Go.Proofs.YtcmbnldeojlhbaaDoor
