/-
  The sanity check with which each statement of layer 3 begins: a number is written and read.
-/
import Derived.Test.YtcidfnblfelgkaaWWr
import Derived.Test.YtcidfnblfelgkaaWRr
namespace Go.Proofs.Ytcidfnblfelgkaa
open Go.RowKit

set_option maxRecDepth 100000 in
set_option maxHeartbeats 2000000 in
theorem awake3_any (w : World) : Calls Try.prog 9 #[] w fun e w' => e = .returned (.bool true) ∧ Below w.heap.size w w' := by
  go_enter Try.func9, Try.ntmps9
  go_wp2_with fail
  refine (wuint_any none 0 0 [] 2 258 w (Seg.nil _ _ _ _) (by omega) (by omega) (by omega)).mono ?_
  rintro e w1 ⟨v1, k1, rfl, hk1, hR1, hb1⟩
  rw [show uintB [] 2 258 = [1, 2] by decide] at hR1
  have hk : k1 = 2 := hR1.length.symm
  subst hk
  obtain ⟨g1, c1, rfl, hg1⟩ := hR1.at_ (by omega)
  have hx0 : w1.cell? ⟨g1, 0, none⟩ = some (.int .u8 1) := hR1.cell 0 (by omega)
  have hx1 : w1.cell? ⟨g1, 1, none⟩ = some (.int .u8 2) := hR1.cell 1 (by omega)
  have hl1 := block_lt_of_cell hx0
  have H0 := Lib.hid hx0
  have H1 := Lib.hid hx1
  have hz1 := hb1.size
  clear hR1 hx0 hx1
  go_wp2_with fail
  generalize hwq : World.alloc _ _ = wq
  have hbq : Below w1.heap.size w1 wq := by rw [← hwq]; exact (Below.refl _ _).alloc (Nat.le_refl _) _
  have hS : Seg wq wq.heap.size .u8 (some ⟨w1.heap.size, 0, none⟩) 2 [0, 7] := by rw [← hwq]; exact Seg.of_blk (Blk.new w1 5 .u8 [0, 7])
  have HSQ := Lib.hid hS
  obtain ⟨A2, HA2⟩ : ∃ A2, Hid (some (⟨w1.heap.size, 0, none⟩ : Addr) = A2) := ⟨_, rfl⟩
  rw [HA2.out] at HSQ ⊢
  clear hwq hS
  refine (wnew_any A2 2 2 [0, 7] wq HSQ.out (by omega)).mono ?_
  rintro e w2 ⟨g, rfl, hg, hR2, hb2⟩
  have HR2 := Lib.hid hR2
  have hzq := hbq.size
  have hb12 := hbq.trans (hb2.mono hzq)
  have hx0 := (hb12.cell (p := ⟨g1, 0, none⟩) hl1).trans H0.out
  have hx1 := (hb12.cell (p := ⟨g1, 1, none⟩) hl1).trans H1.out
  have hgw : w.heap.size ≤ g := by omega
  clear hR2
  go_wp2_with fail
  refine (wruint_any g 0 [0, 7] 0 2 w2 HR2.out (by simp) (by intro y hy; simp at hy; omega)).mono ?_
  rintro e w3 ⟨rfl, hR3, hbt3⟩
  rw [show uintR [0, 7] 0 0 2 = (7, 2, 0) by decide] at hR3 ⊢
  have HR3 := Lib.hid hR3
  clear hR3
  go_wp2_with fail
  refine (wend_any g 2 [0, 7] 0 w3 HR3.out).mono ?_
  rintro e w4 ⟨rfl, rfl⟩
  rw [show endR [0, 7] 2 0 = 0 by decide]
  have hbw2 : Below w.heap.size w w2 := hb1.trans (hb12.mono hz1)
  have hb4 : Below w.heap.size w w3 := below_but hbw2 hbt3 hgw hbw2.size
  clear hx0 hx1
  go_wp2_with fail
  go_ret
  exact ⟨rfl, hb4⟩
end Go.Proofs.Ytcidfnblfelgkaa
