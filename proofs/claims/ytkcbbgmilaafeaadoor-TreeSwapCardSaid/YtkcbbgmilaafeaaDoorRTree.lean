/-
  The reference's hash trees: which numbers of leaves fit, a node, the next level.
-/
import Derived.Test.YtkcbbgmilaafeaaDoorTree
import Derived.Test.YtkcbbgmilaafeaaDoorRHash
import Derived.Test.YtkcbbgmilaafeaaDoorLst
import Derived.Test.YtkcbbgmilaafeaaDoorTreeL
import Derived.IntWalk
namespace Go.Proofs.YtkcbbgmilaafeaaDoor
open Go.RowKit

def fitB (n : Int) : Bool := decide (n = 1 ∨ n = 2 ∨ n = 4 ∨ n = 8)

set_option maxRecDepth 100000 in
set_option maxHeartbeats 1000000 in
theorem rfits_any (n : Int) (w : World) : Calls Tryd.prog 24 #[.int .i64 n] w fun e w' => e = .returned (.bool (fitB n)) ∧ w = w' := by
  by_cases h1 : n = 1
  · subst h1
    go_enter Tryd.func24, Tryd.ntmps24
    go_wp2_with fail
    go_ret
    exact ⟨rfl, rfl⟩
  by_cases h2 : n = 2
  · subst h2
    go_enter Tryd.func24, Tryd.ntmps24
    go_wp2_with fail
    go_ret
    exact ⟨rfl, rfl⟩
  by_cases h4 : n = 4
  · subst h4
    go_enter Tryd.func24, Tryd.ntmps24
    go_wp2_with fail
    go_ret
    exact ⟨rfl, rfl⟩
  by_cases h8 : n = 8
  · subst h8
    go_enter Tryd.func24, Tryd.ntmps24
    go_wp2_with fail
    go_ret
    exact ⟨rfl, rfl⟩
  have hd1 : (n == 1) = false := by simpa using h1
  have hd2 : (n == 2) = false := by simpa using h2
  have hd4 : (n == 4) = false := by simpa using h4
  have hd8 : (n == 8) = false := by simpa using h8
  have HF : Hid (fitB n = false) := by show _ = _; unfold fitB; simp; omega
  clear h1 h2 h4 h8
  go_enter Tryd.func24, Tryd.ntmps24
  go_wp2_with fail
  go_ret
  exact ⟨by rw [HF.out]; rfl, rfl⟩

set_option maxRecDepth 100000 in
set_option maxHeartbeats 2000000 in
theorem rjoin_any (A A2 : Option Addr) (n c n2 c2 h i : Nat) (x y : List Int) (w : World) (hs : Seg w w.heap.size .u8 A n x) (hn : n ≤ 1048576) (hc : n ≤ c) (hm : c ≤ maxLen) (ht : Seg w w.heap.size .u8 A2 n2 y) (hn2 : n2 ≤ 1048576) (hc2 : n2 ≤ c2) (hm2 : c2 ≤ maxLen) :
    Calls Tryd.prog 28 #[.int .i64 h, .int .i64 i, .slice A n c, .slice A2 n2 c2] w fun e w' => ∃ v, e = .returned v ∧ Row w' w.heap.size 5 .u8 v 16 (nodeT h i x y) ∧ Below w.heap.size w w' := by
  have HL := Lib.hid hs.1
  have HL2 := Lib.hid ht.1
  have HF := Lib.hid (laid_three w [(h : Int) % 256, (i : Int) % 256] A A2 n c n2 c2 x y 5 27 hs hc hm ht hc2 hm2 (by simp))
  clear hs ht
  go_enter Tryd.func28, Tryd.ntmps28
  go_wp2_with fail
  obtain ⟨wq, HWQ⟩ : ∃ wq, Hid ((w.alloc (.cells (ints .u8 [(h : Int) % 256, (i : Int) % 256]).toArray 5)).alloc (.cells #[.slice (some ⟨w.heap.size, 0, none⟩) 2 2, .slice A n c, .slice A2 n2 c2] 27) = wq) := ⟨_, rfl⟩
  have HF1 : Hid (Fields wq wq.heap.size (some ⟨w.heap.size + 1, 0, none⟩) 3 [[(h : Int) % 256, (i : Int) % 256], x, y]) := by show Fields _ _ _ _ _; rw [← HWQ.out]; exact HF.out.1
  have hb0 : Below w.heap.size w wq := by rw [← HWQ.out]; exact HF.out.2
  have hz := hb0.size
  show Calls Tryd.prog 32 _ ((w.alloc (.cells (ints .u8 [(h : Int) % 256, (i : Int) % 256]).toArray 5)).alloc (.cells #[.slice (some ⟨w.heap.size, 0, none⟩) 2 2, .slice A n c, .slice A2 n2 c2] 27)) _
  rw [HWQ.out]
  refine (rhash_any 3 _ 3 3 _ wq HF1.out (by omega) (by simp [tot]; rw [HL.out, HL2.out]; omega)).mono ?_
  rintro e w1 ⟨v1, rfl, hR1, hb1⟩
  obtain ⟨g1, c1, rfl, hg1⟩ := hR1.at_ (by omega)
  obtain ⟨h32, hm1⟩ := hR1.caps
  have HR2 := Lib.hid (hR1.cutTo (m := 16) (by omega) (by simp))
  clear hR1
  go_wp2_with fail
  go_ret
  exact ⟨_, rfl, Row.less HR2.out hz, hb0.trans (hb1.mono hz)⟩

set_option maxRecDepth 100000 in
set_option maxHeartbeats 2000000 in
theorem rup_any (A : Option Addr) (n c h : Nat) (fs : List (List Int)) (w : World) (hs : Fields w w.heap.size A n fs) (hn : n ≤ 1048576) (hsh : ∀ x ∈ fs, x.length ≤ 1048576) :
    Calls Tryd.prog 25 #[.int .i64 h, .slice A n c] w fun e w' => ∃ v, e = .returned v ∧ FRow w' w.heap.size w.heap.size v (n / 2) (upT h fs) ∧ Below w.heap.size w w' := by
  have HS := Lib.hid hs
  have HL := Lib.hid hs.1
  have HSH := Lib.hid hsh
  clear hs hsh
  go_enter Tryd.func25, Tryd.ntmps25
  go_wp2_with fail
  go_loopw [5, 6] (fun v i wr => ∃ k : Nat, k ≤ n / 2 ∧ i = .int .i64 k ∧ Hid (FRow wr w.heap.size w.heap.size v k (upTo h fs k)) ∧ Below w.heap.size w wr) (fun _ i _ => n / 2 - (intOf i).toNat)
  case atStart => exact ⟨0, by omega, rfl, FRow.nil _ _ _, Below.refl _ _⟩
  case round =>
    obtain ⟨k, hk, rfl, hR, hb⟩ := hrel
    have hz := hb.size
    obtain ⟨k2, hk2⟩ : ∃ k2 : Nat, Hid (2 * k = k2) := ⟨_, rfl⟩
    obtain ⟨k3, hk3⟩ : ∃ k3 : Nat, Hid (k2 + 1 = k3) := ⟨_, rfl⟩
    have hw1 : IntKind.i64.wrap (2 * (k : Int)) = (k2 : Int) := by have := hk2.out; rw [IntWalk.i64_in _ (by omega)]; omega
    have hw2 : IntKind.i64.wrap ((k2 : Int) + 1) = (k3 : Int) := by have := hk3.out; have := hk2.out; rw [IntWalk.i64_in _ (by omega)]; omega
    by_cases hlt : k3 < n
    · have hd : decide ((k3 : Int) < n) = true := by simpa using hlt
      obtain ⟨b, off, rfl, hbl, hcl⟩ := HS.out.2 (by omega)
      obtain ⟨A1, n1, c1, e1, s1, l1, m1⟩ := hcl k2 (by have := hk3.out; omega)
      obtain ⟨A2, n2, c2, e2, s2, l2, m2⟩ := hcl k3 hlt
      have hcx := (hb.cell (p := ⟨b, off + k2, none⟩) hbl).trans e1
      have hcy := (hb.cell (p := ⟨b, off + k3, none⟩) hbl).trans e2
      have hi0 : (0 : Int) ≤ (k2 : Int) := by omega
      have hi1 : (k2 : Int) < n := by have := hk3.out; omega
      have hi2 : (0 : Int) ≤ (k3 : Int) := by omega
      have hi3 : (k3 : Int) < n := by omega
      have HX1 := Lib.hid ((s1.below hb (Nat.le_refl _)).more hz)
      have HX2 := Lib.hid ((s2.below hb (Nat.le_refl _)).more hz)
      have hn1 : n1 ≤ 1048576 := by rw [← s1.1]; exact get_short HSH.out k2
      have hn2 : n2 ≤ 1048576 := by rw [← s2.1]; exact get_short HSH.out k3
      have HLT := Lib.hid hR.out.lt
      have hbd := hb.drew
      have HRD : Hid (FRow wr.drew w.heap.size w.heap.size _ k (upTo h fs k)) := hR.out
      have HCC : Hid (∀ W, Below w.heap.size w W → W.cell? ⟨b, off + k2, none⟩ = some (.slice A1 n1 c1) ∧ W.cell? ⟨b, off + k3, none⟩ = some (.slice A2 n2 c2)) := fun W hW => ⟨(hW.cell (p := ⟨b, off + k2, none⟩) hbl).trans e1, (hW.cell (p := ⟨b, off + k3, none⟩) hbl).trans e2⟩
      have HN : Hid (upTo h fs (k + 1) = upTo h fs k ++ [nodeT h k (fs.getD k2 []) (fs.getD k3 [])]) := by show _ = _; rw [upTo_next, hk2.out, hk3.out]
      clear hcl s1 s2 e1 e2
      go_wp2_with fail
      go_region_held3 (fun W => W.cell? ⟨b, off + k2, none⟩ = some (.slice A1 n1 c1) ∧ W.cell? ⟨b, off + k3, none⟩ = some (.slice A2 n2 c2))
        (first
          | go_keep
          | exact HCC.out _ hb4
          | exact HCC.out _ hb3
          | exact HCC.out _ hb2
          | exact HCC.out _ hbd)
        ((first
          | (refine step_app1 (by rfl) (.tmp 15) (.tmp 30) (by rfl) w.heap.size w.heap.size w2.heap.size _ k (upTo h fs k) (by rfl) HR3.out 1 A3 16 c3 (nodeT h k (fs.getD k2 []) (fs.getD k3 [])) (by rfl) hc3' HS3.out hcc3 hm3 HAP.out HD3.out (by omega) hb3.size ?_; intro v4 w4 hF4 hg4 hor4; have hb4 : Below w.heap.size w w4 := frow_below HR3.out hg4 hb3 hb3.size)
          | (go_at_call 28; refine (rjoin_any A1 A2 n1 c1 n2 c2 h k _ _ wr.drew HX1.out hn1 l1 m1 HX2.out hn2 l2 m2).mono ?_; rintro e w2 ⟨v2, rfl, hR2, hbx⟩; obtain ⟨A3, c3, rfl, hcc3, hm3⟩ := hR2.cut; have hb2 : Below w.heap.size w w2 := hbd.trans (hbx.mono hz); have hbA : Below w2.heap.size w2 (w2.alloc (.cells #[.slice A3 16 c3] 27)) := (Below.refl _ _).alloc (Nat.le_refl _) _; have hb3 := hb2.trans (hbA.mono hb2.size); have HR3 := Lib.hid ((FRow.below HRD.out hbx).below hbA); have hc3' := cell_made w2 #[.slice A3 16 c3] 27 _ 0 _ rfl rfl; have HS3 := Lib.hid ((hR2.seg.below hbA (Nat.le_refl _)).more hbA.size); have HAP := Lib.hid (hR2.apart (fun g hg => (HLT.out g hg).2)); have HD3 := Lib.hid (fun h0 a ha => Nat.le_trans hz (hR2.from_ h0 a ha)); clear hR2)))
      have HF4 : Hid (FRow w4 w.heap.size w.heap.size v4 (k + 1) (upTo h fs (k + 1))) := by show FRow _ _ _ _ _ _; rw [HN.out]; exact hF4
      have hkn : k + 1 ≤ n / 2 := by have := hk2.out; have := hk3.out; omega
      clear hF4 hg4 hor4
      go_wp2
      go_roundw
      case measure => simp [intOf]; omega
      case rel => exact ⟨k + 1, hkn, by go_num, HF4.out, hb4⟩
    · have hd : decide ((k3 : Int) < n) = false := by simpa using hlt
      have hkn : k = n / 2 := by have := hk2.out; have := hk3.out; omega
      rw [hkn] at hR
      clear hkn
      go_wp2_with fail
      go_ret
      rw [show upT h fs = upTo h fs (n / 2) by rw [upT, HL.out]]
      exact ⟨_, rfl, hR.out, hb⟩
end Go.Proofs.YtkcbbgmilaafeaaDoor
