/-
  The program's hash trees: a copy of bytes, which numbers of leaves fit, a node, the next level.
-/
import Derived.Test.YtkcbbgmilaafeaaDoorRPath
import Derived.Test.YtkcbbgmilaafeaaDoorRClimb
import Derived.Test.YtkcbbgmilaafeaaDoorHash
import Derived.Test.YtkcbbgmilaafeaaDoorHanded
namespace Go.Proofs.YtkcbbgmilaafeaaDoor
open Go.RowKit

section
variable {w : World} {ops : Array Oper} {rest : List Oper} {o : Oper} {a : Act} {Q : Exit → Act → World → Prop}
/-- make([][]byte, 0, m). -/
theorem wpList_makeS (hg : o.guard = none) (l c : Operand) (hop : o.op = Op.makeSlice 22 l c) (B D : Nat)
    (kl kc : IntKind) (m : Nat) (L C : Int) (hl : a.eval l = .int kl L) (hc : a.eval c = .int kc C) (hL : L = 0) (hC : C = (m : Int)) (h63 : m ≤ 1048576) (hB : B ≤ w.heap.size)
    (hK : ∀ w', FRow w' B D (.slice (some ⟨w.heap.size, 0, none⟩) 0 m) 0 [] → Below w.heap.size w w' → wpList Tryd.prog ops Q rest (a.put o.dst (.slice (some ⟨w.heap.size, 0, none⟩) 0 m)) w') :
    wpList Tryd.prog ops Q (o :: rest) a w := by
  obtain ⟨i, hi, hz, hsz, hby⟩ := infoS_parts
  subst hL; subst hC
  refine wpList_plain hg fun K hK' => ?_
  have hrun := run_make (P := Tryd.prog) w 22 27 i (.slice none 0 0) Tryd.underlying22 hi hz kl kc 0 m (by omega) (by omega) (by rw [hby]; omega) (by omega)
  simp only [Int.toNat_natCast, hsz, Nat.mul_one, Value.cells] at hrun
  unfold Oper.wp
  simp [execOp, hop, hl, hc, hrun, Result.andThen]
  refine hK' _ _ (hK _ ⟨rfl, [], ⟨rfl, .inr ⟨w.heap.size, m, _, rfl, hB, heap_alloc_new w _, Nat.zero_le _, by unfold maxLen; omega, by simp [madeCells], ?_⟩⟩, fun j hj => absurd hj (by omega)⟩ ((Below.refl _ _).alloc (Nat.le_refl _) _))
  simp
end
theorem apart_new {v : Value} {A : Option Addr} {n B : Nat} (h : 0 < n → ∀ a, A = some a → B ≤ a.block) (hv : ∀ g, v.ownBlock = some g → g < B) : Apart v A n := fun hn a ha e => by
  have := h hn a ha
  have := hv _ e
  omega

set_option maxRecDepth 100000 in
set_option maxHeartbeats 1000000 in
theorem bclone_any (A : Option Addr) (n c : Nat) (xs : List Int) (w : World) (hs : Seg w w.heap.size .u8 A n xs) (hn : n ≤ 1099511627776) :
    Calls Tryd.prog 23 #[.slice A n c] w fun e w' => ∃ v, e = .returned v ∧ Row w' w.heap.size 5 .u8 v n xs ∧ Below w.heap.size w w' := by
  obtain ⟨i0, hi, hz0, hz1, hz2⟩ := info_parts Tryd.infoU8
  have hq : ∀ (w : World) (a : Option Addr) (n c n' c' : Nat), (binOp .eql 27 (.slice a n c) (.slice none n' c')).run Tryd.prog w = .ok (.bool a.isNone) w := fun w a n c n' c' => Lib.run_eql_slice_nil w _ _ a n c n' c' Tryd.underlying27
  have HL := Lib.hid hs.1
  have hb0 : Below w.heap.size w (w.alloc (.cells #[] 5)) := (Below.refl _ _).alloc (Nat.le_refl _) _
  have HS0 := Lib.hid (hs.below hb0 (Nat.le_refl _))
  have HO := Lib.hid (own_empty w 5 .u8 w.heap.size (Nat.le_refl _))
  have hz := hb0.size
  have HN : Hid (A = none → n = 0) := by
    intro h
    rcases Nat.eq_zero_or_pos n with h0 | h0
    · exact h0
    · obtain ⟨_, _, h1, _⟩ := hs.2 h0
      rw [h] at h1
      cases h1
  clear hs
  cases A with
  | none =>
    have h0 := HN.out rfl
    subst h0
    have hx : xs = [] := List.eq_nil_of_length_eq_zero HL.out
    subst hx
    clear HN
    go_enter Tryd.func23, Tryd.ntmps23
    go_wp2_with fail
    go_ret
    exact ⟨_, rfl, nil_row _ _ _ _, Below.refl _ _⟩
  | some a =>
    clear HN
    go_enter Tryd.func23, Tryd.ntmps23
    go_wp2_with (at_builtin; refine wpList_app _ rfl (.tmp 5) (.tmp 6) 27 rfl w.heap.size 5 i0 (.int .u8 0) 1 Tryd.underlying27 hi hz0 hz1 hz2 rfl .u8 (.slice (some ⟨w.heap.size, 0, none⟩) 0 0) [] rfl HO.out w.heap.size (some a) n c xs rfl HS0.out (by unfold maxLen; simp; omega) (by simp; omega) hz ?_; intro v2 w2 hown2 hg2 hor2; have hb2 := own_below (k := .u8) (xs := []) HO.out hg2 hb0 hz; clear hg2 hor2)
    go_ret
    exact ⟨_, rfl, Own.row hown2 HL.out, hb2⟩

set_option maxRecDepth 100000 in
set_option maxHeartbeats 2000000 in
theorem wwidth_any (n : Nat) (w : World) : Calls Tryd.prog 21 #[.int .i64 n] w fun e w' => e = .returned (.bool (fitB n)) ∧ w = w' := by
  go_enter Tryd.func21, Tryd.ntmps21
  go_wp2_with fail
  go_loopw [4] (fun i wr => ∃ j : Nat, j ≤ 4 ∧ i = .int .i64 j ∧ Hid (∀ f, f < j → n ≠ 2 ^ f) ∧ w = wr) (fun i _ => 4 - (intOf i).toNat)
  case atStart => exact ⟨0, by omega, rfl, fun f h => absurd h (by omega), rfl⟩
  case round =>
    obtain ⟨j, hj, rfl, hN, rfl⟩ := hrel
    by_cases hlt : j < 4
    · have hd : decide ((j : Int) < 4) = true := by simp; omega
      obtain ⟨N, hP⟩ : ∃ N : Nat, Hid (2 ^ j = N) := ⟨2 ^ j, rfl⟩
      have hN8 : N ≤ 8 := by rw [← hP.out]; exact two_three (by omega)
      obtain ⟨hw1, hw2⟩ := pow_wrap j N hP.out hN8
      by_cases he : n = N
      · have hF : Hid (fitB n = true) := by
          show _ = _
          have h := hP.out
          rw [he, ← h]
          rcases (by omega : j = 0 ∨ j = 1 ∨ j = 2 ∨ j = 3) with rfl | rfl | rfl | rfl <;> rfl
        have hb : ((n : Int) == (N : Int)) = true := by simp; omega
        have hb2 : (n == N) = true := by simpa using he
        clear he
        go_wp2_with fail
        go_ret
        exact ⟨by rw [hF.out]; rfl, rfl⟩
      · have hb : ((n : Int) == (N : Int)) = false := by simp; omega
        have hb2 : (n == N) = false := by simpa using he
        have HN2 : Hid (∀ f, f < j + 1 → n ≠ 2 ^ f) := by
          intro f hf
          rcases (by omega : f < j ∨ f = j) with h | rfl
          · exact hN.out f h
          · rw [hP.out]; exact he
        clear he
        go_wp2_with fail
        go_roundw
        case measure => simp [intOf]; omega
        case rel => exact ⟨j + 1, by omega, by go_num, HN2, trivial⟩
    · have hd : decide ((j : Int) < 4) = false := by simp; omega
      have hF : Hid (fitB n = false) := by
        show _ = _
        have h0 := hN.out 0 (by omega)
        have h1 := hN.out 1 (by omega)
        have h2 := hN.out 2 (by omega)
        have h3 := hN.out 3 (by omega)
        unfold fitB
        simp
        omega
      go_wp2_with fail
      go_ret
      exact ⟨by rw [hF.out]; rfl, rfl⟩

set_option maxRecDepth 100000 in
set_option maxHeartbeats 2000000 in
/-- Node i of level h + 1. -/
theorem wparent_any (A A2 : Option Addr) (n c n2 c2 h i : Nat) (x y : List Int) (w : World) (hs : Seg w w.heap.size .u8 A n x) (hn : n ≤ 1048576) (hc : n ≤ c) (hm : c ≤ maxLen) (ht : Seg w w.heap.size .u8 A2 n2 y) (hn2 : n2 ≤ 1048576) (hc2 : n2 ≤ c2) (hm2 : c2 ≤ maxLen) (hK : Tab w 0 .u32 kay256) :
    Calls Tryd.prog 27 #[.int .i64 h, .int .i64 i, .slice A n c, .slice A2 n2 c2] w fun e w' => HandedN w w' 16 (nodeT h i x y) e := by
  have HL := Lib.hid hs.1
  have HL2 := Lib.hid ht.1
  have HK := Lib.hid hK
  have hk0 := hK.lt
  have HF := Lib.hid (laid_three w [(h : Int) % 256, (i : Int) % 256] A A2 n c n2 c2 x y 5 27 hs hc hm ht hc2 hm2 (by simp))
  clear hs ht hK
  go_enter Tryd.func27, Tryd.ntmps27
  go_wp2_with fail
  obtain ⟨wq, HWQ⟩ : ∃ wq, Hid ((w.alloc (.cells (ints .u8 [(h : Int) % 256, (i : Int) % 256]).toArray 5)).alloc (.cells #[.slice (some ⟨w.heap.size, 0, none⟩) 2 2, .slice A n c, .slice A2 n2 c2] 27) = wq) := ⟨_, rfl⟩
  have HF1 : Hid (Fields wq wq.heap.size (some ⟨w.heap.size + 1, 0, none⟩) 3 [[(h : Int) % 256, (i : Int) % 256], x, y]) := by show Fields _ _ _ _ _; rw [← HWQ.out]; exact HF.out.1
  have hb0 : Below w.heap.size w wq := by rw [← HWQ.out]; exact HF.out.2
  have hz := hb0.size
  show Calls Tryd.prog 31 _ ((w.alloc (.cells (ints .u8 [(h : Int) % 256, (i : Int) % 256]).toArray 5)).alloc (.cells #[.slice (some ⟨w.heap.size, 0, none⟩) 2 2, .slice A n c, .slice A2 n2 c2] 27)) _
  rw [HWQ.out]
  refine (hash_any 3 _ 3 3 _ wq HF1.out (by omega) (by simp [tot]; rw [HL.out, HL2.out]; omega) (HK.out.below hb0 hk0)).mono ?_
  rintro e w1 ⟨v1, rfl, hown1, hb1⟩
  have hR1 : Row w1 wq.heap.size 5 .u8 v1 32 (sha256 (frameI 3 [[(h : Int) % 256, (i : Int) % 256], x, y])) := hown1.row (sha256_length _)
  obtain ⟨g1, c1, rfl, hg1⟩ := hR1.at_ (by omega)
  obtain ⟨hc1, hm1⟩ := hR1.caps
  have HR1 := Lib.hid hR1
  have hsl := slice_hm (some ⟨g1, 0, none⟩) 32 c1 16 (by omega)
  clear hR1 hown1
  go_wp2_with fail
  go_ret
  exact ⟨some ⟨g1, 0, none⟩, 16, rfl, by omega, by unfold maxLen; omega, HR1.out.seg.take (by omega), hb0.trans (hb1.mono hz), fun _ a ha => by injection ha with ha; rw [← ha]; exact Nat.le_trans hz hg1⟩

set_option maxRecDepth 100000 in
set_option maxHeartbeats 2000000 in
theorem wabove_any (A : Option Addr) (n c h : Nat) (fs : List (List Int)) (w : World) (hs : Fields w w.heap.size A n fs) (hn : n ≤ 1048576) (hsh : ∀ x ∈ fs, x.length ≤ 1048576) (hK : Tab w 0 .u32 kay256) :
    Calls Tryd.prog 22 #[.int .i64 h, .slice A n c] w fun e w' => ∃ v, e = .returned v ∧ FRow w' w.heap.size w.heap.size v (n / 2) (upT h fs) ∧ Below w.heap.size w w' := by
  have HS := Lib.hid hs
  have HL := Lib.hid hs.1
  have HSH := Lib.hid hsh
  have HK := Lib.hid hK
  have hk0 := hK.lt
  clear hs hsh hK
  obtain ⟨M, hM⟩ : ∃ M : Nat, Hid (n / 2 = M) := ⟨_, rfl⟩
  have hM2 : 2 * M ≤ n := by have := hM.out; omega
  have hquo : IntKind.i64.wrap ((n : Int).tdiv 2) = (M : Int) := by rw [IntWalk.i64_quo _ _ (by omega), ← hM.out]; omega
  go_enter Tryd.func22, Tryd.ntmps22
  go_wp2_with (at_make; refine wpList_makeS rfl _ _ rfl w.heap.size w.heap.size .i64 .i64 M _ _ rfl rfl rfl (by have := hM.out; omega) (by omega) (Nat.le_refl _) ?_; intro w0 hR0 hb0)
  have HR0 := Lib.hid hR0
  clear hR0
  go_wp2_with fail
  go_loopw [5, 14] (fun v i wr => ∃ k : Nat, k ≤ M ∧ i = .int .i64 k ∧ Hid (FRow wr w.heap.size w.heap.size v k (upTo h fs k)) ∧ Below w.heap.size w wr) (fun _ i _ => M - (intOf i).toNat)
  case atStart => exact ⟨0, by omega, rfl, HR0.out, hb0⟩
  case round =>
    clear HR0 hb0
    obtain ⟨k, hk, rfl, hR, hb⟩ := hrel
    have hz := hb.size
    by_cases hlt : k < M
    · obtain ⟨k2, hk2⟩ : ∃ k2 : Nat, Hid (2 * k = k2) := ⟨2 * k, rfl⟩
      obtain ⟨k3, hk3⟩ : ∃ k3 : Nat, Hid (k2 + 1 = k3) := ⟨k2 + 1, rfl⟩
      have hw1 : IntKind.i64.wrap (2 * (k : Int)) = (k2 : Int) := by have := hk2.out; rw [IntWalk.i64_in _ (by omega)]; omega
      have hw2 : IntKind.i64.wrap ((k2 : Int) + 1) = (k3 : Int) := by have := hk3.out; have := hk2.out; rw [IntWalk.i64_in _ (by omega)]; omega
      have hlt3 : k3 < n := by have := hk3.out; have := hk2.out; omega
      have hd : decide ((k : Int) < (n : Int) / 2) = true := by have := hM.out; simp; omega
      obtain ⟨b, off, rfl, hbl, hcl⟩ := HS.out.2 (by omega)
      obtain ⟨A1, n1, c1, e1, s1, l1, m1⟩ := hcl k2 (by have := hk3.out; omega)
      obtain ⟨A2, n2, c2, e2, s2, l2, m2⟩ := hcl k3 hlt3
      have hcx := (hb.cell (p := ⟨b, off + k2, none⟩) hbl).trans e1
      have hcy := (hb.cell (p := ⟨b, off + k3, none⟩) hbl).trans e2
      have hi0 : (0 : Int) ≤ (k2 : Int) := by omega
      have hi1 : (k2 : Int) < n := by have := hk3.out; omega
      have hi2 : (0 : Int) ≤ (k3 : Int) := by omega
      have hi3 : (k3 : Int) < n := by omega
      have HX1 := Lib.hid ((s1.below hb (Nat.le_refl _)).more hz)
      have HX2 := Lib.hid ((s2.below hb (Nat.le_refl _)).more hz)
      have hn1 : n1 ≤ 1048576 := by rw [← s1.1]; exact get_short HSH.out k2
      have hn2 : n2 ≤ 1048576 := by rw [← s2.1]; exact get_short HSH.out k3
      have HKR := Lib.hid (HK.out.below hb hk0)
      have HLT := Lib.hid hR.out.lt
      have hbd := hb.drew
      have HRD : Hid (FRow wr.drew w.heap.size w.heap.size _ k (upTo h fs k)) := hR.out
      have HCC : Hid (∀ W, Below w.heap.size w W → W.cell? ⟨b, off + k2, none⟩ = some (.slice A1 n1 c1) ∧ W.cell? ⟨b, off + k3, none⟩ = some (.slice A2 n2 c2)) := fun W hW => ⟨(hW.cell (p := ⟨b, off + k2, none⟩) hbl).trans e1, (hW.cell (p := ⟨b, off + k3, none⟩) hbl).trans e2⟩
      have HN : Hid (upTo h fs (k + 1) = upTo h fs k ++ [nodeT h k (fs.getD k2 []) (fs.getD k3 [])]) := by show _ = _; rw [upTo_next, hk2.out, hk3.out]
      have hkn : k + 1 ≤ M := by omega
      clear hcl s1 s2 e1 e2
      go_wp2_with fail
      go_region_held3 (fun W => W.cell? ⟨b, off + k2, none⟩ = some (.slice A1 n1 c1) ∧ W.cell? ⟨b, off + k3, none⟩ = some (.slice A2 n2 c2))
        (first
          | go_keep
          | exact HCC.out _ hb4
          | exact HCC.out _ hb3
          | exact HCC.out _ hb2
          | exact HCC.out _ hbd)
        ((first
          | (refine step_app1 (by rfl) (.tmp 17) (.tmp 32) (by rfl) w.heap.size w.heap.size w2.heap.size _ k (upTo h fs k) (by rfl) HR3.out 1 A3 16 c3 (nodeT h k (fs.getD k2 []) (fs.getD k3 [])) (by rfl) hc3' HS3.out hcc3 hm3 HAP.out HD3.out (by omega) hb3.size ?_; intro v4 w4 hF4 hg4 hor4; have hb4 : Below w.heap.size w w4 := frow_below HR3.out hg4 hb3 hb3.size)
          | (go_at_call 27; refine (wparent_any A1 A2 n1 c1 n2 c2 h k _ _ wr.drew HX1.out hn1 l1 m1 HX2.out hn2 l2 m2 HKR.out).mono ?_; rintro e w2 ⟨A3, c3, rfl, hcc3, hm3, hS2, hbx, hfr⟩; have hb2 : Below w.heap.size w w2 := hbd.trans (hbx.mono hz); have hbA : Below w2.heap.size w2 (w2.alloc (.cells #[.slice A3 16 c3] 27)) := (Below.refl _ _).alloc (Nat.le_refl _) _; have hb3 := hb2.trans (hbA.mono hb2.size); have HR3 := Lib.hid ((FRow.below HRD.out hbx).below hbA); have hc3' := cell_made w2 #[.slice A3 16 c3] 27 _ 0 _ rfl rfl; have HS3 := Lib.hid ((hS2.below hbA (Nat.le_refl _)).more hbA.size); have HAP := Lib.hid (apart_new hfr (fun g hg => (HLT.out g hg).2)); have HD3 := Lib.hid (fun h0 a ha => Nat.le_trans hz (hfr h0 a ha)); clear hS2 hfr)))
      have HF4 : Hid (FRow w4 w.heap.size w.heap.size v4 (k + 1) (upTo h fs (k + 1))) := by show FRow _ _ _ _ _ _; rw [HN.out]; exact hF4
      clear hF4 hg4 hor4
      go_wp2
      go_roundw
      case measure => simp [intOf]; omega
      case rel => exact ⟨k + 1, hkn, by go_num, HF4, hb4⟩
    · have hd : decide ((k : Int) < (n : Int) / 2) = false := by have := hM.out; simp; omega
      have hkM : k = M := by omega
      have HE : Hid (upT h fs = upTo h fs M) := by show _ = _; rw [upT, HL.out, hM.out]
      rw [hkM] at hR
      clear hkM
      go_wp2_with fail
      go_ret
      rw [HE.out, hM.out]
      exact ⟨_, rfl, hR.out, hb⟩
end Go.Proofs.YtkcbbgmilaafeaaDoor
