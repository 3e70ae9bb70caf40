/-
  The program's frames.
  The program's hash of a frame.
  The program's hash trees: a copy of bytes, which numbers of leaves fit, a node, the next level.
  The program's root of a tree, path of a leaf, and way of a leaf.
  The program's one-time signatures: is there such a leaf, the public value of the ends, the first nodes, the last positions.
  The program's step of a chain: a closure over the leaf, the number of the chain and the node.
  A block of zeros that is filled from the front.
-/
import Derived.Test.YtljkkejjnimjcaaDoorBase4
import Derived.Test.YtljkkejjnimjcaaDoorBase1
import Derived.Test.YtljkkejjnimjcaaDoorBase9
import Derived.Test.YtljkkejjnimjcaaDoorBase7
namespace Go.Proofs.YtljkkejjnimjcaaDoor
open Go.RowKit

set_option maxRecDepth 100000 in
set_option maxHeartbeats 2000000 in
theorem frame_any (tag : Int) (A : Option Addr) (n c : Nat) (fs : List (List Int)) (w : World) (hs : Fields w w.heap.size A n fs) (hn : n ≤ 1048576) (ht : tot fs ≤ 1099511627776) :
    Calls Tryd.prog 72 #[.int .i64 tag, .slice A n c] w fun e w' => ∃ v, e = .returned v ∧ Own w' w.heap.size 5 .u8 v (frameI tag fs) ∧ Below w.heap.size w w' := by
  obtain ⟨i0, hi, hz0, hz1, hz2⟩ := info_parts Tryd.infoU8
  have HS := Lib.hid hs
  have hlen : fs.length = n := hs.1
  have HLN := Lib.hid hlen
  clear hs hlen
  go_enter Tryd.func72, Tryd.ntmps72
  go_wp2_with fail
  go_loop [5, 13] (fun s i => ∃ k : Nat, k ≤ n ∧ i = .int .i64 k ∧ s = .int .i64 ((1 + 4 * k + tot (fs.take k) : Nat) : Int)) (fun _ i => n - (intOf i).toNat)
  case atStart => exact ⟨0, by omega, rfl, rfl⟩
  case round =>
    obtain ⟨k, hk, rfl, rfl⟩ := hrel
    obtain ⟨s, hsz⟩ : ∃ s, Hid (1 + 4 * k + tot (fs.take k) = s) := ⟨_, rfl⟩
    rw [hsz.out]
    have hsb : s ≤ 1 + 4 * n + 1099511627776 := by have := tot_take_le fs k; have := hsz.out; omega
    by_cases hlt : k < n
    · obtain ⟨b, off, rfl, _, hc⟩ := HS.out.2 (by omega)
      obtain ⟨A', n', c', h1, h2, _, _⟩ := hc k hlt
      have hn' : n' ≤ 1099511627776 := by have := h2.1; have := tot_get_le fs k (by rw [HLN.out]; exact hlt); omega
      have HL := Lib.hid h2.1
      have hd : decide ((k : Int) < n) = true := by simp; omega
      clear hc h2
      go_wp2_with fail
      go_round
      case measure => simp [intOf]; omega
      case rel =>
        refine ⟨k + 1, by omega, by go_num, ?_⟩
        have h := tot_take fs k (by rw [HLN.out]; exact hlt)
        have h3 := HL.out
        have h4 := hsz.out
        rw [h, h3]
        congr 1
        omega
    · have hd : decide ((k : Int) < n) = false := by simp; omega
      go_wp2_with (first
        | (at_make; refine wpList_make_own _ rfl _ _ 22 rfl w.heap.size 5 i0 (.int .u8 0) 1 Tryd.underlying22 hi hz0 hz1 .i64 .i64 _ s rfl rfl rfl (by rw [hz2]; omega) (by unfold maxLen; omega) (Nat.le_refl _) ?_; intro w1 hown1 hg1; have hb1 : Below w.heap.size w w1 := (Below.refl _ _).grown hg1 (Nat.le_refl _) (fun r hr => by cases hr); have hz1' := hb1.size; clear hg1)
        | (at_builtin; refine wpList_app _ rfl (.tmp 24) (.tmp 27) 22 rfl w.heap.size 5 i0 (.int .u8 0) 1 Tryd.underlying22 hi hz0 hz1 hz2 rfl .u8 _ [] rfl (hown1.alloc _) (w1.heap.size + 1) (some ⟨w1.heap.size, 0, none⟩) 1 1 [tag % 256] rfl ((Seg.of_blk (Blk.new w1 5 .u8 [tag % 256])).more (by simp)) (by unfold maxLen; simp) (by simp) (by simp; omega) ?_; intro v3 w3 hown3 hg3 hor3; have hb3 := own_below (k := .u8) (xs := []) (hown1.alloc _) hg3 (hb1.alloc hz1' _) (by simp; omega); clear hg3 hor3))
      clear hb1 hz1'
      go_loopw [8, 31] (fun v i wr => ∃ k : Nat, k ≤ n ∧ i = .int .i64 k ∧ Own wr w.heap.size 5 .u8 v (frameI tag (fs.take k)) ∧ Below w.heap.size w wr) (fun _ i _ => n - (intOf i).toNat)
      case atStart => exact ⟨0, by omega, rfl, hown3, hb3⟩
      case round =>
        clear hown3 hb3 hd hsb
        obtain ⟨j, hj, rfl, hown, hb⟩ := hrel
        have hz := hb.size
        have hfl : (frameI tag (fs.take j)).length ≤ 1 + 4 * n + 1099511627776 := by
          rw [frameI_length]
          have := tot_take_le fs j
          have : (fs.take j).length ≤ n := by simp; omega
          omega
        by_cases hjt : j < n
        · obtain ⟨b, off, rfl, hbl, hc⟩ := HS.out.2 (by omega)
          obtain ⟨A', n', c', h1, h2, hnc, hcm⟩ := hc j hjt
          have hn' : n' ≤ 1099511627776 := by have := h2.1; have := tot_get_le fs j (by rw [HLN.out]; exact hjt); omega
          obtain ⟨f, hf⟩ : ∃ f, Hid (fs.getD j [] = f) := ⟨_, rfl⟩
          rw [hf.out] at h2
          have h1r := (hb.cell (p := ⟨b, off + j, none⟩) hbl).trans h1
          have HF := Lib.hid h2
          have hd : decide ((j : Int) < n) = true := by simp; omega
          clear hc h2 h1
          go_wp2_with (first
            | (go_at_call 77; refine (appendWord_any w.heap.size _ _ _ wr hown (by omega) hz).mono ?_; rintro e w4 ⟨v4, rfl, hown4, hg4⟩; have hb4 := own_below hown hg4 hb hz; have hz4 := hb4.size; have hs4 := HF.out.below hb4 (Nat.le_refl _); clear hg4)
            | (at_builtin; refine wpList_app _ rfl (.tmp 40) (.tmp 41) 22 rfl w.heap.size 5 i0 (.int .u8 0) 1 Tryd.underlying22 hi hz0 hz1 hz2 rfl .u8 _ _ rfl hown4 _ A' n' c' f rfl hs4 (by unfold maxLen; rw [List.length_append]; simp [be4]; omega) (by rw [List.length_append]; simp [be4]; omega) hz4 ?_; intro v5 w5 hown5 hg5 hor5; have hb5 := own_below hown4 hg5 hb4 hz4; clear hg5 hor5 hs4))
          refine ⟨⟨j + 1, by omega, by go_num, ?_, hb5⟩, by simp [intOf]; omega⟩
          rw [frameI_take _ _ _ (by rw [HLN.out]; exact hjt), hf.out, HF.out.1]
          exact hown5
        · have hd : decide ((j : Int) < n) = false := by simp; omega
          have hw : fs.take j = fs := List.take_of_length_le (by rw [HLN.out]; omega)
          rw [hw] at hown
          clear hw hfl
          go_wp2_with fail
          go_ret
          exact ⟨_, rfl, hown, hb⟩

end Go.Proofs.YtljkkejjnimjcaaDoor
namespace Go.Proofs.YtljkkejjnimjcaaDoor
open Go.RowKit

set_option maxRecDepth 100000 in
set_option maxHeartbeats 1000000 in
/-- The hash of a frame. -/
theorem hash_any (tag : Int) (A : Option Addr) (n c : Nat) (fs : List (List Int)) (w : World) (hs : Fields w w.heap.size A n fs) (hn : n ≤ 1048576) (ht : tot fs ≤ 1073741824) (hK : Tab w 0 .u32 kay256) :
    Calls Tryd.prog 65 #[.int .i64 tag, .slice A n c] w fun e w' => ∃ v, e = .returned v ∧ Own w' w.heap.size 5 .u8 v (sha256 (frameI tag fs)) ∧ Below w.heap.size w w' := by
  have HS := Lib.hid hs
  have HK := Lib.hid hK
  have HLN := Lib.hid hs.1
  clear hs hK
  go_enter Tryd.func65, Tryd.ntmps65
  go_wp2_with fail
  refine (frame_any tag A n c fs w HS.out hn (by omega)).mono ?_
  rintro e w1 ⟨v1, rfl, hown1, hb1⟩
  obtain ⟨A1, c1, rfl, h1, h2⟩ := Own.cut hown1
  have hseg := Seg.of_own hown1
  have hfl : (frameI tag fs).length ≤ 1099511627776 := by rw [frameI_length, HLN.out]; omega
  unfold maxLen at h2
  go_wp2_with fail
  refine (sum_any 1 A1 _ c1 _ w1 hseg hfl h1 (by omega) (HK.out.below hb1 HK.out.lt)).mono ?_
  rintro e w2 ⟨v2, rfl, hown2, hb2⟩
  go_wp2
  go_ret
  exact ⟨_, rfl, Own.less hown2 hb1.size, hb1.trans (hb2.mono hb1.size)⟩
end Go.Proofs.YtljkkejjnimjcaaDoor
namespace Go.Proofs.YtljkkejjnimjcaaDoor
open Go.RowKit

section
variable {w : World} {ops : Array Oper} {rest : List Oper} {o : Oper} {a : Act} {Q : Exit → Act → World → Prop}
/-- make([][]byte, 0, m). -/
theorem wpList_makeS (hg : o.guard = none) (l c : Operand) (hop : o.op = Op.makeSlice 37 l c) (B D : Nat)
    (kl kc : IntKind) (m : Nat) (L C : Int) (hl : a.eval l = .int kl L) (hc : a.eval c = .int kc C) (hL : L = 0) (hC : C = (m : Int)) (h63 : m ≤ 1048576) (hB : B ≤ w.heap.size)
    (hK : ∀ w', FRow w' B D (.slice (some ⟨w.heap.size, 0, none⟩) 0 m) 0 [] → Below w.heap.size w w' → wpList Tryd.prog ops Q rest (a.put o.dst (.slice (some ⟨w.heap.size, 0, none⟩) 0 m)) w') :
    wpList Tryd.prog ops Q (o :: rest) a w := by
  obtain ⟨i, hi, hz, hsz, hby⟩ := infoS_parts
  subst hL; subst hC
  refine wpList_plain hg fun K hK' => ?_
  have hrun := run_make (P := Tryd.prog) w 37 22 i (.slice none 0 0) Tryd.underlying37 hi hz kl kc 0 m (by omega) (by omega) (by rw [hby]; omega) (by omega)
  simp only [Int.toNat_natCast, hsz, Nat.mul_one, Value.cells] at hrun
  unfold Oper.wp
  simp [execOp, hop, hl, hc, hrun, Result.andThen]
  refine hK' _ _ (hK _ ⟨rfl, [], ⟨rfl, .inr ⟨w.heap.size, m, _, rfl, hB, heap_alloc_new w _, Nat.zero_le _, by unfold maxLen; omega, by simp [madeCells], ?_⟩⟩, fun j hj => absurd hj (by omega)⟩ ((Below.refl _ _).alloc (Nat.le_refl _) _))
  simp
end
theorem apart_new {v : Value} {A : Option Addr} {n B : Nat} (h : 0 < n → ∀ a, A = some a → B ≤ a.block) (hv : ∀ g, v.ownBlock = some g → g < B) : Apart v A n := fun hn a ha e => by
  have := h hn a ha
  have := hv _ e
  omega

set_option maxRecDepth 100000 in
set_option maxHeartbeats 1000000 in
theorem bclone_any (A : Option Addr) (n c : Nat) (xs : List Int) (w : World) (hs : Seg w w.heap.size .u8 A n xs) (hn : n ≤ 1099511627776) :
    Calls Tryd.prog 40 #[.slice A n c] w fun e w' => ∃ v, e = .returned v ∧ Row w' w.heap.size 5 .u8 v n xs ∧ Below w.heap.size w w' := by
  obtain ⟨i0, hi, hz0, hz1, hz2⟩ := info_parts Tryd.infoU8
  have hq : ∀ (w : World) (a : Option Addr) (n c n' c' : Nat), (binOp .eql 22 (.slice a n c) (.slice none n' c')).run Tryd.prog w = .ok (.bool a.isNone) w := fun w a n c n' c' => Lib.run_eql_slice_nil w _ _ a n c n' c' Tryd.underlying22
  have HL := Lib.hid hs.1
  have hb0 : Below w.heap.size w (w.alloc (.cells #[] 5)) := (Below.refl _ _).alloc (Nat.le_refl _) _
  have HS0 := Lib.hid (hs.below hb0 (Nat.le_refl _))
  have HO := Lib.hid (own_empty w 5 .u8 w.heap.size (Nat.le_refl _))
  have hz := hb0.size
  have HN : Hid (A = none → n = 0) := by
    intro h
    rcases Nat.eq_zero_or_pos n with h0 | h0
    · exact h0
    · obtain ⟨_, _, h1, _⟩ := hs.2 h0
      rw [h] at h1
      cases h1
  clear hs
  cases A with
  | none =>
    have h0 := HN.out rfl
    subst h0
    have hx : xs = [] := List.eq_nil_of_length_eq_zero HL.out
    subst hx
    clear HN
    go_enter Tryd.func40, Tryd.ntmps40
    go_wp2_with fail
    go_ret
    exact ⟨_, rfl, nil_row _ _ _ _, Below.refl _ _⟩
  | some a =>
    clear HN
    go_enter Tryd.func40, Tryd.ntmps40
    go_wp2_with (at_builtin; refine wpList_app _ rfl (.tmp 5) (.tmp 6) 22 rfl w.heap.size 5 i0 (.int .u8 0) 1 Tryd.underlying22 hi hz0 hz1 hz2 rfl .u8 (.slice (some ⟨w.heap.size, 0, none⟩) 0 0) [] rfl HO.out w.heap.size (some a) n c xs rfl HS0.out (by unfold maxLen; simp; omega) (by simp; omega) hz ?_; intro v2 w2 hown2 hg2 hor2; have hb2 := own_below (k := .u8) (xs := []) HO.out hg2 hb0 hz; clear hg2 hor2)
    go_ret
    exact ⟨_, rfl, Own.row hown2 HL.out, hb2⟩

set_option maxRecDepth 100000 in
set_option maxHeartbeats 2000000 in
theorem wwidth_any (n : Nat) (w : World) : Calls Tryd.prog 38 #[.int .i64 n] w fun e w' => e = .returned (.bool (fitB n)) ∧ w = w' := by
  go_enter Tryd.func38, Tryd.ntmps38
  go_wp2_with fail
  go_loopw [4] (fun i wr => ∃ j : Nat, j ≤ 4 ∧ i = .int .i64 j ∧ Hid (∀ f, f < j → n ≠ 2 ^ f) ∧ w = wr) (fun i _ => 4 - (intOf i).toNat)
  case atStart => exact ⟨0, by omega, rfl, fun f h => absurd h (by omega), rfl⟩
  case round =>
    obtain ⟨j, hj, rfl, hN, rfl⟩ := hrel
    by_cases hlt : j < 4
    · have hd : decide ((j : Int) < 4) = true := by simp; omega
      obtain ⟨N, hP⟩ : ∃ N : Nat, Hid (2 ^ j = N) := ⟨2 ^ j, rfl⟩
      have hN8 : N ≤ 8 := by rw [← hP.out]; exact two_three (by omega)
      obtain ⟨hw1, hw2⟩ := pow_wrap j N hP.out hN8
      by_cases he : n = N
      · have hF : Hid (fitB n = true) := by
          show _ = _
          have h := hP.out
          rw [he, ← h]
          rcases (by omega : j = 0 ∨ j = 1 ∨ j = 2 ∨ j = 3) with rfl | rfl | rfl | rfl <;> rfl
        have hb : ((n : Int) == (N : Int)) = true := by simp; omega
        have hb2 : (n == N) = true := by simpa using he
        clear he
        go_wp2_with fail
        go_ret
        exact ⟨by rw [hF.out]; rfl, rfl⟩
      · have hb : ((n : Int) == (N : Int)) = false := by simp; omega
        have hb2 : (n == N) = false := by simpa using he
        have HN2 : Hid (∀ f, f < j + 1 → n ≠ 2 ^ f) := by
          intro f hf
          rcases (by omega : f < j ∨ f = j) with h | rfl
          · exact hN.out f h
          · rw [hP.out]; exact he
        clear he
        go_wp2_with fail
        go_roundw
        case measure => simp [intOf]; omega
        case rel => exact ⟨j + 1, by omega, by go_num, HN2, trivial⟩
    · have hd : decide ((j : Int) < 4) = false := by simp; omega
      have hF : Hid (fitB n = false) := by
        show _ = _
        have h0 := hN.out 0 (by omega)
        have h1 := hN.out 1 (by omega)
        have h2 := hN.out 2 (by omega)
        have h3 := hN.out 3 (by omega)
        unfold fitB
        simp
        omega
      go_wp2_with fail
      go_ret
      exact ⟨by rw [hF.out]; rfl, rfl⟩

set_option maxRecDepth 100000 in
set_option maxHeartbeats 2000000 in
/-- Node i of level h + 1. -/
theorem wparent_any (A A2 : Option Addr) (n c n2 c2 h i : Nat) (x y : List Int) (w : World) (hs : Seg w w.heap.size .u8 A n x) (hn : n ≤ 1048576) (hc : n ≤ c) (hm : c ≤ maxLen) (ht : Seg w w.heap.size .u8 A2 n2 y) (hn2 : n2 ≤ 1048576) (hc2 : n2 ≤ c2) (hm2 : c2 ≤ maxLen) (hK : Tab w 0 .u32 kay256) :
    Calls Tryd.prog 57 #[.int .i64 h, .int .i64 i, .slice A n c, .slice A2 n2 c2] w fun e w' => HandedN w w' 16 (nodeT h i x y) e := by
  have HL := Lib.hid hs.1
  have HL2 := Lib.hid ht.1
  have HK := Lib.hid hK
  have hk0 := hK.lt
  have HF := Lib.hid (laid_three w [(h : Int) % 256, (i : Int) % 256] A A2 n c n2 c2 x y 5 22 hs hc hm ht hc2 hm2 (by simp))
  clear hs ht hK
  go_enter Tryd.func57, Tryd.ntmps57
  go_wp2_with fail
  obtain ⟨wq, HWQ⟩ : ∃ wq, Hid ((w.alloc (.cells (ints .u8 [(h : Int) % 256, (i : Int) % 256]).toArray 5)).alloc (.cells #[.slice (some ⟨w.heap.size, 0, none⟩) 2 2, .slice A n c, .slice A2 n2 c2] 22) = wq) := ⟨_, rfl⟩
  have HF1 : Hid (Fields wq wq.heap.size (some ⟨w.heap.size + 1, 0, none⟩) 3 [[(h : Int) % 256, (i : Int) % 256], x, y]) := by show Fields _ _ _ _ _; rw [← HWQ.out]; exact HF.out.1
  have hb0 : Below w.heap.size w wq := by rw [← HWQ.out]; exact HF.out.2
  have hz := hb0.size
  show Calls Tryd.prog 65 _ ((w.alloc (.cells (ints .u8 [(h : Int) % 256, (i : Int) % 256]).toArray 5)).alloc (.cells #[.slice (some ⟨w.heap.size, 0, none⟩) 2 2, .slice A n c, .slice A2 n2 c2] 22)) _
  rw [HWQ.out]
  refine (hash_any 3 _ 3 3 _ wq HF1.out (by omega) (by simp [tot]; rw [HL.out, HL2.out]; omega) (HK.out.below hb0 hk0)).mono ?_
  rintro e w1 ⟨v1, rfl, hown1, hb1⟩
  have hR1 : Row w1 wq.heap.size 5 .u8 v1 32 (sha256 (frameI 3 [[(h : Int) % 256, (i : Int) % 256], x, y])) := hown1.row (sha256_length _)
  obtain ⟨g1, c1, rfl, hg1⟩ := hR1.at_ (by omega)
  obtain ⟨hc1, hm1⟩ := hR1.caps
  have HR1 := Lib.hid hR1
  have hsl := slice_hm (some ⟨g1, 0, none⟩) 32 c1 16 (by omega)
  clear hR1 hown1
  go_wp2_with fail
  go_ret
  exact ⟨some ⟨g1, 0, none⟩, 16, rfl, by omega, by unfold maxLen; omega, HR1.out.seg.take (by omega), hb0.trans (hb1.mono hz), fun _ a ha => by injection ha with ha; rw [← ha]; exact Nat.le_trans hz hg1⟩

set_option maxRecDepth 100000 in
set_option maxHeartbeats 2000000 in
theorem wabove_any (A : Option Addr) (n c h : Nat) (fs : List (List Int)) (w : World) (hs : Fields w w.heap.size A n fs) (hn : n ≤ 1048576) (hsh : ∀ x ∈ fs, x.length ≤ 1048576) (hK : Tab w 0 .u32 kay256) :
    Calls Tryd.prog 39 #[.int .i64 h, .slice A n c] w fun e w' => ∃ v, e = .returned v ∧ FRow w' w.heap.size w.heap.size v (n / 2) (upT h fs) ∧ Below w.heap.size w w' := by
  have HS := Lib.hid hs
  have HL := Lib.hid hs.1
  have HSH := Lib.hid hsh
  have HK := Lib.hid hK
  have hk0 := hK.lt
  clear hs hsh hK
  obtain ⟨M, hM⟩ : ∃ M : Nat, Hid (n / 2 = M) := ⟨_, rfl⟩
  have hM2 : 2 * M ≤ n := by have := hM.out; omega
  have hquo : IntKind.i64.wrap ((n : Int).tdiv 2) = (M : Int) := by rw [IntWalk.i64_quo _ _ (by omega), ← hM.out]; omega
  go_enter Tryd.func39, Tryd.ntmps39
  go_wp2_with (at_make; refine wpList_makeS rfl _ _ rfl w.heap.size w.heap.size .i64 .i64 M _ _ rfl rfl rfl (by have := hM.out; omega) (by omega) (Nat.le_refl _) ?_; intro w0 hR0 hb0)
  have HR0 := Lib.hid hR0
  clear hR0
  go_wp2_with fail
  go_loopw [5, 14] (fun v i wr => ∃ k : Nat, k ≤ M ∧ i = .int .i64 k ∧ Hid (FRow wr w.heap.size w.heap.size v k (upTo h fs k)) ∧ Below w.heap.size w wr) (fun _ i _ => M - (intOf i).toNat)
  case atStart => exact ⟨0, by omega, rfl, HR0.out, hb0⟩
  case round =>
    clear HR0 hb0
    obtain ⟨k, hk, rfl, hR, hb⟩ := hrel
    have hz := hb.size
    by_cases hlt : k < M
    · obtain ⟨k2, hk2⟩ : ∃ k2 : Nat, Hid (2 * k = k2) := ⟨2 * k, rfl⟩
      obtain ⟨k3, hk3⟩ : ∃ k3 : Nat, Hid (k2 + 1 = k3) := ⟨k2 + 1, rfl⟩
      have hw1 : IntKind.i64.wrap (2 * (k : Int)) = (k2 : Int) := by have := hk2.out; rw [IntWalk.i64_in _ (by omega)]; omega
      have hw2 : IntKind.i64.wrap ((k2 : Int) + 1) = (k3 : Int) := by have := hk3.out; have := hk2.out; rw [IntWalk.i64_in _ (by omega)]; omega
      have hlt3 : k3 < n := by have := hk3.out; have := hk2.out; omega
      have hd : decide ((k : Int) < (n : Int) / 2) = true := by have := hM.out; simp; omega
      obtain ⟨b, off, rfl, hbl, hcl⟩ := HS.out.2 (by omega)
      obtain ⟨A1, n1, c1, e1, s1, l1, m1⟩ := hcl k2 (by have := hk3.out; omega)
      obtain ⟨A2, n2, c2, e2, s2, l2, m2⟩ := hcl k3 hlt3
      have hcx := (hb.cell (p := ⟨b, off + k2, none⟩) hbl).trans e1
      have hcy := (hb.cell (p := ⟨b, off + k3, none⟩) hbl).trans e2
      have hi0 : (0 : Int) ≤ (k2 : Int) := by omega
      have hi1 : (k2 : Int) < n := by have := hk3.out; omega
      have hi2 : (0 : Int) ≤ (k3 : Int) := by omega
      have hi3 : (k3 : Int) < n := by omega
      have HX1 := Lib.hid ((s1.below hb (Nat.le_refl _)).more hz)
      have HX2 := Lib.hid ((s2.below hb (Nat.le_refl _)).more hz)
      have hn1 : n1 ≤ 1048576 := by rw [← s1.1]; exact get_short HSH.out k2
      have hn2 : n2 ≤ 1048576 := by rw [← s2.1]; exact get_short HSH.out k3
      have HKR := Lib.hid (HK.out.below hb hk0)
      have HLT := Lib.hid hR.out.lt
      have hbd := hb.drew
      have HRD : Hid (FRow wr.drew w.heap.size w.heap.size _ k (upTo h fs k)) := hR.out
      have HCC : Hid (∀ W, Below w.heap.size w W → W.cell? ⟨b, off + k2, none⟩ = some (.slice A1 n1 c1) ∧ W.cell? ⟨b, off + k3, none⟩ = some (.slice A2 n2 c2)) := fun W hW => ⟨(hW.cell (p := ⟨b, off + k2, none⟩) hbl).trans e1, (hW.cell (p := ⟨b, off + k3, none⟩) hbl).trans e2⟩
      have HN : Hid (upTo h fs (k + 1) = upTo h fs k ++ [nodeT h k (fs.getD k2 []) (fs.getD k3 [])]) := by show _ = _; rw [upTo_next, hk2.out, hk3.out]
      have hkn : k + 1 ≤ M := by omega
      clear hcl s1 s2 e1 e2
      go_wp2_with fail
      go_region_held3 (fun W => W.cell? ⟨b, off + k2, none⟩ = some (.slice A1 n1 c1) ∧ W.cell? ⟨b, off + k3, none⟩ = some (.slice A2 n2 c2))
        (first
          | go_keep
          | exact HCC.out _ hb4
          | exact HCC.out _ hb3
          | exact HCC.out _ hb2
          | exact HCC.out _ hbd)
        ((first
          | (refine step_app1 (by rfl) (.tmp 17) (.tmp 32) (by rfl) w.heap.size w.heap.size w2.heap.size _ k (upTo h fs k) (by rfl) HR3.out 1 A3 16 c3 (nodeT h k (fs.getD k2 []) (fs.getD k3 [])) (by rfl) hc3' HS3.out hcc3 hm3 HAP.out HD3.out (by omega) hb3.size ?_; intro v4 w4 hF4 hg4 hor4; have hb4 : Below w.heap.size w w4 := frow_below HR3.out hg4 hb3 hb3.size)
          | (go_at_call 57; refine (wparent_any A1 A2 n1 c1 n2 c2 h k _ _ wr.drew HX1.out hn1 l1 m1 HX2.out hn2 l2 m2 HKR.out).mono ?_; rintro e w2 ⟨A3, c3, rfl, hcc3, hm3, hS2, hbx, hfr⟩; have hb2 : Below w.heap.size w w2 := hbd.trans (hbx.mono hz); have hbA : Below w2.heap.size w2 (w2.alloc (.cells #[.slice A3 16 c3] 22)) := (Below.refl _ _).alloc (Nat.le_refl _) _; have hb3 := hb2.trans (hbA.mono hb2.size); have HR3 := Lib.hid ((FRow.below HRD.out hbx).below hbA); have hc3' := cell_made w2 #[.slice A3 16 c3] 22 _ 0 _ rfl rfl; have HS3 := Lib.hid ((hS2.below hbA (Nat.le_refl _)).more hbA.size); have HAP := Lib.hid (apart_new hfr (fun g hg => (HLT.out g hg).2)); have HD3 := Lib.hid (fun h0 a ha => Nat.le_trans hz (hfr h0 a ha)); clear hS2 hfr)))
      have HF4 : Hid (FRow w4 w.heap.size w.heap.size v4 (k + 1) (upTo h fs (k + 1))) := by show FRow _ _ _ _ _ _; rw [HN.out]; exact hF4
      clear hF4 hg4 hor4
      go_wp2
      go_roundw
      case measure => simp [intOf]; omega
      case rel => exact ⟨k + 1, hkn, by go_num, HF4, hb4⟩
    · have hd : decide ((k : Int) < (n : Int) / 2) = false := by have := hM.out; simp; omega
      have hkM : k = M := by omega
      have HE : Hid (upT h fs = upTo h fs M) := by show _ = _; rw [upT, HL.out, hM.out]
      rw [hkM] at hR
      clear hkM
      go_wp2_with fail
      go_ret
      rw [HE.out, hM.out]
      exact ⟨_, rfl, hR.out, hb⟩
end Go.Proofs.YtljkkejjnimjcaaDoor
namespace Go.Proofs.YtljkkejjnimjcaaDoor
open Go.RowKit

theorem and_one (J : Nat) (h : J < 8) : bits .and .i64 (J : Int) 1 = ((J % 2 : Nat) : Int) := by
  rcases (by omega : J = 0 ∨ J = 1 ∨ J = 2 ∨ J = 3 ∨ J = 4 ∨ J = 5 ∨ J = 6 ∨ J = 7) with rfl | rfl | rfl | rfl | rfl | rfl | rfl | rfl <;> decide +kernel

set_option maxRecDepth 100000 in
set_option maxHeartbeats 2000000 in
theorem wroot_row (A : Option Addr) (n c : Nat) (fs : List (List Int)) (w : World) (hs : Fields w w.heap.size A n fs) (hsh : ∀ x ∈ fs, x.length ≤ 1048576) (hK : Tab w 0 .u32 kay256) :
    Calls Tryd.prog 20 #[.slice A n c] w fun e w' => ∃ v k, e = .returned v ∧ k ≤ 1048576 ∧ Row w' w.heap.size 5 .u8 v k (rootI fs) ∧ Below w.heap.size w w' := by
  have HS := Lib.hid hs
  have HL := Lib.hid hs.1
  have HSH := Lib.hid hsh
  have HK := Lib.hid hK
  have hk0 := hK.lt
  clear hs hsh hK
  by_cases hfit : fitB n = false
  · have HR : Hid (rootI fs = []) := by show _ = _; unfold rootI; rw [fitB_none (by rw [HL.out]; exact hfit)]
    go_enter Tryd.func20, Tryd.ntmps20
    go_wp2_with (go_at_call 38; refine (wwidth_any n w).mono ?_; rintro e w1 ⟨rfl, rfl⟩; rw [hfit])
    go_ret
    rw [HR.out]
    exact ⟨_, 0, rfl, by omega, nil_row _ _ _ _, Below.refl _ _⟩
  · have hfit2 : fitB n = true := by simpa using hfit
    obtain ⟨f, hf, hnf⟩ := fitB_some hfit2
    have HNF := Lib.hid hnf
    obtain ⟨R, HR⟩ : ∃ R, Hid (rootI fs = R) := ⟨_, rfl⟩
    have HRF : Hid (rootF f 0 fs = R) := by show _ = _; rw [← HR.out, rootI_two hf (by rw [HL.out]; exact hnf)]
    clear hfit hnf
    go_enter Tryd.func20, Tryd.ntmps20
    go_wp2_with (go_at_call 38; refine (wwidth_any n w).mono ?_; rintro e w1 ⟨rfl, rfl⟩; rw [hfit2])
    go_loopw [3, 4] (fun l h wr => ∃ (j f' : Nat) (A' : Option Addr) (n' c' : Nat) (cur : List (List Int)), h = .int .i64 j ∧ l = .slice A' n' c' ∧ j + f' = f ∧ Hid (Fields wr wr.heap.size A' n' cur) ∧ Hid (n' = 2 ^ f') ∧ Hid (∀ x ∈ cur, x.length ≤ 1048576) ∧ Hid (rootF f' j cur = R) ∧ Below w.heap.size w wr) (fun _ h _ => f - (intOf h).toNat)
    case atStart => exact ⟨0, f, A, n, c, fs, rfl, rfl, by omega, HS.out, HNF.out, HSH.out, HRF.out, Below.refl _ _⟩
    case round =>
      obtain ⟨j, f', A', n', c', cur, rfl, rfl, hj, hF, hN, hC, hR, hb⟩ := hrel
      have hz := hb.size
      rcases f' with _ | f'
      · have hn1 : n' = 1 := hN.out
        subst hn1
        obtain ⟨b, off, rfl, hbl, hcl⟩ := hF.out.2 (by omega)
        obtain ⟨A1, n1, c1, e1, s1, l1, m1⟩ := hcl 0 (by omega)
        have hn1 : n1 ≤ 1048576 := by rw [← s1.1]; exact get_short hC.out 0
        have HE : Hid (cur.getD 0 [] = R) := hR.out
        have HS1 := Lib.hid s1
        rw [HE.out] at HS1
        have hc0 : wr.cell? ⟨b, off, none⟩ = some (.slice A1 n1 c1) := e1
        clear hcl e1 s1
        go_wp2_with (go_at_call 40; refine (bclone_any A1 n1 c1 R wr HS1.out (by omega)).mono ?_; rintro e w2 ⟨v2, rfl, hR2, hb2⟩)
        go_ret
        rw [HR.out]
        exact ⟨_, n1, rfl, hn1, Row.less hR2 hz, hb.trans (hb2.mono hz)⟩
      · have hp := two_pos f'
        have hn2 : n' = 2 * 2 ^ f' := by rw [hN.out, two_next]
        have hn8 : n' ≤ 8 := by rw [hN.out]; exact two_three (by omega)
        have hd : decide ((1 : Int) < n') = true := by simp; omega
        have HR2 : Hid (rootF f' (j + 1) (upT j cur) = R) := hR.out
        have HN2 : Hid (n' / 2 = 2 ^ f') := by show _ = _; omega
        have HKR := Lib.hid (HK.out.below hb hk0)
        clear hn2 hp
        go_wp2_with (go_at_call 39; refine (wabove_any A' n' c' j cur wr hF.out (by omega) hC.out HKR.out).mono ?_; rintro e w2 ⟨v2, rfl, hR2, hb2⟩; obtain ⟨A2, c2, rfl, _, _⟩ := hR2.cut; have HF2 := Lib.hid hR2.fields; clear hR2)
        go_roundw
        case measure => simp [intOf]; omega
        case rel => exact ⟨j + 1, f', A2, n' / 2, c2, upT j cur, by go_num, rfl, by omega, HF2, HN2, upTo_short _ _ _ _ (by omega), HR2, hb.trans (hb2.mono hz)⟩

theorem wroot_any (A : Option Addr) (n c : Nat) (fs : List (List Int)) (w : World) (hs : Fields w w.heap.size A n fs) (_ : n ≤ 1048576) (_ : n ≤ c) (_ : c ≤ 9223372036854775807) (hsh : ∀ x ∈ fs, x.length ≤ 1048576) (hK : Tab w 0 .u32 kay256) :
    Calls Tryd.prog 20 #[.slice A n c] w fun e w' => ∃ B k d, e = .returned (.slice B k d) ∧ k ≤ 1048576 ∧ k ≤ d ∧ d ≤ 9223372036854775807 ∧ Seg w' w'.heap.size .u8 B k (rootI fs) ∧ Below w.heap.size w w' := by
  refine (wroot_row A n c fs w hs hsh hK).mono ?_
  rintro e w' ⟨v, k, he, hk, hR, hb⟩
  obtain ⟨B, d, rfl, h1, h2⟩ := hR.cut
  exact ⟨B, k, d, he, hk, h1, by unfold maxLen at h2; omega, hR.seg, hb⟩

set_option maxRecDepth 100000 in
set_option maxHeartbeats 4000000 in
theorem wpath_row (i : Int) (A : Option Addr) (n c : Nat) (fs : List (List Int)) (w : World) (hs : Fields w w.heap.size A n fs) (hsh : ∀ x ∈ fs, x.length ≤ 1048576) (hK : Tab w 0 .u32 kay256) :
    Calls Tryd.prog 28 #[.int .i64 i, .slice A n c] w fun e w' => ∃ v k, e = .returned v ∧ k ≤ 3 ∧ FRow w' w.heap.size w.heap.size v k (pathI i fs) ∧ Below w.heap.size w w' := by
  have HS := Lib.hid hs
  have HL := Lib.hid hs.1
  have HSH := Lib.hid hsh
  have HK := Lib.hid hK
  have hk0 := hK.lt
  clear hs hsh hK
  by_cases hfit : fitB n = false
  · have HR : Hid (pathI i fs = []) := by show _ = _; unfold pathI; rw [fitB_none (by rw [HL.out]; exact hfit)]
    go_enter Tryd.func28, Tryd.ntmps28
    go_wp2_with (go_at_call 38; refine (wwidth_any n w).mono ?_; rintro e w1 ⟨rfl, rfl⟩; rw [hfit])
    go_ret
    rw [HR.out]
    exact ⟨_, 0, rfl, by omega, FRow.nil _ _ _, Below.refl _ _⟩
  have hfit2 : fitB n = true := by simpa using hfit
  obtain ⟨f, hf, hnf⟩ := fitB_some hfit2
  have HNF := Lib.hid hnf
  have hn8 : n ≤ 8 := by rw [hnf]; exact two_three hf
  by_cases hbad : i < 0 ∨ (n : Int) ≤ i
  · have HR : Hid (pathI i fs = []) := by show _ = _; unfold pathI; rw [HL.out, hnf, fitsT_two hf]; simp only; rw [if_pos (by rw [← hnf]; exact hbad)]
    rcases (by omega : i < 0 ∨ (0 ≤ i ∧ (n : Int) ≤ i)) with h1 | ⟨h1, h2⟩
    focus
      have hd : decide (i < 0) = true := by simpa using h1
    rotate_left
    focus
      have hd : decide (i < 0) = false := by simp; omega
      have hd2 : decide ((n : Int) ≤ i) = true := by simpa using h2
    rotate_left
    all_goals
      clear hbad hfit hnf
      go_enter Tryd.func28, Tryd.ntmps28
      go_wp2_with (go_at_call 38; refine (wwidth_any n w).mono ?_; rintro e w1 ⟨rfl, rfl⟩; rw [hfit2])
      go_ret
      rw [HR.out]
      exact ⟨_, 0, rfl, by omega, FRow.nil _ _ _, Below.refl _ _⟩
  · obtain ⟨I, rfl⟩ : ∃ I : Nat, i = I := ⟨i.toNat, by omega⟩
    have hI : I < n := by omega
    have hd : decide ((I : Int) < 0) = false := by simp
    have hd2 : decide ((n : Int) ≤ (I : Int)) = false := by simp; omega
    have hd3 : decide (n ≤ I) = false := by simp; omega
    obtain ⟨P, HP⟩ : ∃ P, Hid (pathI I fs = P) := ⟨_, rfl⟩
    have HRF : Hid (pathF f 0 I fs = P) := by show _ = _; rw [← HP.out, pathI_two hf (by rw [HL.out]; exact hnf) I (by rw [← hnf]; exact hI)]
    have HI : Hid (I < 2 ^ f) := by show _ < _; rw [← hnf]; exact hI
    have HOFF : Hid (FOff w none A n fs) := HS.out.off (Nat.le_refl _) (fun g h => by cases h)
    clear hfit hnf hbad
    go_enter Tryd.func28, Tryd.ntmps28
    go_wp2_with (first | (at_make; refine wpList_makeS rfl _ _ rfl w.heap.size w.heap.size .i64 .i64 3 _ _ rfl rfl rfl rfl (by omega) (Nat.le_refl _) ?_; intro w0 hR0 hb0) | (go_at_call 38; refine (wwidth_any n w).mono ?_; rintro e w1 ⟨rfl, rfl⟩; rw [hfit2]))
    have HR0 := Lib.hid hR0
    clear hR0
    go_loopw [5, 6, 7] (fun o l h wr => ∃ (J j f' : Nat) (A' : Option Addr) (n' c' : Nat) (cur pre : List (List Int)), h = .int .i64 j ∧ l = .slice A' n' c' ∧ j + f' = f ∧ Hid (FOff wr o.ownBlock A' n' cur) ∧ Hid (n' = 2 ^ f') ∧ Hid (∀ x ∈ cur, x.length ≤ 1048576) ∧ Hid (FRow wr w.heap.size w.heap.size o j pre) ∧ Hid (pre ++ pathF f' j J cur = P) ∧ Hid (J < 2 ^ f') ∧ Hid (I / 2 ^ j = J) ∧ Below w.heap.size w wr) (fun _ _ h _ => f - (intOf h).toNat)
    case atStart => exact ⟨I, 0, f, A, n, c, fs, [], rfl, rfl, by omega, ((Fields.off HS.out (Nat.le_refl _) (fun g h => by injection h with h; simp at h; omega)).below hb0), HNF.out, HSH.out, HR0.out, by show [] ++ _ = _; rw [List.nil_append]; exact HRF.out, HI.out, by show I / 1 = I; exact Nat.div_one I, hb0⟩
    case round =>
      clear HR0 hb0
      obtain ⟨J, j, f', A', n', c', cur, pre, rfl, rfl, hj, hF, hN, hC, hO, hP, hI2, hJ, hb⟩ := hrel
      have hz := hb.size
      rcases f' with _ | f'
      · have hn1 : n' = 1 := hN.out
        subst hn1
        have hjf : j = f := by omega
        have HE : Hid (pre = P) := by show _ = _; have h := hP.out; rw [pathF, List.append_nil] at h; exact h
        rw [HE.out, hjf] at hO
        clear hjf
        go_wp2_with fail
        go_ret
        rw [HP.out]
        exact ⟨_, rfl, f, hf, hO.out, hb⟩
      · have hp := two_pos f'
        have hn2 : n' = 2 * 2 ^ f' := by rw [hN.out, two_next]
        have hn8' : n' ≤ 8 := by rw [hN.out]; exact two_three (by omega)
        have hdd : decide ((1 : Int) < n') = true := by simp; omega
        have hJn : J < n' := by rw [hN.out]; exact hI2.out
        obtain ⟨S, hS⟩ : ∃ S, Hid (sibI J = S) := ⟨_, rfl⟩
        have hSn : S < n' := by rw [← hS.out, hN.out]; exact sib_lt hI2.out
        have hxor : bits .xor .i64 (J : Int) 1 = (S : Int) := by rw [xor_one J (by omega), hS.out]
        have hshr : (I : Int) / 2 ^ j = (J : Int) := by have h := hJ.out; rw [← h]; simp
        obtain ⟨J2, hJ2⟩ : ∃ J2, Hid (J / 2 = J2) := ⟨_, rfl⟩
        obtain ⟨b, off, rfl, hbl, _, hcl⟩ := hF.out.2 (by omega)
        obtain ⟨A1, n1, c1, e1, s1, l1, m1, a1⟩ := hcl S hSn
        have hn1 : n1 ≤ 1048576 := by rw [← s1.1]; exact get_short hC.out S
        have HS1 := Lib.hid s1
        have hS0 : (0 : Int) ≤ (S : Int) := by omega
        have hS1 : (S : Int) < n' := by omega
        have HLT := Lib.hid hO.out.lt
        have HN2 : Hid (n' / 2 = 2 ^ f') := by show _ = _; omega
        have HJ3 : Hid (J2 < 2 ^ f') := by show _ < _; rw [← hJ2.out]; omega
        have HJ4 : Hid (I / 2 ^ (j + 1) = J2) := by show _ = _; rw [← hJ2.out, ← hJ.out, Nat.pow_succ, Nat.div_div_eq_div_mul]
        have HP2 : Hid ((pre ++ [cur.getD S []]) ++ pathF f' (j + 1) J2 (upT j cur) = P) := by show _ = _; have h := hP.out; rw [pathF, hS.out, hJ2.out] at h; rw [← h]; simp
        clear hcl s1 a1 hp hn2 hJn
        go_wp2_with fail
        refine (bclone_any A1 n1 c1 _ wr HS1.out (by omega)).mono ?_
        rintro e w2 ⟨v2, rfl, hR2, hbx⟩
        obtain ⟨A3, c3, rfl, hcc3, hm3⟩ := hR2.cut
        have hb2 : Below w.heap.size w w2 := hb.trans (hbx.mono hz)
        have hbA : Below w2.heap.size w2 (w2.alloc (.cells #[.slice A3 n1 c3] 22)) := (Below.refl _ _).alloc (Nat.le_refl _) _
        have hb3 := hb2.trans (hbA.mono hb2.size)
        have HO3 := Lib.hid ((FRow.below hO.out hbx).below hbA)
        have HF3 := Lib.hid ((FOff.below hF.out hbx).below hbA)
        have hc3' := cell_made w2 #[.slice A3 n1 c3] 22 _ 0 _ rfl rfl
        have HS3 := Lib.hid ((hR2.seg.below hbA (Nat.le_refl _)).more hbA.size)
        have HAP := Lib.hid (hR2.apart (fun g hg => (HLT.out g hg).2))
        have HD3 := Lib.hid (fun h0 a ha => Nat.le_trans hz (hR2.from_ h0 a ha))
        clear hR2
        go_wp2_with (at_builtin; refine wpList_app1 rfl (.tmp 34) (.tmp 40) rfl w.heap.size w.heap.size w2.heap.size _ j pre rfl HO3.out 1 A3 n1 c3 (cur.getD S []) rfl hc3' HS3.out hcc3 hm3 HAP.out HD3.out (by omega) hb3.size ?_; intro v4 w4 hO4 hg4 hor4; have hb4 : Below w.heap.size w w4 := frow_below HO3.out hg4 hb3 hb3.size; have HF4 := Lib.hid (FOff.turn HF3.out hg4 hor4); have HO4 := Lib.hid hO4; clear hO4 hg4 hor4 hc3')
        refine (wabove_any _ n' c' j cur w4 HF4.out.fields (by omega) hC.out (HK.out.below hb4 hk0)).mono ?_
        rintro e w5 ⟨v5, rfl, hR5, hb5⟩
        obtain ⟨A5, c5, rfl, _, _⟩ := hR5.cut
        have HF5 := Lib.hid (hR5.off (r := v4.ownBlock) (fun g hg => ⟨(HO4.out.lt g hg).2, (HO4.out.lt g hg).2⟩))
        have HO5 := Lib.hid (HO4.out.below hb5)
        have hbw5 := hb4.trans (hb5.mono hb4.size)
        clear hR5
        go_wp2_with fail
        go_roundw
        case measure => simp [intOf]; omega
        case rel =>
          exact ⟨J2, j + 1, f', A5, n' / 2, c5, upT j cur, pre ++ [cur.getD S []], by go_num, rfl, by omega, HF5, HN2, upTo_short _ _ _ _ (by omega), HO5, HP2, HJ3, HJ4, hbw5⟩

theorem wpath_any (i : Int) (A : Option Addr) (n c : Nat) (fs : List (List Int)) (w : World) (hs : Fields w w.heap.size A n fs) (_ : n ≤ 1048576) (_ : n ≤ c) (_ : c ≤ 9223372036854775807) (hsh : ∀ x ∈ fs, x.length ≤ 1048576) (hK : Tab w 0 .u32 kay256) :
    Calls Tryd.prog 28 #[.int .i64 i, .slice A n c] w fun e w' => ∃ B k d, e = .returned (.slice B k d) ∧ k ≤ 3 ∧ k ≤ d ∧ d ≤ 9223372036854775807 ∧ Fields w' w'.heap.size B k (pathI i fs) ∧ Below w.heap.size w w' := by
  refine (wpath_row i A n c fs w hs hsh hK).mono ?_
  rintro e w' ⟨v, k, he, hk, hR, hb⟩
  obtain ⟨B, d, rfl, h1, h2⟩ := hR.cut
  exact ⟨B, k, d, he, hk, h1, by unfold maxLen at h2; omega, hR.fields, hb⟩

set_option maxRecDepth 100000 in
set_option maxHeartbeats 4000000 in
theorem wclimb_any (A A2 : Option Addr) (n c n2 c2 : Nat) (leaf : List Int) (i : Int) (p : List (List Int)) (w : World) (ht : Seg w w.heap.size .u8 A n leaf) (hn : n ≤ 1048576) (hc : n ≤ c) (hm : c ≤ 9223372036854775807) (hs : Fields w w.heap.size A2 n2 p) (_ : n2 ≤ 1048576) (_ : n2 ≤ c2) (_ : c2 ≤ 9223372036854775807) (hsh : ∀ x ∈ p, x.length ≤ 1048576) (hK : Tab w 0 .u32 kay256) :
    Calls Tryd.prog 34 #[.slice A n c, .int .i64 i, .slice A2 n2 c2] w fun e w' => ∃ B k d, e = .returned (.slice B k d) ∧ k ≤ 1048576 ∧ k ≤ d ∧ d ≤ 9223372036854775807 ∧ Seg w' w'.heap.size .u8 B k (climbI leaf i p) ∧ Below w.heap.size w w' := by
  have HS := Lib.hid hs
  have HL := Lib.hid hs.1
  have HSH := Lib.hid hsh
  have HT := Lib.hid ht
  have HK := Lib.hid hK
  have hk0 := hK.lt
  clear hs hsh ht hK
  by_cases hbig : 3 < n2
  · have HR : Hid (climbI leaf i p = []) := by show _ = _; unfold climbI; rw [if_pos (by rw [HL.out]; omega)]
    have hd : decide ((3 : Int) < n2) = true := by simp; omega
    go_enter Tryd.func34, Tryd.ntmps34
    go_wp2_with fail
    go_ret
    rw [HR.out]
    exact ⟨_, 0, _, rfl, by omega, by omega, by omega, Seg.nil _ _ _ _, Below.refl _ _⟩
  have hd : decide ((3 : Int) < n2) = false := by simp; omega
  by_cases hneg : i < 0
  · have HR : Hid (climbI leaf i p = []) := by show _ = _; unfold climbI; rw [if_pos (by omega)]
    have hd2 : decide (i < 0) = true := by simpa using hneg
    go_enter Tryd.func34, Tryd.ntmps34
    go_wp2_with fail
    go_ret
    rw [HR.out]
    exact ⟨_, 0, _, rfl, by omega, by omega, by omega, Seg.nil _ _ _ _, Below.refl _ _⟩
  obtain ⟨I, rfl⟩ : ∃ I : Nat, i = I := ⟨i.toNat, by omega⟩
  have hd2 : decide ((I : Int) < 0) = false := by simp
  obtain ⟨N, hN⟩ : ∃ N : Nat, Hid (2 ^ n2 = N) := ⟨_, rfl⟩
  have hN8 : N ≤ 8 := by rw [← hN.out]; exact two_three (by omega)
  have hcast : (2 : Int) ^ n2 = (N : Int) := by rw [← hN.out]; simp
  have hw1 : RowKit.wrap64 ((2 : Int) ^ n2) = (N : Int) := by rw [hcast]; unfold RowKit.wrap64; omega
  have hw2 : IntKind.i64.wrap ((2 : Int) ^ n2) = (N : Int) := by rw [hcast]; exact IntWalk.i64_in _ (by omega)
  clear hcast
  by_cases hge : N ≤ I
  · have HR : Hid (climbI leaf I p = []) := by show _ = _; unfold climbI; rw [if_pos (by rw [HL.out, hN.out]; omega)]
    have hd3 : decide ((N : Int) ≤ (I : Int)) = true := by simpa using hge
    have hd4 : decide (N ≤ I) = true := by simpa using hge
    go_enter Tryd.func34, Tryd.ntmps34
    go_wp2_with fail
    go_ret
    rw [HR.out]
    exact ⟨_, 0, _, rfl, by omega, by omega, by omega, Seg.nil _ _ _ _, Below.refl _ _⟩
  have hd3 : decide ((N : Int) ≤ (I : Int)) = false := by simpa using hge
  have hd4 : decide (N ≤ I) = false := by simpa using hge
  obtain ⟨R, HR⟩ : ∃ R, Hid (climbI leaf I p = R) := ⟨_, rfl⟩
  have HC : Hid (climbF 0 leaf I p = R) := by show _ = _; rw [← HR.out, climbI_two (by rw [HL.out]; omega) I (by rw [HL.out, hN.out]; omega)]
  have hI8 : I < 8 := by omega
  clear hge
  go_enter Tryd.func34, Tryd.ntmps34
  go_wp2_with fail
  go_loopw [7, 29] (fun x h wr => ∃ (j J : Nat) (A' : Option Addr) (n' c' : Nat) (X : List Int), h = .int .i64 j ∧ x = .slice A' n' c' ∧ j ≤ n2 ∧ n' ≤ 1048576 ∧ n' ≤ c' ∧ c' ≤ 9223372036854775807 ∧ Hid (Seg wr wr.heap.size .u8 A' n' X) ∧ Hid (I / 2 ^ j = J) ∧ Hid (climbF j X J (p.drop j) = R) ∧ Below w.heap.size w wr) (fun _ h _ => n2 - (intOf h).toNat)
  case atStart => exact ⟨0, I, A, n, c, leaf, rfl, rfl, by omega, hn, hc, hm, HT.out, by show I / 1 = I; exact Nat.div_one I, HC.out, Below.refl _ _⟩
  case round =>
    obtain ⟨j, J, A', n', c', X, rfl, rfl, hj, hn', hc', hm', hX, hJ, hCl, hb⟩ := hrel
    have hz := hb.size
    by_cases hlt : j < n2
    · have hdj : decide ((j : Int) < n2) = true := by simp; omega
      obtain ⟨b, off, rfl, hbl, hcl⟩ := HS.out.2 (by omega)
      obtain ⟨A2, m2, k2, e2, s2, l2, x2⟩ := hcl j hlt
      have hcy := (hb.cell (p := ⟨b, off + j, none⟩) hbl).trans e2
      have HY := Lib.hid ((s2.below hb (Nat.le_refl _)).more hz)
      have hm2 : m2 ≤ 1048576 := by rw [← s2.1]; exact get_short HSH.out j
      obtain ⟨Y, hY⟩ : ∃ Y, Hid (p.getD j [] = Y) := ⟨_, rfl⟩
      rw [hY.out] at HY
      have hshr : (I : Int) / 2 ^ j = (J : Int) := by have h := hJ.out; rw [← h]; simp
      obtain ⟨J2, hJ2⟩ : ∃ J2, Hid (J / 2 = J2) := ⟨_, rfl⟩
      have HJ4 : Hid (I / 2 ^ (j + 1) = J2) := by show _ = _; rw [← hJ2.out, ← hJ.out, Nat.pow_succ, Nat.div_div_eq_div_mul]
      have hshr2 : (I : Int) / 2 ^ (j + 1) = (J2 : Int) := by have h := HJ4.out; rw [← h]; simp
      have HKR := Lib.hid (HK.out.below hb hk0)
      have HD : Hid (climbF (j + 1) (hash16 3 (stepT j J X Y)) J2 (p.drop (j + 1)) = R) := by
        show _ = _
        have h := hCl.out
        have hd : p.drop j = Y :: p.drop (j + 1) := by
          rw [List.drop_eq_getElem_cons (by rw [HL.out]; exact hlt), ← hY.out]
          simp [List.getD, HL.out, hlt]
        rw [hd, climbF, hJ2.out] at h
        exact h
      clear hcl e2 s2
      have hJ8 : J < 8 := by rw [← hJ.out]; exact Nat.lt_of_le_of_lt (Nat.div_le_self _ _) hI8
      by_cases hev : J % 2 = 0
      focus
        have hbit : bits .and .i64 (J : Int) 1 = 0 := by rw [and_one J hJ8, hev]; rfl
        have hst : stepT j J X Y = nodeF j J2 X Y := by rw [stepT, if_pos hev, hJ2.out]
        rw [hst] at HD
        clear hst hev
        go_wp2_with fail
        refine (wparent_any A' A2 n' c' m2 k2 j J2 X Y wr hX.out hn' hc' (by unfold maxLen; omega) HY.out hm2 l2 x2 HKR.out).mono ?_
        rintro e w2 ⟨A3, c3, rfl, hcc3, hm3, hS3, hbx, _⟩
      rotate_left
      focus
        have hbit : bits .and .i64 (J : Int) 1 = 1 := by rw [and_one J hJ8, show J % 2 = 1 by omega]; rfl
        have hst : stepT j J X Y = nodeF j J2 Y X := by rw [stepT, if_neg hev, hJ2.out]
        rw [hst] at HD
        clear hst hev
        go_wp2_with fail
        refine (wparent_any A2 A' m2 k2 n' c' j J2 Y X wr HY.out hm2 l2 x2 hX.out hn' hc' (by unfold maxLen; omega) HKR.out).mono ?_
        rintro e w2 ⟨A3, c3, rfl, hcc3, hm3, hS3, hbx, _⟩
      rotate_left
      all_goals
        have HS3 := Lib.hid hS3
        have hb3 := hb.trans (hbx.mono hz)
        clear hS3 hbx
        unfold maxLen at hm3
        go_wp2_with fail
        go_roundw
        case measure => simp [intOf]; omega
        case rel => exact ⟨j + 1, J2, A3, 16, c3, _, by go_num, rfl, by omega, by omega, hcc3, by omega, HS3, HJ4, HD, hb3⟩
    · have hdj : decide ((j : Int) < n2) = false := by simp; omega
      have HE : Hid (X = R) := by
        show _ = _
        have h := hCl.out
        rw [List.drop_of_length_le (by rw [HL.out]; omega), climbF] at h
        exact h
      rw [HE.out] at hX
      go_wp2_with fail
      refine (bclone_any A' n' c' R wr hX.out (by omega)).mono ?_
      rintro e w2 ⟨v2, rfl, hR2, hb2⟩
      go_wp2_with fail
      go_ret
      rw [HR.out]
      obtain ⟨B, d, rfl, h1, h2⟩ := hR2.cut
      exact ⟨B, n', d, rfl, hn', h1, by unfold maxLen at h2; omega, hR2.seg, hb.trans (hb2.mono hz)⟩
end Go.Proofs.YtljkkejjnimjcaaDoor
namespace Go.Proofs.YtljkkejjnimjcaaDoor
open Go.RowKit

theorem wleaf_any (leaf : Int) (b : Bool) (hb : decide (0 ≤ leaf ∧ leaf ≤ 255) = b) (w : World) :
    Calls Tryd.prog 46 #[.int .i64 leaf] w fun e w' => e = .returned (.bool b) ∧ w = w' := by
  by_cases h1 : 0 ≤ leaf
  · have hd : decide (0 ≤ leaf) = true := by simpa using h1
    have hb' : decide (leaf ≤ 255) = b := by simpa [h1] using hb
    clear hb
    go_enter Tryd.func46, Tryd.ntmps46
    go_wp2_with fail
    go_ret
    exact ⟨rfl, rfl⟩
  · have hd : decide (0 ≤ leaf) = false := by simpa using h1
    have hb' : b = false := by rw [← hb]; simp; omega
    subst hb'
    clear hb
    go_enter Tryd.func46, Tryd.ntmps46
    go_wp2_with fail
    go_ret
    exact ⟨rfl, rfl⟩

set_option maxRecDepth 100000 in
set_option maxHeartbeats 1000000 in
theorem wvalue_new (A : Option Addr) (n c : Nat) (ends : List Int) (leaf : Int) (w : World) (hs : Seg w w.heap.size .u8 A n ends) (hn : n ≤ 1048576) (hc : n ≤ c) (hcm : c ≤ maxLen) (hK : Tab w 0 .u32 kay256) :
    Calls Tryd.prog 54 #[.int .i64 leaf, .slice A n c] w fun e w' => HandedN w w' 16 (valueI leaf ends) e := by
  have HL := Lib.hid hs.1
  have HK := Lib.hid hK
  have hk0 := hK.lt
  have HF := Lib.hid (laid_two w [leaf % 256] A n c ends 5 22 hs hc hcm (by simp))
  clear hs hK
  go_enter Tryd.func54, Tryd.ntmps54
  go_wp2_with fail
  obtain ⟨wq, HWQ⟩ : ∃ wq, Hid ((w.alloc (.cells (ints .u8 [leaf % 256]).toArray 5)).alloc (.cells #[.slice (some ⟨w.heap.size, 0, none⟩) 1 1, .slice A n c] 22) = wq) := ⟨_, rfl⟩
  have HF1 : Hid (Fields wq wq.heap.size (some ⟨w.heap.size + 1, 0, none⟩) 2 [[leaf % 256], ends]) := by show Fields _ _ _ _ _; rw [← HWQ.out]; exact HF.out.1
  have hb0 : Below w.heap.size w wq := by rw [← HWQ.out]; exact HF.out.2
  have hz := hb0.size
  show Calls Tryd.prog 65 _ ((w.alloc (.cells (ints .u8 [leaf % 256]).toArray 5)).alloc (.cells #[.slice (some ⟨w.heap.size, 0, none⟩) 1 1, .slice A n c] 22)) _
  rw [HWQ.out]
  refine (hash_any 2 _ 2 2 _ wq HF1.out (by omega) (by simp [tot]; rw [HL.out]; omega) (HK.out.below hb0 hk0)).mono ?_
  rintro e w1 ⟨v1, rfl, hown1, hb1⟩
  have hR1 : Row w1 wq.heap.size 5 .u8 v1 32 (sha256 (frameI 2 [[leaf % 256], ends])) := hown1.row (sha256_length _)
  obtain ⟨g1, c1, rfl, hg1⟩ := hR1.at_ (by omega)
  obtain ⟨hc1, hm1⟩ := hR1.caps
  have HR1 := Lib.hid hR1
  have hsl := slice_hm (some ⟨g1, 0, none⟩) 32 c1 16 (by omega)
  clear hR1 hown1
  go_wp2_with fail
  go_ret
  exact ⟨some ⟨g1, 0, none⟩, 16, rfl, by omega, by unfold maxLen; omega, HR1.out.seg.take (by omega), hb0.trans (hb1.mono hz), fun _ a ha => by injection ha with ha; rw [← ha]; exact Nat.le_trans hz hg1⟩

set_option maxRecDepth 100000 in
set_option maxHeartbeats 2000000 in
theorem wstarts_any (A : Option Addr) (n c : Nat) (seed : List Int) (leaf : Int) (w : World) (hs : Seg w w.heap.size .u8 A n seed) (hn : n ≤ 1048576) (hc : n ≤ c) (hm : c ≤ 9223372036854775807) (hK : Tab w 0 .u32 kay256) :
    Calls Tryd.prog 48 #[.slice A n c, .int .i64 leaf] w fun e w' => ∃ v, e = .returned v ∧ Row w' w.heap.size 5 .u8 v 560 (catI (fun k => startI seed leaf k) 35) ∧ Below w.heap.size w w' := by
  obtain ⟨i0, hi, hz0, hz1, hz2⟩ := info_parts Tryd.infoU8
  obtain ⟨F, HF⟩ : ∃ F : Nat → List Int, Hid ((fun (k : Nat) => startI seed leaf k) = F) := ⟨_, rfl⟩
  have HFL : Hid (∀ k, (F k).length = 16) := by intro k; rw [← HF.out]; exact startI_length _ _ _
  have HS := Lib.hid hs
  have HK := Lib.hid hK
  have hk0 := hK.lt
  rw [HF.out]
  clear hs hK
  go_enter Tryd.func48, Tryd.ntmps48
  go_wp2_with (at_make; refine wpList_make_cap rfl _ _ 22 rfl w.heap.size 5 i0 .u8 Tryd.underlying22 hi hz0 hz1 hz2 .i64 .i64 0 560 _ _ rfl rfl rfl rfl (by omega) (by omega) (Nat.le_refl _) ?_; intro w0 hR0 hb0 hz0')
  have HR0 := Lib.hid hR0
  clear hR0 hz0'
  go_wp2_with fail
  go_loopw [5, 8] (fun v i wr => ∃ k : Nat, k ≤ 35 ∧ i = .int .i64 k ∧ Hid (Row wr w.heap.size 5 .u8 v (16 * k) (catI F k)) ∧ Below w.heap.size w wr) (fun _ i _ => 35 - (intOf i).toNat)
  case atStart => exact ⟨0, by omega, rfl, HR0.out, hb0⟩
  case round =>
    obtain ⟨k, hk, rfl, hR, hb⟩ := hrel
    have hz := hb.size
    by_cases hlt : k < 35
    · have hdk : decide ((k : Int) < 35) = true := by simp; omega
      have HRL := Lib.hid hR.out.length
      go_wp2_with fail
      generalize hwq : World.alloc _ _ = wq
      have hbq : Below wr.heap.size wr wq := by rw [← hwq]; exact (Below.refl _ _).alloc (Nat.le_refl _) _
      have hSC : Seg wq wq.heap.size .u8 (some ⟨wr.heap.size, 0, none⟩) 2 [leaf % 256, (k : Int) % 256] := by rw [← hwq, show (k : Int) % 256 = k by omega]; exact Seg.of_blk (Blk.new wr 5 .u8 [leaf % 256, (k : Int)])
      have hbwq := hb.trans (hbq.mono hz)
      have hzq := hbwq.size
      have HRq := Lib.hid (hR.out.below hbq)
      clear hwq
      refine (derive_any A _ n c 2 2 seed [leaf % 256, (k : Int) % 256] labelC 16 wq ((HS.out.below hbwq (Nat.le_refl _)).more hzq) hn hc hm hSC (by omega) (show (5 : Nat) ≤ 1048576 by omega) (HK.out.below hbwq hk0)).mono ?_
      rintro e w1 ⟨A', k', c', rfl, ⟨_, hkc, hkm⟩, hsD, hb1⟩
      have hS2 : Seg w1 w1.heap.size .u8 A' k' (F k) := by rw [← HF.out]; exact hsD
      have hk16 : k' = 16 := by rw [← hS2.1]; exact HFL.out k
      rw [hk16] at hS2 hkc ⊢
      have HS2 := Lib.hid hS2
      have hbw1 := hbwq.trans (hb1.mono hzq)
      have hzw1 := hbw1.size
      have HR1 := Lib.hid (HRq.out.below hb1)
      clear hsD hSC hk16 hS2
      go_wp2_with (at_builtin; refine wpList_app _ rfl (.tmp 11) (.tmp 18) 22 rfl w.heap.size 5 i0 (.int .u8 0) 1 Tryd.underlying22 hi hz0 hz1 hz2 rfl .u8 _ (catI F k) rfl HR1.out.own w1.heap.size A' 16 c' (F k) rfl HS2.out (by unfold maxLen; rw [HRL.out]; omega) (by rw [HRL.out]; omega) hzw1 ?_; intro v3 w3 hown3 hg3 hor3; have hb3 : Below w.heap.size w w3 := own_below HR1.out.own hg3 hbw1 hzw1; have HR3 : Hid (Row w3 w.heap.size 5 .u8 v3 (16 * (k + 1)) (catI F (k + 1))) := hown3.row (by rw [List.length_append, HRL.out, HFL.out k]; omega); clear hown3 hg3 hor3)
      go_roundw
      case measure => simp [intOf]; omega
      case rel => exact ⟨k + 1, by omega, by go_num, HR3.out, hb3⟩
    · have hdk : decide ((k : Int) < 35) = false := by simp; omega
      have hk35 : k = 35 := by omega
      rw [hk35] at hR
      clear hk35
      go_wp2_with fail
      go_ret
      exact ⟨_, rfl, hR.out, hb⟩
end Go.Proofs.YtljkkejjnimjcaaDoor
namespace Go.Proofs.YtljkkejjnimjcaaDoor
open Go.RowKit

/-- A variable in a block of its own. -/
def Cel (w : World) (g : Nat) (t : TypeId) (v : Value) : Prop := w.heap[g]? = some (.cells #[v] t (0, 0))
section
variable {w w' : World} {g : Nat} {t : TypeId} {v : Value}
theorem Cel.cell (h : Cel w g t v) : w.cell? ⟨g, 0, none⟩ = some v := by rw [cell_of_row w g 0 _ t (0, 0) h]; rfl
theorem Cel.frozen (h : Cel w g t v) : w.frozen? ⟨g, 0, none⟩ = false := frozen_of_row w g 0 _ t h
theorem Cel.lt (h : Cel w g t v) : g < w.heap.size := (Array.getElem?_eq_some_iff.1 h).1
theorem Cel.new (w : World) (t : TypeId) (v : Value) : Cel (w.alloc (.cells #[v] t)) w.heap.size t v := heap_alloc_new w _
theorem Cel.alloc (h : Cel w g t v) (o : Obj) : Cel (w.alloc o) g t v := (Below.heap_alloc w o g h.lt).trans h
theorem Cel.below (h : Cel w g t v) (hb : Below w.heap.size w w') : Cel w' g t v := (hb.block g h.lt).trans h
theorem Cel.low {B : Nat} (h : Cel w g t v) (hb : Below B w w') (hg : g < B) : Cel w' g t v := (hb.block g hg).trans h
theorem Cel.set_ (h : Cel w g t v) (u : Value) : Cel (w.setCell ⟨g, 0, none⟩ u) g t u := by
  unfold Cel at h ⊢
  rw [heap_setCell_same w g 0 _ t _ h]
  rfl
theorem Cel.but {r : Nat} (h : Cel w g t v) (hb : But w w' r) (hne : g ≠ r) : Cel w' g t v := (hb.block g h.lt (fun e => hne (Option.some.inj e))).trans h
end

set_option maxRecDepth 100000 in
set_option maxHeartbeats 1000000 in
theorem wstep_any (g0 gc gn n c : Nat) (A : Option Addr) (xs : List Int) (leaf k p : Int) (w : World) (h0 : Cel w g0 3 (.int .i64 leaf)) (h1 : Cel w gc 3 (.int .i64 k)) (h2 : Cel w gn 22 (.slice A n c))
    (hs : Seg w w.heap.size .u8 A n xs) (hn : n ≤ 1048576) (hc : n ≤ c) (hcm : c ≤ maxLen) (hK : Tab w 0 .u32 kay256) :
    Calls Tryd.prog 64 #[.int .i64 p, .pointer (some ⟨g0, 0, none⟩), .pointer (some ⟨gc, 0, none⟩), .pointer (some ⟨gn, 0, none⟩)] w
      fun e w' => e = .returned (.tuple #[]) ∧ But w w' gn ∧ ∃ A' c', Cel w' gn 22 (.slice A' 16 c') ∧ 16 ≤ c' ∧ c' ≤ maxLen ∧ Seg w' w'.heap.size .u8 A' 16 (stepC leaf k p xs) := by
  have HL := Lib.hid hs.1
  have HK := Lib.hid hK
  have hk0 := hK.lt
  have HF := Lib.hid (laid_two w [leaf % 256, k % 256, p % 256] A n c xs 5 22 hs hc hcm (by simp))
  have HN := Lib.hid h2
  have hc0 := h0.cell
  have hc1 := h1.cell
  have hln := h2.lt
  have hcn : (w.alloc (.cells #[.int .u8 (leaf % 256), .int .u8 (k % 256), .int .u8 (p % 256)] 5)).cell? ⟨gn, 0, none⟩ = some (.slice A n c) := (h2.alloc _).cell
  clear hs hK h0 h1 h2
  go_enter Tryd.func64, Tryd.ntmps64
  go_wp2_with fail
  obtain ⟨wq, HWQ⟩ : ∃ wq, Hid ((w.alloc (.cells (ints .u8 [leaf % 256, k % 256, p % 256]).toArray 5)).alloc (.cells #[.slice (some ⟨w.heap.size, 0, none⟩) 3 3, .slice A n c] 22) = wq) := ⟨_, rfl⟩
  have HF1 : Hid (Fields wq wq.heap.size (some ⟨w.heap.size + 1, 0, none⟩) 2 [[leaf % 256, k % 256, p % 256], xs]) := by show Fields _ _ _ _ _; rw [← HWQ.out]; exact HF.out.1
  have hb0 : Below w.heap.size w wq := by rw [← HWQ.out]; exact HF.out.2
  have hz := hb0.size
  show Calls Tryd.prog 65 _ ((w.alloc (.cells (ints .u8 [leaf % 256, k % 256, p % 256]).toArray 5)).alloc (.cells #[.slice (some ⟨w.heap.size, 0, none⟩) 3 3, .slice A n c] 22)) _
  rw [HWQ.out]
  refine (hash_any 1 _ 2 2 _ wq HF1.out (by omega) (by simp [tot]; rw [HL.out]; omega) (HK.out.below hb0 hk0)).mono ?_
  rintro e w1 ⟨v1, rfl, hown1, hb1⟩
  have hR1 : Row w1 wq.heap.size 5 .u8 v1 32 (sha256 (frameI 1 [[leaf % 256, k % 256, p % 256], xs])) := hown1.row (sha256_length _)
  obtain ⟨g1, c1, rfl, hg1⟩ := hR1.at_ (by omega)
  obtain ⟨hc1', hm1⟩ := hR1.caps
  have HR1 := Lib.hid hR1
  have hbw1 := hb0.trans (hb1.mono hz)
  have HN1 := Lib.hid (HN.out.below hbw1)
  have hc3 := HN1.out.cell
  have hfz := HN1.out.frozen
  have h16 : 16 ≤ c1 := by omega
  clear hR1 hown1 hcn hc0 hc1
  go_wp2_with fail
  go_end0
  refine ⟨rfl, (but_of_below hbw1 gn).set_ 0 _, some ⟨g1, 0, none⟩, c1, HN1.out.set_ _, h16, hm1, ?_⟩
  have h := (HR1.out.but ((but_refl w1 gn).set_ 0 (.slice (some ⟨g1, 0, none⟩) 16 c1)) (by omega)).seg.take (n := 32) (i := 16) (by omega)
  exact h
end Go.Proofs.YtljkkejjnimjcaaDoor
namespace Go.Proofs.YtljkkejjnimjcaaDoor
open Go.RowKit

/-- The first k bytes of L, the others still zero. -/
def fillZ (L : List Int) (n k : Nat) : List Int := L.take k ++ List.replicate (n - k) 0
theorem fillZ_zero (L : List Int) (n : Nat) : fillZ L n 0 = List.replicate n 0 := by simp [fillZ]
theorem fillZ_full (L : List Int) (n : Nat) (h : L.length = n) : fillZ L n n = L := by
  rw [fillZ, List.take_of_length_le (by omega)]; simp
theorem fillZ_length (L : List Int) (n k : Nat) (h : L.length = n) (hk : k ≤ n) : (fillZ L n k).length = n := by
  simp [fillZ]; omega
theorem fillZ_next (L : List Int) (n k : Nat) (h : L.length = n) (hk : k < n) : (fillZ L n k).set k (L.getD k 0) = fillZ L n (k + 1) := by
  have e : L.take (k + 1) = L.take k ++ [L.getD k 0] := by rw [List.take_add_one, List.getElem?_eq_getElem (by omega)]; simp [List.getD, h, hk]
  have hr : n - k = (n - (k + 1)) + 1 := by omega
  have hl : (L.take k).length = k := by simp; omega
  rw [fillZ, fillZ, e, hr, List.replicate_succ, List.set_append_right _ _ (by omega), hl, Nat.sub_self]
  simp
end Go.Proofs.YtljkkejjnimjcaaDoor
