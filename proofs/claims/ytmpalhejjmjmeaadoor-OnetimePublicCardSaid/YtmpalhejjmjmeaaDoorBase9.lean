/-
  The sanity check with which each statement of layer 5 begins; short; the comparison of lists of numbers.
  What every statement of this seat shares behind its walk: from 'it returns true and nothing that was there has turned' to the row's post, the table out of the row's list, a world for the witness.
  The table of constants out of the row's list, and a world for the witness.
-/
import Derived.Test.YtmpalhejjmjmeaaDoorBase8
import Derived.Test.YtmpalhejjmjmeaaDoorBase3
import Derived.Test.YtmpalhejjmjmeaaDoorBase1
import Derived.ProofKit
import Derived.OpenShut
import Derived.Deep.DeepHandedRow
import Derived.Test.YtmpalhejjmjmeaaDoorCards
import Derived.Test.YtmpalhejjmjmeaaDoorTie
import Derived.Lib.LaidTab
namespace Go.Proofs.YtmpalhejjmjmeaaDoor
open Go.RowKit

/-- What was there before is there behind a call, below the heap's end. -/
theorem Seg.up {w w' : World} {k : IntKind} {A : Option Addr} {n : Nat} {xs : List Int} (h : Seg w w.heap.size k A n xs) (hb : Below w.heap.size w w') : Seg w' w'.heap.size k A n xs := (h.below hb (Nat.le_refl _)).more hb.size
theorem seg_new (W : World) (k : IntKind) (t : TypeId) (x : List Int) : Seg (W.alloc (.cells (ints k x).toArray t)) (W.alloc (.cells (ints k x).toArray t)).heap.size k (some ⟨W.heap.size, 0, none⟩) x.length x := Seg.of_blk (Blk.new W t k x)
theorem below_new (W : World) (o : Obj) : Below W.heap.size W (W.alloc o) := (Below.refl _ _).alloc (Nat.le_refl _) _

theorem signI_length (seed msg : List Int) (leaf : Int) (h0 : 0 ≤ leaf) (h1 : leaf ≤ 255) : (signI seed leaf msg).length = 560 := by
  rw [signI, if_neg (by omega), catI_length _ _ (fun c _ => chainI_length _ _ _ _ (startI_length _ _ _) _)]
theorem publicI_length (seed : List Int) (leaf : Int) (h0 : 0 ≤ leaf) (h1 : leaf ≤ 255) : (publicI seed leaf).length = 16 := by
  rw [publicI, if_neg (by omega), valueI, hash16_length]

set_option maxRecDepth 100000 in
set_option maxHeartbeats 2000000 in
theorem awake5_any (w : World) (hK : Tab w 0 .u32 kay256) : Calls Tryd.prog 10 #[] w fun e w' => e = .returned (.bool true) ∧ Below w.heap.size w w' := by
  have HK := Lib.hid hK
  have hw0 := hK.lt
  clear hK
  go_enter Tryd.func10, Tryd.ntmps10
  go_wp2_with fail
  obtain ⟨wa, hwa⟩ : ∃ wa, wa = w.alloc (.cells (ints .u8 [1]).toArray 5) := ⟨_, rfl⟩
  obtain ⟨wb, hwb⟩ : ∃ wb, wb = wa.alloc (.cells (ints .u8 [2]).toArray 5) := ⟨_, rfl⟩
  have ba : Below w.heap.size w wa := by rw [hwa]; exact below_new _ _
  have bb : Below wa.heap.size wa wb := by rw [hwb]; exact below_new _ _
  have h1 : Seg wa wa.heap.size .u8 (some ⟨w.heap.size, 0, none⟩) 1 [1] := by rw [hwa]; exact seg_new w .u8 5 [1]
  have h2 : Seg wb wb.heap.size .u8 (some ⟨wa.heap.size, 0, none⟩) 1 [2] := by rw [hwb]; exact seg_new wa .u8 5 [2]
  have za : wa.heap.size = w.heap.size + 1 := by rw [hwa]; simp
  have hbw := ba.trans (bb.mono ba.size)
  have hz := hbw.size
  have hworld : (w.alloc (.cells #[.int .u8 1] 5)).alloc (.cells #[.int .u8 2] 5) = wb := by rw [hwb, hwa]; rfl
  rw [za] at h2
  rw [hworld]
  have H1 := h1.up bb
  clear hworld hwa hwb za h1
  refine (wsign_any _ _ 1 1 1 1 [1] [2] 0 wb H1 (by omega) (by omega) (by omega) h2 (by omega) (by omega) (by omega) (HK.out.below hbw hw0)).mono ?_
  rintro e w1 ⟨B1, k1, d1, rfl, hk1, hd1, hdm1, hS1, hb1⟩
  have hl1 : k1 = 560 := by rw [← hS1.1, signI_length _ _ _ (by omega) (by omega)]
  rw [hl1] at hS1 hd1 ⊢
  have HS1 := Lib.hid hS1
  have hbw1 := hbw.trans (hb1.mono hz)
  have hz1 := hbw1.size
  clear hS1 hl1 H1 h2 ba bb
  go_wp2_with fail
  have hq : Below w1.heap.size w1 (w1.alloc (.cells (ints .u8 [2]).toArray 5)) := below_new _ _
  have hbwq := hbw1.trans (hq.mono hz1)
  have hzq := hbwq.size
  have HR : Hid (recoverI 0 [2] (signI [1] 0 [2]) = (publicI [1] 0, true)) := recover_sign [1] [2] 0 (by omega) (by omega)
  refine (wrecover_any _ B1 1 1 560 d1 [2] (signI [1] 0 [2]) 0 _ (seg_new w1 .u8 5 [2]) (by omega) (by omega) (by omega) (HS1.out.up hq) (by omega) hd1 hdm1 (HK.out.below hbwq hw0)).mono ?_
  rw [HR.out]
  rintro e w2 ⟨B2, k2, d2, rfl, hk2, hd2, hdm2, hS2, hb2⟩
  have HP : Hid ((publicI [1] 0).length = 16) := publicI_length _ _ (by omega) (by omega)
  have hl2 : k2 = 16 := by rw [← hS2.1]; exact HP.out
  rw [hl2] at hS2 hd2 ⊢
  have HS2 := Lib.hid hS2
  have hbw2 := hbwq.trans (hb2.mono hzq)
  have hz2 := hbw2.size
  clear hS2 hl2 hq
  go_wp2_with fail
  have hq3 : Below w2.heap.size w2 (w2.alloc (.cells (ints .u8 [1]).toArray 5)) := below_new _ _
  have hbwq3 := hbw2.trans (hq3.mono hz2)
  refine (wpublic_any _ 1 1 [1] 0 _ (seg_new w2 .u8 5 [1]) (by omega) (by omega) (by omega) (HK.out.below hbwq3 hw0)).mono ?_
  rintro e w3 ⟨B3, k3, d3, rfl, hk3, hd3, hdm3, hS3, hb3⟩
  have hl3 : k3 = 16 := by rw [← hS3.1]; exact HP.out
  rw [hl3] at hS3 hd3 ⊢
  have HS3 := Lib.hid hS3
  have HS23 := Lib.hid ((HS2.out.up hq3).up hb3)
  have hbw3 := hbwq3.trans (hb3.mono hbwq3.size)
  have hz3 := hbw3.size
  clear hS3 hl3 hq3
  go_wp2_with fail
  refine (same_self B2 B3 16 d2 d3 _ w3 HS23.out HS3.out (by omega)).mono ?_
  rintro e w4 ⟨rfl, hb4⟩
  go_wp2_with fail
  go_ret
  exact ⟨rfl, hbw3.trans (hb4.mono hz3)⟩

/-- Are two lists of numbers equal? -/
theorem take_next' {xs ys : List Int} {k : Nat} (h : xs.take k = ys.take k) (hx : k < xs.length) (hy : k < ys.length) (e : xs.getD k 0 = ys.getD k 0) : xs.take (k + 1) = ys.take (k + 1) := by
  rw [List.take_add_one, List.take_add_one, h, List.getElem?_eq_getElem hx, List.getElem?_eq_getElem hy]
  have : xs[k] = ys[k] := by simpa [List.getD, hx, hy] using e
  rw [this]
set_option maxRecDepth 100000 in
set_option maxHeartbeats 1000000 in
theorem ints_any (A A2 : Option Addr) (n c c2 : Nat) (xs ys : List Int) (w : World) (hs : Seg w w.heap.size .i64 A n xs) (ht : Seg w w.heap.size .i64 A2 n ys) (hn : n ≤ 1099511627776) :
    Calls Tryd.prog 11 #[.slice A n c, .slice A2 n c2] w fun e w' => e = .returned (.bool (sameB xs ys)) ∧ ∃ q, w' = w.drewN q := by
  have HS := Lib.hid hs
  have HT := Lib.hid ht
  clear hs ht
  go_enter Tryd.func11, Tryd.ntmps11
  go_wp2_with fail
  go_loopw [5] (fun i wr => ∃ k : Nat, k ≤ n ∧ i = .int .i64 k ∧ Hid (xs.take k = ys.take k) ∧ ∃ q, wr = w.drewN q) (fun i _ => n - (intOf i).toNat)
  case atStart => exact ⟨0, by omega, rfl, rfl, 0, rfl⟩
  case round =>
    obtain ⟨k, hk, rfl, htk, q, rfl⟩ := hrel
    by_cases hlt : k < n
    · have hd : decide ((k : Int) < n) = true := by simp; omega
      obtain ⟨b, off, rfl, _, hc⟩ := HS.out.2 (by omega)
      obtain ⟨b2, off2, rfl, _, hc2⟩ := HT.out.2 (by omega)
      obtain ⟨x, hx⟩ : ∃ x, Hid (xs.getD k 0 = x) := ⟨_, rfl⟩
      obtain ⟨y, hy⟩ : ∃ y, Hid (ys.getD k 0 = y) := ⟨_, rfl⟩
      have h1 := hc k hlt
      have h2 := hc2 k hlt
      rw [hx.out] at h1
      rw [hy.out] at h2
      clear hc hc2
      have hki : (k : Int) < n := by omega
      by_cases hxy : x = y
      · have hne : (x != y) = false := by rw [bne_eq_false_iff_eq]; exact hxy
        have HXY := Lib.hid hxy
        clear hxy
        go_wp2_with fail
        go_quiet (fail)
        go_wp2_with fail
        go_roundw
        case measure => simp [intOf]; omega
        case rel => exact ⟨k + 1, by omega, by go_num, take_next' htk.out (by rw [HS.out.1]; exact hlt) (by rw [HT.out.1]; exact hlt) (by rw [hx.out, hy.out, HXY.out]), _, rfl⟩
      · have hne : (x != y) = true := by rw [bne_iff_ne]; exact hxy
        have hfin : sameB xs ys = false := by
          simp only [sameB, decide_eq_false_iff_not]
          intro e
          exact hxy (by rw [← hx.out, ← hy.out, e])
        have HF := Lib.hid hfin
        clear hxy hfin
        go_wp2_with fail
        go_quiet (fail)
        go_wp2_with fail
        go_ret
        exact ⟨by rw [HF.out]; rfl, _, World.drewN_drewN _ _ _⟩
    · have hd : decide ((k : Int) < n) = false := by simp; omega
      have hfin : sameB xs ys = true := by
        have hkn : k = n := by omega
        have h1 := htk.out
        rw [hkn, List.take_of_length_le (by rw [HS.out.1]; omega), List.take_of_length_le (by rw [HT.out.1]; omega)] at h1
        simp [sameB, h1]
      have HF := Lib.hid hfin
      clear hfin
      go_wp2_with fail
      go_ret
      exact ⟨by rw [HF.out]; rfl, _, rfl⟩

set_option maxRecDepth 100000 in
theorem short_any (A A2 : Option Addr) (n c n2 c2 : Nat) (w : World) (b : Bool) (hb : decide (n ≤ 100 ∧ n2 ≤ 100) = b) :
    Calls Tryd.prog 17 #[.slice A n c, .slice A2 n2 c2] w fun e w' => e = .returned (.bool b) ∧ w = w' := by
  by_cases h1 : n ≤ 100
  · have hd : decide ((n : Int) ≤ 100) = true := by simp; omega
    by_cases h2 : n2 ≤ 100
    · have hd2 : decide ((n2 : Int) ≤ 100) = true := by simp; omega
      have hb' : b = true := by rw [← hb]; simp; omega
      subst hb'
      clear hb
      go_enter Tryd.func17, Tryd.ntmps17
      go_wp2_with fail
      go_ret
      exact ⟨rfl, rfl⟩
    · have hd2 : decide ((n2 : Int) ≤ 100) = false := by simp; omega
      have hb' : b = false := by rw [← hb]; simp; omega
      subst hb'
      clear hb
      go_enter Tryd.func17, Tryd.ntmps17
      go_wp2_with fail
      go_ret
      exact ⟨rfl, rfl⟩
  · have hd : decide ((n : Int) ≤ 100) = false := by simp; omega
    have hb' : b = false := by rw [← hb]; simp; omega
    subst hb'
    clear hb
    go_enter Tryd.func17, Tryd.ntmps17
    go_wp2_with fail
    go_ret
    exact ⟨rfl, rfl⟩
end Go.Proofs.YtmpalhejjmjmeaaDoor
namespace Go.Proofs.YtmpalhejjmjmeaaDoor
open Go.ChangeShapes Go.WideShapes Go.ChangeAt Go.RowKit

theorem own : ownKnob Tryd.prog.godebug = none := by kernel_rfl
theorem cellsU8 : Tryd.prog.cellsOf 5 = 1 := by kernel_rfl
theorem cellsBytes : Tryd.prog.cellsOf 22 = 1 := by kernel_rfl
theorem laidOutP : laidOutB Tryd.prog = true := by kernel_rfl

section
variable {H : Type} {enc : TypeId × Value → H} {P : Program} {W W' : World}
theorem trodAll_below (hl : laidOutB P = true) (hb : Below W.heap.size W W') : ∀ (ts : List TypeId) (vs : List Value) (ds : List (DataW H)) (ps : List MemPlace), (∀ t ∈ ts, P.readableRec t = true ∧ t < P.types.size) →
    (∀ x ∈ ps, x.block < W.heap.size) → DataW.TrodAll enc P W 0 (fun _ => true) true ts vs ds ps → DataW.TrodAll enc P W' 0 (fun b => decide (b < W.heap.size)) true ts vs ds ps
  | [], vs, ds, ps, _, _, h => by
    obtain ⟨rfl, rfl, rfl⟩ := trodAll_nil h
    exact trodAll_mk0
  | t :: ts, vs, ds, ps, hts, hlt, h => by
    obtain ⟨v, vs', d, ds', p, q, rfl, rfl, rfl, h0, hr⟩ := trodAll_cons h
    have h1 := Below.trod hl (hts t (by simp)).1 (hts t (by simp)).2 h0 hb (fun x hx => hlt x (by simp [hx]))
    exact trodAll_cons_mk h1 (trodAll_below hl hb ts vs' ds' q (fun t' ht => hts t' (by simp [ht])) (fun x hx => hlt x (by simp [hx])) hr)

/-- The row's post of a law that returned true and turned nothing that was there. -/
theorem law_post {f : Func} {s : ChangeSpec} {args : Array Value} {ds gs : List (DataW H)} {before : List MemPlace} {b : TypeId} (hl : laidOutB P = true)
    (hW : DataW.Whole enc P f.params.toList s.vars false W args.toList ds gs before) (hv : s.vars = []) (hf : f.resultTypes = #[b]) (hbt : P.underlying b = some .bool)
    (hts : ∀ t ∈ f.params.toList, P.readableRec t = true ∧ t < P.types.size)
    (hs : s.fn H (ds ++ gs) = { results := [.lit (.bool true)], args := ds }) (hb : Below W.heap.size W W') : s.post enc P f false true false false W args (.bool true) W' := by
  have hlt : ∀ x ∈ before, x.block < W.heap.size := fun x hx => hW.lt x hx
  have hW2 := hW
  obtain ⟨p, q, hA, hV, rfl, hfz, hnd⟩ := hW
  rw [hv] at hV
  obtain ⟨rfl, rfl⟩ := trodVars_none hV
  refine ⟨ds, [], p ++ [], [], p, [], hW2, ?_, ?_, ?_, hb.frame _, fun h => by cases h⟩
  · rw [hs, hf]
    exact trodAll_mk1 (shut_bool hbt true)
  · rw [hs]
    exact trodAll_below hl hb _ _ _ _ hts (fun x hx => hlt x (by simp [hx])) hA
  · rw [hs, hv]
    rfl
end

section
variable {H : Type} {enc : TypeId × Value → H} {W : World}
/-- A slice of bytes that came in. -/
theorem open_bytes {fuel : Nat} {cs : List Value} {x : DataW H × List MemPlace} (h : DataW.trod enc Tryd.prog W 0 (fun _ => true) true fuel 22 cs = some x) :
    ∃ A n c xs, cs = [.slice A n c] ∧ Seg W W.heap.size .u8 A n xs ∧ n ≤ c ∧ c ≤ maxLen := by
  rcases open_ints Tryd.underlying22 Tryd.underlying5 cellsU8 h with ⟨rfl, _⟩ | ⟨a, len, cap, zs, rfl, _, hl, hm, hz, _, hcell, _⟩
  · exact ⟨none, 0, 0, [], rfl, Seg.nil _ _ _ _, Nat.le_refl _, by unfold maxLen; omega⟩
  · have hz' : zs.length = cap := by simpa using hz
    refine ⟨some a, len, cap, zs.take len, rfl, ⟨by simp; omega, fun hn => ?_⟩, hl, hm⟩
    obtain ⟨b, off, rfl, hc⟩ := Go.ints_at hcell (by omega)
    refine ⟨b, off, rfl, block_lt_of_cell (hc 0 (by omega)), fun j hj => ?_⟩
    rw [hc j (by omega)]
    simp [List.getD, hj]
theorem open_bytes_arg {v : Value} {d : DataW H} {ps : List MemPlace} {base : Nat} (hval : Value.okWide Tryd.prog W .any base 22 v) (h : DataW.Trod enc Tryd.prog W 0 (fun _ => true) true 22 v d ps) :
    ∃ A n c xs, v = .slice A n c ∧ Seg W W.heap.size .u8 A n xs ∧ n ≤ c ∧ c ≤ maxLen := by
  obtain ⟨a0, len, cap, rfl⟩ := okWide_slice Tryd.underlying22 hval
  obtain ⟨fuel, hf⟩ := h
  obtain ⟨A, n, c, xs, he, hs, h1, h2⟩ := open_bytes hf
  simp only [Value.cells] at he
  injection he with he
  exact ⟨A, n, c, xs, he, hs, h1, h2⟩
end

end Go.Proofs.YtmpalhejjmjmeaaDoor
namespace Go.Proofs.YtmpalhejjmjmeaaDoor
open Go.ChangeShapes Go.WideShapes Go.ChangeAt Go.RowKit

theorem gTab : Tryd.prog.globalNamed "sealwright/digest.constants256" = some 0 := by kernel_rfl
theorem gTabType : (Tryd.prog.globals[0]?).map (·.type) = some 53 := by kernel_rfl
theorem cells64 : Tryd.prog.cellsOf 53 = 64 := by kernel_rfl
theorem cells1 : Tryd.prog.cellsOf 52 = 1 := by kernel_rfl
/-- What the row's list gives: the table's block. -/
theorem tab_of_laid {W : World} (h : laidMetH Tryd.prog [("sealwright/digest.constants256", Rows.laid_sealwright_digest_constants256)] W) : Tab W 0 .u32 kay256 := by
  have h1 : Lib.TabIs Tryd.prog W "sealwright/digest.constants256" .u32 kay256 := Lib.tabIs_of_head (rest := []) gTab gTabType Tryd.underlying53 Tryd.underlying52 cells1 cells64 h
  unfold Lib.TabIs World.var? at h1
  rw [gTab] at h1
  simp only [Option.bind_some] at h1
  split at h1
  · rename_i cs t fr hh
    injection h1 with h1
    subst h1
    exact ⟨t, fr, hh⟩
  · cases h1

/-- The world of the witness: the settled one, the table holding what its initialiser lays. -/
noncomputable def laidWorld (os : Os) : World :=
  { World.holding Tryd.prog os ⟨#[], #[], []⟩ with heap := (World.holding Tryd.prog os ⟨#[], #[], []⟩).heap.modify 0 fun
      | .cells _ t frozen => .cells (ints .u32 kay256).toArray t frozen
      | o => o }
end Go.Proofs.YtmpalhejjmjmeaaDoor
