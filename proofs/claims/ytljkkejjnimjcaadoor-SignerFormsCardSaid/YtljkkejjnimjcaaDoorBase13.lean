/-
  The sanity check with which each statement of layer 7 begins; short; the height that a drawn number stands for.
  What every statement of this seat shares behind its walk: from 'it returns true and nothing that was there has turned' to the row's post, the table out of the row's list, a world for the witness.
  The table of constants out of the row's list, and a world for the witness.
-/
import Derived.Test.YtljkkejjnimjcaaDoorBase12
import Derived.Test.YtljkkejjnimjcaaDoorBase1
import Derived.ProofKit
import Derived.OpenShut
import Derived.Deep.DeepHandedRow
import Derived.Test.YtljkkejjnimjcaaDoorCards
import Derived.Test.YtljkkejjnimjcaaDoorTie
import Derived.Lib.LaidTab
namespace Go.Proofs.YtljkkejjnimjcaaDoor
open Go.RowKit

/-- What was there before is there behind a call, below the heap's end. -/
theorem Seg.up {w w' : World} {k : IntKind} {A : Option Addr} {n : Nat} {xs : List Int} (h : Seg w w.heap.size k A n xs) (hb : Below w.heap.size w w') : Seg w' w'.heap.size k A n xs := (h.below hb (Nat.le_refl _)).more hb.size
theorem seg_new (W : World) (k : IntKind) (t : TypeId) (x : List Int) : Seg (W.alloc (.cells (ints k x).toArray t)) (W.alloc (.cells (ints k x).toArray t)).heap.size k (some ⟨W.heap.size, 0, none⟩) x.length x := Seg.of_blk (Blk.new W t k x)
theorem below_new (W : World) (o : Obj) : Below W.heap.size W (W.alloc o) := (Below.refl _ _).alloc (Nat.le_refl _) _
/-- The height, from 0 to 2. -/
def heightS (h : Int) : Nat := ((bits .and .i64 h 7).tmod 3).toNat
theorem height_s (h : Int) : heightS h ≤ 2 ∧ (bits .and .i64 h 7).tmod 3 = (heightS h : Int) := by
  have : 0 ≤ bits .and .i64 h 7 ∧ bits .and .i64 h 7 ≤ 7 := and_mask h 7 (by omega)
  unfold heightS
  rw [Int.tmod_eq_emod_of_nonneg this.1]
  omega

set_option maxRecDepth 100000 in
set_option maxHeartbeats 1000000 in
theorem short7_any (A A2 : Option Addr) (n c n2 c2 : Nat) (w : World) : Calls Tryd.prog 13 #[.slice A n c, .slice A2 n2 c2] w fun e w' => e = .returned (.bool (decide (n ≤ 100) && decide (n2 ≤ 100))) ∧ w = w' := by
  by_cases h1 : n ≤ 100
  · have hd : decide ((n : Int) ≤ 100) = true := by simp; omega
    by_cases h2 : n2 ≤ 100
    · have hd2 : decide ((n2 : Int) ≤ 100) = true := by simp; omega
      have HE : Hid ((decide (n ≤ 100) && decide (n2 ≤ 100)) = true) := by show _ = _; simp [h1, h2]
      clear h1 h2
      go_enter Tryd.func13, Tryd.ntmps13
      go_wp2_with fail
      go_ret
      exact ⟨by rw [HE.out]; rfl, rfl⟩
    · have hd2 : decide ((n2 : Int) ≤ 100) = false := by simp; omega
      have HE : Hid ((decide (n ≤ 100) && decide (n2 ≤ 100)) = false) := by show _ = _; simp [h2]
      clear h1 h2
      go_enter Tryd.func13, Tryd.ntmps13
      go_wp2_with fail
      go_ret
      exact ⟨by rw [HE.out]; rfl, rfl⟩
  · have hd : decide ((n : Int) ≤ 100) = false := by simp; omega
    have HE : Hid ((decide (n ≤ 100) && decide (n2 ≤ 100)) = false) := by show _ = _; simp [h1]
    clear h1
    go_enter Tryd.func13, Tryd.ntmps13
    go_wp2_with fail
    go_ret
    exact ⟨by rw [HE.out]; rfl, rfl⟩

/-- Three bytes that a call has laid, each in a slice of its own. -/
theorem laid_bytes (w : World) (x y z : Int) (t : TypeId) : let W := ((w.alloc (.cells #[.int .u8 x] t)).alloc (.cells #[.int .u8 y] t)).alloc (.cells #[.int .u8 z] t)
    Seg W W.heap.size .u8 (some ⟨w.heap.size, 0, none⟩) 1 [x] ∧ Seg W W.heap.size .u8 (some ⟨w.heap.size + 1, 0, none⟩) 1 [y] ∧ Seg W W.heap.size .u8 (some ⟨w.heap.size + 1 + 1, 0, none⟩) 1 [z] ∧ Below w.heap.size w W := by
  intro W
  have b1 := below_new w (.cells #[.int .u8 x] t)
  have b2 := below_new (w.alloc (.cells #[.int .u8 x] t)) (.cells #[.int .u8 y] t)
  have b3 := below_new ((w.alloc (.cells #[.int .u8 x] t)).alloc (.cells #[.int .u8 y] t)) (.cells #[.int .u8 z] t)
  have h1 := seg_new w .u8 t [x]
  have h2 := seg_new (w.alloc (.cells #[.int .u8 x] t)) .u8 t [y]
  have h3 := seg_new ((w.alloc (.cells #[.int .u8 x] t)).alloc (.cells #[.int .u8 y] t)) .u8 t [z]
  have z1 : (w.alloc (.cells #[.int .u8 x] t)).heap.size = w.heap.size + 1 := by simp
  have z2 : ((w.alloc (.cells #[.int .u8 x] t)).alloc (.cells #[.int .u8 y] t)).heap.size = w.heap.size + 1 + 1 := by simp
  rw [z1] at h2
  rw [z2] at h3
  refine ⟨(Seg.up h1 b2).up b3, Seg.up h2 b3, h3, (b1.trans (b2.mono b1.size)).trans (b3.mono ?_)⟩
  have := b1.size
  have := b2.size
  omega

set_option maxRecDepth 100000 in
set_option maxHeartbeats 2000000 in
theorem awake7_any (w : World) (hK : Tab w 0 .u32 kay256) : Calls Tryd.prog 9 #[] w fun e w' => e = .returned (.bool true) ∧ Below w.heap.size w w' := by
  have HK := Lib.hid hK
  have hw0 := hK.lt
  clear hK
  obtain ⟨ht1, ht2, ht3⟩ := trip7 [1] [2] 0 0 (by omega) (by decide)
  have HV : Hid (ver7 (pub7 [1] 0) [2] (sig7 [1] 0 0 [2]) = (0, true)) := ht1
  have HL1 : Hid ((sig7 [1] 0 0 [2]).length = 561) := ht2
  have HL2 : Hid ((pub7 [1] 0).length = 17) := ht3
  clear ht1 ht2 ht3
  go_enter Tryd.func9, Tryd.ntmps9
  go_wp2_with fail
  have hb0 := below_new w (.cells #[.int .u8 1] 5)
  refine (wpub7_any _ 1 1 [1] 0 _ (seg_new w .u8 5 [1]) (by omega) (by omega) (by omega) (HK.out.below hb0 hw0)).mono ?_
  rintro e w1 ⟨B1, k1, d1, rfl, hk1, hd1, hm1, hS1, hb1⟩
  have hl1 : k1 = 17 := by rw [← hS1.1]; exact HL2.out
  rw [hl1] at hS1 hd1 ⊢
  have HS1 := Lib.hid hS1
  have hbw1 := hb0.trans (hb1.mono hb0.size)
  have hz1 := hbw1.size
  clear hS1 hl1 hb0 hb1
  go_wp2_with fail
  obtain ⟨hA, hB, hC, hb0⟩ := laid_bytes w1 2 1 2 5
  have HA := Lib.hid hA
  have hbw2 := hbw1.trans (hb0.mono hz1)
  have hz2 := hbw2.size
  have HS2 := Lib.hid (HS1.out.up hb0)
  refine (wsig7_any _ _ 1 1 1 1 [1] [2] 0 0 _ hB (by omega) (by omega) (by omega) hC (by omega) (by omega) (by omega) (HK.out.below hbw2 hw0)).mono ?_
  rintro e w3 ⟨B3, k3, d3, rfl, hk3, hd3, hm3, hS3, hb3⟩
  have hl3 : k3 = 561 := by rw [← hS3.1]; exact HL1.out
  rw [hl3] at hS3 hd3 ⊢
  have HS3 := Lib.hid hS3
  have HS23 := Lib.hid (HS2.out.up hb3)
  have HA3 := Lib.hid (HA.out.up hb3)
  have hbw3 := hbw2.trans (hb3.mono hz2)
  have hz3 := hbw3.size
  clear hA hB hC hb0 hS3 hl3 hb3
  go_wp2_with fail
  refine (wver7_any B1 _ B3 17 d1 1 1 561 d3 (pub7 [1] 0) [2] (sig7 [1] 0 0 [2]) w3 HS23.out (by omega) hd1 hm1 (inB_pub7 _ _) HA3.out (by omega) (by omega) (by omega) HS3.out (by omega) hd3 hm3 (inB_sig7 _ _ _ _) (HK.out.below hbw3 hw0)).mono ?_
  rw [HV.out]
  rintro e w4 ⟨rfl, hb4⟩
  go_wp2_with fail
  go_ret
  exact ⟨rfl, hbw3.trans (hb4.mono hz3)⟩
end Go.Proofs.YtljkkejjnimjcaaDoor
namespace Go.Proofs.YtljkkejjnimjcaaDoor
open Go.ChangeShapes Go.WideShapes Go.ChangeAt Go.RowKit

theorem own : ownKnob Tryd.prog.godebug = none := by kernel_rfl
theorem cellsU8 : Tryd.prog.cellsOf 5 = 1 := by kernel_rfl
theorem cellsBytes : Tryd.prog.cellsOf 22 = 1 := by kernel_rfl
theorem laidOutP : laidOutB Tryd.prog = true := by kernel_rfl

section
variable {H : Type} {enc : TypeId × Value → H} {P : Program} {W W' : World}
theorem trodAll_below (hl : laidOutB P = true) (hb : Below W.heap.size W W') : ∀ (ts : List TypeId) (vs : List Value) (ds : List (DataW H)) (ps : List MemPlace), (∀ t ∈ ts, P.readableRec t = true ∧ t < P.types.size) →
    (∀ x ∈ ps, x.block < W.heap.size) → DataW.TrodAll enc P W 0 (fun _ => true) true ts vs ds ps → DataW.TrodAll enc P W' 0 (fun b => decide (b < W.heap.size)) true ts vs ds ps
  | [], vs, ds, ps, _, _, h => by
    obtain ⟨rfl, rfl, rfl⟩ := trodAll_nil h
    exact trodAll_mk0
  | t :: ts, vs, ds, ps, hts, hlt, h => by
    obtain ⟨v, vs', d, ds', p, q, rfl, rfl, rfl, h0, hr⟩ := trodAll_cons h
    have h1 := Below.trod hl (hts t (by simp)).1 (hts t (by simp)).2 h0 hb (fun x hx => hlt x (by simp [hx]))
    exact trodAll_cons_mk h1 (trodAll_below hl hb ts vs' ds' q (fun t' ht => hts t' (by simp [ht])) (fun x hx => hlt x (by simp [hx])) hr)

/-- The row's post of a law that returned true and turned nothing that was there. -/
theorem law_post {f : Func} {s : ChangeSpec} {args : Array Value} {ds gs : List (DataW H)} {before : List MemPlace} {b : TypeId} (hl : laidOutB P = true)
    (hW : DataW.Whole enc P f.params.toList s.vars false W args.toList ds gs before) (hv : s.vars = []) (hf : f.resultTypes = #[b]) (hbt : P.underlying b = some .bool)
    (hts : ∀ t ∈ f.params.toList, P.readableRec t = true ∧ t < P.types.size)
    (hs : s.fn H (ds ++ gs) = { results := [.lit (.bool true)], args := ds }) (hb : Below W.heap.size W W') : s.post enc P f false true false false W args (.bool true) W' := by
  have hlt : ∀ x ∈ before, x.block < W.heap.size := fun x hx => hW.lt x hx
  have hW2 := hW
  obtain ⟨p, q, hA, hV, rfl, hfz, hnd⟩ := hW
  rw [hv] at hV
  obtain ⟨rfl, rfl⟩ := trodVars_none hV
  refine ⟨ds, [], p ++ [], [], p, [], hW2, ?_, ?_, ?_, hb.frame _, fun h => by cases h⟩
  · rw [hs, hf]
    exact trodAll_mk1 (shut_bool hbt true)
  · rw [hs]
    exact trodAll_below hl hb _ _ _ _ hts (fun x hx => hlt x (by simp [hx])) hA
  · rw [hs, hv]
    rfl
end

section
variable {H : Type} {enc : TypeId × Value → H} {W : World}
set_option maxRecDepth 100000 in
/-- A slice of bytes that came in. -/
theorem open_bytes {fuel : Nat} {cs : List Value} {x : DataW H × List MemPlace} (h : DataW.trod enc Tryd.prog W 0 (fun _ => true) true fuel 22 cs = some x) :
    ∃ A n c xs, cs = [.slice A n c] ∧ Seg W W.heap.size .u8 A n xs ∧ n ≤ c ∧ c ≤ maxLen := by
  rcases open_ints Tryd.underlying22 Tryd.underlying5 cellsU8 h with ⟨rfl, _⟩ | ⟨a, len, cap, zs, rfl, _, hl, hm, hz, _, hcell, _⟩
  · exact ⟨none, 0, 0, [], rfl, Seg.nil _ _ _ _, Nat.le_refl _, by unfold maxLen; omega⟩
  · have hz' : zs.length = cap := by simpa using hz
    refine ⟨some a, len, cap, zs.take len, rfl, ⟨by simp; omega, fun hn => ?_⟩, hl, hm⟩
    obtain ⟨b, off, rfl, hc⟩ := Go.ints_at hcell (by omega)
    refine ⟨b, off, rfl, block_lt_of_cell (hc 0 (by omega)), fun j hj => ?_⟩
    rw [hc j (by omega)]
    simp [List.getD, hj]
set_option maxRecDepth 100000 in
theorem open_bytes_arg {v : Value} {d : DataW H} {ps : List MemPlace} {base : Nat} (hval : Value.okWide Tryd.prog W .any base 22 v) (h : DataW.Trod enc Tryd.prog W 0 (fun _ => true) true 22 v d ps) :
    ∃ A n c xs, v = .slice A n c ∧ Seg W W.heap.size .u8 A n xs ∧ n ≤ c ∧ c ≤ maxLen := by
  obtain ⟨a0, len, cap, rfl⟩ := okWide_slice Tryd.underlying22 hval
  obtain ⟨fuel, hf⟩ := h
  obtain ⟨A, n, c, xs, he, hs, h1, h2⟩ := open_bytes hf
  simp only [Value.cells] at he
  injection he with he
  exact ⟨A, n, c, xs, he, hs, h1, h2⟩
end

end Go.Proofs.YtljkkejjnimjcaaDoor
namespace Go.Proofs.YtljkkejjnimjcaaDoor
open Go.ChangeShapes Go.WideShapes Go.ChangeAt Go.RowKit

theorem gTab : Tryd.prog.globalNamed "sealwright/digest.constants256" = some 0 := by kernel_rfl
theorem gTabType : (Tryd.prog.globals[0]?).map (·.type) = some 69 := by kernel_rfl
theorem cells64 : Tryd.prog.cellsOf 69 = 64 := by kernel_rfl
theorem cells1 : Tryd.prog.cellsOf 60 = 1 := by kernel_rfl
/-- What the row's list gives: the table's block. -/
theorem tab_of_laid {W : World} (h : laidMetH Tryd.prog [("sealwright/digest.constants256", Rows.laid_sealwright_digest_constants256)] W) : Tab W 0 .u32 kay256 := by
  have h1 : Lib.TabIs Tryd.prog W "sealwright/digest.constants256" .u32 kay256 := Lib.tabIs_of_head (rest := []) gTab gTabType Tryd.underlying69 Tryd.underlying60 cells1 cells64 h
  unfold Lib.TabIs World.var? at h1
  rw [gTab] at h1
  simp only [Option.bind_some] at h1
  split at h1
  · rename_i cs t fr hh
    injection h1 with h1
    subst h1
    exact ⟨t, fr, hh⟩
  · cases h1

/-- The world of the witness: the settled one, the table holding what its initialiser lays. -/
noncomputable def laidWorld (os : Os) : World :=
  { World.holding Tryd.prog os ⟨#[], #[], []⟩ with heap := (World.holding Tryd.prog os ⟨#[], #[], []⟩).heap.modify 0 fun
      | .cells _ t frozen => .cells (ints .u32 kay256).toArray t frozen
      | o => o }
end Go.Proofs.YtljkkejjnimjcaaDoor
