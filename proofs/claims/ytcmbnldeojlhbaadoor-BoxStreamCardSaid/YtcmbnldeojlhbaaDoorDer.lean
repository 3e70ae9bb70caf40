/-
  Key derivation: the bytes that are derived, as a Lean function; the program's closure for one part.
-/
import Derived.Test.YtcmbnldeojlhbaaDoorZeros
import Derived.Test.YtcmbnldeojlhbaaDoorMac
import Derived.Deep.RegionHeld3
namespace Go.Proofs.YtcmbnldeojlhbaaDoor
open Go.RowKit

def partMsg (label ctx : List Int) (n i : Int) : List Int := be4 i ++ label ++ [0] ++ ctx ++ be4 (8 * n)
def partI (key label ctx : List Int) (n i : Int) : List Int := macI key (partMsg label ctx n i)
/-- The first parts, one after the other. -/
def partsI (key label ctx : List Int) (n : Int) : Nat → List Int
  | 0 => []
  | j + 1 => partsI key label ctx n j ++ partI key label ctx n (j + 1)
def deriveI (key label ctx : List Int) (n : Int) : List Int := if n < 1 ∨ 1024 < n then [] else (partsI key label ctx n ((n.toNat + 31) / 32)).take n.toNat
theorem partI_length (key label ctx : List Int) (n i : Int) : (partI key label ctx n i).length = 32 := macI_length _ _
theorem partsI_length (key label ctx : List Int) (n : Int) (j : Nat) : (partsI key label ctx n j).length = 32 * j := by
  induction j with
  | zero => rfl
  | succ j ih => rw [partsI, List.length_append, ih, partI_length]; omega
theorem deriveI_length (key label ctx : List Int) (n : Int) : ((deriveI key label ctx n).length : Int) = if n < 1 ∨ 1024 < n then 0 else n := by
  unfold deriveI
  split
  · rfl
  · rw [List.length_take, partsI_length]; omega

/-- Four bytes behind a row of the call's own. -/
theorem mappendWord_any (B : Nat) (v : Value) (n : Nat) (xs : List Int) (x : Int) (w : World) (hown : Row w B 5 .u8 v n xs) (hl : n ≤ 70368744177664) (hB : B ≤ w.heap.size) :
    Calls Tryd.prog 55 #[v, .int .u32 x] w fun e w' => ∃ v', e = .returned v' ∧ Row w' B 5 .u8 v' (n + 4) (xs ++ be4 x) ∧ w.grownBy w' v.ownBlock := by
  obtain ⟨i0, hi, hz0, hz1, hz2⟩ := info_parts Tryd.infoU8
  have HL := Lib.hid hown.length
  have HO := Lib.hid hown.own
  clear hown
  go_enter Tryd.func55, Tryd.ntmps55
  go_wp2_with (at_builtin; refine wpList_app _ rfl _ _ 22 rfl B 5 i0 (.int .u8 0) 1 Tryd.underlying22 hi hz0 hz1 hz2 rfl .u8 _ xs rfl (HO.out.alloc _) (w.heap.size + 1) (some ⟨w.heap.size, 0, none⟩) 4 4 (be4 x) rfl ((Seg.of_blk (Blk.new w 5 .u8 (be4 x))).more (by simp)) (by unfold maxLen; rw [HL.out]; omega) (by rw [HL.out]; omega) (by simp; omega) ?_; intro v' w' hown' hg hor)
  clear hor
  go_ret
  exact ⟨_, rfl, Own.row hown' (by rw [List.length_append, HL.out]; rfl), (World.grownBy_alloc w _ _).trans hg⟩

set_option maxRecDepth 100000 in
set_option maxHeartbeats 2000000 in
theorem part_any (i : Int) (gl gc gk gn : Nat) (label : ByteArray) (A A2 : Option Addr) (n c n2 c2 : Nat) (key ctx : List Int) (m : Int) (w : World)
    (hl : w.cell? ⟨gl, 0, none⟩ = some (.string label)) (hcx : w.cell? ⟨gc, 0, none⟩ = some (.slice A2 n2 c2)) (hk : w.cell? ⟨gk, 0, none⟩ = some (.slice A n c)) (hm : w.cell? ⟨gn, 0, none⟩ = some (.int .i64 m))
    (hs : Seg w w.heap.size .u8 A n key) (hn : n ≤ 1048576) (hc : n ≤ c) (hcm : c ≤ 9223372036854775807) (ht : Seg w w.heap.size .u8 A2 n2 ctx) (hn2 : n2 ≤ 1048576) (hlab : label.size ≤ 1048576)
    (hi1 : 0 ≤ i) (hi2 : i ≤ 1048576) (hm0 : 0 ≤ m) (hm1 : m ≤ 1048576) (hK : Tab w 0 .u32 kay256) :
    Calls Tryd.prog 54 #[.int .i64 i, .pointer (some ⟨gl, 0, none⟩), .pointer (some ⟨gc, 0, none⟩), .pointer (some ⟨gk, 0, none⟩), .pointer (some ⟨gn, 0, none⟩)] w
      fun e w' => ∃ v, e = .returned v ∧ Row w' w.heap.size 5 .u8 v 32 (partI key (strI label) ctx m i) ∧ Below w.heap.size w w' := by
  obtain ⟨i0, hi, hz0, hz1, hz2⟩ := info_parts Tryd.infoU8
  have HS := Lib.hid hs
  have HT := Lib.hid ht
  have HK := Lib.hid hK
  have bl := block_lt_of_cell hl
  have bc := block_lt_of_cell hcx
  have bk := block_lt_of_cell hk
  have bn := block_lt_of_cell hm
  have HL := Lib.hid hl
  have HC := Lib.hid hcx
  have HKK := Lib.hid hk
  have HM := Lib.hid hm
  clear hs ht hK hl hcx hk hm
  go_enter Tryd.func54, Tryd.ntmps54
  go_wp2_with fail
  refine (mappendWord_any w.heap.size _ 0 [] i w (nil_row _ _ _ _) (by omega) (Nat.le_refl _)).mono ?_
  rintro e w1 ⟨v1, rfl, hR1, hg1⟩
  have hb1 : Below w.heap.size w w1 := own_below (nil_row w w.heap.size 5 .u8).own hg1 (Below.refl _ _) (Nat.le_refl _)
  have HR1 : Hid (Row w1 w.heap.size 5 .u8 v1 4 (be4 i)) := hR1
  have hzb1 := hb1.size
  have hl1 := (hb1.cell (p := ⟨gl, 0, none⟩) bl).trans HL.out
  clear hR1 hg1
  have HL1 := Lib.hid (strI_length label)
  have HTL := Lib.hid HT.out.1
  have HLN1 : Hid ((be4 i ++ strI label).length = 4 + label.size) := by show _ = _; rw [List.length_append, HL1.out]; rfl
  have HLN2 : Hid ((be4 i ++ strI label ++ [0]).length = 5 + label.size) := by show _ = _; rw [List.length_append, HLN1.out]; simp; omega
  have HLN3 : Hid ((be4 i ++ strI label ++ [0] ++ ctx).length = 5 + label.size + n2) := by show _ = _; rw [List.length_append, HLN2.out, HTL.out]
  go_wp2_with (first
    | (at_builtin; refine wpList_apps _ rfl (.tmp 11) (.tmp 12) 22 9 rfl w.heap.size 5 i0 Tryd.underlying22 Tryd.underlying9 hi hz0 hz1 hz2 v1 4 (be4 i) rfl HR1.out label rfl (by omega) hzb1 ?_; intro v2 w2 hR2 hg2; have hb2 : Below w.heap.size w w2 := own_below HR1.out.own hg2 hb1 hzb1; have HR2 := Lib.hid hR2.own; have hzb2 := hb2.size; clear hR2 hg2)
    | (at_builtin; refine wpList_app _ rfl (.tmp 14) (.tmp 15) 22 rfl w.heap.size 5 i0 (.int .u8 0) 1 Tryd.underlying22 hi hz0 hz1 hz2 rfl .u8 v2 (be4 i ++ strI label) rfl (HR2.out.alloc _) (w2.heap.size + 1) (some ⟨w2.heap.size, 0, none⟩) 1 1 [0] rfl ((Seg.of_blk (Blk.new w2 5 .u8 [0])).more (by simp)) (by unfold maxLen; rw [HLN1.out]; omega) (by rw [HLN1.out]; omega) (by simp; omega) ?_; intro v3 w3 hown3 hg3 hor3; have hb3 : Below w.heap.size w w3 := own_below (HR2.out.alloc _) hg3 (hb2.alloc hzb2 _) (by simp; omega); have HR3 := Lib.hid hown3; have hzb3 := hb3.size; have hcx3 := (hb3.cell (p := ⟨gc, 0, none⟩) bc).trans HC.out; have HT3 := Lib.hid (HT.out.below hb3 (Nat.le_refl _)); clear hown3 hg3 hor3)
    | (at_builtin; refine wpList_app _ rfl (.tmp 17) (.tmp 18) 22 rfl w.heap.size 5 i0 (.int .u8 0) 1 Tryd.underlying22 hi hz0 hz1 hz2 rfl .u8 v3 (be4 i ++ strI label ++ [0]) rfl HR3.out w.heap.size A2 n2 c2 ctx rfl HT3.out (by unfold maxLen; rw [HLN2.out]; omega) (by rw [HLN2.out]; omega) hzb3 ?_; intro v4 w4 hown4 hg4 hor4; have hb4 : Below w.heap.size w w4 := own_below HR3.out hg4 hb3 hzb3; have HR4 := Lib.hid (hown4.row HLN3.out); have hzb4 := hb4.size; clear hown4 hg4 hor4))
  obtain ⟨M, HMM⟩ : ∃ M : List Int, Hid (be4 i ++ strI label ++ [0] ++ ctx = M) := ⟨be4 i ++ strI label ++ [0] ++ ctx, Lib.hid rfl⟩
  rw [HMM.out] at HR4
  have hw8 : IntKind.i64.wrap (8 * m) = 8 * m := IntWalk.i64_in _ (by omega)
  have hw32 : IntKind.u32.wrap (8 * m) = 8 * m := IntWalk.u32_in _ (by omega)
  have hS : ∀ W, Below w.heap.size w W → W.cell? ⟨gk, 0, none⟩ = some (.slice A n c) ∧ W.cell? ⟨gn, 0, none⟩ = some (.int .i64 m) := fun W h =>
    ⟨(h.cell (p := ⟨gk, 0, none⟩) bk).trans HKK.out, (h.cell (p := ⟨gn, 0, none⟩) bn).trans HM.out⟩
  have HSS := Lib.hid hS
  obtain ⟨hk4, hm4⟩ := hS _ hb4
  have hS4 := Lib.hid (hS _ hb4.drew)
  clear hS hl1
  go_region_held3 (fun W => W.cell? ⟨gk, 0, none⟩ = some (.slice A n c) ∧ W.cell? ⟨gn, 0, none⟩ = some (.int .i64 m))
    (first
      | exact hS4.out
      | exact hS6.out
      | exact hS5.out)
    ((first
      | (go_at_call 41; refine (mac_any A A5 n c (5 + label.size + n2 + 4) c5 key _ w5 ((HS.out.below hb5 (Nat.le_refl _)).more hzb5) (by omega) hc hcm HSEG5.out (by omega) (HK.out.below hb5 HK.out.lt)).mono ?_; rintro e w6 ⟨v6, rfl, hR6, hb6⟩; have hbw6 := hb5.trans (hb6.mono hzb5); have hS6 := Lib.hid (HSS.out _ hbw6); have HR6 := Lib.hid hR6; clear hR6)
      | (go_at_call 55; refine (mappendWord_any w.heap.size v4 (5 + label.size + n2) M (8 * m) w4.drew HR4.out (by omega) hzb4).mono ?_; rintro e w5 ⟨v5, rfl, hR5, hg5⟩; have hb5 : Below w.heap.size w w5 := own_below (w := w4.drew) HR4.out.own hg5 hb4.drew hzb4; have hzb5 := hb5.size; have hS5 := Lib.hid (HSS.out _ hb5); obtain ⟨A5, c5, rfl, _, _⟩ := hR5.cut; have HSEG5 := Lib.hid hR5.seg; clear hR5 hg5)))
  go_wp2
  go_ret
  refine ⟨_, rfl, ?_, hbw6⟩
  rw [partI, partMsg, HMM.out]
  exact (Own.less HR6.out.own hzb5).row (macI_length _ _)
end Go.Proofs.YtcmbnldeojlhbaaDoor
