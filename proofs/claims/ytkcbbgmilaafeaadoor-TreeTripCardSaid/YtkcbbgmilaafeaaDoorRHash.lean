/-
  The reference's hash of a frame; a list of two fields that a call has laid.
-/
import Derived.Test.YtkcbbgmilaafeaaDoorH16
import Derived.Test.YtkcbbgmilaafeaaDoorRFrame
import Derived.Test.YtkcbbgmilaafeaaDoorRefC
namespace Go.Proofs.YtkcbbgmilaafeaaDoor
open Go.RowKit

set_option maxHeartbeats 1000000 in
theorem rhash_any (tag : Int) (A : Option Addr) (n c : Nat) (fs : List (List Int)) (w : World) (hs : Fields w w.heap.size A n fs) (hn : n ≤ 1048576) (ht : tot fs ≤ 1073741824) :
    Calls Tryd.prog 32 #[.int .i64 tag, .slice A n c] w fun e w' => ∃ v, e = .returned v ∧ Row w' w.heap.size 5 .u8 v 32 (sha256 (frameI tag fs)) ∧ Below w.heap.size w w' := by
  have HS := Lib.hid hs
  have HLN := Lib.hid hs.1
  clear hs
  go_enter Tryd.func32, Tryd.ntmps32
  go_wp2_with fail
  refine (rframe_any tag A n c fs w HS.out hn (by omega)).mono ?_
  rintro e w1 ⟨v1, rfl, hown1, hb1⟩
  obtain ⟨A1, c1, rfl, h1, h2⟩ := Own.cut hown1
  have HSEG := Lib.hid (Seg.of_own hown1)
  have hfl : (frameI tag fs).length ≤ 1099511627776 := by rw [frameI_length, HLN.out]; omega
  have hz := hb1.size
  clear hown1
  go_wp2_with fail
  refine (rsum256_any A1 _ c1 _ w1 HSEG.out hfl).mono ?_
  rintro e w2 ⟨v2, rfl, hown2, hb2⟩
  go_wp2
  go_ret
  exact ⟨_, rfl, (Own.less hown2 hz).row (sha256_length _), hb1.trans (hb2.mono hz)⟩

theorem hash_head {w' : World} {v : Value} {tag : Int} {fs : List (List Int)} {B : Nat} {e : TypeId} (h : Row w' B e .u8 v 32 (sha256 (frameI tag fs))) :
    ∃ A c, v = .slice A 32 c ∧ 32 ≤ c ∧ c ≤ maxLen ∧ Seg w' w'.heap.size .u8 A 16 (hash16 tag fs) := by
  obtain ⟨A, c, hv, h1, h2⟩ := h.cut
  subst hv
  exact ⟨A, c, rfl, h1, h2, h.seg.take (by omega)⟩

theorem hash_new {w' : World} {v : Value} {tag : Int} {fs : List (List Int)} {B : Nat} {e : TypeId} (h : Row w' B e .u8 v 32 (sha256 (frameI tag fs))) :
    ∃ A c, v = .slice A 32 c ∧ 32 ≤ c ∧ c ≤ maxLen ∧ Seg w' w'.heap.size .u8 A 16 (hash16 tag fs) ∧ ∀ a, A = some a → B ≤ a.block := by
  obtain ⟨A, c, hv, h1, h2⟩ := h.cut
  subst hv
  exact ⟨A, c, rfl, h1, h2, h.seg.take (by omega), h.from_ (by omega)⟩

/-- Numbers that the call has laid, and behind them a list of two fields of which they are the first. -/
theorem laid_two (w : World) (bs : List Int) (A : Option Addr) (n c : Nat) (xs : List Int) (tb tf : TypeId) (hs : Seg w w.heap.size .u8 A n xs) (hc : n ≤ c) (hcm : c ≤ maxLen) (hb : bs.length ≤ 1048576) :
    let wq := (w.alloc (.cells (ints .u8 bs).toArray tb)).alloc (.cells #[.slice (some ⟨w.heap.size, 0, none⟩) bs.length bs.length, .slice A n c] tf)
    Fields wq wq.heap.size (some ⟨w.heap.size + 1, 0, none⟩) 2 [bs, xs] ∧ Below w.heap.size w wq := by
  intro wq
  have hb0 : Below w.heap.size w wq := ((Below.refl _ _).alloc (Nat.le_refl _) _).alloc (by simp) _
  have hB : Blk wq w.heap.size tb .u8 bs := (Blk.new w tb .u8 bs).alloc _
  have hS : Seg wq wq.heap.size .u8 (some ⟨w.heap.size, 0, none⟩) bs.length bs := Seg.of_blk hB
  refine ⟨fields2 wq (w.heap.size + 1) _ _ _ _ _ _ bs xs ?_ ?_ hS ((hs.below hb0 (Nat.le_refl _)).more hb0.size) (Nat.le_refl _) (by unfold maxLen; omega) hc hcm, hb0⟩
  · exact cell_made _ _ _ _ 0 _ (by simp) rfl
  · exact cell_made _ _ _ _ 1 _ (by simp) rfl

/-- The same with three fields. -/
theorem laid_three (w : World) (bs : List Int) (A A2 : Option Addr) (n c n2 c2 : Nat) (xs ys : List Int) (tb tf : TypeId) (hs : Seg w w.heap.size .u8 A n xs) (hc : n ≤ c) (hcm : c ≤ maxLen) (ht : Seg w w.heap.size .u8 A2 n2 ys) (hc2 : n2 ≤ c2) (hcm2 : c2 ≤ maxLen) (hb : bs.length ≤ 1048576) :
    let wq := (w.alloc (.cells (ints .u8 bs).toArray tb)).alloc (.cells #[.slice (some ⟨w.heap.size, 0, none⟩) bs.length bs.length, .slice A n c, .slice A2 n2 c2] tf)
    Fields wq wq.heap.size (some ⟨w.heap.size + 1, 0, none⟩) 3 [bs, xs, ys] ∧ Below w.heap.size w wq := by
  intro wq
  have hb0 : Below w.heap.size w wq := ((Below.refl _ _).alloc (Nat.le_refl _) _).alloc (by simp) _
  have hB : Blk wq w.heap.size tb .u8 bs := (Blk.new w tb .u8 bs).alloc _
  have hS : Seg wq wq.heap.size .u8 (some ⟨w.heap.size, 0, none⟩) bs.length bs := Seg.of_blk hB
  refine ⟨fields3 wq (w.heap.size + 1) _ _ _ _ _ _ _ _ _ bs xs ys ?_ ?_ ?_ hS ((hs.below hb0 (Nat.le_refl _)).more hb0.size) ((ht.below hb0 (Nat.le_refl _)).more hb0.size) (Nat.le_refl _) (by unfold maxLen; omega) hc hcm hc2 hcm2, hb0⟩
  · exact cell_made _ _ _ _ 0 _ (by simp) rfl
  · exact cell_made _ _ _ _ 1 _ (by simp) rfl
  · exact cell_made _ _ _ _ 2 _ (by simp) rfl
end Go.Proofs.YtkcbbgmilaafeaaDoor
