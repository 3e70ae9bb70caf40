/-
  The sanity check with which each statement of layer 1 begins: the digest of abc, and the length of a digest of SHA-1.
-/
import Derived.Test.YtnkcnlaijejheaaDoorSum
import Derived.Lib.SlBytesConst
namespace Go.Proofs.YtnkcnlaijejheaaDoor
open Go.RowKit

set_option maxRecDepth 1000000 in
theorem sha256_abc : sha256 [97, 98, 99] = [186, 120, 22, 191, 143, 1, 207, 234, 65, 65, 64, 222, 93, 174, 34, 35, 176, 3, 97, 163, 150, 23, 122, 156, 180, 16, 255, 97, 242, 0, 21, 173] := by decide +kernel
theorem digestI_length (alg : Int) (xs : List Int) : ((digestI alg xs).length : Int) = sizeI alg := by
  unfold digestI sizeI
  split
  · rw [sha1_length]; rfl
  · split
    · rw [sha256_length]; rfl
    · rfl

/-- A row that is not empty lies in a block. -/
theorem Own.at_ {w : World} {B : Nat} {e : TypeId} {k : IntKind} {v : Value} {xs : List Int} (h : Own w B e k v xs) (hx : 0 < xs.length) :
    ∃ g c, v = .slice (some ⟨g, 0, none⟩) xs.length c ∧ xs.length ≤ c ∧ c ≤ maxLen ∧ B ≤ g ∧ g < w.heap.size ∧ ∀ j, j < xs.length → w.cell? ⟨g, j, none⟩ = some (.int k (xs.getD j 0)) := by
  have h' := h
  rcases h.2 with ⟨_, h0⟩ | ⟨g, cap, cur, rfl, hg, hh, h1, h2, _⟩
  · omega
  · refine ⟨g, cap, rfl, h1, h2, hg, (Array.getElem?_eq_some_iff.1 hh).1, fun j hj => ?_⟩
    have := h'.cells (g := g) rfl j (.int k (xs.getD j 0)) (ints_at k xs j hj)
    rwa [addr_add, Nat.zero_add] at this

set_option maxRecDepth 100000 in
set_option maxHeartbeats 1000000 in
theorem awake_any (w : World) (hK : Tab w 0 .u32 kay256) :
    Calls Tryd.prog 10 #[] w fun e w' => e = .returned (.bool true) ∧ Below w.heap.size w w' := by
  have HK := Lib.hid hK
  clear hK
  have kc := fun (w : World) (C : Array Value) (n c : Nat) => Lib.run_convert_bytes_const (P := Tryd.prog) w 22 5 C n c Tryd.underlying22 Tryd.underlying5
  go_enter Tryd.func10, Tryd.ntmps10
  go_wp2_with fail
  generalize hw1 : World.alloc _ _ = w1
  have hb : Below w.heap.size w w1 := by rw [← hw1]; exact (Below.refl _ _).alloc (Nat.le_refl _) _
  have hlt : w.heap.size < w1.heap.size := by rw [← hw1]; simp
  have hrow : w1.heap[w.heap.size]? = some (.cells (ints .u8 [97, 98, 99]).toArray 5 (3, 4)) := by rw [← hw1]; exact heap_alloc_new w _
  have hg : Seg w1 w1.heap.size .u8 (some ⟨w.heap.size, 0, none⟩) 3 [97, 98, 99] := ⟨rfl, fun _ => ⟨w.heap.size, 0, rfl, hlt, fun j hj => by
    rw [Nat.zero_add, cell_of_row w1 w.heap.size j _ _ _ hrow, List.getElem?_toArray]
    exact ints_at .u8 [97, 98, 99] j hj⟩⟩
  clear hw1 kc hlt hrow
  have hK1 := HK.out.below hb HK.out.lt
  refine (sum_any 1 (some ⟨w.heap.size, 0, none⟩) 3 3 [97, 98, 99] w1 hg (by omega) (by omega) (by omega) hK1).mono ?_
  rintro e w2 ⟨v, rfl, hown, hb2⟩
  have hown' : Own w2 w1.heap.size 5 .u8 v [186, 120, 22, 191, 143, 1, 207, 234, 65, 65, 64, 222, 93, 174, 34, 35, 176, 3, 97, 163, 150, 23, 122, 156, 180, 16, 255, 97, 242, 0, 21, 173] := by
    have := hown
    rw [show digestI 1 [97, 98, 99] = _ from sha256_abc] at this
    exact this
  obtain ⟨g, c, rfl, _, _, _, _, hcell⟩ := hown'.at_ (by simp)
  have c0 : w2.cell? ⟨g, 0, none⟩ = some (.int .u8 186) := hcell 0 (by simp)
  have c31 : w2.cell? ⟨g, 31, none⟩ = some (.int .u8 173) := hcell 31 (by simp)
  clear hcell hown hown' hg
  have hK2 := hK1.below hb2 hK1.lt
  have hb3 : Below w.heap.size w w2 := hb.trans (hb2.mono hb.size)
  have HS := Lib.hid (sum_any 0 none 0 0 [] w2 (Seg.nil _ _ _ _) (by omega) (by omega) (by omega) hK2)
  clear hK1 hK2 hb hb2
  go_wp2_with (go_at_call 12; refine HS.out.mono ?_; rintro e w4 ⟨v, rfl, hown, hb4⟩; obtain ⟨A4, c4, rfl, _, _⟩ := Own.cut hown; rw [show (digestI 0 []).length = 20 from sha1_length _])
  go_ret
  exact ⟨rfl, hb3.trans (hb4.mono hb3.size)⟩
end Go.Proofs.YtnkcnlaijejheaaDoor
