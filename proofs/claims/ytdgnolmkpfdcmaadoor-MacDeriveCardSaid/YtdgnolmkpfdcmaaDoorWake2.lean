/-
  The sanity check with which each statement of layer 2 begins: the code of a known message under a known key.
-/
import Derived.Test.YtdgnolmkpfdcmaaDoorMac
import Derived.Test.YtdgnolmkpfdcmaaDoorJefe
namespace Go.Proofs.YtdgnolmkpfdcmaaDoor
open Go.RowKit

/-- A block that the program lays for a constant text, as bytes. -/
theorem Seg.const (xs : List Int) (e : TypeId) (fr : Nat × Nat) (g : Nat) (w' : World) (h : w'.heap[g]? = some (.cells (ints .u8 xs).toArray e fr)) : Seg w' w'.heap.size .u8 (some ⟨g, 0, none⟩) xs.length xs :=
  ⟨rfl, fun _ => ⟨g, 0, rfl, (Array.getElem?_eq_some_iff.1 h).1, fun j hj => by
    rw [Nat.zero_add, cell_of_row w' g j _ _ _ h, List.getElem?_toArray]
    exact ints_at .u8 xs j hj⟩⟩

set_option maxRecDepth 100000 in
set_option maxHeartbeats 1000000 in
theorem awake2_any (w : World) (hK : Tab w 0 .u32 kay256) :
    Calls Tryd.prog 9 #[] w fun e w' => e = .returned (.bool true) ∧ Below w.heap.size w w' := by
  have HK := Lib.hid hK
  clear hK
  have kc := fun (w : World) (C : Array Value) (n c : Nat) => Lib.run_convert_bytes_const (P := Tryd.prog) w 22 5 C n c Tryd.underlying22 Tryd.underlying5
  have kd : ∀ (w : World) (O : Obj) (C : Array Value) (n c : Nat), Sem.run Tryd.prog (convert 22 22 (Value.slice (some ⟨w.heap.size + 1, 0, none⟩) n c)) ((w.alloc O).alloc (Obj.cells C 5)) = .ok (.slice (some ⟨w.heap.size + 1, 0, none⟩) n c) ((w.alloc O).alloc (.cells C 5 (C.size, C.size + 1))) := fun w O C n c => by
    have h := kc (w.alloc O) C n c
    rw [show (w.alloc O).heap.size = w.heap.size + 1 by simp] at h
    exact h
  go_enter Tryd.func9, Tryd.ntmps9
  go_wp2_with fail
  generalize hw1 : World.alloc _ _ = w1
  have hb : Below w.heap.size w w1 := by rw [← hw1]; exact ((Below.refl _ _).alloc (Nat.le_refl _) _).alloc (by simp) _
  have hg1 : Seg w1 w1.heap.size .u8 (some ⟨w.heap.size, 0, none⟩) 4 jefe := Seg.const jefe 5 (4, 5) _ _ (by rw [← hw1]; exact (Below.heap_alloc _ _ _ (by simp)).trans (heap_alloc_new w _))
  have hg2 : Seg w1 w1.heap.size .u8 (some ⟨w.heap.size + 1, 0, none⟩) 28 whatDo := Seg.const whatDo 5 (28, 29) _ _ (by
    rw [← hw1]
    have h := heap_alloc_new (w.alloc (.cells (ints .u8 jefe).toArray 5 (4, 5))) (.cells (ints .u8 whatDo).toArray 5 (28, 29))
    rw [show (w.alloc (.cells (ints .u8 jefe).toArray 5 (4, 5))).heap.size = w.heap.size + 1 by simp] at h
    exact h)
  clear hw1 kc kd
  refine (mac_any _ _ 4 4 28 28 jefe whatDo w1 hg1 (by omega) (by omega) (by omega) hg2 (by omega) (HK.out.below hb HK.out.lt)).mono ?_
  rintro e w2 ⟨v, rfl, hR, hb2⟩
  rw [mac_jefe] at hR
  obtain ⟨g, c, rfl, _, _, _, _, hcell⟩ := hR.own.at_ (by simp)
  have c0 : w2.cell? ⟨g, 0, none⟩ = some (.int .u8 91) := hcell 0 (by simp)
  have c1 : w2.cell? ⟨g, 1, none⟩ = some (.int .u8 220) := hcell 1 (by simp)
  have c31 : w2.cell? ⟨g, 31, none⟩ = some (.int .u8 67) := hcell 31 (by simp)
  clear hcell hR hg1 hg2
  have hb3 : Below w.heap.size w w2 := hb.trans (hb2.mono hb.size)
  clear hb hb2
  go_wp2_with fail
  go_ret
  exact ⟨rfl, hb3⟩
end Go.Proofs.YtdgnolmkpfdcmaaDoor
