/-
  The reference's frame.
-/
import Derived.Test.YtkcbbgmilaafeaaDoorFields
namespace Go.Proofs.YtkcbbgmilaafeaaDoor
open Go.RowKit

theorem be4_mod (x : Int) : be4 (x % 4294967296) = be4 x := by
  simp only [be4, List.cons.injEq, and_true]
  omega

set_option maxRecDepth 100000 in
set_option maxHeartbeats 2000000 in
theorem rframe_any (tag : Int) (A : Option Addr) (n c : Nat) (fs : List (List Int)) (w : World) (hs : Fields w w.heap.size A n fs) (hn : n ≤ 1048576) (ht : tot fs ≤ 1099511627776) :
    Calls Tryd.prog 30 #[.int .i64 tag, .slice A n c] w fun e w' => ∃ v, e = .returned v ∧ Own w' w.heap.size 5 .u8 v (frameI tag fs) ∧ Below w.heap.size w w' := by
  obtain ⟨i0, hi, hz0, hz1, hz2⟩ := info_parts Tryd.infoU8
  have HS := Lib.hid hs
  have HLN := Lib.hid hs.1
  clear hs
  have hown0 : Own (w.alloc (.cells #[.int .u8 (tag % 256)] 5)) w.heap.size 5 .u8 (.slice (some ⟨w.heap.size, 0, none⟩) 1 1) [tag % 256] :=
    ⟨rfl, .inr ⟨w.heap.size, 1, #[.int .u8 (tag % 256)], rfl, Nat.le_refl _, heap_alloc_new w _, Nat.le_refl _, by unfold maxLen; omega, rfl, rfl⟩⟩
  have hb0 : Below w.heap.size w (w.alloc (.cells #[.int .u8 (tag % 256)] 5)) := (Below.refl _ _).alloc (Nat.le_refl _) _
  go_enter Tryd.func30, Tryd.ntmps30
  go_wp2_with fail
  go_loopw [5, 6] (fun v i wr => ∃ k : Nat, k ≤ n ∧ i = .int .i64 k ∧ Own wr w.heap.size 5 .u8 v (frameI tag (fs.take k)) ∧ Below w.heap.size w wr) (fun _ i _ => n - (intOf i).toNat)
  case atStart => exact ⟨0, by omega, rfl, hown0, hb0⟩
  case round =>
    clear hown0 hb0
    obtain ⟨j, hj, rfl, hown, hb⟩ := hrel
    have hz := hb.size
    have hfl : (frameI tag (fs.take j)).length ≤ 1 + 4 * n + 1099511627776 := by
      rw [frameI_length]
      have := tot_take_le fs j
      have : (fs.take j).length ≤ n := by simp; omega
      omega
    by_cases hjt : j < n
    · obtain ⟨b, off, rfl, hbl, hc⟩ := HS.out.2 (by omega)
      obtain ⟨A', n', c', h1, h2, hnc, hcm⟩ := hc j hjt
      have hn' : n' ≤ 1099511627776 := by have := h2.1; have := tot_get_le fs j (by rw [HLN.out]; exact hjt); omega
      obtain ⟨f, hf⟩ : ∃ f, Hid (fs.getD j [] = f) := ⟨_, rfl⟩
      rw [hf.out] at h2
      have h1r := (hb.cell (p := ⟨b, off + j, none⟩) hbl).trans h1
      have h1q : Hid (∀ W, Below w.heap.size w W → W.cell? ⟨b, off + j, none⟩ = some (.slice A' n' c')) := fun W hW => (hW.cell (p := ⟨b, off + j, none⟩) hbl).trans h1
      have HF := Lib.hid h2
      have hd : decide ((j : Int) < n) = true := by simp; omega
      clear hc h2 h1
      go_wp2_with (first
        | (at_builtin; refine wpList_app _ rfl (.tmp 22) (.tmp 34) 27 rfl w.heap.size 5 i0 (.int .u8 0) 1 Tryd.underlying27 hi hz0 hz1 hz2 rfl .u8 _ (frameI tag (fs.take j)) rfl (hown.alloc _) (wr.heap.size + 1) (some ⟨wr.heap.size, 0, none⟩) 4 4 (be4 n') rfl ((Seg.of_blk (Blk.new wr 5 .u8 (be4 n'))).more (by simp)) (by unfold maxLen; omega) (by omega) (by simp; omega) ?_; intro v4 w4 hown4 hg4 hor4; have hb4 := own_below (hown.alloc _) hg4 (hb.alloc hz _) (by simp; omega); have hz4 := hb4.size; have hs4 := HF.out.below hb4 (Nat.le_refl _); have h14 := h1q.out _ hb4; clear hg4 hor4)
        | (at_builtin; refine wpList_app _ rfl (.tmp 36) (.tmp 40) 27 rfl w.heap.size 5 i0 (.int .u8 0) 1 Tryd.underlying27 hi hz0 hz1 hz2 rfl .u8 _ (frameI tag (fs.take j) ++ be4 n') rfl hown4 _ A' n' c' f rfl hs4 (by unfold maxLen; rw [List.length_append]; simp [be4]; omega) (by rw [List.length_append]; simp [be4]; omega) hz4 ?_; intro v5 w5 hown5 hg5 hor5; have hb5 := own_below hown4 hg5 hb4 hz4; clear hg5 hor5 hs4))
      go_roundw
      case measure => simp [intOf]; omega
      case rel =>
        refine ⟨j + 1, by omega, by go_num, ?_, hb5⟩
        rw [frameI_take _ _ _ (by rw [HLN.out]; exact hjt), hf.out, HF.out.1, be4_mod]
        exact hown5
    · have hd : decide ((j : Int) < n) = false := by simp; omega
      have hw : fs.take j = fs := List.take_of_length_le (by rw [HLN.out]; omega)
      rw [hw] at hown
      clear hw hfl
      go_wp2_with fail
      go_ret
      exact ⟨_, rfl, hown, hb⟩
end Go.Proofs.YtkcbbgmilaafeaaDoor
