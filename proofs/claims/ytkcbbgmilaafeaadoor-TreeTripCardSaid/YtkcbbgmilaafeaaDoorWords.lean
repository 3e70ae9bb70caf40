/-
  Walks of the small functions on words: rotations, the word at a place, the bytes of a word, the function and constant of a round.
-/
import Derived.Test.YtkcbbgmilaafeaaDoorSpec
namespace Go.Proofs.YtkcbbgmilaafeaaDoor
open Go.RowKit

section
set_option maxHeartbeats 400000
theorem rotr_any (x n : Int) (w : World) (h1 : 1 ≤ n) (h2 : n ≤ 31) :
    Calls Tryd.prog 56 #[.int .u32 x, .int .u64 n] w fun e w' => e = .returned (.int .u32 (rotrI x n)) ∧ w = w' := by
  go_enter Tryd.func56, Tryd.ntmps56
  go_wp2
  go_ret
  exact ⟨rfl, rfl⟩
theorem rotl_any (x n : Int) (w : World) (h1 : 1 ≤ n) (h2 : n ≤ 31) :
    Calls Tryd.prog 54 #[.int .u32 x, .int .u64 n] w fun e w' => e = .returned (.int .u32 (rotlI x n)) ∧ w = w' := by
  go_enter Tryd.func54, Tryd.ntmps54
  go_wp2
  go_ret
  exact ⟨rfl, rfl⟩
theorem rrotr_any (x n : Int) (w : World) (h1 : 1 ≤ n) (h2 : n ≤ 31) :
    Calls Tryd.prog 39 #[.int .u32 x, .int .u64 n] w fun e w' => e = .returned (.int .u32 (rotrI x n)) ∧ w = w' := by
  go_enter Tryd.func39, Tryd.ntmps39
  go_wp2
  go_ret
  exact ⟨rfl, rfl⟩

theorem wordAt_any (b off len cap : Nat) (x0 x1 x2 x3 : Int) (w : World) (h1 : 4 ≤ len) (hm : len ≤ 9223372036854775807)
    (h0 : w.cell? ⟨b, off, none⟩ = some (.int .u8 x0)) (h1 : w.cell? ⟨b, off + 1, none⟩ = some (.int .u8 x1)) (h2 : w.cell? ⟨b, off + 2, none⟩ = some (.int .u8 x2)) (h3 : w.cell? ⟨b, off + 3, none⟩ = some (.int .u8 x3)) :
    Calls Tryd.prog 55 #[.slice (some ⟨b, off, none⟩) len cap] w fun e w' => e = .returned (.int .u32 (wordI x0 x1 x2 x3)) ∧ ∃ n, w' = w.drewN n := by
  have g0 : (0 : Int) < len := by omega
  have g1 : (1 : Int) < len := by omega
  have g2 : (2 : Int) < len := by omega
  have g3 : (3 : Int) < len := by omega
  go_enter Tryd.func55, Tryd.ntmps55
  go_wp2
  go_quiet (fail)
  go_wp2
  go_ret
  exact ⟨rfl, _, rfl⟩

theorem rword_any (b off len cap t : Nat) (x0 x1 x2 x3 : Int) (w : World) (h1 : 4 * t + 3 < len) (hm : len ≤ 9223372036854775807)
    (h0 : w.cell? ⟨b, off + 4 * t, none⟩ = some (.int .u8 x0)) (h1 : w.cell? ⟨b, off + (4 * t + 1), none⟩ = some (.int .u8 x1)) (h2 : w.cell? ⟨b, off + (4 * t + 2), none⟩ = some (.int .u8 x2)) (h3 : w.cell? ⟨b, off + (4 * t + 3), none⟩ = some (.int .u8 x3)) :
    Calls Tryd.prog 38 #[.slice (some ⟨b, off, none⟩) len cap, .int .i64 t] w fun e w' => e = .returned (.int .u32 (wordI x0 x1 x2 x3)) ∧ ∃ n, w' = w.drewN n := by
  have g0 : (4 : Int) * t < len := by omega
  have g1 : (4 : Int) * t + 1 < len := by omega
  have g2 : (4 : Int) * t + 2 < len := by omega
  have g3 : (4 : Int) * t + 3 < len := by omega
  go_enter Tryd.func38, Tryd.ntmps38
  go_wp2
  go_quiet (fail)
  go_wp2
  go_ret
  exact ⟨rfl, _, rfl⟩

theorem round1_any (t : Nat) (b c d : Int) (w : World) :
    Calls Tryd.prog 53 #[.int .i64 t, .int .u32 b, .int .u32 c, .int .u32 d] w fun e w' => e = .returned (.tuple #[.int .u32 (f1I t b c d), .int .u32 (k1I t)]) ∧ w = w' := by
  have hs := u32_unsigned
  by_cases h1 : t < 20
  · go_enter Tryd.func53, Tryd.ntmps53
    go_wp2
    go_ret2
    simp [f1I, k1I, h1, xorI, andI, notI]
  · by_cases h2 : t < 40
    · go_enter Tryd.func53, Tryd.ntmps53
      go_wp2
      go_ret2
      simp [f1I, k1I, h1, h2, xorI]
    · by_cases h3 : t < 60
      · go_enter Tryd.func53, Tryd.ntmps53
        go_wp2
        go_ret2
        simp [f1I, k1I, h1, h2, h3, xorI, andI]
      · go_enter Tryd.func53, Tryd.ntmps53
        go_wp2
        go_ret2
        simp [f1I, k1I, h1, h2, h3, xorI]

/-- Four bytes behind a row of the call's own. -/
theorem appendWord_any (B : Nat) (v : Value) (xs : List Int) (x : Int) (w : World) (hown : Own w B 5 .u8 v xs) (hl : xs.length ≤ 70368744177664) (hB : B ≤ w.heap.size) :
    Calls Tryd.prog 43 #[v, .int .u32 x] w fun e w' => ∃ v', e = .returned v' ∧ Own w' B 5 .u8 v' (xs ++ be4 x) ∧ w.grownBy w' v.ownBlock := by
  obtain ⟨i0, hi, hz0, hz1, hz2⟩ := info_parts Tryd.infoU8
  go_enter Tryd.func43, Tryd.ntmps43
  go_wp2_with (at_builtin; refine wpList_app _ rfl _ _ 27 rfl B 5 i0 (.int .u8 0) 1 Tryd.underlying27 hi hz0 hz1 hz2 rfl .u8 _ xs rfl (hown.alloc _) (w.heap.size + 1) (some ⟨w.heap.size, 0, none⟩) 4 4 (be4 x) rfl ?_ ?_ ?_ ?_ ?_)
  case refine_1 => exact (Seg.of_blk (Blk.new w 5 .u8 (be4 x))).more (by simp)
  case refine_2 => unfold maxLen; omega
  case refine_3 => omega
  case refine_4 => simp; omega
  intro v' w' hown' hg _
  clear hown
  go_wp2
  go_ret
  exact ⟨_, rfl, hown', (World.grownBy_alloc w _ _).trans hg⟩
end
end Go.Proofs.YtkcbbgmilaafeaaDoor
