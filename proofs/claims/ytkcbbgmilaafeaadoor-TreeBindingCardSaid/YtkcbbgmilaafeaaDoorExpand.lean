/-
  The schedules of a block: the program's expand256 and expand1.
-/
import Derived.Test.YtkcbbgmilaafeaaDoorWords
namespace Go.Proofs.YtkcbbgmilaafeaaDoor
open Go.RowKit

/-- The first words of a schedule, and zeros. -/
def fillW (n : Nat) (l : List Int) : List Int := l ++ List.replicate (n - l.length) 0
theorem fillW_length (n : Nat) (l : List Int) (h : l.length ≤ n) : (fillW n l).length = n := by simp [fillW]; omega
theorem fillW_get (n : Nat) (l : List Int) (i : Nat) (h : i < l.length) : (fillW n l).getD i 0 = l.getD i 0 := by
  simp [fillW, List.getD, List.getElem?_append_left h]
theorem fillW_set (n : Nat) (l : List Int) (x : Int) (h : l.length < n) : (fillW n l).set l.length x = fillW n (l ++ [x]) := by
  obtain ⟨d, hd⟩ : ∃ d, n - l.length = d + 1 := ⟨n - l.length - 1, by omega⟩
  have hd' : n - (l ++ [x]).length = d := by simp; omega
  simp only [fillW, hd, hd', List.replicate_succ]
  simp
theorem fillW_next (n k : Nat) (l : List Int) (x : Int) (hl : l.length = k) (h : k < n) : fillW n (l ++ [x]) = (fillW n l).set k x := by subst hl; exact (fillW_set n l x h).symm
theorem fillW_full (n : Nat) (l : List Int) (h : l.length = n) : fillW n l = l := by simp [fillW, h]

theorem sum4 (a b c d : Int) : (a + b + c + d) % 4294967296 = addI (addI (addI a b) c) d := by simp only [addI]; omega
theorem next1_of (l : List Int) (k : Nat) (x3 x8 x14 x16 : Int) (hl : l.length = k) (h3 : x3 = l.getD (k - 3) 0) (h8 : x8 = l.getD (k - 8) 0) (h14 : x14 = l.getD (k - 14) 0) (h16 : x16 = l.getD (k - 16) 0) :
    next1 l = rotlI (bits .xor .u32 (bits .xor .u32 (bits .xor .u32 x3 x8) x14) x16) 1 := by
  simp only [next1, xorI, hl, h3, h8, h14, h16]
theorem next256_of (l : List Int) (k : Nat) (x2 x7 x15 x16 : Int) (hl : l.length = k) (h2 : x2 = l.getD (k - 2) 0) (h7 : x7 = l.getD (k - 7) 0) (h15 : x15 = l.getD (k - 15) 0) (h16 : x16 = l.getD (k - 16) 0) :
    next256 l = (bits .xor .u32 (bits .xor .u32 (rotrI x2 17) (rotrI x2 19)) (x2 / 1024) + x7 + bits .xor .u32 (bits .xor .u32 (rotrI x15 7) (rotrI x15 18)) (x15 / 8) + x16) % 4294967296 := by
  rw [sum4]
  simp only [next256, s1I, s0I, xorI, hl, h2, h7, h15, h16]

set_option maxRecDepth 100000 in
set_option maxHeartbeats 1000000 in
theorem expand256_any (b off cap : Nat) (xs : List Int) (w : World) (hcap : 64 ≤ cap) (hcm : cap ≤ 9223372036854775807) (hb : b < w.heap.size)
    (hx : ∀ j, j < 64 → w.cell? ⟨b, off + j, none⟩ = some (.int .u8 (xs.getD j 0))) :
    Calls Tryd.prog 51 #[.slice (some ⟨b, off, none⟩) 64 cap] w fun e w' => e = .returned (.agg (ints .u32 (sch (wordAtI xs) next256 64)).toArray) ∧ Below w.heap.size w w' := by
  have HX := Lib.hid hx
  clear hx
  go_enter Tryd.func51, Tryd.ntmps51
  go_wp2_with fail
  go_loopw [10] (fun i wr => ∃ k : Nat, k ≤ 16 ∧ i = .int .i64 k ∧ Blk wr (w.heap.size + 1) 49 .u32 (fillW 64 (sch (wordAtI xs) next256 k)) ∧ Blk wr w.heap.size 49 .u32 (List.replicate 64 0) ∧ Below w.heap.size w wr)
    (fun i _ => 16 - (intOf i).toNat)
  case atStart => exact ⟨0, by omega, rfl, Blk.new' (w.alloc _) 49 .u32 (List.replicate 64 0) _ (by simp), (Blk.new w 49 .u32 (List.replicate 64 0)).alloc _, ((Below.refl _ _).alloc (Nat.le_refl _) _).alloc (by simp) _⟩
  case round =>
    obtain ⟨k, hk, rfl, hW, hR, hbel⟩ := hrel
    by_cases hlt : k < 16
    · have hxk : ∀ j, j < 4 → wr.cell? ⟨b, off + 4 * k + j, none⟩ = some (.int .u8 (xs.getD (4 * k + j) 0)) := fun j hj => by
        rw [Nat.add_assoc]
        exact (hbel.cell (p := ⟨b, _, none⟩) hb).trans (HX.out (4 * k + j) (by omega))
      have C : Hid (Calls Tryd.prog 55 #[.slice (some ⟨b, off + 4 * k, none⟩) (64 - 4 * k) (cap - 4 * k)] wr fun e w' => e = .returned (.int .u32 (wordAtI xs k)) ∧ ∃ n, w' = wr.drewN n) :=
        Lib.hid (wordAt_any b (off + 4 * k) (64 - 4 * k) (cap - 4 * k) _ _ _ _ wr (by omega) (by omega) (hxk 0 (by omega)) (hxk 1 (by omega)) (hxk 2 (by omega)) (hxk 3 (by omega)))
      clear hxk
      have hcW := hW.cell k (by rw [fillW_length _ _ (by rw [sch_length]; omega)]; omega)
      have hfW := hW.frozen k
      have hd : decide ((k : Int) < 16) = true := by simp; omega
      go_wp2_with (go_at_call 55; refine C.out.mono ?_; rintro e w' ⟨rfl, n, rfl⟩)
      go_roundw
      case measure => simp [intOf]; omega
      case rel =>
        exact ⟨k + 1, by omega, by go_num, by rw [sch_low _ _ _ hlt, fillW_next 64 k _ _ (sch_length _ _ _) (by omega)]; exact (hW.drewN n).set_ k _,
          (hR.drewN n).far (by simp) _, (below_drewN hbel n).setCell (by simp) _⟩
    · have hd : decide ((k : Int) < 16) = false := by simp; omega
      have e16 : k = 16 := by omega
      rw [e16] at hW
      clear e16
      go_wp2_with fail
      go_loopw [5] (fun i wr => ∃ k : Nat, 16 ≤ k ∧ k ≤ 64 ∧ i = .int .i64 k ∧ Blk wr (w.heap.size + 1) 49 .u32 (fillW 64 (sch (wordAtI xs) next256 k)) ∧ Blk wr w.heap.size 49 .u32 (List.replicate 64 0) ∧ Below w.heap.size w wr)
        (fun i _ => 64 - (intOf i).toNat)
      case atStart => exact ⟨16, by omega, by omega, rfl, hW, hR, hbel⟩
      case round =>
        clear hW hR hbel hd
        obtain ⟨k, hk0, hk, rfl, hW, hR, hbel⟩ := hrel
        by_cases hlt : k < 64
        · have hll := sch_length (wordAtI xs) next256 k
          have hcW := hW.cell k (by rw [fillW_length _ _ (by omega)]; omega)
          have hfW := hW.frozen k
          have hget : ∀ i, 2 ≤ i → i ≤ 16 → ∃ x, x = (sch (wordAtI xs) next256 k).getD (k - i) 0 ∧ wr.cell? ⟨w.heap.size + 1, k - i, none⟩ = some (.int .u32 x) := fun i h2 h16 =>
            ⟨_, rfl, by rw [hW.cell (k - i) (by rw [fillW_length _ _ (by omega)]; omega), fillW_get _ _ _ (by omega)]⟩
          obtain ⟨x15, e15, c15⟩ := hget 15 (by omega) (by omega)
          obtain ⟨x2, e2, c2⟩ := hget 2 (by omega) (by omega)
          obtain ⟨x7, e7, c7⟩ := hget 7 (by omega) (by omega)
          obtain ⟨x16, e16, c16⟩ := hget 16 (by omega) (by omega)
          have HN := Lib.hid (next256_of _ k x2 x7 x15 x16 hll e2 e7 e15 e16)
          clear hget e15 e2 e7 e16 hll
          have hd : decide ((k : Int) < 64) = true := by simp; omega
          go_wp2_with fail
          go_quiet (fail)
          go_wp2_with (go_at_call 56; refine (rotr_any _ _ _ (by omega) (by omega)).mono ?_; rintro e w' ⟨rfl, rfl⟩)
          go_region
          go_wp2
          go_roundw
          case measure => simp [intOf]; omega
          case rel =>
            refine ⟨k + 1, by omega, by omega, by go_num, ?_, (hR.drewN _).far (by simp) _, (below_drewN hbel _).setCell (by simp) _⟩
            rw [sch_high _ _ _ hk0, fillW_next 64 k _ _ (sch_length _ _ _) (by omega), HN.out]
            exact (hW.drewN _).set_ k _
        · have hd : decide ((k : Int) < 64) = false := by simp; omega
          have e64 : k = 64 := by omega
          rw [e64] at hW
          clear e64
          have hll := fillW_length 64 (sch (wordAtI xs) next256 64) (by rw [sch_length]; omega)
          obtain ⟨W, HW⟩ : ∃ W, Hid (fillW 64 (sch (wordAtI xs) next256 64) = W) := ⟨_, rfl⟩
          rw [HW.out] at hW hll
          have HL := Lib.hid hll
          clear hll
          go_wp2_with (first
            | (with_reducible refine wpList_loadInts rfl 49 (.tmp 3) rfl (w.heap.size + 1) rfl 49 .u32 _ hW 64 48 Tryd.underlying49 Tryd.size64 HL.out ?_)
            | (with_reducible refine wpList_storeInts rfl 49 (.tmp 2) (.tmp 64) rfl w.heap.size rfl 49 .u32 _ W rfl hR 64 Tryd.size64 (by simp) HL.out ?_))
          refine bodyPost_ret ((hR.setRow W).result rfl _ rfl 64 48 Tryd.underlying49 Tryd.size64 HL.out) rfl ⟨?_, below_setRow' hbel (Nat.le_refl _) _⟩
          rw [← HW.out, fillW_full _ _ (sch_length _ _ _)]
end Go.Proofs.YtkcbbgmilaafeaaDoor
