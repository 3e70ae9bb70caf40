/-
  The rounds of a block: the program's compress256.
  The schedule of a block: the program's expand1.
  The rounds of a block: the program's compress1.
  What the closures of sum256 and sum1 do with a block.
-/
import Derived.Test.YtljkkejjnimjcaaDoorBase1
import Derived.StillTailTactics
import Derived.Deep.RegionHeld3
namespace Go.Proofs.YtljkkejjnimjcaaDoor
open Go.RowKit

theorem size_alloc1 (w : World) (a : Obj) : w.heap.size + 1 = (w.alloc a).heap.size := by simp
theorem size_alloc2 (w : World) (a b : Obj) : w.heap.size + 1 + 1 = ((w.alloc a).alloc b).heap.size := by simp
theorem kay256_length : kay256.length = 64 := rfl
theorem run_index_ints {P : Program} (t e n : Nat) (k : IntKind) (xs : List Int) (i : Nat) (ht : P.underlying t = some (.array n e)) (he : P.underlying e = some (.int k)) (hs : (P.info? e).map (·.size) = some 1) (hi : i < n) (hl : xs.length = n) (w : World) :
    (Instr.index t (.agg (ints k xs).toArray) (.int .i64 (i : Int))).run P w = .ok (.int k (xs.getD i 0)) w := by
  cases hq : P.info? e with
  | none => simp [hq] at hs
  | some j =>
    have hj : j.size = 1 := by simpa [hq] using hs
    have hx : (ints k xs)[i]? = some (.int k (xs.getD i 0)) := ints_at k xs i (by omega)
    have hlt : (i : Int) < n := by omega
    have hi1 : i < (ints k xs).length := by rw [ints_length]; omega
    have hx' : (ints k xs)[i] = .int k (xs.getD i 0) := by rw [List.getElem?_eq_getElem hi1] at hx; exact Option.some.inj hx
    simp [Instr.index, asIntOf, run_underlying ht, hi, sizeOf, typeInfo, hq, hj, part, isAgg, run_underlying he]
    rw [hx]
    rfl

/-- Eight words that are known one by one. -/
theorem eight {s : List Int} (h : s.length = 8) : ∃ a b c d e f g i, s = [a, b, c, d, e, f, g, i] := by
  match s, h with
  | [a, b, c, d, e, f, g, i], _ => exact ⟨a, b, c, d, e, f, g, i, rfl⟩

theorem sum5 (a b c d e : Int) : (a + b + c + d + e) % 4294967296 = addI (addI (addI (addI a b) c) d) e := by simp only [addI]; omega
theorem round256_of (k w a b c d e f g h : Int) : round256 k w [a, b, c, d, e, f, g, h] =
    [((h + bits .xor .u32 (bits .xor .u32 (rotrI e 6) (rotrI e 11)) (rotrI e 25) + bits .xor .u32 (bits .and .u32 e f) (bits .and .u32 (bits .xor .u32 IntKind.u32.max e) g) + k + w) % 4294967296 +
        (bits .xor .u32 (bits .xor .u32 (rotrI a 2) (rotrI a 13)) (rotrI a 22) + bits .xor .u32 (bits .xor .u32 (bits .and .u32 a b) (bits .and .u32 a c)) (bits .and .u32 b c)) % 4294967296) % 4294967296,
      a, b, c,
      (d + (h + bits .xor .u32 (bits .xor .u32 (rotrI e 6) (rotrI e 11)) (rotrI e 25) + bits .xor .u32 (bits .and .u32 e f) (bits .and .u32 (bits .xor .u32 IntKind.u32.max e) g) + k + w) % 4294967296) % 4294967296,
      e, f, g] := by
  rw [sum5]
  rfl

/-- Adding one list of words to another, in place. -/
def addTo (S V : List Int) (k : Nat) : List Int := (List.zipWith addI S V).take k ++ S.drop k
theorem addTo_zero (S V : List Int) : addTo S V 0 = S := by simp [addTo]
theorem addTo_length (S V : List Int) (k : Nat) (h : S.length = V.length) (hk : k ≤ S.length) : (addTo S V k).length = S.length := by simp [addTo]; omega
theorem addTo_full (S V : List Int) (k : Nat) (h : S.length = V.length) (hk : k = S.length) : addTo S V k = List.zipWith addI S V := by
  subst hk
  have hl : (List.zipWith addI S V).length = S.length := by simp [← h]
  rw [addTo, List.take_of_length_le (by omega)]
  simp
theorem addTo_get (S V : List Int) (k : Nat) (h : S.length = V.length) (hk : k < S.length) : (addTo S V k).getD k 0 = S.getD k 0 := by
  have : (List.take k (List.zipWith addI S V)).length = k := by simp [← h]; omega
  simp [addTo, List.getD, List.getElem?_append_right, this]
theorem addTo_set (S V : List Int) (k : Nat) (x : Int) (h : S.length = V.length) (hk : k < S.length) (hx : x = addI (S.getD k 0) (V.getD k 0)) : (addTo S V k).set k x = addTo S V (k + 1) := by
  have hl : (List.take k (List.zipWith addI S V)).length = k := by simp [← h]; omega
  have hz : (List.zipWith addI S V)[k]? = some x := by
    have hv : k < V.length := by omega
    rw [List.getElem?_zipWith]
    simp [hk, hv, hx, List.getD]
  have h1 : S.drop k = S.getD k 0 :: S.drop (k + 1) := by
    rw [List.drop_eq_getElem_cons hk]
    simp [List.getD, hk]
  unfold addTo
  rw [List.take_add_one, hz, List.set_append_right _ _ (by omega), hl, h1]
  simp

set_option maxRecDepth 100000 in
set_option maxHeartbeats 2000000 in
theorem compress256_any (S W : List Int) (w : World) (hS : S.length = 8) (hW : W.length = 64) (hK : Tab w 0 .u32 kay256) :
    Calls Tryd.prog 89 #[.agg (ints .u32 S).toArray, .agg (ints .u32 W).toArray] w fun e w' => e = .returned (.agg (ints .u32 (comp256 W S)).toArray) ∧ Below w.heap.size w w' := by
  obtain ⟨s0, s1, s2, s3, s4, s5, s6, s7, rfl⟩ := eight hS
  have HW := Lib.hid hW
  have hz64 := Tryd.zero64
  have h0 : 0 < w.heap.size := hK.lt
  clear hW hS
  have hK' := Lib.hid hK
  clear hK
  go_enter Tryd.func89, Tryd.ntmps89
  go_wp2_with fail
  generalize hw1 : World.alloc _ _ = w1
  have hb : Below w.heap.size w w1 := by rw [← hw1]; exact (((Below.refl _ _).alloc (Nat.le_refl _) _).alloc (by simp) _).alloc (by simp; omega) _
  have hS : Blk w1 w.heap.size 82 .u32 [s0, s1, s2, s3, s4, s5, s6, s7] := by rw [← hw1]; exact ((Blk.new w _ _ _).alloc _).alloc _
  have hWb : Blk w1 (w.heap.size + 1) 69 .u32 W := by rw [← hw1]; exact (Blk.new' _ _ _ _ _ (size_alloc1 _ _)).alloc _
  have hR : Blk w1 (w.heap.size + 1 + 1) 82 .u32 [0, 0, 0, 0, 0, 0, 0, 0] := by
    rw [← hw1]
    exact Blk.new' _ _ .u32 [0, 0, 0, 0, 0, 0, 0, 0] _ (size_alloc2 _ _ _)
  clear hw1
  have hK := hK'.out.below hb h0
  have c0 := hS.cell 0 (by simp)
  have c1 := hS.cell 1 (by simp)
  have c2 := hS.cell 2 (by simp)
  have c3 := hS.cell 3 (by simp)
  have c4 := hS.cell 4 (by simp)
  have c5 := hS.cell 5 (by simp)
  have c6 := hS.cell 6 (by simp)
  have c7 := hS.cell 7 (by simp)
  simp only [List.getD_cons_zero, List.getD_cons_succ] at c0 c1 c2 c3 c4 c5 c6 c7
  go_quiet (fail)
  obtain ⟨n1, hn1⟩ : ∃ n1, nq = n1 := ⟨_, rfl⟩
  rw [hn1]
  clear hn1
  go_wp2_with fail
  go_quiet (fail)
  generalize hwq : World.drewN _ _ = w2
  replace hb : Below w.heap.size w w2 := by rw [← hwq]; exact below_drewN (below_drewN hb n1) nq
  replace hS : Blk w2 w.heap.size 82 .u32 [s0, s1, s2, s3, s4, s5, s6, s7] := by rw [← hwq]; exact (hS.drewN n1).drewN nq
  replace hWb : Blk w2 (w.heap.size + 1) 69 .u32 W := by rw [← hwq]; exact (hWb.drewN n1).drewN nq
  replace hR : Blk w2 (w.heap.size + 1 + 1) 82 .u32 [0, 0, 0, 0, 0, 0, 0, 0] := by rw [← hwq]; exact (hR.drewN n1).drewN nq
  replace hK : Tab w2 0 .u32 kay256 := by rw [← hwq]; exact (hK.drewN n1).drewN nq
  clear c0 c1 c2 c3 c4 c5 c6 c7 hwq
  go_wp2_with (with_reducible refine wpList_loadTab rfl 69 (.global 0) rfl 0 rfl .u32 _ hK 64 60 Tryd.underlying69 Tryd.size64 kay256_length ?_)
  have hu := u32_unsigned
  go_loop [5, 6, 7, 8, 9, 10, 11, 12, 38] (fun a b c d e f g h i => ∃ (k : Nat) (v0 v1 v2 v3 v4 v5 v6 v7 : Int), k ≤ 64 ∧ i = .int .i64 k ∧ Hid (rounds256 kay256 W [s0, s1, s2, s3, s4, s5, s6, s7] k = [v0, v1, v2, v3, v4, v5, v6, v7]) ∧
      a = .int .u32 v0 ∧ b = .int .u32 v1 ∧ c = .int .u32 v2 ∧ d = .int .u32 v3 ∧ e = .int .u32 v4 ∧ f = .int .u32 v5 ∧ g = .int .u32 v6 ∧ h = .int .u32 v7)
    (fun _ _ _ _ _ _ _ _ i => 64 - (intOf i).toNat)
  case atStart => exact ⟨0, _, _, _, _, _, _, _, _, by omega, rfl, rfl, rfl, rfl, rfl, rfl, rfl, rfl, rfl, rfl⟩
  case round =>
    obtain ⟨k, v0, v1, v2, v3, v4, v5, v6, v7, hk, rfl, hv, rfl, rfl, rfl, rfl, rfl, rfl, rfl, rfl⟩ := hrel
    by_cases hlt : k < 64
    · obtain ⟨kk, hkk⟩ : ∃ kk, Hid (kay256.getD k 0 = kk) := ⟨_, rfl⟩
      obtain ⟨wk, hwk⟩ : ∃ wk, Hid (W.getD k 0 = wk) := ⟨_, rfl⟩
      have hcell := hWb.cell k (by rw [HW.out]; exact hlt)
      rw [hwk.out] at hcell
      have hidx := fun w => run_index_ints (P := Tryd.prog) 69 60 64 .u32 kay256 k Tryd.underlying69 Tryd.underlying60 (by kernel_rfl) hlt kay256_length w
      rw [hkk.out] at hidx
      have hd : decide ((k : Int) < 64) = true := by simp; omega
      go_wp2_with (go_at_call 95; refine (rotr_any _ _ _ (by omega) (by omega)).mono ?_; rintro e w' ⟨rfl, rfl⟩)
      go_round
      case measure => simp [intOf]; omega
      case rel =>
        refine ⟨k + 1, _, v0, v1, v2, _, v4, v5, v6, by omega, by go_num, ?_, rfl, rfl, rfl, rfl, rfl, rfl, rfl, rfl⟩
        show round256 (kay256.getD k 0) (W.getD k 0) (rounds256 kay256 W [s0, s1, s2, s3, s4, s5, s6, s7] k) = _
        rw [hv.out, hkk.out, hwk.out]
        exact round256_of _ _ _ _ _ _ _ _ _ _
    · have hd : decide ((k : Int) < 64) = false := by simp; omega
      have hv64 : Hid (rounds256 kay256 W [s0, s1, s2, s3, s4, s5, s6, s7] 64 = [v0, v1, v2, v3, v4, v5, v6, v7]) := by
        have e64 : k = 64 := by omega
        rw [e64] at hv
        exact hv
      clear hv hK hWb
      go_wp2_with fail
      go_loopw [111] (fun i wr => ∃ j : Nat, j ≤ 8 ∧ i = .int .i64 j ∧ Blk wr w.heap.size 82 .u32 (addTo [s0, s1, s2, s3, s4, s5, s6, s7] [v0, v1, v2, v3, v4, v5, v6, v7] j) ∧
          Blk wr (w.heap.size + 1 + 1) 82 .u32 [0, 0, 0, 0, 0, 0, 0, 0] ∧ Below w.heap.size w wr)
        (fun i _ => 8 - (intOf i).toNat)
      case atStart => exact ⟨0, by omega, rfl, by rw [addTo_zero]; exact hS, hR, hb⟩
      case round =>
        clear hS hR hb hd
        obtain ⟨j, hj, rfl, hS, hR, hb⟩ := hrel
        by_cases hjt : j < 8
        · have hd : decide ((j : Int) < 8) = true := by simp; omega
          have hlen := addTo_length [s0, s1, s2, s3, s4, s5, s6, s7] [v0, v1, v2, v3, v4, v5, v6, v7] j rfl (by simpa using hj)
          have hc := hS.cell j (by rw [hlen]; simpa using hjt)
          have hf := hS.frozen j
          have hSV : [s0, s1, s2, s3, s4, s5, s6, s7].length = [v0, v1, v2, v3, v4, v5, v6, v7].length := rfl
          rw [addTo_get _ _ _ hSV (by simpa using hjt)] at hc
          have hset := fun x => addTo_set [s0, s1, s2, s3, s4, s5, s6, s7] [v0, v1, v2, v3, v4, v5, v6, v7] j x rfl (by simpa using hjt)
          obtain ⟨x, hx⟩ : ∃ x, Hid ([s0, s1, s2, s3, s4, s5, s6, s7].getD j 0 = x) := ⟨_, rfl⟩
          obtain ⟨y, hy⟩ : ∃ y, Hid ([v0, v1, v2, v3, v4, v5, v6, v7].getD j 0 = y) := ⟨_, rfl⟩
          rw [hx.out] at hc
          rw [hx.out, hy.out] at hset
          have HS := Lib.hid hset
          have hidx : ∀ w, (Instr.index 82 (.agg #[.int .u32 v0, .int .u32 v1, .int .u32 v2, .int .u32 v3, .int .u32 v4, .int .u32 v5, .int .u32 v6, .int .u32 v7]) (.int .i64 (j : Int))).run Tryd.prog w = .ok (.int .u32 y) w := fun w => by
            have h := run_index_ints (P := Tryd.prog) 82 60 8 .u32 [v0, v1, v2, v3, v4, v5, v6, v7] j Tryd.underlying82 Tryd.underlying60 (by kernel_rfl) hjt rfl w
            rw [hy.out] at h
            exact h
          clear hset hlen
          go_wp2_with fail
          go_roundw
          case measure => simp [intOf]; omega
          case rel =>
            refine ⟨j + 1, by omega, by go_num, ?_, hR.far (by simp; omega) _, hb.setCell (by simp) _⟩
            rw [← HS.out _ rfl]
            exact hS.set_ j _
        · have hd : decide ((j : Int) < 8) = false := by simp; omega
          have hS8 : Blk wr w.heap.size 82 .u32 (comp256 W [s0, s1, s2, s3, s4, s5, s6, s7]) := by
            have e8 : j = 8 := by omega
            have hSV : [s0, s1, s2, s3, s4, s5, s6, s7].length = [v0, v1, v2, v3, v4, v5, v6, v7].length := rfl
            rw [e8, addTo_full _ _ 8 hSV rfl, ← hv64.out] at hS
            exact hS
          obtain ⟨R, HR⟩ : ∃ R, Hid (comp256 W [s0, s1, s2, s3, s4, s5, s6, s7] = R) := ⟨_, rfl⟩
          have hlR : Hid (R.length = 8) := by
            rw [← HR.out]
            show (comp256 W _).length = 8
            simp [comp256, rounds256_length]
          rw [HR.out] at hS8
          clear hS
          go_wp2_with (first
            | (with_reducible refine wpList_loadInts rfl 82 (.tmp 2) rfl w.heap.size rfl 82 .u32 _ hS8 8 60 Tryd.underlying82 Tryd.size8 hlR.out ?_)
            | (with_reducible refine wpList_storeInts rfl 82 (.tmp 4) (.tmp 122) rfl (w.heap.size + 1 + 1) rfl 82 .u32 _ R rfl hR 8 Tryd.size8 (by simp) hlR.out ?_))
          refine bodyPost_ret ((hR.setRow R).result rfl _ rfl 8 60 Tryd.underlying82 Tryd.size8 hlR.out) rfl ⟨?_, below_setRow' hb (by omega) _⟩
          rw [← HR.out]
end Go.Proofs.YtljkkejjnimjcaaDoor
namespace Go.Proofs.YtljkkejjnimjcaaDoor
open Go.RowKit

set_option maxRecDepth 100000 in
set_option maxHeartbeats 1000000 in
theorem expand1_any (b off cap : Nat) (xs : List Int) (w : World) (hcap : 64 ≤ cap) (hcm : cap ≤ 9223372036854775807) (hb : b < w.heap.size)
    (hx : ∀ j, j < 64 → w.cell? ⟨b, off + j, none⟩ = some (.int .u8 (xs.getD j 0))) :
    Calls Tryd.prog 86 #[.slice (some ⟨b, off, none⟩) 64 cap] w fun e w' => e = .returned (.agg (ints .u32 (sch (wordAtI xs) next1 80)).toArray) ∧ Below w.heap.size w w' := by
  have hz80 := Tryd.zero80
  have HX := Lib.hid hx
  clear hx
  go_enter Tryd.func86, Tryd.ntmps86
  go_wp2_with fail
  go_loopw [6] (fun i wr => ∃ k : Nat, k ≤ 16 ∧ i = .int .i64 k ∧ Blk wr (w.heap.size + 1) 78 .u32 (fillW 80 (sch (wordAtI xs) next1 k)) ∧ Blk wr w.heap.size 78 .u32 (List.replicate 80 0) ∧ Below w.heap.size w wr)
    (fun i _ => 16 - (intOf i).toNat)
  case atStart => exact ⟨0, by omega, rfl, Blk.new' (w.alloc _) 78 .u32 (List.replicate 80 0) _ (by simp), (Blk.new w 78 .u32 (List.replicate 80 0)).alloc _, ((Below.refl _ _).alloc (Nat.le_refl _) _).alloc (by simp) _⟩
  case round =>
    obtain ⟨k, hk, rfl, hW, hR, hbel⟩ := hrel
    by_cases hlt : k < 16
    · have hxk : ∀ j, j < 4 → wr.cell? ⟨b, off + 4 * k + j, none⟩ = some (.int .u8 (xs.getD (4 * k + j) 0)) := fun j hj => by
        rw [Nat.add_assoc]
        exact (hbel.cell (p := ⟨b, _, none⟩) hb).trans (HX.out (4 * k + j) (by omega))
      have C : Hid (Calls Tryd.prog 94 #[.slice (some ⟨b, off + 4 * k, none⟩) (64 - 4 * k) (cap - 4 * k)] wr fun e w' => e = .returned (.int .u32 (wordAtI xs k)) ∧ ∃ n, w' = wr.drewN n) :=
        Lib.hid (wordAt_any b (off + 4 * k) (64 - 4 * k) (cap - 4 * k) _ _ _ _ wr (by omega) (by omega) (hxk 0 (by omega)) (hxk 1 (by omega)) (hxk 2 (by omega)) (hxk 3 (by omega)))
      clear hxk
      have hcW := hW.cell k (by rw [fillW_length _ _ (by rw [sch_length]; omega)]; omega)
      have hfW := hW.frozen k
      have hd : decide ((k : Int) < 16) = true := by simp; omega
      go_wp2_with (go_at_call 94; refine C.out.mono ?_; rintro e w' ⟨rfl, n, rfl⟩)
      go_roundw
      case measure => simp [intOf]; omega
      case rel =>
        exact ⟨k + 1, by omega, by go_num, by rw [sch_low _ _ _ hlt, fillW_next 80 k _ _ (sch_length _ _ _) (by omega)]; exact (hW.drewN n).set_ k _,
          (hR.drewN n).far (by simp) _, (below_drewN hbel n).setCell (by simp) _⟩
    · have hd : decide ((k : Int) < 16) = false := by simp; omega
      have e16 : k = 16 := by omega
      rw [e16] at hW
      clear e16
      go_wp2_with fail
      go_loopw [5] (fun i wr => ∃ k : Nat, 16 ≤ k ∧ k ≤ 80 ∧ i = .int .i64 k ∧ Blk wr (w.heap.size + 1) 78 .u32 (fillW 80 (sch (wordAtI xs) next1 k)) ∧ Blk wr w.heap.size 78 .u32 (List.replicate 80 0) ∧ Below w.heap.size w wr)
        (fun i _ => 80 - (intOf i).toNat)
      case atStart => exact ⟨16, by omega, by omega, rfl, hW, hR, hbel⟩
      case round =>
        clear hW hR hbel hd
        obtain ⟨k, hk0, hk, rfl, hW, hR, hbel⟩ := hrel
        by_cases hlt : k < 80
        · have hll := sch_length (wordAtI xs) next1 k
          have hcW := hW.cell k (by rw [fillW_length _ _ (by omega)]; omega)
          have hfW := hW.frozen k
          have hget : ∀ i, 2 ≤ i → i ≤ 16 → ∃ x, x = (sch (wordAtI xs) next1 k).getD (k - i) 0 ∧ wr.cell? ⟨w.heap.size + 1, k - i, none⟩ = some (.int .u32 x) := fun i h2 h16 =>
            ⟨_, rfl, by rw [hW.cell (k - i) (by rw [fillW_length _ _ (by omega)]; omega), fillW_get _ _ _ (by omega)]⟩
          obtain ⟨x3, e3, c3⟩ := hget 3 (by omega) (by omega)
          obtain ⟨x8, e8, c8⟩ := hget 8 (by omega) (by omega)
          obtain ⟨x14, e14, c14⟩ := hget 14 (by omega) (by omega)
          obtain ⟨x16, e16, c16⟩ := hget 16 (by omega) (by omega)
          have HN := Lib.hid (next1_of _ k x3 x8 x14 x16 hll e3 e8 e14 e16)
          clear hget e3 e8 e14 e16 hll
          have hd : decide ((k : Int) < 80) = true := by simp; omega
          go_wp2_with fail
          have w3 : IntKind.i64.wrap ((k : Int) - 3) = (k : Int) - 3 := IntWalk.i64_in _ (by omega)
          have w8 : IntKind.i64.wrap ((k : Int) - 8) = (k : Int) - 8 := IntWalk.i64_in _ (by omega)
          have w14 : IntKind.i64.wrap ((k : Int) - 14) = (k : Int) - 14 := IntWalk.i64_in _ (by omega)
          have w16 : IntKind.i64.wrap ((k : Int) - 16) = (k : Int) - 16 := IntWalk.i64_in _ (by omega)
          have n3 : ((k : Int) - 3).toNat = k - 3 := by omega
          have n8 : ((k : Int) - 8).toNat = k - 8 := by omega
          have n14 : ((k : Int) - 14).toNat = k - 14 := by omega
          have n16 : ((k : Int) - 16).toNat = k - 16 := by omega
          have p3 : (3 : Int) ≤ (k : Int) := by omega
          have p8 : (8 : Int) ≤ (k : Int) := by omega
          have p14 : (14 : Int) ≤ (k : Int) := by omega
          have p16 : (16 : Int) ≤ (k : Int) := by omega
          have q3 : (k : Int) - 3 < 80 := by omega
          have q8 : (k : Int) - 8 < 80 := by omega
          have q14 : (k : Int) - 14 < 80 := by omega
          have q16 : (k : Int) - 16 < 80 := by omega
          have q0 : (k : Int) < 80 := by omega
          have hrl := Lib.hid (fun (x : Int) (W : World) => ((rotl_any x 1 W (by omega) (by omega)).mono fun _ _ h => ⟨h.1, h.2.symm⟩ : Calls Tryd.prog 93 #[.int .u32 x, .int .u64 1] W fun e w' => e = .returned (.int .u32 (rotlI x 1)) ∧ w' = W))
          refine wp_region_still_tail 22 (by kernel_rfl) (by kernel_rfl) ?_
          simp only [List.take_succ_cons, List.take_zero, List.drop_succ_cons, List.drop_zero]
          iterate 20 still_step
          still_call (hrl.out _ _)
          still_step
          refine wpStill_nil ?_
          clear w3 w8 w14 w16 n3 n8 n14 n16 p3 p8 p14 p16 q3 q8 q14 q16 q0
          change wpList _ _ _ _ _ wr.drew
          go_wp2
          go_roundw
          case measure => simp [intOf]; omega
          case rel =>
            refine ⟨k + 1, by omega, by omega, by go_num, ?_, (hR.drewN _).far (by simp) _, (below_drewN hbel _).setCell (by simp) _⟩
            rw [sch_high _ _ _ hk0, fillW_next 80 k _ _ (sch_length _ _ _) (by omega), HN.out]
            exact (hW.drewN _).set_ k _
        · have hd : decide ((k : Int) < 80) = false := by simp; omega
          have e64 : k = 80 := by omega
          rw [e64] at hW
          clear e64
          have hll := fillW_length 80 (sch (wordAtI xs) next1 80) (by rw [sch_length]; omega)
          obtain ⟨W, HW⟩ : ∃ W, Hid (fillW 80 (sch (wordAtI xs) next1 80) = W) := ⟨_, rfl⟩
          rw [HW.out] at hW hll
          have HL := Lib.hid hll
          clear hll
          go_wp2_with (first
            | (with_reducible refine wpList_loadInts rfl 78 (.tmp 3) rfl (w.heap.size + 1) rfl 78 .u32 _ hW 80 60 Tryd.underlying78 Tryd.size80 HL.out ?_)
            | (with_reducible refine wpList_storeInts rfl 78 (.tmp 2) (.tmp 43) rfl w.heap.size rfl 78 .u32 _ W rfl hR 80 Tryd.size80 (by simp) HL.out ?_))
          refine bodyPost_ret ((hR.setRow W).result rfl _ rfl 80 60 Tryd.underlying78 Tryd.size80 HL.out) rfl ⟨?_, below_setRow' hbel (Nat.le_refl _) _⟩
          rw [← HW.out, fillW_full _ _ (sch_length _ _ _)]
end Go.Proofs.YtljkkejjnimjcaaDoor
namespace Go.Proofs.YtljkkejjnimjcaaDoor
open Go.RowKit

theorem five {s : List Int} (h : s.length = 5) : ∃ a b c d e, s = [a, b, c, d, e] := by
  match s, h with
  | [a, b, c, d, e], _ => exact ⟨a, b, c, d, e, rfl⟩
theorem round1I_of (t : Nat) (w a b c d e : Int) : round1I t w [a, b, c, d, e] = [(rotlI a 5 + f1I t b c d + e + k1I t + w) % 4294967296, a, rotlI b 30, c, d] := by
  rw [sum5]
  rfl

set_option maxRecDepth 100000 in
set_option maxHeartbeats 2000000 in
theorem compress1_any (S W : List Int) (w : World) (hS : S.length = 5) (hW : W.length = 80) :
    Calls Tryd.prog 85 #[.agg (ints .u32 S).toArray, .agg (ints .u32 W).toArray] w fun e w' => e = .returned (.agg (ints .u32 (comp1 W S)).toArray) ∧ Below w.heap.size w w' := by
  obtain ⟨s0, s1, s2, s3, s4, rfl⟩ := five hS
  have HW := Lib.hid hW
  have hz80 := Tryd.zero80
  clear hW hS
  go_enter Tryd.func85, Tryd.ntmps85
  go_wp2_with fail
  generalize hw1 : World.alloc _ _ = w1
  have hb : Below w.heap.size w w1 := by rw [← hw1]; exact (((Below.refl _ _).alloc (Nat.le_refl _) _).alloc (by simp) _).alloc (by simp; omega) _
  have hS : Blk w1 w.heap.size 75 .u32 [s0, s1, s2, s3, s4] := by rw [← hw1]; exact ((Blk.new w _ _ _).alloc _).alloc _
  have hWb : Blk w1 (w.heap.size + 1) 78 .u32 W := by rw [← hw1]; exact (Blk.new' _ _ _ _ _ (size_alloc1 _ _)).alloc _
  have hR : Blk w1 (w.heap.size + 1 + 1) 75 .u32 [0, 0, 0, 0, 0] := by
    rw [← hw1]
    exact Blk.new' _ _ .u32 [0, 0, 0, 0, 0] _ (size_alloc2 _ _ _)
  clear hw1
  have c0 := hS.cell 0 (by simp)
  have c1 := hS.cell 1 (by simp)
  have c2 := hS.cell 2 (by simp)
  have c3 := hS.cell 3 (by simp)
  have c4 := hS.cell 4 (by simp)
  simp only [List.getD_cons_zero, List.getD_cons_succ] at c0 c1 c2 c3 c4
  go_quiet (fail)
  generalize hwq : World.drewN _ _ = w2
  replace hb : Below w.heap.size w w2 := by rw [← hwq]; exact below_drewN hb nq
  replace hS : Blk w2 w.heap.size 75 .u32 [s0, s1, s2, s3, s4] := by rw [← hwq]; exact hS.drewN nq
  replace hWb : Blk w2 (w.heap.size + 1) 78 .u32 W := by rw [← hwq]; exact hWb.drewN nq
  replace hR : Blk w2 (w.heap.size + 1 + 1) 75 .u32 [0, 0, 0, 0, 0] := by rw [← hwq]; exact hR.drewN nq
  clear c0 c1 c2 c3 c4 hwq
  go_wp2_with (with_reducible refine wpList_loadInts rfl 78 (.tmp 3) rfl (w.heap.size + 1) rfl 78 .u32 _ hWb 80 60 Tryd.underlying78 Tryd.size80 HW.out ?_)
  go_loop [5, 6, 7, 8, 9, 28] (fun a b c d e i => ∃ (k : Nat) (v0 v1 v2 v3 v4 : Int), k ≤ 80 ∧ i = .int .i64 k ∧ Hid (rounds1 W [s0, s1, s2, s3, s4] k = [v0, v1, v2, v3, v4]) ∧
      a = .int .u32 v0 ∧ b = .int .u32 v1 ∧ c = .int .u32 v2 ∧ d = .int .u32 v3 ∧ e = .int .u32 v4)
    (fun _ _ _ _ _ i => 80 - (intOf i).toNat)
  case atStart => exact ⟨0, _, _, _, _, _, by omega, rfl, rfl, rfl, rfl, rfl, rfl, rfl⟩
  case round =>
    obtain ⟨k, v0, v1, v2, v3, v4, hk, rfl, hv, rfl, rfl, rfl, rfl, rfl⟩ := hrel
    by_cases hlt : k < 80
    · obtain ⟨wk, hwk⟩ : ∃ wk, Hid (W.getD k 0 = wk) := ⟨_, rfl⟩
      have hidx := fun w => run_index_ints (P := Tryd.prog) 78 60 80 .u32 W k Tryd.underlying78 Tryd.underlying60 (by kernel_rfl) hlt HW.out w
      rw [hwk.out] at hidx
      have hd : decide ((k : Int) < 80) = true := by simp; omega
      go_wp2_with (first
        | (go_at_call 92; refine (round1_any k _ _ _ _).mono ?_; rintro e w' ⟨rfl, rfl⟩)
        | (go_at_call 93; refine (rotl_any _ _ _ (by omega) (by omega)).mono ?_; rintro e w' ⟨rfl, rfl⟩))
      go_round
      case measure => simp [intOf]; omega
      case rel =>
        refine ⟨k + 1, _, v0, _, v2, v3, by omega, by go_num, ?_, rfl, rfl, rfl, rfl, rfl⟩
        show round1I k (W.getD k 0) (rounds1 W [s0, s1, s2, s3, s4] k) = _
        rw [hv.out, hwk.out]
        exact round1I_of _ _ _ _ _ _ _
    · have hd : decide ((k : Int) < 80) = false := by simp; omega
      have hv80 : Hid (rounds1 W [s0, s1, s2, s3, s4] 80 = [v0, v1, v2, v3, v4]) := by
        have e80 : k = 80 := by omega
        rw [e80] at hv
        exact hv
      clear hv hWb
      go_wp2_with fail
      go_loopw [63] (fun i wr => ∃ j : Nat, j ≤ 5 ∧ i = .int .i64 j ∧ Blk wr w.heap.size 75 .u32 (addTo [s0, s1, s2, s3, s4] [v0, v1, v2, v3, v4] j) ∧
          Blk wr (w.heap.size + 1 + 1) 75 .u32 [0, 0, 0, 0, 0] ∧ Below w.heap.size w wr)
        (fun i _ => 5 - (intOf i).toNat)
      case atStart => exact ⟨0, by omega, rfl, by rw [addTo_zero]; exact hS, hR, hb⟩
      case round =>
        clear hS hR hb hd
        obtain ⟨j, hj, rfl, hS, hR, hb⟩ := hrel
        by_cases hjt : j < 5
        · have hd : decide ((j : Int) < 5) = true := by simp; omega
          have hlen := addTo_length [s0, s1, s2, s3, s4] [v0, v1, v2, v3, v4] j rfl (by simpa using hj)
          have hc := hS.cell j (by rw [hlen]; simpa using hjt)
          have hf := hS.frozen j
          have hSV : [s0, s1, s2, s3, s4].length = [v0, v1, v2, v3, v4].length := rfl
          rw [addTo_get _ _ _ hSV (by simpa using hjt)] at hc
          have hset := fun x => addTo_set [s0, s1, s2, s3, s4] [v0, v1, v2, v3, v4] j x rfl (by simpa using hjt)
          obtain ⟨x, hx⟩ : ∃ x, Hid ([s0, s1, s2, s3, s4].getD j 0 = x) := ⟨_, rfl⟩
          obtain ⟨y, hy⟩ : ∃ y, Hid ([v0, v1, v2, v3, v4].getD j 0 = y) := ⟨_, rfl⟩
          rw [hx.out] at hc
          rw [hx.out, hy.out] at hset
          have HS := Lib.hid hset
          have hidx : ∀ w, (Instr.index 75 (.agg #[.int .u32 v0, .int .u32 v1, .int .u32 v2, .int .u32 v3, .int .u32 v4]) (.int .i64 (j : Int))).run Tryd.prog w = .ok (.int .u32 y) w := fun w => by
            have h := run_index_ints (P := Tryd.prog) 75 60 5 .u32 [v0, v1, v2, v3, v4] j Tryd.underlying75 Tryd.underlying60 (by kernel_rfl) hjt rfl w
            rw [hy.out] at h
            exact h
          clear hset hlen
          go_wp2_with fail
          go_roundw
          case measure => simp [intOf]; omega
          case rel =>
            refine ⟨j + 1, by omega, by go_num, ?_, hR.far (by simp; omega) _, hb.setCell (by simp) _⟩
            rw [← HS.out _ rfl]
            exact hS.set_ j _
        · have hd : decide ((j : Int) < 5) = false := by simp; omega
          have hS5 : Blk wr w.heap.size 75 .u32 (comp1 W [s0, s1, s2, s3, s4]) := by
            have e5 : j = 5 := by omega
            have hSV : [s0, s1, s2, s3, s4].length = [v0, v1, v2, v3, v4].length := rfl
            rw [e5, addTo_full _ _ 5 hSV rfl, ← hv80.out] at hS
            exact hS
          obtain ⟨R, HR⟩ : ∃ R, Hid (comp1 W [s0, s1, s2, s3, s4] = R) := ⟨_, rfl⟩
          have hlR : Hid (R.length = 5) := by
            rw [← HR.out]
            show (comp1 W _).length = 5
            simp [comp1, rounds1_length]
          rw [HR.out] at hS5
          clear hS
          go_wp2_with (first
            | (with_reducible refine wpList_loadInts rfl 75 (.tmp 2) rfl w.heap.size rfl 75 .u32 _ hS5 5 60 Tryd.underlying75 Tryd.size5 hlR.out ?_)
            | (with_reducible refine wpList_storeInts rfl 75 (.tmp 4) (.tmp 74) rfl (w.heap.size + 1 + 1) rfl 75 .u32 _ R rfl hR 5 Tryd.size5 (by simp) hlR.out ?_))
          refine bodyPost_ret ((hR.setRow R).result rfl _ rfl 5 60 Tryd.underlying75 Tryd.size5 hlR.out) rfl ⟨?_, below_setRow' hb (by omega) _⟩
          rw [← HR.out]
end Go.Proofs.YtljkkejjnimjcaaDoor
namespace Go.Proofs.YtljkkejjnimjcaaDoor
open Go.RowKit

set_option maxRecDepth 100000 in
set_option maxHeartbeats 2000000 in
theorem block256_any (b off cap g : Nat) (xs S : List Int) (w : World) (hcap : 64 ≤ cap) (hcm : cap ≤ 9223372036854775807) (hb : b < w.heap.size)
    (hx : ∀ j, j < 64 → w.cell? ⟨b, off + j, none⟩ = some (.int .u8 (xs.getD j 0))) (hS : S.length = 8) (hg : Blk w g 82 .u32 S) (hK : Tab w 0 .u32 kay256) :
    Calls Tryd.prog 88 #[.slice (some ⟨b, off, none⟩) 64 cap, .pointer (some ⟨g, 0, none⟩)] w fun e w' => e = .returned (.tuple #[]) ∧ Blk w' g 82 .u32 (step256 S xs) ∧ But w w' g := by
  obtain ⟨s0, s1, s2, s3, s4, s5, s6, s7, rfl⟩ := eight hS
  have HE := Lib.hid (fun (W : World) (h : Below w.heap.size w W) => expand256_any b off cap xs W hcap hcm (Nat.lt_of_lt_of_le hb h.size) (fun j hj => (h.cell (p := ⟨b, off + j, none⟩) hb).trans (hx j hj)))
  have HC := Lib.hid (fun (W : World) (h : Below w.heap.size w W) => compress256_any [s0, s1, s2, s3, s4, s5, s6, s7] (sch (wordAtI xs) next256 64) W rfl (sch_length _ _ _) (hK.below h hK.lt))
  have hgl := hg.lt
  have HG := Lib.hid hg
  have HX := Lib.hid hx
  have HKK := Lib.hid hK
  clear hx hK hg hS
  obtain ⟨W64, HW⟩ : ∃ l, Hid (sch (wordAtI xs) next256 64 = l) := ⟨_, rfl⟩
  rw [HW.out] at HE HC
  have hcells : ∀ W, Below w.heap.size w W → W.cell? ⟨g, 0, none⟩ = some (.int .u32 s0) ∧ W.cell? ⟨g, 1, none⟩ = some (.int .u32 s1) ∧ W.cell? ⟨g, 2, none⟩ = some (.int .u32 s2) ∧ W.cell? ⟨g, 3, none⟩ = some (.int .u32 s3) ∧
      W.cell? ⟨g, 4, none⟩ = some (.int .u32 s4) ∧ W.cell? ⟨g, 5, none⟩ = some (.int .u32 s5) ∧ W.cell? ⟨g, 6, none⟩ = some (.int .u32 s6) ∧ W.cell? ⟨g, 7, none⟩ = some (.int .u32 s7) := fun W h => by
    have hb := HG.out.below h hgl
    exact ⟨hb.cell 0 (by simp), hb.cell 1 (by simp), hb.cell 2 (by simp), hb.cell 3 (by simp), hb.cell 4 (by simp), hb.cell 5 (by simp), hb.cell 6 (by simp), hb.cell 7 (by simp)⟩
  have HCL := Lib.hid hcells
  have HFR := Lib.hid (fun (W : World) (h : Below w.heap.size w W) (i : Nat) => (HG.out.below h hgl).frozen i)
  obtain ⟨c0, c1, c2, c3, c4, c5, c6, c7⟩ := hcells w (Below.refl _ _)
  clear hcells
  obtain ⟨r0, r1, r2, r3, r4, r5, r6, r7, hR⟩ := eight (s := comp256 W64 [s0, s1, s2, s3, s4, s5, s6, s7]) (by simp [comp256, rounds256_length])
  have HR := Lib.hid hR
  have HC2 : Hid (∀ W, Below w.heap.size w W → Calls Tryd.prog 89 #[.agg #[.int .u32 s0, .int .u32 s1, .int .u32 s2, .int .u32 s3, .int .u32 s4, .int .u32 s5, .int .u32 s6, .int .u32 s7], .agg (ints .u32 W64).toArray] W fun e w' =>
      e = .returned (.agg #[.int .u32 r0, .int .u32 r1, .int .u32 r2, .int .u32 r3, .int .u32 r4, .int .u32 r5, .int .u32 r6, .int .u32 r7]) ∧ Below W.heap.size W w') := fun W h => by
    have := HC.out W h
    rw [hR] at this
    exact this
  clear hR HC
  go_enter Tryd.func88, Tryd.ntmps88
  go_wp2_with fail
  go_region_with (first
    | (go_at_call 90; refine (HE.out _ ?_).mono ?_; exact (Below.refl _ _).drew; rintro e w1 ⟨rfl, hb1⟩; have hbw1 : Below w.heap.size w w1 := (Below.refl _ _).drew.trans hb1; obtain ⟨d0, d1, d2, d3, d4, d5, d6, d7⟩ := HCL.out w1 hbw1; clear hb1)
    | (go_at_call 89; refine (HC2.out _ ?_).mono ?_; assumption; rintro e w2 ⟨rfl, hb2⟩; have hbw2 : Below w.heap.size w w2 := hbw1.trans (hb2.mono hbw1.size); obtain ⟨e0, e1, e2, e3, e4, e5, e6, e7⟩ := HCL.out w2 hbw2; have ef := HFR.out w2 hbw2; clear hb2))
  all_goals
    go_wp2
    go_end0
    refine ⟨rfl, ?_, ?_⟩
    · have hB := ((((((((HG.out.below hbw2 hgl).set_ 0 r0).set_ 1 r1).set_ 2 r2).set_ 3 r3).set_ 4 r4).set_ 5 r5).set_ 6 r6).set_ 7 r7
      show Blk _ g 82 .u32 (comp256 (sch (wordAtI xs) next256 64) [s0, s1, s2, s3, s4, s5, s6, s7])
      rw [HW.out, HR.out]
      exact hB
    · exact ((((((((but_of_below hbw2 g).set_ 0 _).set_ 1 _).set_ 2 _).set_ 3 _).set_ 4 _).set_ 5 _).set_ 6 _).set_ 7 _
end Go.Proofs.YtljkkejjnimjcaaDoor
