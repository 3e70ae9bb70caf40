/-
  The rounds of a block: the program's compress256.
-/
import Derived.Test.YtkcbbgmilaafeaaDoorExpand
namespace Go.Proofs.YtkcbbgmilaafeaaDoor
open Go.RowKit

theorem size_alloc1 (w : World) (a : Obj) : w.heap.size + 1 = (w.alloc a).heap.size := by simp
theorem size_alloc2 (w : World) (a b : Obj) : w.heap.size + 1 + 1 = ((w.alloc a).alloc b).heap.size := by simp
theorem kay256_length : kay256.length = 64 := rfl
theorem run_index_ints {P : Program} (t e n : Nat) (k : IntKind) (xs : List Int) (i : Nat) (ht : P.underlying t = some (.array n e)) (he : P.underlying e = some (.int k)) (hs : (P.info? e).map (·.size) = some 1) (hi : i < n) (hl : xs.length = n) (w : World) :
    (Instr.index t (.agg (ints k xs).toArray) (.int .i64 (i : Int))).run P w = .ok (.int k (xs.getD i 0)) w := by
  cases hq : P.info? e with
  | none => simp [hq] at hs
  | some j =>
    have hj : j.size = 1 := by simpa [hq] using hs
    have hx : (ints k xs)[i]? = some (.int k (xs.getD i 0)) := ints_at k xs i (by omega)
    have hlt : (i : Int) < n := by omega
    have hi1 : i < (ints k xs).length := by rw [ints_length]; omega
    have hx' : (ints k xs)[i] = .int k (xs.getD i 0) := by rw [List.getElem?_eq_getElem hi1] at hx; exact Option.some.inj hx
    simp [Instr.index, asIntOf, run_underlying ht, hi, sizeOf, typeInfo, hq, hj, part, isAgg, run_underlying he]
    rw [hx]
    rfl

/-- Eight words that are known one by one. -/
theorem eight {s : List Int} (h : s.length = 8) : ∃ a b c d e f g i, s = [a, b, c, d, e, f, g, i] := by
  match s, h with
  | [a, b, c, d, e, f, g, i], _ => exact ⟨a, b, c, d, e, f, g, i, rfl⟩

theorem sum5 (a b c d e : Int) : (a + b + c + d + e) % 4294967296 = addI (addI (addI (addI a b) c) d) e := by simp only [addI]; omega
theorem round256_of (k w a b c d e f g h : Int) : round256 k w [a, b, c, d, e, f, g, h] =
    [((h + bits .xor .u32 (bits .xor .u32 (rotrI e 6) (rotrI e 11)) (rotrI e 25) + bits .xor .u32 (bits .and .u32 e f) (bits .and .u32 (bits .xor .u32 IntKind.u32.max e) g) + k + w) % 4294967296 +
        (bits .xor .u32 (bits .xor .u32 (rotrI a 2) (rotrI a 13)) (rotrI a 22) + bits .xor .u32 (bits .xor .u32 (bits .and .u32 a b) (bits .and .u32 a c)) (bits .and .u32 b c)) % 4294967296) % 4294967296,
      a, b, c,
      (d + (h + bits .xor .u32 (bits .xor .u32 (rotrI e 6) (rotrI e 11)) (rotrI e 25) + bits .xor .u32 (bits .and .u32 e f) (bits .and .u32 (bits .xor .u32 IntKind.u32.max e) g) + k + w) % 4294967296) % 4294967296,
      e, f, g] := by
  rw [sum5]
  rfl

/-- Adding one list of words to another, in place. -/
def addTo (S V : List Int) (k : Nat) : List Int := (List.zipWith addI S V).take k ++ S.drop k
theorem addTo_zero (S V : List Int) : addTo S V 0 = S := by simp [addTo]
theorem addTo_length (S V : List Int) (k : Nat) (h : S.length = V.length) (hk : k ≤ S.length) : (addTo S V k).length = S.length := by simp [addTo]; omega
theorem addTo_full (S V : List Int) (k : Nat) (h : S.length = V.length) (hk : k = S.length) : addTo S V k = List.zipWith addI S V := by
  subst hk
  have hl : (List.zipWith addI S V).length = S.length := by simp [← h]
  rw [addTo, List.take_of_length_le (by omega)]
  simp
theorem addTo_get (S V : List Int) (k : Nat) (h : S.length = V.length) (hk : k < S.length) : (addTo S V k).getD k 0 = S.getD k 0 := by
  have : (List.take k (List.zipWith addI S V)).length = k := by simp [← h]; omega
  simp [addTo, List.getD, List.getElem?_append_right, this]
theorem addTo_set (S V : List Int) (k : Nat) (x : Int) (h : S.length = V.length) (hk : k < S.length) (hx : x = addI (S.getD k 0) (V.getD k 0)) : (addTo S V k).set k x = addTo S V (k + 1) := by
  have hl : (List.take k (List.zipWith addI S V)).length = k := by simp [← h]; omega
  have hz : (List.zipWith addI S V)[k]? = some x := by
    have hv : k < V.length := by omega
    rw [List.getElem?_zipWith]
    simp [hk, hv, hx, List.getD]
  have h1 : S.drop k = S.getD k 0 :: S.drop (k + 1) := by
    rw [List.drop_eq_getElem_cons hk]
    simp [List.getD, hk]
  unfold addTo
  rw [List.take_add_one, hz, List.set_append_right _ _ (by omega), hl, h1]
  simp

set_option maxRecDepth 100000 in
set_option maxHeartbeats 2000000 in
theorem compress256_any (S W : List Int) (w : World) (hS : S.length = 8) (hW : W.length = 64) (hK : Tab w 0 .u32 kay256) :
    Calls Tryd.prog 50 #[.agg (ints .u32 S).toArray, .agg (ints .u32 W).toArray] w fun e w' => e = .returned (.agg (ints .u32 (comp256 W S)).toArray) ∧ Below w.heap.size w w' := by
  obtain ⟨s0, s1, s2, s3, s4, s5, s6, s7, rfl⟩ := eight hS
  have HW := Lib.hid hW
  have hz64 := Tryd.zero64
  have h0 : 0 < w.heap.size := hK.lt
  clear hW hS
  have hK' := Lib.hid hK
  clear hK
  go_enter Tryd.func50, Tryd.ntmps50
  go_wp2_with fail
  generalize hw1 : World.alloc _ _ = w1
  have hb : Below w.heap.size w w1 := by rw [← hw1]; exact (((Below.refl _ _).alloc (Nat.le_refl _) _).alloc (by simp) _).alloc (by simp; omega) _
  have hS : Blk w1 w.heap.size 64 .u32 [s0, s1, s2, s3, s4, s5, s6, s7] := by rw [← hw1]; exact ((Blk.new w _ _ _).alloc _).alloc _
  have hWb : Blk w1 (w.heap.size + 1) 49 .u32 W := by rw [← hw1]; exact (Blk.new' _ _ _ _ _ (size_alloc1 _ _)).alloc _
  have hR : Blk w1 (w.heap.size + 1 + 1) 64 .u32 [0, 0, 0, 0, 0, 0, 0, 0] := by
    rw [← hw1]
    exact Blk.new' _ _ .u32 [0, 0, 0, 0, 0, 0, 0, 0] _ (size_alloc2 _ _ _)
  clear hw1
  have hK := hK'.out.below hb h0
  have c0 := hS.cell 0 (by simp)
  have c1 := hS.cell 1 (by simp)
  have c2 := hS.cell 2 (by simp)
  have c3 := hS.cell 3 (by simp)
  have c4 := hS.cell 4 (by simp)
  have c5 := hS.cell 5 (by simp)
  have c6 := hS.cell 6 (by simp)
  have c7 := hS.cell 7 (by simp)
  simp only [List.getD_cons_zero, List.getD_cons_succ] at c0 c1 c2 c3 c4 c5 c6 c7
  go_quiet (fail)
  obtain ⟨n1, hn1⟩ : ∃ n1, nq = n1 := ⟨_, rfl⟩
  rw [hn1]
  clear hn1
  go_wp2_with fail
  go_quiet (fail)
  generalize hwq : World.drewN _ _ = w2
  replace hb : Below w.heap.size w w2 := by rw [← hwq]; exact below_drewN (below_drewN hb n1) nq
  replace hS : Blk w2 w.heap.size 64 .u32 [s0, s1, s2, s3, s4, s5, s6, s7] := by rw [← hwq]; exact (hS.drewN n1).drewN nq
  replace hWb : Blk w2 (w.heap.size + 1) 49 .u32 W := by rw [← hwq]; exact (hWb.drewN n1).drewN nq
  replace hR : Blk w2 (w.heap.size + 1 + 1) 64 .u32 [0, 0, 0, 0, 0, 0, 0, 0] := by rw [← hwq]; exact (hR.drewN n1).drewN nq
  replace hK : Tab w2 0 .u32 kay256 := by rw [← hwq]; exact (hK.drewN n1).drewN nq
  clear c0 c1 c2 c3 c4 c5 c6 c7 hwq
  go_wp2_with (with_reducible refine wpList_loadTab rfl 49 (.global 0) rfl 0 rfl .u32 _ hK 64 48 Tryd.underlying49 Tryd.size64 kay256_length ?_)
  have hu := u32_unsigned
  go_loop [5, 6, 7, 8, 9, 10, 11, 12, 38] (fun a b c d e f g h i => ∃ (k : Nat) (v0 v1 v2 v3 v4 v5 v6 v7 : Int), k ≤ 64 ∧ i = .int .i64 k ∧ Hid (rounds256 kay256 W [s0, s1, s2, s3, s4, s5, s6, s7] k = [v0, v1, v2, v3, v4, v5, v6, v7]) ∧
      a = .int .u32 v0 ∧ b = .int .u32 v1 ∧ c = .int .u32 v2 ∧ d = .int .u32 v3 ∧ e = .int .u32 v4 ∧ f = .int .u32 v5 ∧ g = .int .u32 v6 ∧ h = .int .u32 v7)
    (fun _ _ _ _ _ _ _ _ i => 64 - (intOf i).toNat)
  case atStart => exact ⟨0, _, _, _, _, _, _, _, _, by omega, rfl, rfl, rfl, rfl, rfl, rfl, rfl, rfl, rfl, rfl⟩
  case round =>
    obtain ⟨k, v0, v1, v2, v3, v4, v5, v6, v7, hk, rfl, hv, rfl, rfl, rfl, rfl, rfl, rfl, rfl, rfl⟩ := hrel
    by_cases hlt : k < 64
    · obtain ⟨kk, hkk⟩ : ∃ kk, Hid (kay256.getD k 0 = kk) := ⟨_, rfl⟩
      obtain ⟨wk, hwk⟩ : ∃ wk, Hid (W.getD k 0 = wk) := ⟨_, rfl⟩
      have hcell := hWb.cell k (by rw [HW.out]; exact hlt)
      rw [hwk.out] at hcell
      have hidx := fun w => run_index_ints (P := Tryd.prog) 49 48 64 .u32 kay256 k Tryd.underlying49 Tryd.underlying48 (by kernel_rfl) hlt kay256_length w
      rw [hkk.out] at hidx
      have hd : decide ((k : Int) < 64) = true := by simp; omega
      go_wp2_with (go_at_call 56; refine (rotr_any _ _ _ (by omega) (by omega)).mono ?_; rintro e w' ⟨rfl, rfl⟩)
      go_round
      case measure => simp [intOf]; omega
      case rel =>
        refine ⟨k + 1, _, v0, v1, v2, _, v4, v5, v6, by omega, by go_num, ?_, rfl, rfl, rfl, rfl, rfl, rfl, rfl, rfl⟩
        show round256 (kay256.getD k 0) (W.getD k 0) (rounds256 kay256 W [s0, s1, s2, s3, s4, s5, s6, s7] k) = _
        rw [hv.out, hkk.out, hwk.out]
        exact round256_of _ _ _ _ _ _ _ _ _ _
    · have hd : decide ((k : Int) < 64) = false := by simp; omega
      have hv64 : Hid (rounds256 kay256 W [s0, s1, s2, s3, s4, s5, s6, s7] 64 = [v0, v1, v2, v3, v4, v5, v6, v7]) := by
        have e64 : k = 64 := by omega
        rw [e64] at hv
        exact hv
      clear hv hK hWb
      go_wp2_with fail
      go_loopw [111] (fun i wr => ∃ j : Nat, j ≤ 8 ∧ i = .int .i64 j ∧ Blk wr w.heap.size 64 .u32 (addTo [s0, s1, s2, s3, s4, s5, s6, s7] [v0, v1, v2, v3, v4, v5, v6, v7] j) ∧
          Blk wr (w.heap.size + 1 + 1) 64 .u32 [0, 0, 0, 0, 0, 0, 0, 0] ∧ Below w.heap.size w wr)
        (fun i _ => 8 - (intOf i).toNat)
      case atStart => exact ⟨0, by omega, rfl, by rw [addTo_zero]; exact hS, hR, hb⟩
      case round =>
        clear hS hR hb hd
        obtain ⟨j, hj, rfl, hS, hR, hb⟩ := hrel
        by_cases hjt : j < 8
        · have hd : decide ((j : Int) < 8) = true := by simp; omega
          have hlen := addTo_length [s0, s1, s2, s3, s4, s5, s6, s7] [v0, v1, v2, v3, v4, v5, v6, v7] j rfl (by simpa using hj)
          have hc := hS.cell j (by rw [hlen]; simpa using hjt)
          have hf := hS.frozen j
          have hSV : [s0, s1, s2, s3, s4, s5, s6, s7].length = [v0, v1, v2, v3, v4, v5, v6, v7].length := rfl
          rw [addTo_get _ _ _ hSV (by simpa using hjt)] at hc
          have hset := fun x => addTo_set [s0, s1, s2, s3, s4, s5, s6, s7] [v0, v1, v2, v3, v4, v5, v6, v7] j x rfl (by simpa using hjt)
          obtain ⟨x, hx⟩ : ∃ x, Hid ([s0, s1, s2, s3, s4, s5, s6, s7].getD j 0 = x) := ⟨_, rfl⟩
          obtain ⟨y, hy⟩ : ∃ y, Hid ([v0, v1, v2, v3, v4, v5, v6, v7].getD j 0 = y) := ⟨_, rfl⟩
          rw [hx.out] at hc
          rw [hx.out, hy.out] at hset
          have HS := Lib.hid hset
          have hidx : ∀ w, (Instr.index 64 (.agg #[.int .u32 v0, .int .u32 v1, .int .u32 v2, .int .u32 v3, .int .u32 v4, .int .u32 v5, .int .u32 v6, .int .u32 v7]) (.int .i64 (j : Int))).run Tryd.prog w = .ok (.int .u32 y) w := fun w => by
            have h := run_index_ints (P := Tryd.prog) 64 48 8 .u32 [v0, v1, v2, v3, v4, v5, v6, v7] j Tryd.underlying64 Tryd.underlying48 (by kernel_rfl) hjt rfl w
            rw [hy.out] at h
            exact h
          clear hset hlen
          go_wp2_with fail
          go_roundw
          case measure => simp [intOf]; omega
          case rel =>
            refine ⟨j + 1, by omega, by go_num, ?_, hR.far (by simp; omega) _, hb.setCell (by simp) _⟩
            rw [← HS.out _ rfl]
            exact hS.set_ j _
        · have hd : decide ((j : Int) < 8) = false := by simp; omega
          have hS8 : Blk wr w.heap.size 64 .u32 (comp256 W [s0, s1, s2, s3, s4, s5, s6, s7]) := by
            have e8 : j = 8 := by omega
            have hSV : [s0, s1, s2, s3, s4, s5, s6, s7].length = [v0, v1, v2, v3, v4, v5, v6, v7].length := rfl
            rw [e8, addTo_full _ _ 8 hSV rfl, ← hv64.out] at hS
            exact hS
          obtain ⟨R, HR⟩ : ∃ R, Hid (comp256 W [s0, s1, s2, s3, s4, s5, s6, s7] = R) := ⟨_, rfl⟩
          have hlR : Hid (R.length = 8) := by
            rw [← HR.out]
            show (comp256 W _).length = 8
            simp [comp256, rounds256_length]
          rw [HR.out] at hS8
          clear hS
          go_wp2_with (first
            | (with_reducible refine wpList_loadInts rfl 64 (.tmp 2) rfl w.heap.size rfl 64 .u32 _ hS8 8 48 Tryd.underlying64 Tryd.size8 hlR.out ?_)
            | (with_reducible refine wpList_storeInts rfl 64 (.tmp 4) (.tmp 122) rfl (w.heap.size + 1 + 1) rfl 64 .u32 _ R rfl hR 8 Tryd.size8 (by simp) hlR.out ?_))
          refine bodyPost_ret ((hR.setRow R).result rfl _ rfl 8 48 Tryd.underlying64 Tryd.size8 hlR.out) rfl ⟨?_, below_setRow' hb (by omega) _⟩
          rw [← HR.out]
end Go.Proofs.YtkcbbgmilaafeaaDoor
