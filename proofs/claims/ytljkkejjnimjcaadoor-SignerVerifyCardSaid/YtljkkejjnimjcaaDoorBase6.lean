/-
  The reference's SHA-256.
-/
import Derived.Test.YtljkkejjnimjcaaDoorBase5
import Derived.Test.YtljkkejjnimjcaaDoorBase1
import Derived.Test.YtljkkejjnimjcaaDoorBase2
import Derived.Test.YtljkkejjnimjcaaDoorBase3
namespace Go.Proofs.YtljkkejjnimjcaaDoor
open Go.RowKit

theorem made_cell (W : World) (cs : Array Value) (t : TypeId) (g i : Nat) (v : Value) (hg : g = W.heap.size) (hv : cs[i]? = some v) : (W.alloc (.cells cs t)).cell? ⟨g, i, none⟩ = some v := by
  rw [World.cell?_alloc_at cs t g i hg]
  exact hv
theorem round256_ref (k w a b c d e f g h : Int) : round256 k w [a, b, c, d, e, f, g, h] =
    [(h + bits .xor .u32 (bits .xor .u32 (rotrI e 6) (rotrI e 11)) (rotrI e 25) + bits .xor .u32 (bits .and .u32 e f) (bits .and .u32 (bits .xor .u32 IntKind.u32.max e) g) + k + w +
        (bits .xor .u32 (bits .xor .u32 (rotrI a 2) (rotrI a 13)) (rotrI a 22) + bits .xor .u32 (bits .xor .u32 (bits .and .u32 a b) (bits .and .u32 a c)) (bits .and .u32 b c))) % 4294967296,
      a, b, c,
      (d + (h + bits .xor .u32 (bits .xor .u32 (rotrI e 6) (rotrI e 11)) (rotrI e 25) + bits .xor .u32 (bits .and .u32 e f) (bits .and .u32 (bits .xor .u32 IntKind.u32.max e) g) + k + w)) % 4294967296,
      e, f, g] := by
  rw [round256_of]
  simp only [Int.emod_add_emod, Int.add_emod_emod]
/-- Eight cells of a block. -/
def Eight (w : World) (g : Nat) (v0 v1 v2 v3 v4 v5 v6 v7 : Int) : Prop :=
  w.cell? ⟨g, 0, none⟩ = some (.int .u32 v0) ∧ w.cell? ⟨g, 1, none⟩ = some (.int .u32 v1) ∧ w.cell? ⟨g, 2, none⟩ = some (.int .u32 v2) ∧ w.cell? ⟨g, 3, none⟩ = some (.int .u32 v3) ∧
  w.cell? ⟨g, 4, none⟩ = some (.int .u32 v4) ∧ w.cell? ⟨g, 5, none⟩ = some (.int .u32 v5) ∧ w.cell? ⟨g, 6, none⟩ = some (.int .u32 v6) ∧ w.cell? ⟨g, 7, none⟩ = some (.int .u32 v7)
theorem Eight.of {w : World} {g : Nat} {v0 v1 v2 v3 v4 v5 v6 v7 : Int} (h : ∀ j, j < 8 → w.cell? ⟨g, j, none⟩ = some (.int .u32 ([v0, v1, v2, v3, v4, v5, v6, v7].getD j 0))) : Eight w g v0 v1 v2 v3 v4 v5 v6 v7 :=
  ⟨h 0 (by omega), h 1 (by omega), h 2 (by omega), h 3 (by omega), h 4 (by omega), h 5 (by omega), h 6 (by omega), h 7 (by omega)⟩
theorem Eight.at_ {w : World} {g : Nat} {v0 v1 v2 v3 v4 v5 v6 v7 : Int} (h : Eight w g v0 v1 v2 v3 v4 v5 v6 v7) (j : Nat) (hj : j < 8) : w.cell? ⟨g, j, none⟩ = some (.int .u32 ([v0, v1, v2, v3, v4, v5, v6, v7].getD j 0)) := by
  obtain ⟨h0, h1, h2, h3, h4, h5, h6, h7⟩ := h
  rcases (by omega : j = 0 ∨ j = 1 ∨ j = 2 ∨ j = 3 ∨ j = 4 ∨ j = 5 ∨ j = 6 ∨ j = 7) with rfl | rfl | rfl | rfl | rfl | rfl | rfl | rfl <;> assumption

theorem made_eight (W : World) (t : TypeId) (x0 x1 x2 x3 x4 x5 x6 x7 : Int) : Eight (W.alloc (.cells #[.int .u32 x0, .int .u32 x1, .int .u32 x2, .int .u32 x3, .int .u32 x4, .int .u32 x5, .int .u32 x6, .int .u32 x7] t)).drew W.heap.size x0 x1 x2 x3 x4 x5 x6 x7 :=
  ⟨made_cell W _ t _ 0 _ rfl rfl, made_cell W _ t _ 1 _ rfl rfl, made_cell W _ t _ 2 _ rfl rfl, made_cell W _ t _ 3 _ rfl rfl, made_cell W _ t _ 4 _ rfl rfl, made_cell W _ t _ 5 _ rfl rfl, made_cell W _ t _ 6 _ rfl rfl, made_cell W _ t _ 7 _ rfl rfl⟩
set_option maxRecDepth 100000 in
set_option maxHeartbeats 8000000 in
theorem rsum256_any (A : Option Addr) (n c : Nat) (xs : List Int) (w : World) (hs : Seg w w.heap.size .u8 A n xs) (hn : n ≤ 1099511627776) :
    Calls Tryd.prog 73 #[.slice A n c] w fun e w' => ∃ v, e = .returned v ∧ Own w' w.heap.size 5 .u8 v (sha256 xs) ∧ Below w.heap.size w w' := by
  have HS := Lib.hid hs
  clear hs
  go_enter Tryd.func73, Tryd.ntmps73
  go_wp2_with fail
  refine (constants_any w).mono ?_
  rintro e w1 ⟨rfl, hb1⟩
  have hz64 := Tryd.zero64
  have hz1 := hb1.size
  go_wp2_with (refine wpList_storeInts rfl 69 (.tmp 3) (.tmp 18) rfl w1.heap.size rfl 69 .u32 _ kay256 rfl (Blk.new w1 69 .u32 (List.replicate 64 0)) 64 Tryd.size64 (by simp) rfl ?_)
  generalize hw2 : World.alloc _ _ = w2
  have hbw2 : Below w.heap.size w w2 := by
    rw [← hw2]
    exact (below_setRow' (hb1.alloc hz1 _) hz1 _).alloc (by simp; omega) _
  have hKb : Blk w2 w1.heap.size 69 .u32 kay256 := by
    rw [← hw2]
    exact ((Blk.new w1 69 .u32 (List.replicate 64 0)).setRow kay256).alloc _
  have hH : Blk w2 (w1.heap.size + 1) 60 .u32 init256 := by
    rw [← hw2]
    exact Blk.new' _ _ .u32 init256 _ (by simp)
  have hg1 : w.heap.size ≤ w1.heap.size + 1 := by omega
  clear hw2
  obtain ⟨K0, HK0⟩ : ∃ K0, Hid (w1.heap.size = K0) := ⟨_, rfl⟩
  rw [HK0.out] at hKb hH hg1
  rw [HK0.out]
  have hzK : w.heap.size ≤ K0 := by rw [← HK0.out]; exact hz1
  have hz2 := hbw2.size
  refine (rpad_any A n c xs w2 ((HS.out.below hbw2 (Nat.le_refl _)).more hz2) hn).mono ?_
  rintro e w3 ⟨v3, rfl, hown3, hb3⟩
  obtain ⟨A3, c3, rfl, hc3, hcm3⟩ := Own.cut hown3
  have hsegp : SegN w3 (K0 + 1) .u8 A3 (padded xs).length (padded xs) := SegN.of_own hown3 hH.lt
  have hplen := padded_length xs
  have hxn : xs.length = n := HS.out.1
  have hpb := padded_blocks xs
  obtain ⟨P, HP⟩ : ∃ P, Hid (padded xs = P) := ⟨_, rfl⟩
  rw [HP.out] at hsegp hc3 hplen hpb
  obtain ⟨L, HL⟩ : ∃ L, Hid (P.length = L) := ⟨_, rfl⟩
  rw [HL.out] at hsegp hc3 hplen hpb
  rw [HP.out, HL.out]
  have hLb : L ≤ 1099511627776 + 200 := by omega
  have HPB := Lib.hid hpb
  have hKb3 := hKb.below hb3 hKb.lt
  have hH3 := hH.below hb3 hH.lt
  have hbw3 : Below w.heap.size w w3 := hbw2.trans (hb3.mono hz2)
  have HSP := Lib.hid hsegp
  have HKB := Lib.hid hKb3
  unfold maxLen at hcm3
  clear hplen hxn hpb hsegp hown3 hb1 hbw2 hKb hH hb3 hKb3 hz1
  go_wp2_with fail
  go_loopw [6] (fun i wr => ∃ k : Nat, 64 * k ≤ L ∧ i = .int .i64 ((64 * k : Nat) : Int) ∧ Blk wr (K0 + 1) 60 .u32 (run step256 init256 P k) ∧ But w3 wr (K0 + 1)) (fun i _ => (L - intOf i).toNat)
  case atStart => exact ⟨0, by omega, rfl, hH3, World.grownBy.refl _ _⟩
  case round =>
    clear hH3
    obtain ⟨k, hk, rfl, hH, hbut⟩ := hrel
    obtain ⟨wo, rfl⟩ : ∃ wo : World, wo = wr := ⟨_, rfl⟩
    obtain ⟨a, HA⟩ : ∃ a, Hid (64 * k = a) := ⟨_, rfl⟩
    rw [HA.out] at hk
    rw [HA.out]
    by_cases hlt : a < L
    · have hlt64 : a + 64 ≤ L := by have := HPB.out; have := HA.out; omega
      obtain ⟨b, off, rfl, hbne, hbl, hcell⟩ := (HSP.out.but hbut).2 (by omega)
      obtain ⟨blk, HB⟩ : ∃ blk, Hid ((P.drop (64 * k)).take 64 = blk) := ⟨_, rfl⟩
      have hblk : Hid (∀ j, j < 64 → wo.cell? ⟨b, off + a + j, none⟩ = some (.int .u8 (blk.getD j 0))) := fun j hj => by
        rw [← HB.out, getD_take64 _ _ _ hj, Nat.add_assoc, hcell (a + j) (by omega), HA.out]
        simp [List.getD]
      clear hcell
      have hd : decide ((a : Int) < L) = true := by simp; omega
      go_wp2_with fail
      go_loopw [8] (fun i wr => ∃ t : Nat, t ≤ 64 ∧ i = .int .i64 t ∧ Blk wr wo.heap.size 69 .u32 (fillW 64 (sch (wordAtI blk) next256 t)) ∧ Below wo.heap.size wo wr)
        (fun i _ => 64 - (intOf i).toNat)
      case atStart => exact ⟨0, by omega, rfl, Blk.new wo 69 .u32 (List.replicate 64 0), (Below.refl _ _).alloc (Nat.le_refl _) _⟩
      case round =>
        obtain ⟨t, ht, rfl, hW, hbel⟩ := hrel
        by_cases htl : t < 64
        · have hd64 : decide ((t : Int) < 64) = true := by simp; omega
          have hll := sch_length (wordAtI blk) next256 t
          have hcW := hW.cell t (by rw [fillW_length _ _ (by omega)]; omega)
          have hfW := hW.frozen t
          by_cases ht16 : t < 16
          · have hd16 : decide ((t : Int) < 16) = true := by simp; omega
            have hcn : ¬ c3 = a := by omega
            have hxk : ∀ j, j < 4 → wr.cell? ⟨b, off + a + (4 * t + j), none⟩ = some (.int .u8 (blk.getD (4 * t + j) 0)) := fun j hj =>
              (hbel.cell (p := ⟨b, _, none⟩) hbl).trans (hblk.out (4 * t + j) (by omega))
            have C : Hid (Calls Tryd.prog 80 #[.slice (some ⟨b, off + a, none⟩) 64 (c3 - a), .int .i64 t] wr fun e w' => e = .returned (.int .u32 (wordAtI blk t)) ∧ ∃ n, w' = wr.drewN n) :=
              Lib.hid (rword_any b (off + a) 64 (c3 - a) t _ _ _ _ wr (by omega) (by omega) (hxk 0 (by omega)) (hxk 1 (by omega)) (hxk 2 (by omega)) (hxk 3 (by omega)))
            clear hxk hll
            go_wp2_with (go_at_call 80; refine C.out.mono ?_; rintro e w' ⟨rfl, q, rfl⟩)
            go_roundw
            case measure => simp [intOf]; omega
            case rel =>
              exact ⟨t + 1, by omega, by go_num, by rw [sch_low _ _ _ ht16, fillW_next 64 t _ _ (sch_length _ _ _) (by omega)]; exact (hW.drewN q).set_ t _, (below_drewN hbel q).setCell (by simp) _⟩
          · have hd16 : decide ((t : Int) < 16) = false := by simp; omega
            have hget : ∀ i, 2 ≤ i → i ≤ 16 → ∃ x, x = (sch (wordAtI blk) next256 t).getD (t - i) 0 ∧ wr.cell? ⟨wo.heap.size, t - i, none⟩ = some (.int .u32 x) := fun i h2 h16 =>
              ⟨_, rfl, by rw [hW.cell (t - i) (by rw [fillW_length _ _ (by omega)]; omega), fillW_get _ _ _ (by omega)]⟩
            obtain ⟨x15, e15, c15⟩ := hget 15 (by omega) (by omega)
            obtain ⟨x2, e2, c2⟩ := hget 2 (by omega) (by omega)
            obtain ⟨x7, e7, c7⟩ := hget 7 (by omega) (by omega)
            obtain ⟨x16, e16, c16⟩ := hget 16 (by omega) (by omega)
            have HN := Lib.hid (next256_of _ t x2 x7 x15 x16 hll e2 e7 e15 e16)
            have h16 : 16 ≤ t := by omega
            clear hget e15 e2 e7 e16 hll
            go_wp2_with fail
            go_quiet ((go_at_call 81; refine (rrotr_any _ _ _ (by omega) (by omega)).mono ?_; rintro e w' ⟨rfl, rfl⟩; exact ⟨rfl, _, rfl⟩))
            go_wp2_with fail
            go_quiet ((go_at_call 81; refine (rrotr_any _ _ _ (by omega) (by omega)).mono ?_; rintro e w' ⟨rfl, rfl⟩; exact ⟨rfl, _, rfl⟩))
            go_wp2_with fail
            go_region
            go_wp2
            go_roundw
            case measure => simp [intOf]; omega
            case rel =>
              refine ⟨t + 1, by omega, by go_num, ?_, (below_drewN hbel _).setCell (by simp) _⟩
              rw [sch_high _ _ _ h16, fillW_next 64 t _ _ (sch_length _ _ _) (by omega), HN.out]
              exact (hW.drewN _).set_ t _
        · have hd64 : decide ((t : Int) < 64) = false := by simp; omega
          have hW64 : Blk wr wo.heap.size 69 .u32 (sch (wordAtI blk) next256 64) := by
            have e : t = 64 := by omega
            rw [e, fillW_full _ _ (sch_length _ _ _)] at hW
            exact hW
          obtain ⟨S, HSS⟩ : ∃ S, Hid (run step256 init256 P k = S) := ⟨_, rfl⟩
          have hSl : S.length = 8 := by rw [← HSS.out]; exact run_length step256_length _ _ rfl _
          have HSL := Lib.hid hSl
          rw [HSS.out] at hH
          obtain ⟨W, HW⟩ : ∃ W, Hid (sch (wordAtI blk) next256 64 = W) := ⟨_, rfl⟩
          have hWl : W.length = 64 := by rw [← HW.out]; exact sch_length _ _ _
          have HWL := Lib.hid hWl
          rw [HW.out] at hW64
          clear hW hSl hWl
          obtain ⟨wp, rfl⟩ : ∃ wp : World, wp = wr := ⟨_, rfl⟩
          have hHp := hH.below hbel hH.lt
          have hKo : Blk wo K0 69 .u32 kay256 := (hbut.block K0 HKB.out.lt (by intro e; injection e with e; omega)).trans HKB.out
          have hKp := hKo.below hbel hKo.lt
          have hltH := hHp.lt
          have hltW := hW64.lt
          have hltK := hKp.lt
          obtain ⟨i1, hi1, hu0, hu1, hu2⟩ := info_parts Tryd.infoU32
          have hown0 : (wp.alloc (.cells #[] 60)).ownsRow wp.heap.size 60 1 (.slice (some ⟨wp.heap.size, 0, none⟩) 0 0) 0 [] :=
            ⟨rfl, .inr ⟨wp.heap.size, 0, #[], rfl, Nat.le_refl _, heap_alloc_new wp _, Nat.le_refl _, by unfold maxLen; omega, rfl, rfl⟩⟩
          have hb0 : Below wp.heap.size wp (wp.alloc (.cells #[] 60)) := (Below.refl _ _).alloc (Nat.le_refl _) _
          have hs0 : Seg (wp.alloc (.cells #[] 60)) wp.heap.size .u32 (some ⟨K0 + 1, 0, none⟩) 8 S := by
            have h := (Seg.of_blk hHp).below hb0 (Nat.le_refl _)
            rw [HSL.out] at h
            exact h
          go_wp2_with (at_builtin; refine wpList_app _ rfl (.tmp 92) (.tmp 93) 71 rfl wp.heap.size 60 i1 (.int .u32 0) 4 Tryd.underlying71 hi1 hu0 hu1 hu2 rfl .u32 _ [] rfl hown0 _ (some ⟨K0 + 1, 0, none⟩) 8 8 S rfl hs0 (by unfold maxLen; simp) (by simp) hb0.size ?_; intro v5 w5 hown5 hg5 hor5; have hb5 := own_below (k := .u32) (xs := []) hown0 hg5 hb0 hb0.size; clear hg5 hor5)
          clear hown0 hb0 hs0
          obtain ⟨s0, s1, s2, s3, s4, s5, s6, s7, hS8⟩ := eight HSL.out
          have HS8 := Lib.hid hS8
          obtain ⟨vb, cv, hv5, _, _, hvB, _, hvc⟩ := Own.at_ hown5 (by rw [List.nil_append, HSL.out]; omega)
          rw [List.nil_append, HSL.out] at hv5 hvc
          have hE5 : Eight w5 vb s0 s1 s2 s3 s4 s5 s6 s7 := Eight.of (by rw [← hS8]; exact hvc)
          have hz5 := hb5.size
          clear hown5 hvc hS8
          subst hv5
          have HSTEP : Hid (∀ wX : World, Below wp.heap.size wp wX → But wo wX (K0 + 1)) := fun wX h => (but_of_below hbel _).trans (but_of_below h _ |> fun h2 => ⟨h2.os, h2.tape, h2.output, h2.size, h2.block⟩)
          go_loopw [11, 12] (fun v i wr => ∃ (t vb cv : Nat) (v0 v1 v2 v3 v4 v5 v6 v7 : Int), t ≤ 64 ∧ i = .int .i64 t ∧ v = .slice (some ⟨vb, 0, none⟩) 8 cv ∧ wp.heap.size ≤ vb ∧ Hid (rounds256 kay256 W S t = [v0, v1, v2, v3, v4, v5, v6, v7]) ∧ Hid (Eight wr vb v0 v1 v2 v3 v4 v5 v6 v7) ∧ Below wp.heap.size wp wr)
            (fun _ i _ => 64 - (intOf i).toNat)
          case atStart => exact ⟨0, vb, cv, s0, s1, s2, s3, s4, s5, s6, s7, by omega, rfl, rfl, hvB, HS8.out, hE5, hb5⟩
          case round =>
            clear hE5 hb5 hz5 hvB
            obtain ⟨t, vb, cv, v0, v1, v2, v3, v4, v5, v6, v7, ht, rfl, rfl, hvB, hv, hE, hb⟩ := hrel
            have hz := hb.size
            by_cases htl : t < 64
            · have hd64 : decide ((t : Int) < 64) = true := by simp; omega
              obtain ⟨kk, hkk⟩ : ∃ kk, Hid (kay256.getD t 0 = kk) := ⟨_, rfl⟩
              obtain ⟨wk, hwk⟩ : ∃ wk, Hid (W.getD t 0 = wk) := ⟨_, rfl⟩
              have hck := (hKp.below hb hltK).cell t (by rw [kay256_length]; exact htl)
              have hcw := (hW64.below hb hltW).cell t (by rw [HWL.out]; exact htl)
              rw [hkk.out] at hck
              rw [hwk.out] at hcw
              obtain ⟨f0, f1, f2, f3, f4, f5, f6, f7⟩ := hE.out
              have hu := u32_unsigned
              go_wp2_with fail
              go_quiet (fail)
              go_wp2_with fail
              go_quiet ((go_at_call 81; refine (rrotr_any _ _ _ (by omega) (by omega)).mono ?_; rintro e w' ⟨rfl, rfl⟩; exact ⟨rfl, _, rfl⟩))
              go_wp2_with fail
              go_quiet ((go_at_call 81; refine (rrotr_any _ _ _ (by omega) (by omega)).mono ?_; rintro e w' ⟨rfl, rfl⟩; exact ⟨rfl, _, rfl⟩))
              go_wp2_with fail
              generalize hwq : World.drewN _ _ = wq
              have hbq : Below wp.heap.size wp wq := by rw [← hwq]; repeat (first | exact hb | refine below_drewN ?_ _)
              have hEq : Eight wq vb v0 v1 v2 v3 v4 v5 v6 v7 := by rw [← hwq]; exact hE.out
              clear f0 f1 f2 f3 f4 f5 f6 f7 hck hcw hwq
              obtain ⟨f0, f1, f2, f3, f4, f5, f6, f7⟩ := hEq
              have hzq := hbq.size
              go_region
              go_wp2
              go_roundw
              case measure => simp [intOf]; omega
              case rel =>
                refine ⟨t + 1, wq.heap.size, 8, _, v0, v1, v2, _, v4, v5, v6, by omega, by go_num, rfl, hzq, ?_, made_eight wq _ _ _ _ _ _ _ _ _, (hbq.alloc hzq _).drew⟩
                show round256 (kay256.getD t 0) (W.getD t 0) (rounds256 kay256 W S t) = _
                rw [hv.out, hkk.out, hwk.out]
                exact round256_ref _ _ _ _ _ _ _ _ _ _
            · have hd64 : decide ((t : Int) < 64) = false := by simp; omega
              have hv64 : Hid (rounds256 kay256 W S 64 = [v0, v1, v2, v3, v4, v5, v6, v7]) := by
                have e : t = 64 := by omega
                rw [e] at hv
                exact hv
              obtain ⟨wv, rfl⟩ : ∃ wv : World, wv = wr := ⟨_, rfl⟩
              have hHv := hHp.below hb hltH
              obtain ⟨V, HV⟩ : ∃ V, Hid ([v0, v1, v2, v3, v4, v5, v6, v7] = V) := ⟨_, rfl⟩
              have hVl : V.length = 8 := by rw [← HV.out]; rfl
              have HVL := Lib.hid hVl
              have hSV : Hid (S.length = V.length) := by show _ = _; rw [HSL.out, hVl]
              have hvcell : Hid (∀ j, j < 8 → wv.cell? ⟨vb, j, none⟩ = some (.int .u32 (V.getD j 0))) := fun j hj => by rw [← HV.out]; exact hE.out.at_ j hj
              have hvlt : vb < wv.heap.size := block_lt_of_cell (hvcell.out 0 (by omega))
              rw [HV.out] at hv64
              have hvK : vb ≠ K0 + 1 := by omega
              clear hv hE hVl
              go_wp2_with fail
              go_loopw [17] (fun i wr => ∃ j : Nat, j ≤ 8 ∧ i = .int .i64 j ∧ Blk wr (K0 + 1) 60 .u32 (addTo S V j) ∧ But wv wr (K0 + 1)) (fun i _ => 8 - (intOf i).toNat)
              case atStart => exact ⟨0, by omega, rfl, by rw [addTo_zero]; exact hHv, World.grownBy.refl _ _⟩
              case round =>
                clear hHv
                obtain ⟨j, hj, rfl, hA, hbv⟩ := hrel
                by_cases hjt : j < 8
                · have hdj : decide ((j : Int) < 8) = true := by simp; omega
                  have hlen := addTo_length S V j hSV.out (by rw [HSL.out]; exact hj)
                  rw [HSL.out] at hlen
                  have hc := hA.cell j (by rw [hlen]; exact hjt)
                  have hf := hA.frozen j
                  rw [addTo_get S V j hSV.out (by rw [HSL.out]; exact hjt)] at hc
                  have hset := fun x => addTo_set S V j x hSV.out (by rw [HSL.out]; exact hjt)
                  obtain ⟨x, hx⟩ : ∃ x, Hid (S.getD j 0 = x) := ⟨_, rfl⟩
                  obtain ⟨y, hy⟩ : ∃ y, Hid (V.getD j 0 = y) := ⟨_, rfl⟩
                  have hcv := (World.cell?_of_block (w := wv) (w' := wr) (a := ⟨vb, j, none⟩) (hbv.block vb hvlt (by intro e; injection e with e; exact hvK e))).trans (hvcell.out j hjt)
                  rw [hx.out] at hc
                  rw [hy.out] at hcv
                  rw [hx.out, hy.out] at hset
                  have HSET := Lib.hid hset
                  have hj8 : (j : Int) < 8 := by omega
                  clear hset hlen
                  go_wp2_with fail
                  go_region
                  go_wp2
                  go_roundw
                  case measure => simp [intOf]; omega
                  case rel =>
                    refine ⟨j + 1, by omega, by go_num, ?_, (hbv.set_ j _).drew⟩
                    rw [← HSET.out _ rfl]
                    exact (hA.set_ j _).drew
                · have hdj : decide ((j : Int) < 8) = false := by simp; omega
                  have hfin : Blk wr (K0 + 1) 60 .u32 (run step256 init256 P (k + 1)) := by
                    have e8 : j = 8 := by omega
                    rw [e8, addTo_full S V 8 hSV.out HSL.out.symm, ← hv64.out] at hA
                    show Blk wr (K0 + 1) 60 .u32 (step256 (run step256 init256 P k) ((P.drop (64 * k)).take 64))
                    rw [HSS.out, HB.out]
                    show Blk wr (K0 + 1) 60 .u32 (List.zipWith addI S (rounds256 kay256 (sch (wordAtI blk) next256 64) S 64))
                    rw [HW.out]
                    exact hA
                  have hbw : But w3 wr (K0 + 1) := hbut.trans ((but_of_below hbel _).trans ((but_of_below hb _).trans hbv))
                  have hk1 : Hid (64 * (k + 1) = a + 64) := by show _ = _; have := HA.out; omega
                  clear hA hbv
                  go_wp2_with fail
                  go_roundw
                  case measure => simp [intOf]; omega
                  case rel => exact ⟨k + 1, by rw [hk1.out]; omega, by rw [hk1.out]; go_num, hfin, hbw⟩
    · have hd : decide (a < L) = false := by simpa using hlt
      have hfin : Hid (state256 xs = run step256 init256 P k) := by
        show _ = _
        have h1 := HL.out
        have h2 := HA.out
        rw [state256, HP.out, h1, show L / 64 = k by omega]
      have hsl : (run step256 init256 P k).length = 8 := run_length step256_length _ _ rfl _
      have hseg : Seg wo wo.heap.size .u32 (some ⟨K0 + 1, 0, none⟩) 8 (run step256 init256 P k) := by
        have h := Seg.of_blk hH
        rw [hsl] at h
        exact h
      have hbo : Below w.heap.size w wo := hbw3.grown hbut hbw3.size (fun r hr => by injection hr with hr; omega)
      have HRB := Lib.hid (rbytes_any _ 8 8 _ wo hseg (by omega))
      clear hsl hseg hlt hk hH hbut
      go_wp2_with fail
      refine HRB.out.mono ?_
      rintro e w9 ⟨v9, rfl, hown9, hb9⟩
      go_wp2
      go_ret
      refine ⟨_, rfl, ?_, hbo.trans (hb9.mono hbo.size)⟩
      rw [sha256, hfin.out]
      exact Own.less hown9 hbo.size
end Go.Proofs.YtljkkejjnimjcaaDoor
