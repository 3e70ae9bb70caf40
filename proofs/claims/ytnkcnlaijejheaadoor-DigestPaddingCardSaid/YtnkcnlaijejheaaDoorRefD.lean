/-
  The reference's SHA-1.
-/
import Derived.Test.YtnkcnlaijejheaaDoorRefC
import Derived.Test.YtnkcnlaijejheaaDoorCompB
namespace Go.Proofs.YtnkcnlaijejheaaDoor
open Go.RowKit

/-- Five cells of a block. -/
def Five (w : World) (g : Nat) (v0 v1 v2 v3 v4 : Int) : Prop :=
  w.cell? ⟨g, 0, none⟩ = some (.int .u32 v0) ∧ w.cell? ⟨g, 1, none⟩ = some (.int .u32 v1) ∧ w.cell? ⟨g, 2, none⟩ = some (.int .u32 v2) ∧ w.cell? ⟨g, 3, none⟩ = some (.int .u32 v3) ∧ w.cell? ⟨g, 4, none⟩ = some (.int .u32 v4)
theorem Five.lt {w : World} {g : Nat} {v0 v1 v2 v3 v4 : Int} (h : Five w g v0 v1 v2 v3 v4) : g < w.heap.size := block_lt_of_cell h.1
theorem Five.below {w w' : World} {B g : Nat} {v0 v1 v2 v3 v4 : Int} (h : Five w g v0 v1 v2 v3 v4) (hb : Below B w w') (hg : g < B) : Five w' g v0 v1 v2 v3 v4 :=
  ⟨(hb.cell (p := ⟨g, 0, none⟩) hg).trans h.1, (hb.cell (p := ⟨g, 1, none⟩) hg).trans h.2.1, (hb.cell (p := ⟨g, 2, none⟩) hg).trans h.2.2.1, (hb.cell (p := ⟨g, 3, none⟩) hg).trans h.2.2.2.1, (hb.cell (p := ⟨g, 4, none⟩) hg).trans h.2.2.2.2⟩
theorem made_five (W : World) (t : TypeId) (x0 x1 x2 x3 x4 : Int) : Five (W.alloc (.cells #[.int .u32 x0, .int .u32 x1, .int .u32 x2, .int .u32 x3, .int .u32 x4] t)) W.heap.size x0 x1 x2 x3 x4 :=
  ⟨made_cell W _ t _ 0 _ rfl rfl, made_cell W _ t _ 1 _ rfl rfl, made_cell W _ t _ 2 _ rfl rfl, made_cell W _ t _ 3 _ rfl rfl, made_cell W _ t _ 4 _ rfl rfl⟩
theorem made_five_drew (W : World) (t : TypeId) (x0 x1 x2 x3 x4 : Int) : Five (W.alloc (.cells #[.int .u32 x0, .int .u32 x1, .int .u32 x2, .int .u32 x3, .int .u32 x4] t)).drew W.heap.size x0 x1 x2 x3 x4 := made_five W t x0 x1 x2 x3 x4
theorem Five.seg {w : World} {g : Nat} {v0 v1 v2 v3 v4 : Int} (h : Five w g v0 v1 v2 v3 v4) : Seg w w.heap.size .u32 (some ⟨g, 0, none⟩) 5 [v0, v1, v2, v3, v4] :=
  ⟨rfl, fun _ => ⟨g, 0, rfl, h.lt, fun j hj => by
    obtain ⟨h0, h1, h2, h3, h4⟩ := h
    rw [Nat.zero_add]
    rcases (by omega : j = 0 ∨ j = 1 ∨ j = 2 ∨ j = 3 ∨ j = 4) with rfl | rfl | rfl | rfl | rfl <;> assumption⟩⟩
theorem round1I_case (t : Nat) (w a b c d e F K : Int) (hf : f1I t b c d = F) (hk : k1I t = K) : round1I t w [a, b, c, d, e] = [(rotlI a 5 + F + e + K + w) % 4294967296, a, rotlI b 30, c, d] := by
  rw [round1I_of, hf, hk]

set_option maxRecDepth 100000 in
set_option maxHeartbeats 8000000 in
theorem rsum1_any (A : Option Addr) (n c : Nat) (xs : List Int) (w : World) (hs : Seg w w.heap.size .u8 A n xs) (hn : n ≤ 1099511627776) :
    Calls Tryd.prog 14 #[.slice A n c] w fun e w' => ∃ v, e = .returned v ∧ Own w' w.heap.size 5 .u8 v (sha1 xs) ∧ Below w.heap.size w w' := by
  have HS := Lib.hid hs
  have hz80 := Tryd.zero80
  clear hs
  go_enter Tryd.func14, Tryd.ntmps14
  go_wp2_with fail
  generalize hw2 : World.alloc _ _ = w2
  have hbw2 : Below w.heap.size w w2 := by rw [← hw2]; exact (Below.refl _ _).alloc (Nat.le_refl _) _
  have hF2 : Five w2 w.heap.size 1732584193 4023233417 2562383102 271733878 3285377520 := by rw [← hw2]; exact made_five _ _ _ _ _ _ _
  clear hw2
  obtain ⟨h0, Hh0⟩ : ∃ h0, Hid (w.heap.size = h0) := ⟨_, rfl⟩
  have hz2 := hbw2.size
  refine (rpad_any A n c xs w2 ((HS.out.below hbw2 (Nat.le_refl _)).more hz2) hn).mono ?_
  rintro e w3 ⟨v3, rfl, hown3, hb3⟩
  obtain ⟨A3, c3, rfl, hc3, hcm3⟩ := Own.cut hown3
  have hsegp := Seg.of_own hown3
  have hplen := padded_length xs
  have hxn : xs.length = n := HS.out.1
  have hpb := padded_blocks xs
  obtain ⟨P, HP⟩ : ∃ P, Hid (padded xs = P) := ⟨_, rfl⟩
  rw [HP.out] at hsegp hc3 hplen hpb
  obtain ⟨L, HL⟩ : ∃ L, Hid (P.length = L) := ⟨_, rfl⟩
  rw [HL.out] at hsegp hc3 hplen hpb
  rw [HP.out, HL.out]
  have hLb : L ≤ 1099511627776 + 200 := by omega
  have HPB := Lib.hid hpb
  have hF3 := hF2.below hb3 hF2.lt
  have hbw3 : Below w.heap.size w w3 := hbw2.trans (hb3.mono hz2)
  have HSP := Lib.hid hsegp
  unfold maxLen at hcm3
  clear hplen hxn hpb hsegp hown3 hbw2 hF2 hb3
  go_wp2_with fail
  go_loopw [3, 5] (fun h i wr => ∃ (k hb : Nat) (s0 s1 s2 s3 s4 : Int), 64 * k ≤ L ∧ i = .int .i64 ((64 * k : Nat) : Int) ∧ h = .slice (some ⟨hb, 0, none⟩) 5 5 ∧ Hid (run step1 init1 P k = [s0, s1, s2, s3, s4]) ∧ Hid (Five wr hb s0 s1 s2 s3 s4) ∧ Below w3.heap.size w3 wr) (fun _ i _ => (L - intOf i).toNat)
  case atStart => exact ⟨0, w.heap.size, _, _, _, _, _, by omega, rfl, rfl, rfl, hF3, Below.refl _ _⟩
  case round =>
    clear hF3
    obtain ⟨k, hb, s0, s1, s2, s3, s4, hk, rfl, rfl, HSS, hF, hbo⟩ := hrel
    obtain ⟨wo, rfl⟩ : ∃ wo : World, wo = wr := ⟨_, rfl⟩
    obtain ⟨a, HA⟩ : ∃ a, Hid (64 * k = a) := ⟨_, rfl⟩
    rw [HA.out] at hk
    rw [HA.out]
    have hzo := hbo.size
    have hhlt := hF.out.lt
    by_cases hlt : a < L
    · have hlt64 : a + 64 ≤ L := by have := HPB.out; have := HA.out; omega
      obtain ⟨b, off, rfl, hbl, hcell⟩ := (HSP.out.below hbo (Nat.le_refl _)).2 (by omega)
      have hbl2 : b < wo.heap.size := by omega
      obtain ⟨blk, HB⟩ : ∃ blk, Hid ((P.drop (64 * k)).take 64 = blk) := ⟨_, rfl⟩
      have hblk : Hid (∀ j, j < 64 → wo.cell? ⟨b, off + a + j, none⟩ = some (.int .u8 (blk.getD j 0))) := fun j hj => by
        rw [← HB.out, getD_take64 _ _ _ hj, Nat.add_assoc, hcell (a + j) (by omega), HA.out]
        simp [List.getD]
      clear hcell
      have hd : decide ((a : Int) < L) = true := by simp; omega
      go_wp2_with fail
      go_loopw [7] (fun i wr => ∃ t : Nat, t ≤ 80 ∧ i = .int .i64 t ∧ Blk wr wo.heap.size 41 .u32 (fillW 80 (sch (wordAtI blk) next1 t)) ∧ Below wo.heap.size wo wr)
        (fun i _ => 80 - (intOf i).toNat)
      case atStart => exact ⟨0, by omega, rfl, Blk.new wo 41 .u32 (List.replicate 80 0), (Below.refl _ _).alloc (Nat.le_refl _) _⟩
      case round =>
        obtain ⟨t, ht, rfl, hW, hbel⟩ := hrel
        by_cases htl : t < 80
        · have hd64 : decide ((t : Int) < 80) = true := by simp; omega
          have hll := sch_length (wordAtI blk) next1 t
          have hcW := hW.cell t (by rw [fillW_length _ _ (by omega)]; omega)
          have hfW := hW.frozen t
          by_cases ht16 : t < 16
          · have hd16 : decide ((t : Int) < 16) = true := by simp; omega
            have hcn : ¬ c3 = a := by omega
            have hxk : ∀ j, j < 4 → wr.cell? ⟨b, off + a + (4 * t + j), none⟩ = some (.int .u8 (blk.getD (4 * t + j) 0)) := fun j hj =>
              (hbel.cell (p := ⟨b, _, none⟩) hbl2).trans (hblk.out (4 * t + j) (by omega))
            have C : Hid (Calls Tryd.prog 28 #[.slice (some ⟨b, off + a, none⟩) 64 (c3 - a), .int .i64 t] wr fun e w' => e = .returned (.int .u32 (wordAtI blk t)) ∧ ∃ n, w' = wr.drewN n) :=
              Lib.hid (rword_any b (off + a) 64 (c3 - a) t _ _ _ _ wr (by omega) (by omega) (hxk 0 (by omega)) (hxk 1 (by omega)) (hxk 2 (by omega)) (hxk 3 (by omega)))
            clear hxk hll
            go_wp2_with (go_at_call 28; refine C.out.mono ?_; rintro e w' ⟨rfl, q, rfl⟩)
            go_roundw
            case measure => simp [intOf]; omega
            case rel =>
              exact ⟨t + 1, by omega, by go_num, by rw [sch_low _ _ _ ht16, fillW_next 80 t _ _ (sch_length _ _ _) (by omega)]; exact (hW.drewN q).set_ t _, (below_drewN hbel q).setCell (by simp) _⟩
          · have hd16 : decide ((t : Int) < 16) = false := by simp; omega
            have hget : ∀ i, 2 ≤ i → i ≤ 16 → ∃ x, x = (sch (wordAtI blk) next1 t).getD (t - i) 0 ∧ wr.cell? ⟨wo.heap.size, t - i, none⟩ = some (.int .u32 x) := fun i h2 h16 =>
              ⟨_, rfl, by rw [hW.cell (t - i) (by rw [fillW_length _ _ (by omega)]; omega), fillW_get _ _ _ (by omega)]⟩
            obtain ⟨x3, e3, c3'⟩ := hget 3 (by omega) (by omega)
            obtain ⟨x8, e8, c8⟩ := hget 8 (by omega) (by omega)
            obtain ⟨x14, e14, c14⟩ := hget 14 (by omega) (by omega)
            obtain ⟨x16, e16, c16⟩ := hget 16 (by omega) (by omega)
            have HN := Lib.hid (next1_of _ t x3 x8 x14 x16 hll e3 e8 e14 e16)
            have h16 : 16 ≤ t := by omega
            clear hget e3 e8 e14 e16 hll
            go_wp2_with fail
            have w3 : IntKind.i64.wrap ((t : Int) - 3) = (t : Int) - 3 := IntWalk.i64_in _ (by omega)
            have w8 : IntKind.i64.wrap ((t : Int) - 8) = (t : Int) - 8 := IntWalk.i64_in _ (by omega)
            have w14 : IntKind.i64.wrap ((t : Int) - 14) = (t : Int) - 14 := IntWalk.i64_in _ (by omega)
            have w16 : IntKind.i64.wrap ((t : Int) - 16) = (t : Int) - 16 := IntWalk.i64_in _ (by omega)
            have n3 : ((t : Int) - 3).toNat = t - 3 := by omega
            have n8 : ((t : Int) - 8).toNat = t - 8 := by omega
            have n14 : ((t : Int) - 14).toNat = t - 14 := by omega
            have n16 : ((t : Int) - 16).toNat = t - 16 := by omega
            have p3 : (3 : Int) ≤ (t : Int) := by omega
            have p8 : (8 : Int) ≤ (t : Int) := by omega
            have p14 : (14 : Int) ≤ (t : Int) := by omega
            have p16 : (16 : Int) ≤ (t : Int) := by omega
            have q3 : (t : Int) - 3 < 80 := by omega
            have q8 : (t : Int) - 8 < 80 := by omega
            have q14 : (t : Int) - 14 < 80 := by omega
            have q16 : (t : Int) - 16 < 80 := by omega
            have q0 : (t : Int) < 80 := by omega
            have hrl := Lib.hid (fun (x : Int) (W : World) => ((rrotl_any x 1 W (by omega) (by omega)).mono fun _ _ h => ⟨h.1, h.2.symm⟩ : Calls Tryd.prog 29 #[.int .u32 x, .int .u64 1] W fun e w' => e = .returned (.int .u32 (rotlI x 1)) ∧ w' = W))
            refine wp_region_still_tail 22 (by kernel_rfl) (by kernel_rfl) ?_
            simp only [List.take_succ_cons, List.take_zero, List.drop_succ_cons, List.drop_zero]
            iterate 20 still_step
            still_call (hrl.out _ _)
            still_step
            refine wpStill_nil ?_
            clear w3 w8 w14 w16 n3 n8 n14 n16 p3 p8 p14 p16 q3 q8 q14 q16 q0
            change wpList _ _ _ _ _ wr.drew
            go_wp2
            go_roundw
            case measure => simp [intOf]; omega
            case rel =>
              refine ⟨t + 1, by omega, by go_num, ?_, hbel.drew.setCell (by simp) _⟩
              rw [sch_high _ _ _ h16, fillW_next 80 t _ _ (sch_length _ _ _) (by omega), HN.out]
              exact hW.drew.set_ t _
        · have hd64 : decide ((t : Int) < 80) = false := by simp; omega
          have hW64 : Blk wr wo.heap.size 41 .u32 (sch (wordAtI blk) next1 80) := by
            have e : t = 80 := by omega
            rw [e, fillW_full _ _ (sch_length _ _ _)] at hW
            exact hW
          obtain ⟨W, HW⟩ : ∃ W, Hid (sch (wordAtI blk) next1 80 = W) := ⟨_, rfl⟩
          have hWl : W.length = 80 := by rw [← HW.out]; exact sch_length _ _ _
          have HWL := Lib.hid hWl
          rw [HW.out] at hW64
          clear hW hWl
          obtain ⟨wp, rfl⟩ : ∃ wp : World, wp = wr := ⟨_, rfl⟩
          have hFp := hF.out.below hbel hhlt
          obtain ⟨f0, f1, f2, f3, f4⟩ := hFp
          have hu := u32_unsigned
          go_wp2_with fail
          go_quiet (fail)
          go_wp2_with fail
          generalize hwq : World.drewN _ _ = wq
          have hbq : Below wo.heap.size wo wq := by rw [← hwq]; repeat (first | exact hbel | refine below_drewN ?_ _)
          have hWq : Blk wq wo.heap.size 41 .u32 W := by rw [← hwq]; exact hW64
          clear hwq f0 f1 f2 f3 f4 hW64
          go_loopw [8, 9, 10, 11, 12, 13] (fun A B C D E i wr => ∃ (t : Nat) (v0 v1 v2 v3 v4 : Int), t ≤ 80 ∧ i = .int .i64 t ∧ Hid (rounds1 W [s0, s1, s2, s3, s4] t = [v0, v1, v2, v3, v4]) ∧ A = .int .u32 v0 ∧ B = .int .u32 v1 ∧ C = .int .u32 v2 ∧ D = .int .u32 v3 ∧ E = .int .u32 v4 ∧ Blk wr wo.heap.size 41 .u32 W ∧ Below wo.heap.size wo wr)
            (fun _ _ _ _ _ i _ => 80 - (intOf i).toNat)
          case atStart => exact ⟨0, s0, s1, s2, s3, s4, by omega, rfl, rfl, rfl, rfl, rfl, rfl, rfl, hWq, hbq⟩
          case round =>
            clear hWq hbq
            obtain ⟨t, v0, v1, v2, v3, v4, ht, rfl, hv, rfl, rfl, rfl, rfl, rfl, hWr, hbr⟩ := hrel
            by_cases htl : t < 80
            · have hd64 : decide ((t : Int) < 80) = true := by simp; omega
              obtain ⟨wk, hwk⟩ : ∃ wk, Hid (W.getD t 0 = wk) := ⟨_, rfl⟩
              have hcw := hWr.cell t (by rw [HWL.out]; exact htl)
              rw [hwk.out] at hcw
              have HSTEP : Hid (∀ F K : Int, f1I t v1 v2 v3 = F → k1I t = K → rounds1 W [s0, s1, s2, s3, s4] (t + 1) = [(rotlI v0 5 + F + v4 + K + wk) % 4294967296, v0, rotlI v1 30, v2, v3]) := fun F K hf hk => by
                show round1I t (W.getD t 0) (rounds1 W [s0, s1, s2, s3, s4] t) = _
                rw [hv.out, hwk.out]
                exact round1I_case _ _ _ _ _ _ _ _ _ hf hk
              by_cases h20 : t < 20
              · have hd20 : decide ((t : Int) < 20) = true := by simp; omega
                go_wp2_with fail
                go_quiet ((go_at_call 29; refine (rrotl_any _ _ _ (by omega) (by omega)).mono ?_; rintro e w' ⟨rfl, rfl⟩; exact ⟨rfl, _, rfl⟩))
                go_wp2_with (go_at_call 29; refine (rrotl_any _ _ _ (by omega) (by omega)).mono ?_; rintro e w' ⟨rfl, rfl⟩)
                go_roundw
                case measure => simp [intOf]; omega
                case rel => exact ⟨t + 1, _, v0, _, v2, v3, by omega, by go_num, HSTEP.out _ _ (by simp only [f1I, h20, if_true]; rfl) (by simp only [k1I, h20, if_true]), rfl, rfl, rfl, rfl, rfl, hWr.drewN _, below_drewN hbr _⟩
              · have hd20 : decide ((t : Int) < 20) = false := by simp; omega
                by_cases h40 : t < 40
                · have hd40 : decide ((t : Int) < 40) = true := by simp; omega
                  go_wp2_with fail
                  go_quiet ((go_at_call 29; refine (rrotl_any _ _ _ (by omega) (by omega)).mono ?_; rintro e w' ⟨rfl, rfl⟩; exact ⟨rfl, _, rfl⟩))
                  go_wp2_with (go_at_call 29; refine (rrotl_any _ _ _ (by omega) (by omega)).mono ?_; rintro e w' ⟨rfl, rfl⟩)
                  go_roundw
                  case measure => simp [intOf]; omega
                  case rel => exact ⟨t + 1, _, v0, _, v2, v3, by omega, by go_num, HSTEP.out _ _ (by simp only [f1I, h20, h40, if_true, if_false]; rfl) (by simp only [k1I, h20, h40, if_true, if_false]), rfl, rfl, rfl, rfl, rfl, hWr.drewN _, below_drewN hbr _⟩
                · have hd40 : decide ((t : Int) < 40) = false := by simp; omega
                  by_cases h60 : t < 60
                  · have hd60 : decide ((t : Int) < 60) = true := by simp; omega
                    go_wp2_with fail
                    go_quiet ((go_at_call 29; refine (rrotl_any _ _ _ (by omega) (by omega)).mono ?_; rintro e w' ⟨rfl, rfl⟩; exact ⟨rfl, _, rfl⟩))
                    go_wp2_with (go_at_call 29; refine (rrotl_any _ _ _ (by omega) (by omega)).mono ?_; rintro e w' ⟨rfl, rfl⟩)
                    go_roundw
                    case measure => simp [intOf]; omega
                    case rel => exact ⟨t + 1, _, v0, _, v2, v3, by omega, by go_num, HSTEP.out _ _ (by simp only [f1I, h20, h40, h60, if_true, if_false]; rfl) (by simp only [k1I, h20, h40, h60, if_true, if_false]), rfl, rfl, rfl, rfl, rfl, hWr.drewN _, below_drewN hbr _⟩
                  · have hd60 : decide ((t : Int) < 60) = false := by simp; omega
                    go_wp2_with fail
                    go_quiet ((go_at_call 29; refine (rrotl_any _ _ _ (by omega) (by omega)).mono ?_; rintro e w' ⟨rfl, rfl⟩; exact ⟨rfl, _, rfl⟩))
                    go_wp2_with (go_at_call 29; refine (rrotl_any _ _ _ (by omega) (by omega)).mono ?_; rintro e w' ⟨rfl, rfl⟩)
                    go_roundw
                    case measure => simp [intOf]; omega
                    case rel => exact ⟨t + 1, _, v0, _, v2, v3, by omega, by go_num, HSTEP.out _ _ (by simp only [f1I, h20, h40, h60, if_false]; rfl) (by simp only [k1I, h20, h40, h60, if_false]), rfl, rfl, rfl, rfl, rfl, hWr.drewN _, below_drewN hbr _⟩
            · have hd64 : decide ((t : Int) < 80) = false := by simp; omega
              have hv80 : Hid (rounds1 W [s0, s1, s2, s3, s4] 80 = [v0, v1, v2, v3, v4]) := by
                have e : t = 80 := by omega
                rw [e] at hv
                exact hv
              have hzr : w3.heap.size ≤ wr.heap.size := Nat.le_trans hzo hbr.size
              have hb3r : Below w3.heap.size w3 wr := hbo.trans (hbr.mono hzo)
              have hk1 : Hid (64 * (k + 1) = a + 64) := by show _ = _; have := HA.out; omega
              obtain ⟨f0, f1, f2, f3, f4⟩ := hF.out.below hbr hhlt
              clear hv hWr
              go_wp2_with fail
              go_region
              go_wp2
              go_roundw
              case measure => simp [intOf]; omega
              case rel =>
                refine ⟨k + 1, wr.heap.size, _, _, _, _, _, by rw [hk1.out]; omega, by rw [hk1.out]; go_num, rfl, ?_, made_five_drew wr _ _ _ _ _ _, (hb3r.alloc hzr _).drew⟩
                show step1 (run step1 init1 P k) ((P.drop (64 * k)).take 64) = _
                rw [HSS.out, HB.out]
                show List.zipWith addI [s0, s1, s2, s3, s4] (rounds1 (sch (wordAtI blk) next1 80) [s0, s1, s2, s3, s4] 80) = _
                rw [HW.out, hv80.out]
                rfl
    · have hd : decide (a < L) = false := by simpa using hlt
      have hfin : Hid (state1 xs = [s0, s1, s2, s3, s4]) := by
        show _ = _
        have h1 := HL.out
        have h2 := HA.out
        rw [state1, HP.out, h1, show L / 64 = k by omega, HSS.out]
      have hbw : Below w.heap.size w wo := hbw3.trans (hbo.mono hbw3.size)
      have HRB := Lib.hid (rbytes_any _ 5 5 _ wo hF.out.seg (by omega))
      clear hk hlt
      go_wp2_with fail
      refine HRB.out.mono ?_
      rintro e w9 ⟨v9, rfl, hown9, hb9⟩
      go_wp2
      go_ret
      refine ⟨_, rfl, ?_, hbw.trans (hb9.mono hbw.size)⟩
      rw [sha1, hfin.out]
      exact Own.less hown9 hbw.size
end Go.Proofs.YtnkcnlaijejheaaDoor
