/-
  Every block of a padded message, one after the other: the program's eachBlock, over any closure that keeps a state in one block of memory.
-/
import Derived.Test.YtkcbbgmilaafeaaDoorPad
import Derived.Test.YtkcbbgmilaafeaaDoorBlockB
namespace Go.Proofs.YtkcbbgmilaafeaaDoor
open Go.RowKit

/-- A slice that reads as a list, and that does not lie in block g. -/
def SegN (w : World) (g : Nat) (k : IntKind) (A : Option Addr) (n : Nat) (xs : List Int) : Prop :=
  xs.length = n ∧ (0 < n → ∃ b off, A = some ⟨b, off, none⟩ ∧ b ≠ g ∧ b < w.heap.size ∧ ∀ j, j < n → w.cell? ⟨b, off + j, none⟩ = some (.int k (xs.getD j 0)))
section
variable {w w' : World} {g : Nat} {k : IntKind} {A : Option Addr} {n : Nat} {xs : List Int}
theorem SegN.seg (h : SegN w g k A n xs) : Seg w w.heap.size k A n xs :=
  ⟨h.1, fun hn => by
    obtain ⟨b, off, e, _, hlt, hc⟩ := h.2 hn
    exact ⟨b, off, e, hlt, hc⟩⟩
theorem SegN.of_seg {B : Nat} (h : Seg w B k A n xs) (hB : B ≤ g) (hB2 : B ≤ w.heap.size) : SegN w g k A n xs :=
  ⟨h.1, fun hn => by
    obtain ⟨b, off, e, hlt, hc⟩ := h.2 hn
    exact ⟨b, off, e, by omega, by omega, hc⟩⟩
theorem SegN.of_own {B : Nat} {e : TypeId} {c : Nat} (h : w.ownsRow B e 1 (.slice A n c) n (ints k xs)) (hB : g < B) : SegN w g k A n xs := by
  have hs := Seg.of_own h
  refine ⟨hs.1, fun hn => ?_⟩
  obtain ⟨b, off, e', hlt, hc⟩ := hs.2 hn
  have hb : B ≤ b := by
    have := (h.lt b (by rw [e']; rfl)).1
    exact this
  exact ⟨b, off, e', by omega, hlt, hc⟩
theorem SegN.but (h : SegN w g k A n xs) (hb : But w w' g) : SegN w' g k A n xs :=
  ⟨h.1, fun hn => by
    obtain ⟨b, off, e, hne, hlt, hc⟩ := h.2 hn
    exact ⟨b, off, e, hne, Nat.lt_of_lt_of_le hlt hb.size, fun j hj => (World.cell?_of_block (w := w) (hb.block b hlt (by intro he; injection he with he; exact hne he))).trans (hc j hj)⟩⟩
theorem SegN.drop (h : SegN w g k A n xs) {i cap : Nat} (hi : i ≤ n) (hc : n ≤ cap) : SegN w g k (if cap = i then A else A.map (·.add i)) (n - i) (xs.drop i) := by
  refine ⟨by rw [List.length_drop, h.1], fun hn => ?_⟩
  obtain ⟨b, off, rfl, hne, hb, hcell⟩ := h.2 (by omega)
  rw [if_neg (by omega)]
  refine ⟨b, off + i, by simp [addr_add], hne, hb, fun j hj => ?_⟩
  rw [show off + i + j = off + (i + j) by omega, hcell _ (by omega)]
  simp [List.getD]
end

/-- What a closure does with a block: it turns the state that block g holds. -/
def StepOf (F : FuncId) (T : TypeId) (g : Nat) (L : Nat) (step : List Int → List Int → List Int) (inv : World → Prop) : Prop :=
  ∀ (b off cap : Nat) (ys S : List Int) (W : World), 64 ≤ cap → cap ≤ 9223372036854775807 → b < W.heap.size → (∀ j, j < 64 → W.cell? ⟨b, off + j, none⟩ = some (.int .u8 (ys.getD j 0))) → S.length = L → Blk W g T .u32 S → inv W →
    Calls Tryd.prog F #[.slice (some ⟨b, off, none⟩) 64 cap, .pointer (some ⟨g, 0, none⟩)] W fun e w' => e = .returned (.tuple #[]) ∧ Blk w' g T .u32 (step S ys) ∧ But W w' g

theorem getD_take64 (ys : List Int) (k j : Nat) (hj : j < 64) : ((ys.drop k).take 64).getD j 0 = (ys.drop k).getD j 0 := by simp [List.getD, hj]

/-- Behind k blocks of a message. -/
def Rest (T : TypeId) (g : Nat) (step : List Int → List Int → List Int) (inv : World → Prop) (w0 : World) (S xs : List Int) (v : Value) (wr : World) : Prop :=
  ∃ (k m : Nat) (A' : Option Addr) (c' : Nat), xs.length = 64 * k + m ∧ v = .slice A' m c' ∧ SegN wr g .u8 A' m (xs.drop (64 * k)) ∧ m ≤ c' ∧ c' ≤ 9223372036854775807 ∧ Blk wr g T .u32 (run step S xs k) ∧ But w0 wr g ∧ inv wr

set_option maxRecDepth 100000 in
set_option maxHeartbeats 2000000 in
theorem each_any (F : FuncId) (T : TypeId) (g L : Nat) (step : List Int → List Int → List Int) (inv : World → Prop) (hF : StepOf F T g L step inv) (hcf : ∀ args W, (callFunc F args).run Tryd.prog W = .ok (.enter F args) W) (hL : ∀ s ys, s.length = L → (step s ys).length = L)
    (hinv : ∀ W W', inv W → But W W' g → inv W')
    (A : Option Addr) (n c : Nat) (xs S : List Int) (w : World) (hs : SegN w g .u8 A n xs) (hn : n ≤ 1099511627776) (hc : n ≤ c) (hcm : c ≤ 9223372036854775807) (hg : Blk w g T .u32 S) (hS : S.length = L) (hi : inv w) :
    Calls Tryd.prog 44 #[.slice A n c, .func (.func F) #[] #[.pointer (some ⟨g, 0, none⟩)]] w fun e w' =>
      e = .returned (.tuple #[]) ∧ Blk w' g T .u32 (run step S (padded xs) ((padded xs).length / 64)) ∧ But w w' g := by
  have HF := Lib.hid hF
  have HL := Lib.hid hL
  have HI := Lib.hid hinv
  have HS := Lib.hid hs
  have hxl : xs.length = n := hs.1
  have HSL := Lib.hid hS
  clear hF hL hinv hs hS
  go_enter Tryd.func44, Tryd.ntmps44
  go_wp2_with fail
  go_loopw [4] (fun v wr => Rest T g step inv w S xs v wr) (fun v _ => lenOf v)
  case atStart => exact ⟨0, n, A, c, by omega, rfl, by simpa using HS.out, hc, hcm, hg, World.grownBy.refl _ _, hi⟩
  case round =>
    clear hg hi
    obtain ⟨k, m, A', c', hkm, rfl, hseg, hmc, hcc, hblk, hbut, hin⟩ := hrel
    have HX := Lib.hid hkm
    have HSG := Lib.hid hseg
    have HB := Lib.hid hblk
    have HIN := Lib.hid hin
    clear hkm hseg hblk hin
    by_cases h64 : 64 ≤ m
    · obtain ⟨b, off, rfl, hne, hlt, hcell⟩ := HSG.out.2 (by omega)
      have HC := Lib.hid (HF.out b off c' ((xs.drop (64 * k)).take 64) (run step S xs k) wr (by omega) hcc hlt (fun j hj => (hcell j (by omega)).trans (by rw [getD_take64 _ _ _ hj])) (run_length HL.out _ _ HSL.out _) HB.out HIN.out)
      clear hcell
      have hd : decide ((64 : Int) ≤ m) = true := by simp; omega
      have hseg2 := HSG.out.drop (i := 64) h64 hmc
      have HSD := Lib.hid hseg2
      clear hseg2
      by_cases h64c : c' = 64
      · subst h64c
        go_wp2_with fail
        refine HC.out.mono ?_
        rintro e w2 ⟨rfl, hb2, hbut2⟩
        go_wp2_with fail
        go_roundw
        case measure => simp only [lenOf]; omega
        case rel =>
          have h : SegN w2 g .u8 (some ⟨b, off, none⟩) (m - 64) ((xs.drop (64 * k)).drop 64) := HSD.out.but hbut2
          rw [List.drop_drop, show m - 64 = 0 by omega] at h
          refine ⟨k + 1, 0, _, _, by have := HX.out; omega, rfl, ?_, by omega, by omega, hb2, hbut.trans hbut2, HI.out _ _ HIN.out hbut2⟩
          rw [show 64 * (k + 1) = 64 * k + 64 by omega]
          exact h
      · go_wp2_with fail
        refine HC.out.mono ?_
        rintro e w2 ⟨rfl, hb2, hbut2⟩
        go_wp2_with fail
        go_roundw
        case measure => simp only [lenOf]; omega
        case rel =>
          have h := HSD.out.but hbut2
          rw [if_neg h64c, List.drop_drop] at h
          refine ⟨k + 1, m - 64, _, _, by have := HX.out; omega, rfl, ?_, by omega, by omega, hb2, hbut.trans hbut2, HI.out _ _ HIN.out hbut2⟩
          rw [show 64 * (k + 1) = 64 * k + 64 by omega]
          exact h
    · have hd : decide ((64 : Int) ≤ m) = false := by simp; omega
      have hxlen := HX.out
      have hm1 : m < 64 := by omega
      have hmod : n % 64 = m := by omega
      have hn2 : n = 64 * k + m := by omega
      have HN := Lib.hid hn2
      have HM := Lib.hid hmod
      have HXL := Lib.hid hxl
      clear hxlen hmod hxl hn2
      go_wp2_with fail
      refine (pad_any A' m c' n (xs.drop (64 * k)) wr HSG.out.seg hm1 HM.out hn).mono ?_
      rintro e w3 ⟨v3, rfl, hown3, hb3⟩
      go_wp2_with fail
      have hbutp : But w w3 g := hbut.trans (but_of_below hb3 g)
      have hblkp : Blk w3 g T .u32 (run step S xs k) := HB.out.below hb3 HB.out.lt
      have hinp := HI.out _ _ HIN.out (but_of_below hb3 g)
      obtain ⟨A3, c3, rfl, hc3, hcm3⟩ := Own.cut hown3
      have hsegp : SegN w3 g .u8 A3 (xs.drop (64 * k) ++ tailI n).length (xs.drop (64 * k) ++ tailI n) := SegN.of_own hown3 HB.out.lt
      obtain ⟨p, HP⟩ : ∃ p, Hid (xs.drop (64 * k) ++ tailI n = p) := ⟨_, rfl⟩
      rw [HP.out] at hsegp hc3
      rw [HP.out]
      obtain ⟨S2, HS2⟩ : ∃ s, Hid (run step S xs k = s) := ⟨_, rfl⟩
      rw [HS2.out] at hblkp
      have hS2 : Hid (S2.length = L) := by rw [← HS2.out]; exact run_length HL.out _ _ HSL.out _
      clear hown3 hb3 hbut hmc hcc hm1 hd
      unfold maxLen at hcm3
      go_loopw [5] (fun v wr => Rest T g step inv w S2 p v wr) (fun v _ => lenOf v)
      case atStart => exact ⟨0, p.length, A3, c3, by omega, rfl, by simpa using hsegp, hc3, by omega, hblkp, hbutp, hinp⟩
      case round =>
        clear hsegp hblkp hinp hbutp hc3 hcm3
        obtain ⟨q, m2, A', c', hkm, rfl, hseg, hmc, hcc, hblk, hbut, hin⟩ := hrel
        have HX2 := Lib.hid hkm
        have HSG2 := Lib.hid hseg
        have HB2 := Lib.hid hblk
        have HIN2 := Lib.hid hin
        clear hkm hseg hblk hin
        by_cases h64 : 64 ≤ m2
        · obtain ⟨b, off, rfl, hne, hlt, hcell⟩ := HSG2.out.2 (by omega)
          have HC := Lib.hid (HF.out b off c' ((p.drop (64 * q)).take 64) (run step S2 p q) wr (by omega) hcc hlt (fun j hj => (hcell j (by omega)).trans (by rw [getD_take64 _ _ _ hj])) (run_length HL.out _ _ hS2.out _) HB2.out HIN2.out)
          clear hcell
          have hd : decide ((64 : Int) ≤ m2) = true := by simp; omega
          have hseg2 := HSG2.out.drop (i := 64) h64 hmc
          have HSD := Lib.hid hseg2
          clear hseg2
          by_cases h64c : c' = 64
          · subst h64c
            go_wp2_with fail
            refine HC.out.mono ?_
            rintro e w2 ⟨rfl, hb2, hbut2⟩
            go_wp2_with fail
            go_roundw
            case measure => simp only [lenOf]; omega
            case rel =>
              have h : SegN w2 g .u8 (some ⟨b, off, none⟩) (m2 - 64) ((p.drop (64 * q)).drop 64) := HSD.out.but hbut2
              rw [List.drop_drop, show m2 - 64 = 0 by omega] at h
              refine ⟨q + 1, 0, _, _, by have := HX2.out; omega, rfl, ?_, by omega, by omega, hb2, hbut.trans hbut2, HI.out _ _ HIN2.out hbut2⟩
              rw [show 64 * (q + 1) = 64 * q + 64 by omega]
              exact h
          · go_wp2_with fail
            refine HC.out.mono ?_
            rintro e w2 ⟨rfl, hb2, hbut2⟩
            go_wp2_with fail
            go_roundw
            case measure => simp only [lenOf]; omega
            case rel =>
              have h := HSD.out.but hbut2
              rw [if_neg h64c, List.drop_drop] at h
              refine ⟨q + 1, m2 - 64, _, _, by have := HX2.out; omega, rfl, ?_, by omega, by omega, hb2, hbut.trans hbut2, HI.out _ _ HIN2.out hbut2⟩
              rw [show 64 * (q + 1) = 64 * q + 64 by omega]
              exact h
        · have hd : decide ((64 : Int) ≤ m2) = false := by simp; omega
          go_wp2_with fail
          go_end0
          have hq : k + q = (padded xs).length / 64 := by
            have h1 := HX2.out
            have h2 := padded_length xs
            rw [← HP.out, List.length_append, List.length_drop, tailI_length, HN.out] at h1
            have h3 := HXL.out
            have h4 := HN.out
            omega
          refine ⟨rfl, ?_, hbut⟩
          have hfin := HB2.out
          rw [← HS2.out, ← HP.out, run_append step S xs (tailI n) k (by rw [HXL.out, HN.out]; omega), hq] at hfin
          rw [padded, HXL.out]
          rw [padded, HXL.out] at hfin
          exact hfin
end Go.Proofs.YtkcbbgmilaafeaaDoor
