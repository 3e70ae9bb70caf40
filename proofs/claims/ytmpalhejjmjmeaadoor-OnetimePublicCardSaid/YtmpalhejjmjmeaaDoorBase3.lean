/-
  Every block of a padded message, one after the other: the program's eachBlock, over any closure that keeps a state in one block of memory.
  The program's sum256 and sum1, Sum and Size: they return the digests of the specification.
  HMAC-SHA-256 as a Lean function on lists of integers, written after chapter 2 of the document, and the program's key of one block.
  The reference's comparison of byte strings.
  HMAC-SHA-256 by the program: the closure that masks the key and hashes, and Mac itself.
  Key derivation: the bytes that are derived, as a Lean function; the program's closure for one part.
-/
import Derived.Test.YtmpalhejjmjmeaaDoorBase2
import Derived.Laws.CopyOwn
import Derived.Test.YtmpalhejjmjmeaaDoorBase1
import Derived.Deep.RegionHeld3
namespace Go.Proofs.YtmpalhejjmjmeaaDoor
open Go.RowKit

/-- A slice that reads as a list, and that does not lie in block g. -/
def SegN (w : World) (g : Nat) (k : IntKind) (A : Option Addr) (n : Nat) (xs : List Int) : Prop :=
  xs.length = n ∧ (0 < n → ∃ b off, A = some ⟨b, off, none⟩ ∧ b ≠ g ∧ b < w.heap.size ∧ ∀ j, j < n → w.cell? ⟨b, off + j, none⟩ = some (.int k (xs.getD j 0)))
section
variable {w w' : World} {g : Nat} {k : IntKind} {A : Option Addr} {n : Nat} {xs : List Int}
theorem SegN.seg (h : SegN w g k A n xs) : Seg w w.heap.size k A n xs :=
  ⟨h.1, fun hn => by
    obtain ⟨b, off, e, _, hlt, hc⟩ := h.2 hn
    exact ⟨b, off, e, hlt, hc⟩⟩
theorem SegN.of_seg {B : Nat} (h : Seg w B k A n xs) (hB : B ≤ g) (hB2 : B ≤ w.heap.size) : SegN w g k A n xs :=
  ⟨h.1, fun hn => by
    obtain ⟨b, off, e, hlt, hc⟩ := h.2 hn
    exact ⟨b, off, e, by omega, by omega, hc⟩⟩
theorem SegN.of_own {B : Nat} {e : TypeId} {c : Nat} (h : w.ownsRow B e 1 (.slice A n c) n (ints k xs)) (hB : g < B) : SegN w g k A n xs := by
  have hs := Seg.of_own h
  refine ⟨hs.1, fun hn => ?_⟩
  obtain ⟨b, off, e', hlt, hc⟩ := hs.2 hn
  have hb : B ≤ b := by
    have := (h.lt b (by rw [e']; rfl)).1
    exact this
  exact ⟨b, off, e', by omega, hlt, hc⟩
theorem SegN.but (h : SegN w g k A n xs) (hb : But w w' g) : SegN w' g k A n xs :=
  ⟨h.1, fun hn => by
    obtain ⟨b, off, e, hne, hlt, hc⟩ := h.2 hn
    exact ⟨b, off, e, hne, Nat.lt_of_lt_of_le hlt hb.size, fun j hj => (World.cell?_of_block (w := w) (hb.block b hlt (by intro he; injection he with he; exact hne he))).trans (hc j hj)⟩⟩
theorem SegN.drop (h : SegN w g k A n xs) {i cap : Nat} (hi : i ≤ n) (hc : n ≤ cap) : SegN w g k (if cap = i then A else A.map (·.add i)) (n - i) (xs.drop i) := by
  refine ⟨by rw [List.length_drop, h.1], fun hn => ?_⟩
  obtain ⟨b, off, rfl, hne, hb, hcell⟩ := h.2 (by omega)
  rw [if_neg (by omega)]
  refine ⟨b, off + i, by simp [addr_add], hne, hb, fun j hj => ?_⟩
  rw [show off + i + j = off + (i + j) by omega, hcell _ (by omega)]
  simp [List.getD]
end

/-- What a closure does with a block: it turns the state that block g holds. -/
def StepOf (F : FuncId) (T : TypeId) (g : Nat) (L : Nat) (step : List Int → List Int → List Int) (inv : World → Prop) : Prop :=
  ∀ (b off cap : Nat) (ys S : List Int) (W : World), 64 ≤ cap → cap ≤ 9223372036854775807 → b < W.heap.size → (∀ j, j < 64 → W.cell? ⟨b, off + j, none⟩ = some (.int .u8 (ys.getD j 0))) → S.length = L → Blk W g T .u32 S → inv W →
    Calls Tryd.prog F #[.slice (some ⟨b, off, none⟩) 64 cap, .pointer (some ⟨g, 0, none⟩)] W fun e w' => e = .returned (.tuple #[]) ∧ Blk w' g T .u32 (step S ys) ∧ But W w' g

theorem getD_take64 (ys : List Int) (k j : Nat) (hj : j < 64) : ((ys.drop k).take 64).getD j 0 = (ys.drop k).getD j 0 := by simp [List.getD, hj]

/-- Behind k blocks of a message. -/
def Rest (T : TypeId) (g : Nat) (step : List Int → List Int → List Int) (inv : World → Prop) (w0 : World) (S xs : List Int) (v : Value) (wr : World) : Prop :=
  ∃ (k m : Nat) (A' : Option Addr) (c' : Nat), xs.length = 64 * k + m ∧ v = .slice A' m c' ∧ SegN wr g .u8 A' m (xs.drop (64 * k)) ∧ m ≤ c' ∧ c' ≤ 9223372036854775807 ∧ Blk wr g T .u32 (run step S xs k) ∧ But w0 wr g ∧ inv wr

set_option maxRecDepth 100000 in
set_option maxHeartbeats 2000000 in
theorem each_any (F : FuncId) (T : TypeId) (g L : Nat) (step : List Int → List Int → List Int) (inv : World → Prop) (hF : StepOf F T g L step inv) (hcf : ∀ args W, (callFunc F args).run Tryd.prog W = .ok (.enter F args) W) (hL : ∀ s ys, s.length = L → (step s ys).length = L)
    (hinv : ∀ W W', inv W → But W W' g → inv W')
    (A : Option Addr) (n c : Nat) (xs S : List Int) (w : World) (hs : SegN w g .u8 A n xs) (hn : n ≤ 1099511627776) (hc : n ≤ c) (hcm : c ≤ 9223372036854775807) (hg : Blk w g T .u32 S) (hS : S.length = L) (hi : inv w) :
    Calls Tryd.prog 53 #[.slice A n c, .func (.func F) #[] #[.pointer (some ⟨g, 0, none⟩)]] w fun e w' =>
      e = .returned (.tuple #[]) ∧ Blk w' g T .u32 (run step S (padded xs) ((padded xs).length / 64)) ∧ But w w' g := by
  have HF := Lib.hid hF
  have HL := Lib.hid hL
  have HI := Lib.hid hinv
  have HS := Lib.hid hs
  have hxl : xs.length = n := hs.1
  have HSL := Lib.hid hS
  clear hF hL hinv hs hS
  go_enter Tryd.func53, Tryd.ntmps53
  go_wp2_with fail
  go_loopw [4] (fun v wr => Rest T g step inv w S xs v wr) (fun v _ => lenOf v)
  case atStart => exact ⟨0, n, A, c, by omega, rfl, by simpa using HS.out, hc, hcm, hg, World.grownBy.refl _ _, hi⟩
  case round =>
    clear hg hi
    obtain ⟨k, m, A', c', hkm, rfl, hseg, hmc, hcc, hblk, hbut, hin⟩ := hrel
    have HX := Lib.hid hkm
    have HSG := Lib.hid hseg
    have HB := Lib.hid hblk
    have HIN := Lib.hid hin
    clear hkm hseg hblk hin
    by_cases h64 : 64 ≤ m
    · obtain ⟨b, off, rfl, hne, hlt, hcell⟩ := HSG.out.2 (by omega)
      have HC := Lib.hid (HF.out b off c' ((xs.drop (64 * k)).take 64) (run step S xs k) wr (by omega) hcc hlt (fun j hj => (hcell j (by omega)).trans (by rw [getD_take64 _ _ _ hj])) (run_length HL.out _ _ HSL.out _) HB.out HIN.out)
      clear hcell
      have hd : decide ((64 : Int) ≤ m) = true := by simp; omega
      have hseg2 := HSG.out.drop (i := 64) h64 hmc
      have HSD := Lib.hid hseg2
      clear hseg2
      by_cases h64c : c' = 64
      · subst h64c
        go_wp2_with fail
        refine HC.out.mono ?_
        rintro e w2 ⟨rfl, hb2, hbut2⟩
        go_wp2_with fail
        go_roundw
        case measure => simp only [lenOf]; omega
        case rel =>
          have h : SegN w2 g .u8 (some ⟨b, off, none⟩) (m - 64) ((xs.drop (64 * k)).drop 64) := HSD.out.but hbut2
          rw [List.drop_drop, show m - 64 = 0 by omega] at h
          refine ⟨k + 1, 0, _, _, by have := HX.out; omega, rfl, ?_, by omega, by omega, hb2, hbut.trans hbut2, HI.out _ _ HIN.out hbut2⟩
          rw [show 64 * (k + 1) = 64 * k + 64 by omega]
          exact h
      · go_wp2_with fail
        refine HC.out.mono ?_
        rintro e w2 ⟨rfl, hb2, hbut2⟩
        go_wp2_with fail
        go_roundw
        case measure => simp only [lenOf]; omega
        case rel =>
          have h := HSD.out.but hbut2
          rw [if_neg h64c, List.drop_drop] at h
          refine ⟨k + 1, m - 64, _, _, by have := HX.out; omega, rfl, ?_, by omega, by omega, hb2, hbut.trans hbut2, HI.out _ _ HIN.out hbut2⟩
          rw [show 64 * (k + 1) = 64 * k + 64 by omega]
          exact h
    · have hd : decide ((64 : Int) ≤ m) = false := by simp; omega
      have hxlen := HX.out
      have hm1 : m < 64 := by omega
      have hmod : n % 64 = m := by omega
      have hn2 : n = 64 * k + m := by omega
      have HN := Lib.hid hn2
      have HM := Lib.hid hmod
      have HXL := Lib.hid hxl
      clear hxlen hmod hxl hn2
      go_wp2_with fail
      refine (pad_any A' m c' n (xs.drop (64 * k)) wr HSG.out.seg hm1 HM.out hn).mono ?_
      rintro e w3 ⟨v3, rfl, hown3, hb3⟩
      go_wp2_with fail
      have hbutp : But w w3 g := hbut.trans (but_of_below hb3 g)
      have hblkp : Blk w3 g T .u32 (run step S xs k) := HB.out.below hb3 HB.out.lt
      have hinp := HI.out _ _ HIN.out (but_of_below hb3 g)
      obtain ⟨A3, c3, rfl, hc3, hcm3⟩ := Own.cut hown3
      have hsegp : SegN w3 g .u8 A3 (xs.drop (64 * k) ++ tailI n).length (xs.drop (64 * k) ++ tailI n) := SegN.of_own hown3 HB.out.lt
      obtain ⟨p, HP⟩ : ∃ p, Hid (xs.drop (64 * k) ++ tailI n = p) := ⟨_, rfl⟩
      rw [HP.out] at hsegp hc3
      rw [HP.out]
      obtain ⟨S2, HS2⟩ : ∃ s, Hid (run step S xs k = s) := ⟨_, rfl⟩
      rw [HS2.out] at hblkp
      have hS2 : Hid (S2.length = L) := by rw [← HS2.out]; exact run_length HL.out _ _ HSL.out _
      clear hown3 hb3 hbut hmc hcc hm1 hd
      unfold maxLen at hcm3
      go_loopw [5] (fun v wr => Rest T g step inv w S2 p v wr) (fun v _ => lenOf v)
      case atStart => exact ⟨0, p.length, A3, c3, by omega, rfl, by simpa using hsegp, hc3, by omega, hblkp, hbutp, hinp⟩
      case round =>
        clear hsegp hblkp hinp hbutp hc3 hcm3
        obtain ⟨q, m2, A', c', hkm, rfl, hseg, hmc, hcc, hblk, hbut, hin⟩ := hrel
        have HX2 := Lib.hid hkm
        have HSG2 := Lib.hid hseg
        have HB2 := Lib.hid hblk
        have HIN2 := Lib.hid hin
        clear hkm hseg hblk hin
        by_cases h64 : 64 ≤ m2
        · obtain ⟨b, off, rfl, hne, hlt, hcell⟩ := HSG2.out.2 (by omega)
          have HC := Lib.hid (HF.out b off c' ((p.drop (64 * q)).take 64) (run step S2 p q) wr (by omega) hcc hlt (fun j hj => (hcell j (by omega)).trans (by rw [getD_take64 _ _ _ hj])) (run_length HL.out _ _ hS2.out _) HB2.out HIN2.out)
          clear hcell
          have hd : decide ((64 : Int) ≤ m2) = true := by simp; omega
          have hseg2 := HSG2.out.drop (i := 64) h64 hmc
          have HSD := Lib.hid hseg2
          clear hseg2
          by_cases h64c : c' = 64
          · subst h64c
            go_wp2_with fail
            refine HC.out.mono ?_
            rintro e w2 ⟨rfl, hb2, hbut2⟩
            go_wp2_with fail
            go_roundw
            case measure => simp only [lenOf]; omega
            case rel =>
              have h : SegN w2 g .u8 (some ⟨b, off, none⟩) (m2 - 64) ((p.drop (64 * q)).drop 64) := HSD.out.but hbut2
              rw [List.drop_drop, show m2 - 64 = 0 by omega] at h
              refine ⟨q + 1, 0, _, _, by have := HX2.out; omega, rfl, ?_, by omega, by omega, hb2, hbut.trans hbut2, HI.out _ _ HIN2.out hbut2⟩
              rw [show 64 * (q + 1) = 64 * q + 64 by omega]
              exact h
          · go_wp2_with fail
            refine HC.out.mono ?_
            rintro e w2 ⟨rfl, hb2, hbut2⟩
            go_wp2_with fail
            go_roundw
            case measure => simp only [lenOf]; omega
            case rel =>
              have h := HSD.out.but hbut2
              rw [if_neg h64c, List.drop_drop] at h
              refine ⟨q + 1, m2 - 64, _, _, by have := HX2.out; omega, rfl, ?_, by omega, by omega, hb2, hbut.trans hbut2, HI.out _ _ HIN2.out hbut2⟩
              rw [show 64 * (q + 1) = 64 * q + 64 by omega]
              exact h
        · have hd : decide ((64 : Int) ≤ m2) = false := by simp; omega
          go_wp2_with fail
          go_end0
          have hq : k + q = (padded xs).length / 64 := by
            have h1 := HX2.out
            have h2 := padded_length xs
            rw [← HP.out, List.length_append, List.length_drop, tailI_length, HN.out] at h1
            have h3 := HXL.out
            have h4 := HN.out
            omega
          refine ⟨rfl, ?_, hbut⟩
          have hfin := HB2.out
          rw [← HS2.out, ← HP.out, run_append step S xs (tailI n) k (by rw [HXL.out, HN.out]; omega), hq] at hfin
          rw [padded, HXL.out]
          rw [padded, HXL.out] at hfin
          exact hfin
end Go.Proofs.YtmpalhejjmjmeaaDoor
namespace Go.Proofs.YtmpalhejjmjmeaaDoor
open Go.RowKit

theorem keep0 {g : Nat} (hg : 0 ≠ g) (W W' : World) (h : Tab W 0 .u32 kay256) (hb : But W W' g) : Tab W' 0 .u32 kay256 :=
  h.of_eq (hb.block 0 h.lt (by intro e; injection e with e; exact hg e))
theorem stepOf256 (g : Nat) : StepOf 58 69 g 8 step256 (fun W => Tab W 0 .u32 kay256) :=
  fun b off cap ys S W hcap hcm hb hx hS hg hi => block256_any b off cap g ys S W hcap hcm hb hx hS hg hi
theorem stepOf1 (g : Nat) : StepOf 54 62 g 5 step1 (fun _ => True) :=
  fun b off cap ys S W hcap hcm hb hx hS hg _ => block1_any b off cap g ys S W hcap hcm hb hx hS hg
theorem call256 (args : Array Value) (W : World) : (callFunc 58 args).run Tryd.prog W = .ok (.enter 58 args) W := by kernel_rfl
theorem call1 (args : Array Value) (W : World) : (callFunc 54 args).run Tryd.prog W = .ok (.enter 54 args) W := by kernel_rfl

set_option maxRecDepth 100000 in
set_option maxHeartbeats 1000000 in
theorem sum256_any (A : Option Addr) (n c : Nat) (xs : List Int) (w : World) (hs : Seg w w.heap.size .u8 A n xs) (hn : n ≤ 1099511627776) (hc : n ≤ c) (hcm : c ≤ 9223372036854775807) (hK : Tab w 0 .u32 kay256) :
    Calls Tryd.prog 40 #[.slice A n c] w fun e w' => ∃ v, e = .returned v ∧ Own w' w.heap.size 5 .u8 v (sha256 xs) ∧ Below w.heap.size w w' := by
  have HS := Lib.hid hs
  have HKK := Lib.hid hK
  clear hs hK
  go_enter Tryd.func40, Tryd.ntmps40
  go_wp2_with fail
  generalize hw1 : World.alloc _ _ = w1
  have hb : Below w.heap.size w w1 := by rw [← hw1]; exact (Below.refl _ _).alloc (Nat.le_refl _) _
  have hg : Blk w1 w.heap.size 69 .u32 init256 := by rw [← hw1]; exact Blk.new w _ .u32 init256
  have hlt : w.heap.size < w1.heap.size := hg.lt
  clear hw1
  have h0 := HKK.out.lt
  refine (each_any 58 69 w.heap.size 8 step256 _ (stepOf256 _) call256 step256_length (keep0 (by omega)) A n c xs init256 w1 (SegN.of_seg (HS.out.below hb (Nat.le_refl _)) (Nat.le_refl _) hb.size) hn hc hcm hg rfl (HKK.out.below hb h0)).mono ?_
  rintro e w2 ⟨rfl, hg2, hbut2⟩
  have hb2 : Below w.heap.size w w2 := hb.grown hbut2 hb.size (fun r hr => by injection hr with hr; omega)
  have HR := Lib.hid hg2
  go_wp2_with fail
  refine (join_any _ _ _ (state256 xs) w2 ?_ ?_).mono ?_
  · have h := Seg.of_blk HR.out
    rw [show (run step256 init256 (padded xs) ((padded xs).length / 64)).length = 8 from state256_length xs] at h
    exact h
  · omega
  rintro e w3 ⟨v, rfl, hown, hb3⟩
  go_wp2
  go_ret
  refine ⟨v, rfl, ?_, hb2.trans (hb3.mono hb2.size)⟩
  exact Own.less hown hb2.size
set_option maxRecDepth 100000 in
set_option maxHeartbeats 1000000 in
theorem sum1_any (A : Option Addr) (n c : Nat) (xs : List Int) (w : World) (hs : Seg w w.heap.size .u8 A n xs) (hn : n ≤ 1099511627776) (hc : n ≤ c) (hcm : c ≤ 9223372036854775807) :
    Calls Tryd.prog 39 #[.slice A n c] w fun e w' => ∃ v, e = .returned v ∧ Own w' w.heap.size 5 .u8 v (sha1 xs) ∧ Below w.heap.size w w' := by
  have HS := Lib.hid hs
  clear hs
  go_enter Tryd.func39, Tryd.ntmps39
  go_wp2_with fail
  generalize hw1 : World.alloc _ _ = w1
  have hb : Below w.heap.size w w1 := by rw [← hw1]; exact (Below.refl _ _).alloc (Nat.le_refl _) _
  have hg : Blk w1 w.heap.size 62 .u32 init1 := by rw [← hw1]; exact Blk.new w _ .u32 init1
  have hlt : w.heap.size < w1.heap.size := hg.lt
  clear hw1
  refine (each_any 54 62 w.heap.size 5 step1 _ (stepOf1 _) call1 step1_length (fun _ _ _ _ => trivial) A n c xs init1 w1 (SegN.of_seg (HS.out.below hb (Nat.le_refl _)) (Nat.le_refl _) hb.size) hn hc hcm hg rfl trivial).mono ?_
  rintro e w2 ⟨rfl, hg2, hbut2⟩
  have hb2 : Below w.heap.size w w2 := hb.grown hbut2 hb.size (fun r hr => by injection hr with hr; omega)
  have HR := Lib.hid hg2
  go_wp2_with fail
  refine (join_any _ _ _ (state1 xs) w2 ?_ ?_).mono ?_
  · have h := Seg.of_blk HR.out
    rw [show (run step1 init1 (padded xs) ((padded xs).length / 64)).length = 5 from state1_length xs] at h
    exact h
  · omega
  rintro e w3 ⟨v, rfl, hown, hb3⟩
  go_wp2
  go_ret
  refine ⟨v, rfl, ?_, hb2.trans (hb3.mono hb2.size)⟩
  exact Own.less hown hb2.size

/-- The digest of an algorithm; none for other numbers. -/
def digestI (alg : Int) (xs : List Int) : List Int := if alg = 0 then sha1 xs else if alg = 1 then sha256 xs else []
def sizeI (alg : Int) : Int := if alg = 0 then 20 else if alg = 1 then 32 else 0

set_option maxHeartbeats 1000000 in
theorem sum_any (alg : Int) (A : Option Addr) (n c : Nat) (xs : List Int) (w : World) (hs : Seg w w.heap.size .u8 A n xs) (hn : n ≤ 1099511627776) (hc : n ≤ c) (hcm : c ≤ 9223372036854775807) (hK : Tab w 0 .u32 kay256) :
    Calls Tryd.prog 32 #[.int .i64 alg, .slice A n c] w fun e w' => ∃ v, e = .returned v ∧ Own w' w.heap.size 5 .u8 v (digestI alg xs) ∧ Below w.heap.size w w' := by
  by_cases h0 : alg = 0
  · subst h0
    go_enter Tryd.func32, Tryd.ntmps32
    go_wp2_with (go_at_call 39; refine (sum1_any A n c xs w hs hn hc hcm).mono ?_; rintro e w2 ⟨v, rfl, hown, hb⟩)
    go_ret
    exact ⟨v, rfl, hown, hb⟩
  · by_cases h1 : alg = 1
    · subst h1
      go_enter Tryd.func32, Tryd.ntmps32
      go_wp2_with (go_at_call 40; refine (sum256_any A n c xs w hs hn hc hcm hK).mono ?_; rintro e w2 ⟨v, rfl, hown, hb⟩)
      go_ret
      exact ⟨v, rfl, hown, hb⟩
    · have e0 : (alg == 0) = false := by simpa using h0
      have e1 : (alg == 1) = false := by simpa using h1
      have hd : digestI alg xs = [] := by simp [digestI, h0, h1]
      have HD := Lib.hid hd
      clear hd hs hK
      go_enter Tryd.func32, Tryd.ntmps32
      go_wp2_with fail
      go_ret
      exact ⟨_, rfl, by rw [HD.out]; exact World.ownsRow_nil _ _ _ _, Below.refl _ _⟩
end Go.Proofs.YtmpalhejjmjmeaaDoor
namespace Go.Proofs.YtmpalhejjmjmeaaDoor
open Go.RowKit

/-- The key of one block: the key, or its digest if it is longer, filled up with zero bytes. -/
def keyOf (xs : List Int) : List Int := if 64 < xs.length then sha256 xs else xs
def keyI (xs : List Int) : List Int := keyOf xs ++ List.replicate (64 - (keyOf xs).length) 0
def maskI (m : Int) (xs : List Int) : List Int := xs.map fun x => bits .xor .u8 x m
def innerI (key b : List Int) : List Int := maskI 54 (keyI key) ++ b
def macI (key b : List Int) : List Int := sha256 (maskI 92 (keyI key) ++ sha256 (innerI key b))
theorem keyOf_length (xs : List Int) : (keyOf xs).length ≤ 64 := by
  unfold keyOf; split
  · rw [sha256_length]; omega
  · omega
theorem keyI_length (xs : List Int) : (keyI xs).length = 64 := by
  have := keyOf_length xs
  simp [keyI]; omega
theorem maskI_length (m : Int) (xs : List Int) : (maskI m xs).length = xs.length := by simp [maskI]
theorem macI_length (key b : List Int) : (macI key b).length = 32 := sha256_length _

section
variable {P : Program} {w : World} {ops : Array Oper} {rest : List Oper} {o : Oper} {a : Act} {Q : Exit → Act → World → Prop}
theorem ints_splice (k : IntKind) (xs ys : List Int) (off : Nat) : splice (ints k xs) off (ints k ys) = ints k (splice xs off ys) := by
  simp [splice, ints, List.map_take, List.map_drop]
/-- copy(dst, src): dst in a block that is known, src a slice that is read as numbers. -/
theorem wpList_copySeg (hgd : o.guard = none) (d s : Operand) (dT sT : TypeId)
    (ho : o.op = .call { callee := .builtin .copy, args := #[d, s], argTypes := #[dT, sT] }) (elem : TypeId) (hu : P.underlying dT = some (.slice elem)) (hsz : (P.info? elem).map (·.size) = some 1)
    (g off dLen dCap : Nat) (hd : a.eval d = .slice (some ⟨g, off, none⟩) dLen dCap) (A : Option Addr) (n c : Nat) (hs : a.eval s = .slice A n c)
    (t : TypeId) (k : IntKind) (old xs : List Int) (hB : Blk w g t k old) (B' : Nat) (hS : Seg w B' k A n xs) (m : Nat) (hm : Nat.min n dLen = m) (hfit : off + m ≤ old.length)
    (B : Nat) (w0 : World) (hb : Below B w0 w) (hBg : B ≤ g)
    (h : ∀ w', Hid (Blk w' g t k (splice old off (xs.take m))) → Below B w0 w' → wpList P ops Q rest (a.put o.dst (goInt m)) w') :
    wpList P ops Q (o :: rest) a w := by
  have hmn : m ≤ n := by rw [← hm]; exact Nat.min_le_left _ _
  have hl : (ints k (xs.take m)).length = m := by rw [ints_length, List.length_take, hS.1]; omega
  refine wpList_copy_splice hgd d s dT sT ho elem hu hsz _ A dLen dCap n c hd hs g off (ints k old) t hB (ints k (xs.take m)) (by rw [hl, ← hm]) ?_ (by rw [hl, ints_length]; exact hfit) (ints_oneCell k _) B w0 hb hBg ?_
  · intro h0
    rw [hl] at h0
    refine ⟨rfl, ?_⟩
    obtain ⟨b, o', rfl, _, hc⟩ := hS.2 (by omega)
    refine ⟨_, rfl, fun j v hj => ?_⟩
    have hjm : j < m := by
      rcases Nat.lt_or_ge j m with h1 | h1
      · exact h1
      · rw [List.getElem?_eq_none (by rw [hl]; exact h1)] at hj; cases hj
    rw [ints_at k _ j (by rw [List.length_take, hS.1]; omega)] at hj
    injection hj with hj
    subst hj
    rw [addr_add, hc j (by omega)]
    simp [List.getD, hjm]
  · intro w' hw hb'
    rw [ints_splice] at hw
    rw [hl]
    exact h w' hw hb'
end
theorem splice_zero (xs : List Int) (L : Nat) : splice (List.replicate L 0) 0 (xs.take xs.length) = xs ++ List.replicate (L - xs.length) 0 := by
  simp [splice]

theorem Tryd.sizeK64 : (Tryd.prog.info? 73).map (·.size) = some 64 := by kernel_rfl
theorem Tryd.zeroK64 (w : World) : (zeroValue 73).run Tryd.prog w = .ok (.agg (ints .u8 (List.replicate 64 0)).toArray) w := by kernel_rfl
theorem Tryd.sizeU8 : (Tryd.prog.info? 5).map (·.size) = some 1 := by kernel_rfl

set_option maxRecDepth 100000 in
set_option maxHeartbeats 2000000 in
theorem blockKey_any (A : Option Addr) (n c : Nat) (xs : List Int) (w : World) (hs : Seg w w.heap.size .u8 A n xs) (hn : n ≤ 1099511627776) (hc : n ≤ c) (hcm : c ≤ 9223372036854775807) (hK : Tab w 0 .u32 kay256) :
    Calls Tryd.prog 61 #[.slice A n c] w fun e w' => e = .returned (.agg (ints .u8 (keyI xs)).toArray) ∧ Below w.heap.size w w' := by
  have HS := Lib.hid hs
  have HK := Lib.hid hK
  have HL := Lib.hid hs.1
  have hz64 := Tryd.zeroK64
  clear hs hK
  obtain ⟨Y, HY⟩ : ∃ Y, Hid (keyI xs = Y) := ⟨_, rfl⟩
  have HYL : Hid (Y.length = 64) := by rw [← HY.out]; exact keyI_length xs
  rw [HY.out]
  by_cases hlong : 64 < n
  · have hd : decide ((64 : Int) < n) = true := by simp; omega
    go_enter Tryd.func61, Tryd.ntmps61
    go_wp2_with fail
    generalize hw1 : World.alloc _ _ = w1
    have hb1 : Below w.heap.size w w1 := by rw [← hw1]; exact (Below.refl _ _).alloc (Nat.le_refl _) _
    have hR1 : Blk w1 w.heap.size 73 .u8 (List.replicate 64 0) := by rw [← hw1]; exact Blk.new w _ .u8 _
    have hz1 := hR1.lt
    clear hw1
    refine (sum_any 1 A n c xs w1 ((HS.out.below hb1 (Nat.le_refl _)).more hb1.size) hn hc hcm (HK.out.below hb1 HK.out.lt)).mono ?_
    rintro e w2 ⟨v2, rfl, hown2, hb2⟩
    rw [show digestI 1 xs = sha256 xs from rfl] at hown2
    obtain ⟨A2, c2, rfl, _, _⟩ := Own.cut hown2
    have hR2 := hR1.below hb2 hR1.lt
    have hbw2 : Below w.heap.size w w2 := hb1.trans (hb2.mono hb1.size)
    have HS2 := Lib.hid (Seg.of_own hown2)
    have hz2 := hbw2.size
    have h32 : (sha256 xs).length = 32 := sha256_length xs
    rw [h32] at HS2 ⊢
    have hz3 := hR2.lt
    have HYE : Hid (keyI xs = splice (List.replicate 64 0) 0 ((sha256 xs).take 32)) := by
      show _ = _
      rw [← h32, splice_zero, keyI, keyOf, if_pos (by rw [HL.out]; exact hlong)]
    clear hown2 hR1 hb1 hb2 h32 hz1
    have HR2 := Lib.hid hR2
    clear hR2
    go_wp2_with (first
      | (with_reducible refine wpList_copySeg rfl (.tmp 9) (.tmp 10) 22 22 rfl 5 Tryd.underlying22 Tryd.sizeU8 w2.heap.size 0 64 64 rfl A2 32 c2 rfl 73 .u8 (List.replicate 64 0) (sha256 xs) (Blk.new w2 _ .u8 _) (w2.heap.size + 1) ((HS2.out.below ((Below.refl w2.heap.size w2).alloc (Nat.le_refl _) _) (Nat.le_refl _)).more (by omega)) 32 rfl (by simp) w2.heap.size w2 ((Below.refl w2.heap.size w2).alloc (Nat.le_refl _) _) (Nat.le_refl _) ?_; intro w4 HB4 hb4; rw [← HYE.out, HY.out] at HB4; have HR4 := Lib.hid (HR2.out.below hb4 hz3))
      | (with_reducible refine wpList_loadInts rfl 73 (.tmp 3) rfl w2.heap.size rfl 73 .u8 _ HB4.out 64 5 Tryd.underlying73 Tryd.sizeK64 HYL.out ?_)
      | (with_reducible refine wpList_storeInts rfl 73 (.tmp 2) (.tmp 12) rfl w.heap.size rfl 73 .u8 _ Y rfl HR4.out 64 Tryd.sizeK64 (by simp) HYL.out ?_))
    refine bodyPost_ret ((HR4.out.setRow Y).result rfl _ rfl 64 5 Tryd.underlying73 Tryd.sizeK64 HYL.out) rfl ⟨rfl, below_setRow' (hbw2.trans (hb4.mono hz2)) (Nat.le_refl _) _⟩
  · have hd : decide ((64 : Int) < n) = false := by simp; omega
    have hn64 : n ≤ 64 := by omega
    have HYE : Hid (keyI xs = splice (List.replicate 64 0) 0 (xs.take n)) := by
      show _ = _
      have h := HL.out
      rw [← h, splice_zero, keyI, keyOf, if_neg (by omega)]
    have HMIN : Hid (Nat.min n 64 = n) := Nat.min_eq_left hn64
    go_enter Tryd.func61, Tryd.ntmps61
    go_wp2_with (first
      | ((with_reducible refine wpList_copySeg rfl (.tmp 9) (.tmp 10) 22 22 rfl 5 Tryd.underlying22 Tryd.sizeU8 (w.heap.size + 1) 0 64 64 rfl A n c rfl 73 .u8 (List.replicate 64 0) xs (Blk.new' _ _ .u8 _ _ (by simp)) w.heap.size (HS.out.below (((Below.refl w.heap.size w).alloc (Nat.le_refl _) _).alloc (by simp) _) (Nat.le_refl _)) n HMIN.out (by simp; omega) (w.heap.size + 1) _ (Below.refl _ _) (Nat.le_refl _) ?_); intro w4 HB4 hb4; rw [← HYE.out, HY.out] at HB4; have HR4 : Hid (Blk w4 w.heap.size 73 .u8 (List.replicate 64 0)) := ((Blk.new w _ .u8 _).alloc _).below hb4 (by omega); have hbw4 : Below w.heap.size w w4 := (((Below.refl w.heap.size w).alloc (Nat.le_refl _) _).alloc (by simp) _).trans (hb4.mono (by omega)))
      | (with_reducible refine wpList_loadInts rfl 73 (.tmp 3) rfl (w.heap.size + 1) rfl 73 .u8 _ HB4.out 64 5 Tryd.underlying73 Tryd.sizeK64 HYL.out ?_)
      | (with_reducible refine wpList_storeInts rfl 73 (.tmp 2) (.tmp 12) rfl w.heap.size rfl 73 .u8 _ Y rfl HR4.out 64 Tryd.sizeK64 (by simp) HYL.out ?_))
    refine bodyPost_ret ((HR4.out.setRow Y).result rfl _ rfl 64 5 Tryd.underlying73 Tryd.sizeK64 HYL.out) rfl ⟨rfl, below_setRow' hbw4 (Nat.le_refl _) _⟩
end Go.Proofs.YtmpalhejjmjmeaaDoor
namespace Go.Proofs.YtmpalhejjmjmeaaDoor
open Go.RowKit

/-- Are two byte strings equal? -/
def sameB (xs ys : List Int) : Bool := decide (xs = ys)
theorem sameB_self (xs : List Int) : sameB xs xs = true := by simp [sameB]
theorem take_next {xs ys : List Int} {k : Nat} (h : xs.take k = ys.take k) (hx : k < xs.length) (hy : k < ys.length) (e : xs.getD k 0 = ys.getD k 0) : xs.take (k + 1) = ys.take (k + 1) := by
  rw [List.take_add_one, List.take_add_one, h, List.getElem?_eq_getElem hx, List.getElem?_eq_getElem hy]
  have : xs[k] = ys[k] := by simpa [List.getD, hx, hy] using e
  rw [this]

set_option maxRecDepth 100000 in
set_option maxHeartbeats 1000000 in
theorem same_any (A A2 : Option Addr) (n c n2 c2 : Nat) (xs ys : List Int) (w : World) (hs : Seg w w.heap.size .u8 A n xs) (ht : Seg w w.heap.size .u8 A2 n2 ys) (hn : n ≤ 1099511627776) :
    Calls Tryd.prog 14 #[.slice A n c, .slice A2 n2 c2] w fun e w' => e = .returned (.bool (sameB xs ys)) ∧ ∃ q, w' = w.drewN q := by
  have HS := Lib.hid hs
  have HT := Lib.hid ht
  clear hs ht
  by_cases hnn : n = n2
  · subst hnn
    go_enter Tryd.func14, Tryd.ntmps14
    go_wp2_with fail
    go_loopw [5] (fun i wr => ∃ k : Nat, k ≤ n ∧ i = .int .i64 k ∧ Hid (xs.take k = ys.take k) ∧ ∃ q, wr = w.drewN q) (fun i _ => n - (intOf i).toNat)
    case atStart => exact ⟨0, by omega, rfl, rfl, 0, rfl⟩
    case round =>
      obtain ⟨k, hk, rfl, htk, q, rfl⟩ := hrel
      by_cases hlt : k < n
      · have hd : decide ((k : Int) < n) = true := by simp; omega
        obtain ⟨b, off, rfl, _, hc⟩ := HS.out.2 (by omega)
        obtain ⟨b2, off2, rfl, _, hc2⟩ := HT.out.2 (by omega)
        obtain ⟨x, hx⟩ : ∃ x, Hid (xs.getD k 0 = x) := ⟨_, rfl⟩
        obtain ⟨y, hy⟩ : ∃ y, Hid (ys.getD k 0 = y) := ⟨_, rfl⟩
        have h1 := hc k hlt
        have h2 := hc2 k hlt
        rw [hx.out] at h1
        rw [hy.out] at h2
        clear hc hc2
        have hki : (k : Int) < n := by omega
        by_cases hxy : x = y
        · have hne : (x != y) = false := by rw [bne_eq_false_iff_eq]; exact hxy
          have HXY := Lib.hid hxy
          clear hxy
          go_wp2_with fail
          go_quiet (fail)
          go_wp2_with fail
          go_roundw
          case measure => simp [intOf]; omega
          case rel => exact ⟨k + 1, by omega, by go_num, take_next htk.out (by rw [HS.out.1]; exact hlt) (by rw [HT.out.1]; exact hlt) (by rw [hx.out, hy.out, HXY.out]), _, rfl⟩
        · have hne : (x != y) = true := by rw [bne_iff_ne]; exact hxy
          have hfin : sameB xs ys = false := by
            simp only [sameB, decide_eq_false_iff_not]
            intro e
            exact hxy (by rw [← hx.out, ← hy.out, e])
          have HF := Lib.hid hfin
          clear hxy hfin
          go_wp2_with fail
          go_quiet (fail)
          go_wp2_with fail
          go_ret
          exact ⟨by rw [HF.out]; rfl, _, World.drewN_drewN _ _ _⟩
      · have hd : decide ((k : Int) < n) = false := by simp; omega
        have hfin : sameB xs ys = true := by
          have hkn : k = n := by omega
          have h1 := htk.out
          rw [hkn, List.take_of_length_le (by rw [HS.out.1]; omega), List.take_of_length_le (by rw [HT.out.1]; omega)] at h1
          simp [sameB, h1]
        have HF := Lib.hid hfin
        clear hfin
        go_wp2_with fail
        go_ret
        exact ⟨by rw [HF.out]; rfl, _, rfl⟩
  · have hne : ((n : Int) != n2) = true := by rw [bne_iff_ne]; omega
    have hfin : sameB xs ys = false := by
      simp only [sameB, decide_eq_false_iff_not]
      intro e
      exact hnn (by rw [← HS.out.1, ← HT.out.1, e])
    have HF := Lib.hid hfin
    clear hfin hnn
    go_enter Tryd.func14, Tryd.ntmps14
    go_wp2_with fail
    go_ret
    exact ⟨by rw [HF.out]; rfl, 0, rfl⟩
theorem same_self (A A2 : Option Addr) (n c c2 : Nat) (D : List Int) (W : World) (h1 : Seg W W.heap.size .u8 A n D) (h2 : Seg W W.heap.size .u8 A2 n D) (hn : n ≤ 1099511627776) :
    Calls Tryd.prog 14 #[.slice A n c, .slice A2 n c2] W fun e w' => e = .returned (.bool true) ∧ Below W.heap.size W w' := by
  refine (same_any A A2 n c n c2 D D W h1 h2 hn).mono ?_
  rintro e w' ⟨rfl, q, rfl⟩
  rw [sameB_self]
  exact ⟨rfl, below_drewN (Below.refl _ _) q⟩
end Go.Proofs.YtmpalhejjmjmeaaDoor
namespace Go.Proofs.YtmpalhejjmjmeaaDoor
open Go.RowKit

/-- The first k bytes masked, the others still zero. -/
def fillM (m : Int) (K : List Int) (k : Nat) : List Int := maskI m (K.take k) ++ List.replicate (64 - k) 0
theorem fillM_zero (m : Int) (K : List Int) : fillM m K 0 = List.replicate 64 0 := by simp [fillM, maskI]
theorem fillM_full (m : Int) (K : List Int) (h : K.length = 64) : fillM m K 64 = maskI m K := by
  rw [fillM, List.take_of_length_le (by omega)]; simp
theorem fillM_length (m : Int) (K : List Int) (k : Nat) (h : K.length = 64) (hk : k ≤ 64) : (fillM m K k).length = 64 := by
  simp [fillM, maskI]; omega
theorem fillM_next (m : Int) (K : List Int) (k : Nat) (h : K.length = 64) (hk : k < 64) : (fillM m K k).set k (bits .xor .u8 (K.getD k 0) m) = fillM m K (k + 1) := by
  have e : K.take (k + 1) = K.take k ++ [K.getD k 0] := by rw [List.take_add_one, List.getElem?_eq_getElem (by omega)]; simp [List.getD, h, hk]
  have hr : 64 - k = (64 - (k + 1)) + 1 := by omega
  rw [fillM, fillM, e, hr, List.replicate_succ, List.set_append_right _ _ (by simp [maskI]; omega)]
  have hl : (maskI m (K.take k)).length = k := by simp [maskI]; omega
  rw [hl, Nat.sub_self]
  simp [maskI]

set_option maxRecDepth 100000 in
set_option maxHeartbeats 4000000 in
theorem masked_any (m : Int) (A : Option Addr) (n c g : Nat) (K xs : List Int) (w : World) (hk : Blk w g 73 .u8 K) (hkl : K.length = 64) (hs : Seg w w.heap.size .u8 A n xs) (hn : n ≤ 1073741824) (hK : Tab w 0 .u32 kay256) :
    Calls Tryd.prog 62 #[.int .u8 m, .slice A n c, .pointer (some ⟨g, 0, none⟩)] w fun e w' => ∃ v, e = .returned v ∧ Row w' w.heap.size 5 .u8 v 32 (sha256 (maskI m K ++ xs)) ∧ Below w.heap.size w w' := by
  obtain ⟨i0, hi, hz0, hz1, hz2⟩ := info_parts Tryd.infoU8
  have HS := Lib.hid hs
  have HK := Lib.hid hK
  have HB := Lib.hid hk
  have HKL := Lib.hid hkl
  have hgl := hk.lt
  clear hs hK hk hkl
  go_enter Tryd.func62, Tryd.ntmps62
  go_wp2_with (at_make; refine wpList_make_cap rfl _ _ 22 rfl w.heap.size 5 i0 .u8 Tryd.underlying22 hi hz0 hz1 hz2 .i64 .i64 64 (64 + n) _ _ rfl rfl (by omega) (by omega) (by omega) (by omega) (Nat.le_refl _) ?_; intro w1 hR1 hb1 hz1)
  have hz1' := hb1.size
  rw [← fillM_zero m K] at hR1
  clear hz1
  go_loopw [12] (fun i wr => ∃ k : Nat, k ≤ 64 ∧ i = .int .i64 k ∧ Hid (Row wr w.heap.size 5 .u8 (.slice (some ⟨w.heap.size, 0, none⟩) 64 (64 + n)) 64 (fillM m K k)) ∧ Below w.heap.size w wr) (fun i _ => 64 - (intOf i).toNat)
  case atStart => exact ⟨0, by omega, rfl, hR1, hb1⟩
  case round =>
    clear hR1 hb1 hz1'
    obtain ⟨k, hk, rfl, hR, hb⟩ := hrel
    have hz := hb.size
    by_cases hlt : k < 64
    · have hd : decide ((k : Int) < 64) = true := by simp; omega
      obtain ⟨x, hx⟩ : ∃ x, Hid (K.getD k 0 = x) := ⟨_, rfl⟩
      have hcx := (HB.out.below hb hgl).cell k (by rw [HKL.out]; exact hlt)
      rw [hx.out] at hcx
      have hcm := hR.out.cell k hlt
      have hfm := hR.out.frozen k
      go_wp2_with fail
      go_roundw
      case measure => simp [intOf]; omega
      case rel =>
        refine ⟨k + 1, by omega, by go_num, ?_, hb.setCell (by simp) _⟩
        show Row _ _ _ _ _ _ _
        rw [← fillM_next m K k HKL.out hlt, hx.out]
        exact hR.out.set_ k _
    · have hd : decide ((k : Int) < 64) = false := by simp; omega
      have hfull : fillM m K k = maskI m K := by
        obtain rfl : k = 64 := by omega
        exact fillM_full m K HKL.out
      rw [hfull] at hR
      clear hfull
      have HO := Lib.hid hR.out.own
      have HSr := Lib.hid (HS.out.below hb (Nat.le_refl _))
      have HMK : Hid ((maskI m K).length = 64) := by show _ = _; rw [maskI_length]; exact HKL.out
      have HKr := Lib.hid (HK.out.below hb HK.out.lt)
      go_wp2_with (at_builtin; refine wpList_app _ rfl (.tmp 24) (.tmp 25) 22 rfl w.heap.size 5 i0 (.int .u8 0) 1 Tryd.underlying22 hi hz0 hz1 hz2 rfl .u8 _ (maskI m K) rfl HO.out w.heap.size A n c xs rfl HSr.out (by unfold maxLen; rw [HMK.out]; omega) (by rw [HMK.out]; omega) hz ?_; intro v3 w3 hown3 hg3 hor3; have hb3 := own_below HO.out hg3 hb hz)
      obtain ⟨A3, c3, rfl, h1, h2⟩ := Own.cut hown3
      have HL3 : Hid ((maskI m K ++ xs).length = 64 + n) := by show _ = _; rw [List.length_append, HMK.out, HS.out.1]
      have hseg := Seg.of_own hown3
      have HK3 := Lib.hid (HK.out.below hb3 HK.out.lt)
      rw [HL3.out] at hseg h1 ⊢
      unfold maxLen at h2
      have HSEG := Lib.hid hseg
      have hz3 := hb3.size
      clear hseg hown3 hg3 hor3
      go_wp2_with fail
      refine (sum_any 1 A3 (64 + n) c3 (maskI m K ++ xs) w3 HSEG.out (by omega) h1 (by omega) HK3.out).mono ?_
      rintro e w4 ⟨v4, rfl, hown4, hb4⟩
      go_wp2
      go_ret
      exact ⟨_, rfl, (Own.less hown4 hz3).row (sha256_length _), hb3.trans (hb4.mono hz3)⟩

set_option maxRecDepth 100000 in
set_option maxHeartbeats 4000000 in
/-- The program's HMAC. -/
theorem mac_any (A A2 : Option Addr) (n c n2 c2 : Nat) (key xs : List Int) (w : World) (hs : Seg w w.heap.size .u8 A n key) (hn : n ≤ 1073741824) (hc : n ≤ c) (hcm : c ≤ 9223372036854775807) (ht : Seg w w.heap.size .u8 A2 n2 xs) (hn2 : n2 ≤ 1073741824) (hK : Tab w 0 .u32 kay256) :
    Calls Tryd.prog 49 #[.slice A n c, .slice A2 n2 c2] w fun e w' => ∃ v, e = .returned v ∧ Row w' w.heap.size 5 .u8 v 32 (macI key xs) ∧ Below w.heap.size w w' := by
  have HS := Lib.hid hs
  have HT := Lib.hid ht
  have HK := Lib.hid hK
  clear hs ht hK
  go_enter Tryd.func49, Tryd.ntmps49
  go_wp2_with fail
  refine (blockKey_any A n c key w HS.out (by omega) hc hcm HK.out).mono ?_
  rintro e w1 ⟨rfl, hb1⟩
  have HKL := Lib.hid (keyI_length key)
  obtain ⟨K, HKI⟩ : ∃ K, Hid (keyI key = K) := ⟨_, rfl⟩
  rw [HKI.out] at HKL ⊢
  have hz1 := hb1.size
  have hz64 := Tryd.zeroK64
  go_wp2_with (refine wpList_storeInts rfl 73 (.tmp 5) (.tmp 8) rfl w1.heap.size rfl 73 .u8 _ K rfl (Blk.new w1 73 .u8 (List.replicate 64 0)) 64 Tryd.sizeK64 (by simp) HKL.out ?_)
  generalize hwk : World.setRow _ _ _ = wk
  have hbk : Below w.heap.size w wk := by rw [← hwk]; exact below_setRow' (hb1.alloc hz1 _) hz1 _
  have hBk : Blk wk w1.heap.size 73 .u8 K := by rw [← hwk]; exact (Blk.new w1 73 .u8 (List.replicate 64 0)).setRow K
  have hzk := hbk.size
  obtain ⟨g, HG⟩ : ∃ g, Hid (w1.heap.size = g) := ⟨_, rfl⟩
  rw [HG.out] at hBk hz1 ⊢
  clear hwk hz64
  refine (masked_any 54 A2 n2 c2 g K xs wk hBk HKL.out ((HT.out.below hbk (Nat.le_refl _)).more hzk) hn2 (HK.out.below hbk HK.out.lt)).mono ?_
  rintro e w2 ⟨v2, rfl, hR2, hb2⟩
  obtain ⟨A3, c3, rfl, h1, h2⟩ := hR2.cut
  unfold maxLen at h2
  have hb2' := hbk.trans (hb2.mono hzk)
  have HS2 := Lib.hid hR2.seg
  have HB2 := Lib.hid (hBk.below hb2 hBk.lt)
  have hz2 := hb2'.size
  clear hR2 hBk
  go_wp2_with fail
  refine (masked_any 92 A3 32 c3 g K _ w2 HB2.out HKL.out HS2.out (by omega) (HK.out.below hb2' HK.out.lt)).mono ?_
  rintro e w3 ⟨v3, rfl, hR3, hb3⟩
  go_wp2
  go_ret
  refine ⟨_, rfl, ?_, hb2'.trans (hb3.mono hz2)⟩
  rw [macI, innerI, HKI.out]
  exact (Own.less hR3.own hz2).row (sha256_length _)
end Go.Proofs.YtmpalhejjmjmeaaDoor
namespace Go.Proofs.YtmpalhejjmjmeaaDoor
open Go.RowKit

def partMsg (label ctx : List Int) (n i : Int) : List Int := be4 i ++ label ++ [0] ++ ctx ++ be4 (8 * n)
def partI (key label ctx : List Int) (n i : Int) : List Int := macI key (partMsg label ctx n i)
/-- The first parts, one after the other. -/
def partsI (key label ctx : List Int) (n : Int) : Nat → List Int
  | 0 => []
  | j + 1 => partsI key label ctx n j ++ partI key label ctx n (j + 1)
def deriveI (key label ctx : List Int) (n : Int) : List Int := if n < 1 ∨ 1024 < n then [] else (partsI key label ctx n ((n.toNat + 31) / 32)).take n.toNat
theorem partI_length (key label ctx : List Int) (n i : Int) : (partI key label ctx n i).length = 32 := macI_length _ _
theorem partsI_length (key label ctx : List Int) (n : Int) (j : Nat) : (partsI key label ctx n j).length = 32 * j := by
  induction j with
  | zero => rfl
  | succ j ih => rw [partsI, List.length_append, ih, partI_length]; omega
theorem deriveI_length (key label ctx : List Int) (n : Int) : ((deriveI key label ctx n).length : Int) = if n < 1 ∨ 1024 < n then 0 else n := by
  unfold deriveI
  split
  · rfl
  · rw [List.length_take, partsI_length]; omega

/-- Four bytes behind a row of the call's own. -/
theorem mappendWord_any (B : Nat) (v : Value) (n : Nat) (xs : List Int) (x : Int) (w : World) (hown : Row w B 5 .u8 v n xs) (hl : n ≤ 70368744177664) (hB : B ≤ w.heap.size) :
    Calls Tryd.prog 48 #[v, .int .u32 x] w fun e w' => ∃ v', e = .returned v' ∧ Row w' B 5 .u8 v' (n + 4) (xs ++ be4 x) ∧ w.grownBy w' v.ownBlock := by
  obtain ⟨i0, hi, hz0, hz1, hz2⟩ := info_parts Tryd.infoU8
  have HL := Lib.hid hown.length
  have HO := Lib.hid hown.own
  clear hown
  go_enter Tryd.func48, Tryd.ntmps48
  go_wp2_with (at_builtin; refine wpList_app _ rfl _ _ 22 rfl B 5 i0 (.int .u8 0) 1 Tryd.underlying22 hi hz0 hz1 hz2 rfl .u8 _ xs rfl (HO.out.alloc _) (w.heap.size + 1) (some ⟨w.heap.size, 0, none⟩) 4 4 (be4 x) rfl ((Seg.of_blk (Blk.new w 5 .u8 (be4 x))).more (by simp)) (by unfold maxLen; rw [HL.out]; omega) (by rw [HL.out]; omega) (by simp; omega) ?_; intro v' w' hown' hg hor)
  clear hor
  go_ret
  exact ⟨_, rfl, Own.row hown' (by rw [List.length_append, HL.out]; rfl), (World.grownBy_alloc w _ _).trans hg⟩

set_option maxRecDepth 100000 in
set_option maxHeartbeats 2000000 in
theorem part_any (i : Int) (gl gc gk gn : Nat) (label : ByteArray) (A A2 : Option Addr) (n c n2 c2 : Nat) (key ctx : List Int) (m : Int) (w : World)
    (hl : w.cell? ⟨gl, 0, none⟩ = some (.string label)) (hcx : w.cell? ⟨gc, 0, none⟩ = some (.slice A2 n2 c2)) (hk : w.cell? ⟨gk, 0, none⟩ = some (.slice A n c)) (hm : w.cell? ⟨gn, 0, none⟩ = some (.int .i64 m))
    (hs : Seg w w.heap.size .u8 A n key) (hn : n ≤ 1048576) (hc : n ≤ c) (hcm : c ≤ 9223372036854775807) (ht : Seg w w.heap.size .u8 A2 n2 ctx) (hn2 : n2 ≤ 1048576) (hlab : label.size ≤ 1048576)
    (hi1 : 0 ≤ i) (hi2 : i ≤ 1048576) (hm0 : 0 ≤ m) (hm1 : m ≤ 1048576) (hK : Tab w 0 .u32 kay256) :
    Calls Tryd.prog 47 #[.int .i64 i, .pointer (some ⟨gl, 0, none⟩), .pointer (some ⟨gc, 0, none⟩), .pointer (some ⟨gk, 0, none⟩), .pointer (some ⟨gn, 0, none⟩)] w
      fun e w' => ∃ v, e = .returned v ∧ Row w' w.heap.size 5 .u8 v 32 (partI key (strI label) ctx m i) ∧ Below w.heap.size w w' := by
  obtain ⟨i0, hi, hz0, hz1, hz2⟩ := info_parts Tryd.infoU8
  have HS := Lib.hid hs
  have HT := Lib.hid ht
  have HK := Lib.hid hK
  have bl := block_lt_of_cell hl
  have bc := block_lt_of_cell hcx
  have bk := block_lt_of_cell hk
  have bn := block_lt_of_cell hm
  have HL := Lib.hid hl
  have HC := Lib.hid hcx
  have HKK := Lib.hid hk
  have HM := Lib.hid hm
  clear hs ht hK hl hcx hk hm
  go_enter Tryd.func47, Tryd.ntmps47
  go_wp2_with fail
  refine (mappendWord_any w.heap.size _ 0 [] i w (nil_row _ _ _ _) (by omega) (Nat.le_refl _)).mono ?_
  rintro e w1 ⟨v1, rfl, hR1, hg1⟩
  have hb1 : Below w.heap.size w w1 := own_below (nil_row w w.heap.size 5 .u8).own hg1 (Below.refl _ _) (Nat.le_refl _)
  have HR1 : Hid (Row w1 w.heap.size 5 .u8 v1 4 (be4 i)) := hR1
  have hzb1 := hb1.size
  have hl1 := (hb1.cell (p := ⟨gl, 0, none⟩) bl).trans HL.out
  clear hR1 hg1
  have HL1 := Lib.hid (strI_length label)
  have HTL := Lib.hid HT.out.1
  have HLN1 : Hid ((be4 i ++ strI label).length = 4 + label.size) := by show _ = _; rw [List.length_append, HL1.out]; rfl
  have HLN2 : Hid ((be4 i ++ strI label ++ [0]).length = 5 + label.size) := by show _ = _; rw [List.length_append, HLN1.out]; simp; omega
  have HLN3 : Hid ((be4 i ++ strI label ++ [0] ++ ctx).length = 5 + label.size + n2) := by show _ = _; rw [List.length_append, HLN2.out, HTL.out]
  go_wp2_with (first
    | (at_builtin; refine wpList_apps _ rfl (.tmp 11) (.tmp 12) 22 9 rfl w.heap.size 5 i0 Tryd.underlying22 Tryd.underlying9 hi hz0 hz1 hz2 v1 4 (be4 i) rfl HR1.out label rfl (by omega) hzb1 ?_; intro v2 w2 hR2 hg2; have hb2 : Below w.heap.size w w2 := own_below HR1.out.own hg2 hb1 hzb1; have HR2 := Lib.hid hR2.own; have hzb2 := hb2.size; clear hR2 hg2)
    | (at_builtin; refine wpList_app _ rfl (.tmp 14) (.tmp 15) 22 rfl w.heap.size 5 i0 (.int .u8 0) 1 Tryd.underlying22 hi hz0 hz1 hz2 rfl .u8 v2 (be4 i ++ strI label) rfl (HR2.out.alloc _) (w2.heap.size + 1) (some ⟨w2.heap.size, 0, none⟩) 1 1 [0] rfl ((Seg.of_blk (Blk.new w2 5 .u8 [0])).more (by simp)) (by unfold maxLen; rw [HLN1.out]; omega) (by rw [HLN1.out]; omega) (by simp; omega) ?_; intro v3 w3 hown3 hg3 hor3; have hb3 : Below w.heap.size w w3 := own_below (HR2.out.alloc _) hg3 (hb2.alloc hzb2 _) (by simp; omega); have HR3 := Lib.hid hown3; have hzb3 := hb3.size; have hcx3 := (hb3.cell (p := ⟨gc, 0, none⟩) bc).trans HC.out; have HT3 := Lib.hid (HT.out.below hb3 (Nat.le_refl _)); clear hown3 hg3 hor3)
    | (at_builtin; refine wpList_app _ rfl (.tmp 17) (.tmp 18) 22 rfl w.heap.size 5 i0 (.int .u8 0) 1 Tryd.underlying22 hi hz0 hz1 hz2 rfl .u8 v3 (be4 i ++ strI label ++ [0]) rfl HR3.out w.heap.size A2 n2 c2 ctx rfl HT3.out (by unfold maxLen; rw [HLN2.out]; omega) (by rw [HLN2.out]; omega) hzb3 ?_; intro v4 w4 hown4 hg4 hor4; have hb4 : Below w.heap.size w w4 := own_below HR3.out hg4 hb3 hzb3; have HR4 := Lib.hid (hown4.row HLN3.out); have hzb4 := hb4.size; clear hown4 hg4 hor4))
  obtain ⟨M, HMM⟩ : ∃ M : List Int, Hid (be4 i ++ strI label ++ [0] ++ ctx = M) := ⟨be4 i ++ strI label ++ [0] ++ ctx, Lib.hid rfl⟩
  rw [HMM.out] at HR4
  have hw8 : IntKind.i64.wrap (8 * m) = 8 * m := IntWalk.i64_in _ (by omega)
  have hw32 : IntKind.u32.wrap (8 * m) = 8 * m := IntWalk.u32_in _ (by omega)
  have hS : ∀ W, Below w.heap.size w W → W.cell? ⟨gk, 0, none⟩ = some (.slice A n c) ∧ W.cell? ⟨gn, 0, none⟩ = some (.int .i64 m) := fun W h =>
    ⟨(h.cell (p := ⟨gk, 0, none⟩) bk).trans HKK.out, (h.cell (p := ⟨gn, 0, none⟩) bn).trans HM.out⟩
  have HSS := Lib.hid hS
  obtain ⟨hk4, hm4⟩ := hS _ hb4
  have hS4 := Lib.hid (hS _ hb4.drew)
  clear hS hl1
  go_region_held3 (fun W => W.cell? ⟨gk, 0, none⟩ = some (.slice A n c) ∧ W.cell? ⟨gn, 0, none⟩ = some (.int .i64 m))
    (first
      | exact hS4.out
      | exact hS6.out
      | exact hS5.out)
    ((first
      | (go_at_call 49; refine (mac_any A A5 n c (5 + label.size + n2 + 4) c5 key _ w5 ((HS.out.below hb5 (Nat.le_refl _)).more hzb5) (by omega) hc hcm HSEG5.out (by omega) (HK.out.below hb5 HK.out.lt)).mono ?_; rintro e w6 ⟨v6, rfl, hR6, hb6⟩; have hbw6 := hb5.trans (hb6.mono hzb5); have hS6 := Lib.hid (HSS.out _ hbw6); have HR6 := Lib.hid hR6; clear hR6)
      | (go_at_call 48; refine (mappendWord_any w.heap.size v4 (5 + label.size + n2) M (8 * m) w4.drew HR4.out (by omega) hzb4).mono ?_; rintro e w5 ⟨v5, rfl, hR5, hg5⟩; have hb5 : Below w.heap.size w w5 := own_below (w := w4.drew) HR4.out.own hg5 hb4.drew hzb4; have hzb5 := hb5.size; have hS5 := Lib.hid (HSS.out _ hb5); obtain ⟨A5, c5, rfl, _, _⟩ := hR5.cut; have HSEG5 := Lib.hid hR5.seg; clear hR5 hg5)))
  go_wp2
  go_ret
  refine ⟨_, rfl, ?_, hbw6⟩
  rw [partI, partMsg, HMM.out]
  exact (Own.less HR6.out.own hzb5).row (macI_length _ _)
end Go.Proofs.YtmpalhejjmjmeaaDoor
