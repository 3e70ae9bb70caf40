/-
  The reference's comparison of byte strings.
  HMAC-SHA-256 by the program: the closure that masks the key and hashes, and Mac itself.
  Key derivation: the bytes that are derived, as a Lean function; the program's closure for one part.
  Lists of byte strings in memory.
  How long a frame is.
  The first sixteen bytes of the hash of a frame, on lists.
  One-time signatures as Lean functions on lists of integers, written after chapter 5 of the document.
  The program's length of a digest.
  The program's key derivation.
  Small facts on what a call hands back: a row of bytes that is not empty lies in a block; lengths of digests; the digest of abc.
-/
import Derived.Test.YtljkkejjnimjcaaDoorBase1
import Derived.Test.YtljkkejjnimjcaaDoorBase3
import Derived.Deep.RegionHeld3
import Derived.Lib.SlBytesConst
namespace Go.Proofs.YtljkkejjnimjcaaDoor
open Go.RowKit

/-- Are two byte strings equal? -/
def sameB (xs ys : List Int) : Bool := decide (xs = ys)
theorem sameB_self (xs : List Int) : sameB xs xs = true := by simp [sameB]
theorem take_next {xs ys : List Int} {k : Nat} (h : xs.take k = ys.take k) (hx : k < xs.length) (hy : k < ys.length) (e : xs.getD k 0 = ys.getD k 0) : xs.take (k + 1) = ys.take (k + 1) := by
  rw [List.take_add_one, List.take_add_one, h, List.getElem?_eq_getElem hx, List.getElem?_eq_getElem hy]
  have : xs[k] = ys[k] := by simpa [List.getD, hx, hy] using e
  rw [this]

set_option maxRecDepth 100000 in
set_option maxHeartbeats 1000000 in
theorem same_any (A A2 : Option Addr) (n c n2 c2 : Nat) (xs ys : List Int) (w : World) (hs : Seg w w.heap.size .u8 A n xs) (ht : Seg w w.heap.size .u8 A2 n2 ys) (hn : n ≤ 1099511627776) :
    Calls Tryd.prog 10 #[.slice A n c, .slice A2 n2 c2] w fun e w' => e = .returned (.bool (sameB xs ys)) ∧ ∃ q, w' = w.drewN q := by
  have HS := Lib.hid hs
  have HT := Lib.hid ht
  clear hs ht
  by_cases hnn : n = n2
  · subst hnn
    go_enter Tryd.func10, Tryd.ntmps10
    go_wp2_with fail
    go_loopw [5] (fun i wr => ∃ k : Nat, k ≤ n ∧ i = .int .i64 k ∧ Hid (xs.take k = ys.take k) ∧ ∃ q, wr = w.drewN q) (fun i _ => n - (intOf i).toNat)
    case atStart => exact ⟨0, by omega, rfl, rfl, 0, rfl⟩
    case round =>
      obtain ⟨k, hk, rfl, htk, q, rfl⟩ := hrel
      by_cases hlt : k < n
      · have hd : decide ((k : Int) < n) = true := by simp; omega
        obtain ⟨b, off, rfl, _, hc⟩ := HS.out.2 (by omega)
        obtain ⟨b2, off2, rfl, _, hc2⟩ := HT.out.2 (by omega)
        obtain ⟨x, hx⟩ : ∃ x, Hid (xs.getD k 0 = x) := ⟨_, rfl⟩
        obtain ⟨y, hy⟩ : ∃ y, Hid (ys.getD k 0 = y) := ⟨_, rfl⟩
        have h1 := hc k hlt
        have h2 := hc2 k hlt
        rw [hx.out] at h1
        rw [hy.out] at h2
        clear hc hc2
        have hki : (k : Int) < n := by omega
        by_cases hxy : x = y
        · have hne : (x != y) = false := by rw [bne_eq_false_iff_eq]; exact hxy
          have HXY := Lib.hid hxy
          clear hxy
          go_wp2_with fail
          go_quiet (fail)
          go_wp2_with fail
          go_roundw
          case measure => simp [intOf]; omega
          case rel => exact ⟨k + 1, by omega, by go_num, take_next htk.out (by rw [HS.out.1]; exact hlt) (by rw [HT.out.1]; exact hlt) (by rw [hx.out, hy.out, HXY.out]), _, rfl⟩
        · have hne : (x != y) = true := by rw [bne_iff_ne]; exact hxy
          have hfin : sameB xs ys = false := by
            simp only [sameB, decide_eq_false_iff_not]
            intro e
            exact hxy (by rw [← hx.out, ← hy.out, e])
          have HF := Lib.hid hfin
          clear hxy hfin
          go_wp2_with fail
          go_quiet (fail)
          go_wp2_with fail
          go_ret
          exact ⟨by rw [HF.out]; rfl, _, World.drewN_drewN _ _ _⟩
      · have hd : decide ((k : Int) < n) = false := by simp; omega
        have hfin : sameB xs ys = true := by
          have hkn : k = n := by omega
          have h1 := htk.out
          rw [hkn, List.take_of_length_le (by rw [HS.out.1]; omega), List.take_of_length_le (by rw [HT.out.1]; omega)] at h1
          simp [sameB, h1]
        have HF := Lib.hid hfin
        clear hfin
        go_wp2_with fail
        go_ret
        exact ⟨by rw [HF.out]; rfl, _, rfl⟩
  · have hne : ((n : Int) != n2) = true := by rw [bne_iff_ne]; omega
    have hfin : sameB xs ys = false := by
      simp only [sameB, decide_eq_false_iff_not]
      intro e
      exact hnn (by rw [← HS.out.1, ← HT.out.1, e])
    have HF := Lib.hid hfin
    clear hfin hnn
    go_enter Tryd.func10, Tryd.ntmps10
    go_wp2_with fail
    go_ret
    exact ⟨by rw [HF.out]; rfl, 0, rfl⟩
theorem same_self (A A2 : Option Addr) (n c c2 : Nat) (D : List Int) (W : World) (h1 : Seg W W.heap.size .u8 A n D) (h2 : Seg W W.heap.size .u8 A2 n D) (hn : n ≤ 1099511627776) :
    Calls Tryd.prog 10 #[.slice A n c, .slice A2 n c2] W fun e w' => e = .returned (.bool true) ∧ Below W.heap.size W w' := by
  refine (same_any A A2 n c n c2 D D W h1 h2 hn).mono ?_
  rintro e w' ⟨rfl, q, rfl⟩
  rw [sameB_self]
  exact ⟨rfl, below_drewN (Below.refl _ _) q⟩
end Go.Proofs.YtljkkejjnimjcaaDoor
namespace Go.Proofs.YtljkkejjnimjcaaDoor
open Go.RowKit

/-- The first k bytes masked, the others still zero. -/
def fillM (m : Int) (K : List Int) (k : Nat) : List Int := maskI m (K.take k) ++ List.replicate (64 - k) 0
theorem fillM_zero (m : Int) (K : List Int) : fillM m K 0 = List.replicate 64 0 := by simp [fillM, maskI]
theorem fillM_full (m : Int) (K : List Int) (h : K.length = 64) : fillM m K 64 = maskI m K := by
  rw [fillM, List.take_of_length_le (by omega)]; simp
theorem fillM_length (m : Int) (K : List Int) (k : Nat) (h : K.length = 64) (hk : k ≤ 64) : (fillM m K k).length = 64 := by
  simp [fillM, maskI]; omega
theorem fillM_next (m : Int) (K : List Int) (k : Nat) (h : K.length = 64) (hk : k < 64) : (fillM m K k).set k (bits .xor .u8 (K.getD k 0) m) = fillM m K (k + 1) := by
  have e : K.take (k + 1) = K.take k ++ [K.getD k 0] := by rw [List.take_add_one, List.getElem?_eq_getElem (by omega)]; simp [List.getD, h, hk]
  have hr : 64 - k = (64 - (k + 1)) + 1 := by omega
  rw [fillM, fillM, e, hr, List.replicate_succ, List.set_append_right _ _ (by simp [maskI]; omega)]
  have hl : (maskI m (K.take k)).length = k := by simp [maskI]; omega
  rw [hl, Nat.sub_self]
  simp [maskI]

set_option maxRecDepth 100000 in
set_option maxHeartbeats 4000000 in
theorem masked_any (m : Int) (A : Option Addr) (n c g : Nat) (K xs : List Int) (w : World) (hk : Blk w g 65 .u8 K) (hkl : K.length = 64) (hs : Seg w w.heap.size .u8 A n xs) (hn : n ≤ 1073741824) (hK : Tab w 0 .u32 kay256) :
    Calls Tryd.prog 70 #[.int .u8 m, .slice A n c, .pointer (some ⟨g, 0, none⟩)] w fun e w' => ∃ v, e = .returned v ∧ Row w' w.heap.size 5 .u8 v 32 (sha256 (maskI m K ++ xs)) ∧ Below w.heap.size w w' := by
  obtain ⟨i0, hi, hz0, hz1, hz2⟩ := info_parts Tryd.infoU8
  have HS := Lib.hid hs
  have HK := Lib.hid hK
  have HB := Lib.hid hk
  have HKL := Lib.hid hkl
  have hgl := hk.lt
  clear hs hK hk hkl
  go_enter Tryd.func70, Tryd.ntmps70
  go_wp2_with (at_make; refine wpList_make_cap rfl _ _ 22 rfl w.heap.size 5 i0 .u8 Tryd.underlying22 hi hz0 hz1 hz2 .i64 .i64 64 (64 + n) _ _ rfl rfl (by omega) (by omega) (by omega) (by omega) (Nat.le_refl _) ?_; intro w1 hR1 hb1 hz1)
  have hz1' := hb1.size
  rw [← fillM_zero m K] at hR1
  clear hz1
  go_loopw [12] (fun i wr => ∃ k : Nat, k ≤ 64 ∧ i = .int .i64 k ∧ Hid (Row wr w.heap.size 5 .u8 (.slice (some ⟨w.heap.size, 0, none⟩) 64 (64 + n)) 64 (fillM m K k)) ∧ Below w.heap.size w wr) (fun i _ => 64 - (intOf i).toNat)
  case atStart => exact ⟨0, by omega, rfl, hR1, hb1⟩
  case round =>
    clear hR1 hb1 hz1'
    obtain ⟨k, hk, rfl, hR, hb⟩ := hrel
    have hz := hb.size
    by_cases hlt : k < 64
    · have hd : decide ((k : Int) < 64) = true := by simp; omega
      obtain ⟨x, hx⟩ : ∃ x, Hid (K.getD k 0 = x) := ⟨_, rfl⟩
      have hcx := (HB.out.below hb hgl).cell k (by rw [HKL.out]; exact hlt)
      rw [hx.out] at hcx
      have hcm := hR.out.cell k hlt
      have hfm := hR.out.frozen k
      go_wp2_with fail
      go_roundw
      case measure => simp [intOf]; omega
      case rel =>
        refine ⟨k + 1, by omega, by go_num, ?_, hb.setCell (by simp) _⟩
        show Row _ _ _ _ _ _ _
        rw [← fillM_next m K k HKL.out hlt, hx.out]
        exact hR.out.set_ k _
    · have hd : decide ((k : Int) < 64) = false := by simp; omega
      have hfull : fillM m K k = maskI m K := by
        obtain rfl : k = 64 := by omega
        exact fillM_full m K HKL.out
      rw [hfull] at hR
      clear hfull
      have HO := Lib.hid hR.out.own
      have HSr := Lib.hid (HS.out.below hb (Nat.le_refl _))
      have HMK : Hid ((maskI m K).length = 64) := by show _ = _; rw [maskI_length]; exact HKL.out
      have HKr := Lib.hid (HK.out.below hb HK.out.lt)
      go_wp2_with (at_builtin; refine wpList_app _ rfl (.tmp 24) (.tmp 25) 22 rfl w.heap.size 5 i0 (.int .u8 0) 1 Tryd.underlying22 hi hz0 hz1 hz2 rfl .u8 _ (maskI m K) rfl HO.out w.heap.size A n c xs rfl HSr.out (by unfold maxLen; rw [HMK.out]; omega) (by rw [HMK.out]; omega) hz ?_; intro v3 w3 hown3 hg3 hor3; have hb3 := own_below HO.out hg3 hb hz)
      obtain ⟨A3, c3, rfl, h1, h2⟩ := Own.cut hown3
      have HL3 : Hid ((maskI m K ++ xs).length = 64 + n) := by show _ = _; rw [List.length_append, HMK.out, HS.out.1]
      have hseg := Seg.of_own hown3
      have HK3 := Lib.hid (HK.out.below hb3 HK.out.lt)
      rw [HL3.out] at hseg h1 ⊢
      unfold maxLen at h2
      have HSEG := Lib.hid hseg
      have hz3 := hb3.size
      clear hseg hown3 hg3 hor3
      go_wp2_with fail
      refine (sum_any 1 A3 (64 + n) c3 (maskI m K ++ xs) w3 HSEG.out (by omega) h1 (by omega) HK3.out).mono ?_
      rintro e w4 ⟨v4, rfl, hown4, hb4⟩
      go_wp2
      go_ret
      exact ⟨_, rfl, (Own.less hown4 hz3).row (sha256_length _), hb3.trans (hb4.mono hz3)⟩

set_option maxRecDepth 100000 in
set_option maxHeartbeats 4000000 in
/-- The program's HMAC. -/
theorem mac_any (A A2 : Option Addr) (n c n2 c2 : Nat) (key xs : List Int) (w : World) (hs : Seg w w.heap.size .u8 A n key) (hn : n ≤ 1073741824) (hc : n ≤ c) (hcm : c ≤ 9223372036854775807) (ht : Seg w w.heap.size .u8 A2 n2 xs) (hn2 : n2 ≤ 1073741824) (hK : Tab w 0 .u32 kay256) :
    Calls Tryd.prog 62 #[.slice A n c, .slice A2 n2 c2] w fun e w' => ∃ v, e = .returned v ∧ Row w' w.heap.size 5 .u8 v 32 (macI key xs) ∧ Below w.heap.size w w' := by
  have HS := Lib.hid hs
  have HT := Lib.hid ht
  have HK := Lib.hid hK
  clear hs ht hK
  go_enter Tryd.func62, Tryd.ntmps62
  go_wp2_with fail
  refine (blockKey_any A n c key w HS.out (by omega) hc hcm HK.out).mono ?_
  rintro e w1 ⟨rfl, hb1⟩
  have HKL := Lib.hid (keyI_length key)
  obtain ⟨K, HKI⟩ : ∃ K, Hid (keyI key = K) := ⟨_, rfl⟩
  rw [HKI.out] at HKL ⊢
  have hz1 := hb1.size
  have hz64 := Tryd.zeroK64
  go_wp2_with (refine wpList_storeInts rfl 65 (.tmp 5) (.tmp 8) rfl w1.heap.size rfl 65 .u8 _ K rfl (Blk.new w1 65 .u8 (List.replicate 64 0)) 64 Tryd.sizeK64 (by simp) HKL.out ?_)
  generalize hwk : World.setRow _ _ _ = wk
  have hbk : Below w.heap.size w wk := by rw [← hwk]; exact below_setRow' (hb1.alloc hz1 _) hz1 _
  have hBk : Blk wk w1.heap.size 65 .u8 K := by rw [← hwk]; exact (Blk.new w1 65 .u8 (List.replicate 64 0)).setRow K
  have hzk := hbk.size
  obtain ⟨g, HG⟩ : ∃ g, Hid (w1.heap.size = g) := ⟨_, rfl⟩
  rw [HG.out] at hBk hz1 ⊢
  clear hwk hz64
  refine (masked_any 54 A2 n2 c2 g K xs wk hBk HKL.out ((HT.out.below hbk (Nat.le_refl _)).more hzk) hn2 (HK.out.below hbk HK.out.lt)).mono ?_
  rintro e w2 ⟨v2, rfl, hR2, hb2⟩
  obtain ⟨A3, c3, rfl, h1, h2⟩ := hR2.cut
  unfold maxLen at h2
  have hb2' := hbk.trans (hb2.mono hzk)
  have HS2 := Lib.hid hR2.seg
  have HB2 := Lib.hid (hBk.below hb2 hBk.lt)
  have hz2 := hb2'.size
  clear hR2 hBk
  go_wp2_with fail
  refine (masked_any 92 A3 32 c3 g K _ w2 HB2.out HKL.out HS2.out (by omega) (HK.out.below hb2' HK.out.lt)).mono ?_
  rintro e w3 ⟨v3, rfl, hR3, hb3⟩
  go_wp2
  go_ret
  refine ⟨_, rfl, ?_, hb2'.trans (hb3.mono hz2)⟩
  rw [macI, innerI, HKI.out]
  exact (Own.less hR3.own hz2).row (sha256_length _)
end Go.Proofs.YtljkkejjnimjcaaDoor
namespace Go.Proofs.YtljkkejjnimjcaaDoor
open Go.RowKit

def partMsg (label ctx : List Int) (n i : Int) : List Int := be4 i ++ label ++ [0] ++ ctx ++ be4 (8 * n)
def partI (key label ctx : List Int) (n i : Int) : List Int := macI key (partMsg label ctx n i)
/-- The first parts, one after the other. -/
def partsI (key label ctx : List Int) (n : Int) : Nat → List Int
  | 0 => []
  | j + 1 => partsI key label ctx n j ++ partI key label ctx n (j + 1)
def deriveI (key label ctx : List Int) (n : Int) : List Int := if n < 1 ∨ 1024 < n then [] else (partsI key label ctx n ((n.toNat + 31) / 32)).take n.toNat
theorem partI_length (key label ctx : List Int) (n i : Int) : (partI key label ctx n i).length = 32 := macI_length _ _
theorem partsI_length (key label ctx : List Int) (n : Int) (j : Nat) : (partsI key label ctx n j).length = 32 * j := by
  induction j with
  | zero => rfl
  | succ j ih => rw [partsI, List.length_append, ih, partI_length]; omega
theorem deriveI_length (key label ctx : List Int) (n : Int) : ((deriveI key label ctx n).length : Int) = if n < 1 ∨ 1024 < n then 0 else n := by
  unfold deriveI
  split
  · rfl
  · rw [List.length_take, partsI_length]; omega

/-- Four bytes behind a row of the call's own. -/
theorem mappendWord_any (B : Nat) (v : Value) (n : Nat) (xs : List Int) (x : Int) (w : World) (hown : Row w B 5 .u8 v n xs) (hl : n ≤ 70368744177664) (hB : B ≤ w.heap.size) :
    Calls Tryd.prog 61 #[v, .int .u32 x] w fun e w' => ∃ v', e = .returned v' ∧ Row w' B 5 .u8 v' (n + 4) (xs ++ be4 x) ∧ w.grownBy w' v.ownBlock := by
  obtain ⟨i0, hi, hz0, hz1, hz2⟩ := info_parts Tryd.infoU8
  have HL := Lib.hid hown.length
  have HO := Lib.hid hown.own
  clear hown
  go_enter Tryd.func61, Tryd.ntmps61
  go_wp2_with (at_builtin; refine wpList_app _ rfl _ _ 22 rfl B 5 i0 (.int .u8 0) 1 Tryd.underlying22 hi hz0 hz1 hz2 rfl .u8 _ xs rfl (HO.out.alloc _) (w.heap.size + 1) (some ⟨w.heap.size, 0, none⟩) 4 4 (be4 x) rfl ((Seg.of_blk (Blk.new w 5 .u8 (be4 x))).more (by simp)) (by unfold maxLen; rw [HL.out]; omega) (by rw [HL.out]; omega) (by simp; omega) ?_; intro v' w' hown' hg hor)
  clear hor
  go_ret
  exact ⟨_, rfl, Own.row hown' (by rw [List.length_append, HL.out]; rfl), (World.grownBy_alloc w _ _).trans hg⟩

set_option maxRecDepth 100000 in
set_option maxHeartbeats 2000000 in
theorem part_any (i : Int) (gl gc gk gn : Nat) (label : ByteArray) (A A2 : Option Addr) (n c n2 c2 : Nat) (key ctx : List Int) (m : Int) (w : World)
    (hl : w.cell? ⟨gl, 0, none⟩ = some (.string label)) (hcx : w.cell? ⟨gc, 0, none⟩ = some (.slice A2 n2 c2)) (hk : w.cell? ⟨gk, 0, none⟩ = some (.slice A n c)) (hm : w.cell? ⟨gn, 0, none⟩ = some (.int .i64 m))
    (hs : Seg w w.heap.size .u8 A n key) (hn : n ≤ 1048576) (hc : n ≤ c) (hcm : c ≤ 9223372036854775807) (ht : Seg w w.heap.size .u8 A2 n2 ctx) (hn2 : n2 ≤ 1048576) (hlab : label.size ≤ 1048576)
    (hi1 : 0 ≤ i) (hi2 : i ≤ 1048576) (hm0 : 0 ≤ m) (hm1 : m ≤ 1048576) (hK : Tab w 0 .u32 kay256) :
    Calls Tryd.prog 60 #[.int .i64 i, .pointer (some ⟨gl, 0, none⟩), .pointer (some ⟨gc, 0, none⟩), .pointer (some ⟨gk, 0, none⟩), .pointer (some ⟨gn, 0, none⟩)] w
      fun e w' => ∃ v, e = .returned v ∧ Row w' w.heap.size 5 .u8 v 32 (partI key (strI label) ctx m i) ∧ Below w.heap.size w w' := by
  obtain ⟨i0, hi, hz0, hz1, hz2⟩ := info_parts Tryd.infoU8
  have HS := Lib.hid hs
  have HT := Lib.hid ht
  have HK := Lib.hid hK
  have bl := block_lt_of_cell hl
  have bc := block_lt_of_cell hcx
  have bk := block_lt_of_cell hk
  have bn := block_lt_of_cell hm
  have HL := Lib.hid hl
  have HC := Lib.hid hcx
  have HKK := Lib.hid hk
  have HM := Lib.hid hm
  clear hs ht hK hl hcx hk hm
  go_enter Tryd.func60, Tryd.ntmps60
  go_wp2_with fail
  refine (mappendWord_any w.heap.size _ 0 [] i w (nil_row _ _ _ _) (by omega) (Nat.le_refl _)).mono ?_
  rintro e w1 ⟨v1, rfl, hR1, hg1⟩
  have hb1 : Below w.heap.size w w1 := own_below (nil_row w w.heap.size 5 .u8).own hg1 (Below.refl _ _) (Nat.le_refl _)
  have HR1 : Hid (Row w1 w.heap.size 5 .u8 v1 4 (be4 i)) := hR1
  have hzb1 := hb1.size
  have hl1 := (hb1.cell (p := ⟨gl, 0, none⟩) bl).trans HL.out
  clear hR1 hg1
  have HL1 := Lib.hid (strI_length label)
  have HTL := Lib.hid HT.out.1
  have HLN1 : Hid ((be4 i ++ strI label).length = 4 + label.size) := by show _ = _; rw [List.length_append, HL1.out]; rfl
  have HLN2 : Hid ((be4 i ++ strI label ++ [0]).length = 5 + label.size) := by show _ = _; rw [List.length_append, HLN1.out]; simp; omega
  have HLN3 : Hid ((be4 i ++ strI label ++ [0] ++ ctx).length = 5 + label.size + n2) := by show _ = _; rw [List.length_append, HLN2.out, HTL.out]
  go_wp2_with (first
    | (at_builtin; refine wpList_apps _ rfl (.tmp 11) (.tmp 12) 22 9 rfl w.heap.size 5 i0 Tryd.underlying22 Tryd.underlying9 hi hz0 hz1 hz2 v1 4 (be4 i) rfl HR1.out label rfl (by omega) hzb1 ?_; intro v2 w2 hR2 hg2; have hb2 : Below w.heap.size w w2 := own_below HR1.out.own hg2 hb1 hzb1; have HR2 := Lib.hid hR2.own; have hzb2 := hb2.size; clear hR2 hg2)
    | (at_builtin; refine wpList_app _ rfl (.tmp 14) (.tmp 15) 22 rfl w.heap.size 5 i0 (.int .u8 0) 1 Tryd.underlying22 hi hz0 hz1 hz2 rfl .u8 v2 (be4 i ++ strI label) rfl (HR2.out.alloc _) (w2.heap.size + 1) (some ⟨w2.heap.size, 0, none⟩) 1 1 [0] rfl ((Seg.of_blk (Blk.new w2 5 .u8 [0])).more (by simp)) (by unfold maxLen; rw [HLN1.out]; omega) (by rw [HLN1.out]; omega) (by simp; omega) ?_; intro v3 w3 hown3 hg3 hor3; have hb3 : Below w.heap.size w w3 := own_below (HR2.out.alloc _) hg3 (hb2.alloc hzb2 _) (by simp; omega); have HR3 := Lib.hid hown3; have hzb3 := hb3.size; have hcx3 := (hb3.cell (p := ⟨gc, 0, none⟩) bc).trans HC.out; have HT3 := Lib.hid (HT.out.below hb3 (Nat.le_refl _)); clear hown3 hg3 hor3)
    | (at_builtin; refine wpList_app _ rfl (.tmp 17) (.tmp 18) 22 rfl w.heap.size 5 i0 (.int .u8 0) 1 Tryd.underlying22 hi hz0 hz1 hz2 rfl .u8 v3 (be4 i ++ strI label ++ [0]) rfl HR3.out w.heap.size A2 n2 c2 ctx rfl HT3.out (by unfold maxLen; rw [HLN2.out]; omega) (by rw [HLN2.out]; omega) hzb3 ?_; intro v4 w4 hown4 hg4 hor4; have hb4 : Below w.heap.size w w4 := own_below HR3.out hg4 hb3 hzb3; have HR4 := Lib.hid (hown4.row HLN3.out); have hzb4 := hb4.size; clear hown4 hg4 hor4))
  obtain ⟨M, HMM⟩ : ∃ M : List Int, Hid (be4 i ++ strI label ++ [0] ++ ctx = M) := ⟨be4 i ++ strI label ++ [0] ++ ctx, Lib.hid rfl⟩
  rw [HMM.out] at HR4
  have hw8 : IntKind.i64.wrap (8 * m) = 8 * m := IntWalk.i64_in _ (by omega)
  have hw32 : IntKind.u32.wrap (8 * m) = 8 * m := IntWalk.u32_in _ (by omega)
  have hS : ∀ W, Below w.heap.size w W → W.cell? ⟨gk, 0, none⟩ = some (.slice A n c) ∧ W.cell? ⟨gn, 0, none⟩ = some (.int .i64 m) := fun W h =>
    ⟨(h.cell (p := ⟨gk, 0, none⟩) bk).trans HKK.out, (h.cell (p := ⟨gn, 0, none⟩) bn).trans HM.out⟩
  have HSS := Lib.hid hS
  obtain ⟨hk4, hm4⟩ := hS _ hb4
  have hS4 := Lib.hid (hS _ hb4.drew)
  clear hS hl1
  go_region_held3 (fun W => W.cell? ⟨gk, 0, none⟩ = some (.slice A n c) ∧ W.cell? ⟨gn, 0, none⟩ = some (.int .i64 m))
    (first
      | exact hS4.out
      | exact hS6.out
      | exact hS5.out)
    ((first
      | (go_at_call 62; refine (mac_any A A5 n c (5 + label.size + n2 + 4) c5 key _ w5 ((HS.out.below hb5 (Nat.le_refl _)).more hzb5) (by omega) hc hcm HSEG5.out (by omega) (HK.out.below hb5 HK.out.lt)).mono ?_; rintro e w6 ⟨v6, rfl, hR6, hb6⟩; have hbw6 := hb5.trans (hb6.mono hzb5); have hS6 := Lib.hid (HSS.out _ hbw6); have HR6 := Lib.hid hR6; clear hR6)
      | (go_at_call 61; refine (mappendWord_any w.heap.size v4 (5 + label.size + n2) M (8 * m) w4.drew HR4.out (by omega) hzb4).mono ?_; rintro e w5 ⟨v5, rfl, hR5, hg5⟩; have hb5 : Below w.heap.size w w5 := own_below (w := w4.drew) HR4.out.own hg5 hb4.drew hzb4; have hzb5 := hb5.size; have hS5 := Lib.hid (HSS.out _ hb5); obtain ⟨A5, c5, rfl, _, _⟩ := hR5.cut; have HSEG5 := Lib.hid hR5.seg; clear hR5 hg5)))
  go_wp2
  go_ret
  refine ⟨_, rfl, ?_, hbw6⟩
  rw [partI, partMsg, HMM.out]
  exact (Own.less HR6.out.own hzb5).row (macI_length _ _)
end Go.Proofs.YtljkkejjnimjcaaDoor
namespace Go.Proofs.YtljkkejjnimjcaaDoor
open Go.RowKit

/-- A slice of slices of bytes that reads as a list of lists. -/
def Fields (w : World) (B : Nat) (A : Option Addr) (n : Nat) (fs : List (List Int)) : Prop :=
  fs.length = n ∧ (0 < n → ∃ b off, A = some ⟨b, off, none⟩ ∧ b < B ∧ ∀ j, j < n → ∃ A' n' c', w.cell? ⟨b, off + j, none⟩ = some (.slice A' n' c') ∧ Seg w B .u8 A' n' (fs.getD j []) ∧ n' ≤ c' ∧ c' ≤ maxLen)
theorem Fields.below {w w' : World} {B B' : Nat} {A : Option Addr} {n : Nat} {fs : List (List Int)} (h : Fields w B A n fs) (hb : Below B' w w') (hB : B ≤ B') : Fields w' B A n fs :=
  ⟨h.1, fun hn => by
    obtain ⟨b, off, e, hlt, hc⟩ := h.2 hn
    refine ⟨b, off, e, hlt, fun j hj => ?_⟩
    obtain ⟨A', n', c', h1, h2, h3, h4⟩ := hc j hj
    exact ⟨A', n', c', (hb.cell (p := ⟨b, off + j, none⟩) (by show b < B'; omega)).trans h1, h2.below hb hB, h3, h4⟩⟩
theorem Fields.more {w : World} {B B' : Nat} {A : Option Addr} {n : Nat} {fs : List (List Int)} (h : Fields w B A n fs) (hB : B ≤ B') : Fields w B' A n fs :=
  ⟨h.1, fun hn => by
    obtain ⟨b, off, e, hlt, hc⟩ := h.2 hn
    refine ⟨b, off, e, by omega, fun j hj => ?_⟩
    obtain ⟨A', n', c', h1, h2, h3, h4⟩ := hc j hj
    exact ⟨A', n', c', h1, h2.more hB, h3, h4⟩⟩

/-- How many bytes the first fields hold. -/
def tot (fs : List (List Int)) : Nat := (fs.map List.length).sum
theorem tot_take (fs : List (List Int)) (k : Nat) (h : k < fs.length) : tot (fs.take (k + 1)) = tot (fs.take k) + (fs.getD k []).length := by
  have : fs.take (k + 1) = fs.take k ++ [fs.getD k []] := by rw [List.take_add_one, List.getElem?_eq_getElem h]; simp [List.getD, h]
  rw [this]
  simp [tot]
theorem tot_take_le (fs : List (List Int)) (k : Nat) : tot (fs.take k) ≤ tot fs := by
  have h : tot fs = tot (fs.take k) + tot (fs.drop k) := by
    have e : tot (fs.take k ++ fs.drop k) = tot (fs.take k) + tot (fs.drop k) := by simp only [tot, List.map_append, List.sum_append]
    rw [List.take_append_drop] at e
    exact e
  omega
theorem tot_get_le (fs : List (List Int)) (k : Nat) (h : k < fs.length) : (fs.getD k []).length ≤ tot fs := by
  have h1 := tot_take fs k h
  have h2 := tot_take_le fs (k + 1)
  omega
/-- A list of two fields that the call itself has laid. -/
theorem fields2 (W : World) (g : Nat) (A1 A2 : Option Addr) (n1 c1 n2 c2 : Nat) (xs ys : List Int) (hc0 : W.cell? ⟨g, 0, none⟩ = some (.slice A1 n1 c1)) (hc1 : W.cell? ⟨g, 1, none⟩ = some (.slice A2 n2 c2))
    (h1 : Seg W W.heap.size .u8 A1 n1 xs) (h2 : Seg W W.heap.size .u8 A2 n2 ys) (b1 : n1 ≤ c1) (m1 : c1 ≤ maxLen) (b2 : n2 ≤ c2) (m2 : c2 ≤ maxLen) : Fields W W.heap.size (some ⟨g, 0, none⟩) 2 [xs, ys] :=
  ⟨rfl, fun _ => ⟨g, 0, rfl, block_lt_of_cell hc0, fun j hj => by
    rcases (by omega : j = 0 ∨ j = 1) with rfl | rfl
    · exact ⟨A1, n1, c1, hc0, h1, b1, m1⟩
    · exact ⟨A2, n2, c2, hc1, h2, b2, m2⟩⟩⟩
theorem fields1 (W : World) (g : Nat) (A1 : Option Addr) (n1 c1 : Nat) (xs : List Int) (hc0 : W.cell? ⟨g, 0, none⟩ = some (.slice A1 n1 c1))
    (h1 : Seg W W.heap.size .u8 A1 n1 xs) (b1 : n1 ≤ c1) (m1 : c1 ≤ maxLen) : Fields W W.heap.size (some ⟨g, 0, none⟩) 1 [xs] :=
  ⟨rfl, fun _ => ⟨g, 0, rfl, block_lt_of_cell hc0, fun j hj => by
    obtain rfl : j = 0 := by omega
    exact ⟨A1, n1, c1, hc0, h1, b1, m1⟩⟩⟩
/-- A list of three fields that the call itself has laid. -/
theorem fields3 (W : World) (g : Nat) (A1 A2 A3 : Option Addr) (n1 c1 n2 c2 n3 c3 : Nat) (xs ys zs : List Int) (hc0 : W.cell? ⟨g, 0, none⟩ = some (.slice A1 n1 c1)) (hc1 : W.cell? ⟨g, 1, none⟩ = some (.slice A2 n2 c2)) (hc2 : W.cell? ⟨g, 2, none⟩ = some (.slice A3 n3 c3))
    (h1 : Seg W W.heap.size .u8 A1 n1 xs) (h2 : Seg W W.heap.size .u8 A2 n2 ys) (h3 : Seg W W.heap.size .u8 A3 n3 zs) (b1 : n1 ≤ c1) (m1 : c1 ≤ maxLen) (b2 : n2 ≤ c2) (m2 : c2 ≤ maxLen) (b3 : n3 ≤ c3) (m3 : c3 ≤ maxLen) : Fields W W.heap.size (some ⟨g, 0, none⟩) 3 [xs, ys, zs] :=
  ⟨rfl, fun _ => ⟨g, 0, rfl, block_lt_of_cell hc0, fun j hj => by
    rcases (by omega : j = 0 ∨ j = 1 ∨ j = 2) with rfl | rfl | rfl
    · exact ⟨A1, n1, c1, hc0, h1, b1, m1⟩
    · exact ⟨A2, n2, c2, hc1, h2, b2, m2⟩
    · exact ⟨A3, n3, c3, hc2, h3, b3, m3⟩⟩⟩
end Go.Proofs.YtljkkejjnimjcaaDoor
namespace Go.Proofs.YtljkkejjnimjcaaDoor
open Go.RowKit

theorem frameI_take (tag : Int) (fs : List (List Int)) (k : Nat) (h : k < fs.length) : frameI tag (fs.take (k + 1)) = frameI tag (fs.take k) ++ be4 (((fs.getD k []).length : Int) % 4294967296) ++ fs.getD k [] := by
  have : fs.take (k + 1) = fs.take k ++ [fs.getD k []] := by rw [List.take_add_one, List.getElem?_eq_getElem h]; simp [List.getD, h]
  rw [this]
  simp [frameI]
theorem frameI_length (tag : Int) (fs : List (List Int)) : (frameI tag fs).length = 1 + 4 * fs.length + tot fs := by
  induction fs with
  | nil => rfl
  | cons f l ih => simp [frameI, tot, be4] at ih ⊢; omega
end Go.Proofs.YtljkkejjnimjcaaDoor
namespace Go.Proofs.YtljkkejjnimjcaaDoor
open Go.RowKit

/-- The first sixteen bytes of the hash of a frame. -/
def hash16 (tag : Int) (fs : List (List Int)) : List Int := (sha256 (frameI tag fs)).take 16
theorem hash16_length (tag : Int) (fs : List (List Int)) : (hash16 tag fs).length = 16 := by rw [hash16, List.length_take, sha256_length]; rfl
end Go.Proofs.YtljkkejjnimjcaaDoor
namespace Go.Proofs.YtljkkejjnimjcaaDoor
open Go.RowKit

/-- The halves of bytes, and what they lack of fifteen. -/
def halves (m : List Int) : List Int := (m.map fun x => [x / 16, x % 16]).flatten
def lacks (m : List Int) : Int := (m.map fun x => 30 - x / 16 - x % 16).sum
def digitsOf (m : List Int) : List Int := halves m ++ [lacks m / 256, lacks m / 16 % 16, lacks m % 16]
def digitsI (message : List Int) : List Int := digitsOf (hash16 4 [message])
/-- One step of a chain; several. -/
def stepC (leaf c p : Int) (x : List Int) : List Int := hash16 1 [[leaf % 256, c % 256, p % 256], x]
def chainI (leaf c p : Int) (x : List Int) : Nat → List Int
  | 0 => x
  | j + 1 => stepC leaf c (p + j) (chainI leaf c p x j)
def labelC : ByteArray := { data := #[99, 104, 97, 105, 110] }
def startI (seed : List Int) (leaf c : Int) : List Int := deriveI seed (strI labelC) [leaf % 256, c % 256] 16
def valueI (leaf : Int) (ends : List Int) : List Int := hash16 2 [[leaf % 256], ends]
/-- The first k of the bytes that f gives for 0, 1, 2 .. -/
def catI (f : Nat → List Int) : Nat → List Int
  | 0 => []
  | k + 1 => catI f k ++ f k
def publicI (seed : List Int) (leaf : Int) : List Int := if leaf < 0 ∨ 255 < leaf then [] else valueI leaf (catI (fun c => chainI leaf c 0 (startI seed leaf c) 15) 35)
def signI (seed : List Int) (leaf : Int) (message : List Int) : List Int :=
  if leaf < 0 ∨ 255 < leaf then [] else catI (fun c => chainI leaf c 0 (startI seed leaf c) ((digitsI message).getD c 0).toNat) 35
def recoverI (leaf : Int) (message sig : List Int) : List Int × Bool :=
  if leaf < 0 ∨ 255 < leaf ∨ sig.length ≠ 560 then ([], false)
  else (valueI leaf (catI (fun c => chainI leaf c ((digitsI message).getD c 0) ((sig.drop (16 * c)).take 16) (15 - ((digitsI message).getD c 0).toNat)) 35), true)

theorem stepC_length (leaf c p : Int) (x : List Int) : (stepC leaf c p x).length = 16 := hash16_length _ _
theorem chainI_length (leaf c p : Int) (x : List Int) (hx : x.length = 16) (j : Nat) : (chainI leaf c p x j).length = 16 := by
  cases j with
  | zero => exact hx
  | succ j => exact stepC_length _ _ _ _
theorem catI_length (f : Nat → List Int) (k : Nat) (h : ∀ c, c < k → (f c).length = 16) : (catI f k).length = 16 * k := by
  induction k with
  | zero => rfl
  | succ k ih => rw [catI, List.length_append, ih (fun c hc => h c (by omega)), h k (by omega)]; omega
theorem startI_length (seed : List Int) (leaf c : Int) : (startI seed leaf c).length = 16 := by
  have := deriveI_length seed (strI labelC) [leaf % 256, c % 256] 16
  unfold startI
  simp at this
  omega
/-- Two parts of a chain, one after the other. -/
theorem chainI_add (leaf c p : Int) (x : List Int) (i j : Nat) : chainI leaf c (p + i) (chainI leaf c p x i) j = chainI leaf c p x (i + j) := by
  induction j with
  | zero => rfl
  | succ j ih =>
    rw [chainI, ih, ← Nat.add_assoc, chainI]
    congr 1
    omega
theorem digitsI_length (message : List Int) : (digitsI message).length = 35 := by
  have h := hash16_length 4 [message]
  have e : ∀ m : List Int, (halves m).length = 2 * m.length := fun m => by
    induction m with
    | nil => rfl
    | cons x m ih => simp [halves] at ih ⊢; omega
  rw [digitsI, digitsOf, List.length_append, e, h]
  rfl
end Go.Proofs.YtljkkejjnimjcaaDoor
namespace Go.Proofs.YtljkkejjnimjcaaDoor
open Go.RowKit

theorem size_any (alg : Int) (w : World) :
    Calls Tryd.prog 63 #[.int .i64 alg] w fun e w' => e = .returned (.int .i64 (sizeI alg)) ∧ w = w' := by
  by_cases h0 : alg = 0
  · subst h0
    go_enter Tryd.func63, Tryd.ntmps63
    go_wp2
    go_ret
    exact ⟨rfl, rfl⟩
  · by_cases h1 : alg = 1
    · subst h1
      go_enter Tryd.func63, Tryd.ntmps63
      go_wp2
      go_ret
      exact ⟨rfl, rfl⟩
    · have e0 : (alg == 0) = false := by simpa using h0
      have e1 : (alg == 1) = false := by simpa using h1
      have hd : sizeI alg = 0 := by simp [sizeI, h0, h1]
      have HD := Lib.hid hd
      clear hd
      go_enter Tryd.func63, Tryd.ntmps63
      go_wp2
      go_ret
      exact ⟨by rw [HD.out]; rfl, rfl⟩
end Go.Proofs.YtljkkejjnimjcaaDoor
namespace Go.Proofs.YtljkkejjnimjcaaDoor
open Go.RowKit

set_option maxRecDepth 100000 in
set_option maxHeartbeats 2000000 in
theorem derive_out (A A2 : Option Addr) (n c n2 c2 : Nat) (label : ByteArray) (m : Int) (w : World) (hm : m < 1 ∨ 1024 < m) :
    Calls Tryd.prog 42 #[.slice A n c, .string label, .slice A2 n2 c2, .int .i64 m] w
      fun e w' => e = .returned (.slice none 0 0) ∧ Below w.heap.size w w' := by
  go_enter Tryd.func42, Tryd.ntmps42
  have hb : ∀ o1 o2 o3 o4 : Obj, Below w.heap.size w ((((w.alloc o1).alloc o2).alloc o3).alloc o4) := fun o1 o2 o3 o4 =>
    ((((Below.refl _ _).alloc (Nat.le_refl _) _).alloc (by simp) _).alloc (by simp; omega) _).alloc (by simp; omega) _
  rcases hm with hm | hm
  · have hd : decide (m < 1) = true := by simpa using hm
    go_wp2_with fail
    go_ret
    exact ⟨rfl, hb _ _ _ _⟩
  · have hd : decide (m < 1) = false := by simp; omega
    have hd2 : decide (1024 < m) = true := by simpa using hm
    go_wp2_with fail
    go_ret
    exact ⟨rfl, hb _ _ _ _⟩

set_option maxRecDepth 100000 in
set_option maxHeartbeats 2000000 in
theorem derive_in (A A2 : Option Addr) (n c n2 c2 : Nat) (key ctx : List Int) (label : ByteArray) (m : Nat) (w : World) (hs : Seg w w.heap.size .u8 A n key) (hn : n ≤ 1048576) (hc : n ≤ c) (hcm : c ≤ 9223372036854775807)
    (ht : Seg w w.heap.size .u8 A2 n2 ctx) (hn2 : n2 ≤ 1048576) (hlab : label.size ≤ 1048576) (hm0 : 1 ≤ m) (hm1 : m ≤ 1024) (hK : Tab w 0 .u32 kay256) :
    Calls Tryd.prog 42 #[.slice A n c, .string label, .slice A2 n2 c2, .int .i64 (m : Int)] w
      fun e w' => ∃ v, e = .returned v ∧ (∃ A', v = .slice A' m m ∧ Seg w' w'.heap.size .u8 A' m (deriveI key (strI label) ctx m)) ∧ Below w.heap.size w w' := by
  obtain ⟨i0, hi, hz0, hz1, hz2⟩ := info_parts Tryd.infoU8
  have HS := Lib.hid hs
  have HT := Lib.hid ht
  have HK := Lib.hid hK
  have h0 : 0 < w.heap.size := hK.lt
  have hd : decide ((m : Int) < 1) = false := by simp; omega
  have hd2 : decide ((1024 : Int) < m) = false := by simp; omega
  have CS : Hid (∀ W, Calls Tryd.prog 63 #[.int .i64 1] W fun e w' => e = .returned (.int .i64 32) ∧ W = w') := fun W => size_any 1 W
  obtain ⟨P, HP⟩ : ∃ P : Nat, Hid (P = (m + 31) / 32) := ⟨_, rfl⟩
  have hP : ((m : Int) + 32 - 1) / 32 = (P : Int) := by rw [HP.out]; omega
  have hPb : 32 * P < m + 32 := by rw [HP.out]; omega
  have hPm : m ≤ 32 * P := by rw [HP.out]; omega
  clear hs ht hK
  go_enter Tryd.func42, Tryd.ntmps42
  go_wp2_with (first
    | (go_at_call 63; refine (CS.out _).mono ?_; rintro e w' ⟨rfl, rfl⟩)
    | (at_make; generalize hw0 : World.alloc _ _ = w0; refine wpList_make_own _ rfl _ _ 22 rfl w0.heap.size 5 i0 (.int .u8 0) 1 Tryd.underlying22 hi hz0 hz1 .i64 .i64 _ (P * 32) rfl rfl (by omega) (by rw [hz2]; omega) (by unfold maxLen; omega) (Nat.le_refl _) ?_; intro w1 hown1 hg1))
  have hb0 : Below w.heap.size w w0 := by
    rw [← hw0]
    exact ((((Below.refl _ _).alloc (Nat.le_refl _) _).alloc (by simp) _).alloc (by simp; omega) _).alloc (by simp; omega) _
  obtain ⟨hc0, hc1, hc2', hc3⟩ := four_boxes w (.slice A n c) (.string label) (.slice A2 n2 c2) (.int .i64 m) 22 9 22 3
  rw [hw0] at hc0 hc1 hc2' hc3
  obtain ⟨gn, HGN⟩ : ∃ g, Hid (w.heap.size + 1 + 1 + 1 = g) := ⟨_, rfl⟩
  obtain ⟨gc, HGC⟩ : ∃ g, Hid (w.heap.size + 1 + 1 = g) := ⟨_, rfl⟩
  obtain ⟨gl, HGL⟩ : ∃ g, Hid (w.heap.size + 1 = g) := ⟨_, rfl⟩
  rw [HGN.out] at hc3 ⊢
  rw [HGC.out] at hc2' ⊢
  rw [HGL.out] at hc1 ⊢
  have bk := block_lt_of_cell hc0
  have bl := block_lt_of_cell hc1
  have bc := block_lt_of_cell hc2'
  have bn := block_lt_of_cell hc3
  have H0 := Lib.hid hc0
  have H1 := Lib.hid hc1
  have H2 := Lib.hid hc2'
  have H3 := Lib.hid hc3
  have hb1 : Below w0.heap.size w0 w1 := (Below.refl _ _).grown hg1 (Nat.le_refl _) (fun r hr => by cases hr)
  have hz0' := hb0.size
  have HS0 := Lib.hid (HS.out.below hb0 (Nat.le_refl _))
  have HT0 := Lib.hid (HT.out.below hb0 (Nat.le_refl _))
  have HK0 := Lib.hid (HK.out.below hb0 h0)
  clear hc0 hc1 hc2' hc3 hw0 hg1
  go_loopw [12, 33] (fun v i wr => ∃ k : Nat, k ≤ P ∧ i = .int .i64 k ∧ Hid (Row wr w0.heap.size 5 .u8 v (32 * k) (partsI key (strI label) ctx m k)) ∧ Below w0.heap.size w0 wr) (fun _ i _ => P - (intOf i).toNat)
  case atStart => exact ⟨0, by omega, rfl, hown1, hb1⟩
  case round =>
    clear hown1 hb1
    obtain ⟨k, hk, rfl, hR, hb⟩ := hrel
    have hz := hb.size
    by_cases hlt : k < P
    · have hdk : decide ((k : Int) < P) = true := by simp; omega
      have HSr := Lib.hid ((HS0.out.below hb hz0').more (Nat.le_trans hz0' hz))
      have HTr := Lib.hid ((HT0.out.below hb hz0').more (Nat.le_trans hz0' hz))
      have HKr := Lib.hid (HK0.out.below hb HK0.out.lt)
      go_wp2_with fail
      refine (part_any ((k : Int) + 1) gl gc w.heap.size gn label A A2 n c n2 c2 key ctx m wr ((hb.cell (p := ⟨gl, 0, none⟩) bl).trans H1.out) ((hb.cell (p := ⟨gc, 0, none⟩) bc).trans H2.out) ((hb.cell (p := ⟨w.heap.size, 0, none⟩) bk).trans H0.out) ((hb.cell (p := ⟨gn, 0, none⟩) bn).trans H3.out) HSr.out hn hc hcm HTr.out hn2 hlab (by omega) (by omega) (by omega) (by omega) HKr.out).mono ?_
      rintro e w2 ⟨v2, rfl, hR2, hb2⟩
      have HR2 := Lib.hid hR2
      obtain ⟨A3, c3, rfl, _, _⟩ := hR2.cut
      have hbw2 := hb.trans (hb2.mono hz)
      have hzw2 := hbw2.size
      have HO := Lib.hid (hR.out.below hb2)
      have HOL := Lib.hid hR.out.length
      clear hR2
      go_wp2_with (at_builtin; refine wpList_app _ rfl (.tmp 36) (.tmp 40) 22 rfl w0.heap.size 5 i0 (.int .u8 0) 1 Tryd.underlying22 hi hz0 hz1 hz2 rfl .u8 _ (partsI key (strI label) ctx m k) rfl HO.out.own w2.heap.size A3 32 c3 (partI key (strI label) ctx m ((k : Int) + 1)) rfl HR2.out.seg (by unfold maxLen; rw [HOL.out]; omega) (by rw [HOL.out]; omega) hzw2 ?_; intro v4 w4 hown4 hg4 hor4; have hb4 : Below w0.heap.size w0 w4 := own_below HO.out.own hg4 hbw2 hzw2)
      go_roundw
      case measure => simp [intOf]; omega
      case rel => exact ⟨k + 1, by omega, by go_num, hown4.row (by rw [List.length_append, HOL.out, partI_length]; omega), hb4⟩
    · have hdk : decide ((k : Int) < P) = false := by simp; omega
      have hkP : k = P := by omega
      rw [hkP] at hR
      obtain ⟨A5, c5, rfl, hc5, hcm5⟩ := hR.out.cut
      have hrun := fun W => slice_hm A5 (32 * P) c5 m (by omega) W
      have hn3 := (hb.cell (p := ⟨gn, 0, none⟩) bn).trans H3.out
      clear hkP
      have hD : deriveI key (strI label) ctx m = (partsI key (strI label) ctx m P).take m := by
        rw [deriveI, if_neg (by omega), Int.toNat_natCast, HP.out]
      have HD := Lib.hid hD
      clear hD
      go_wp2_with fail
      go_ret
      refine ⟨_, rfl, ⟨A5, rfl, ?_⟩, hb0.trans (hb.mono hz0')⟩
      rw [HD.out]
      exact hR.out.seg.take hPm

/-- Key derivation for any number of bytes. -/
theorem derive_any (A A2 : Option Addr) (n c n2 c2 : Nat) (key ctx : List Int) (label : ByteArray) (m : Int) (w : World) (hs : Seg w w.heap.size .u8 A n key) (hn : n ≤ 1048576) (hc : n ≤ c) (hcm : c ≤ 9223372036854775807)
    (ht : Seg w w.heap.size .u8 A2 n2 ctx) (hn2 : n2 ≤ 1048576) (hlab : label.size ≤ 1048576) (hK : Tab w 0 .u32 kay256) :
    Calls Tryd.prog 42 #[.slice A n c, .string label, .slice A2 n2 c2, .int .i64 m] w
      fun e w' => ∃ A' k c', e = .returned (.slice A' k c') ∧ (k ≤ 1024 ∧ k ≤ c' ∧ c' ≤ maxLen) ∧ Seg w' w'.heap.size .u8 A' k (deriveI key (strI label) ctx m) ∧ Below w.heap.size w w' := by
  by_cases hm : m < 1 ∨ 1024 < m
  · refine (derive_out A A2 n c n2 c2 label m w hm).mono ?_
    rintro e w' ⟨rfl, hb⟩
    refine ⟨none, 0, 0, rfl, ⟨by omega, by omega, by unfold maxLen; omega⟩, ?_, hb⟩
    rw [deriveI, if_pos hm]
    exact Seg.nil _ _ _ _
  · obtain ⟨q, rfl⟩ : ∃ q : Nat, m = q := ⟨m.toNat, by omega⟩
    refine (derive_in A A2 n c n2 c2 key ctx label q w hs hn hc hcm ht hn2 hlab (by omega) (by omega) hK).mono ?_
    rintro e w' ⟨v, rfl, ⟨A', rfl, h⟩, hb⟩
    exact ⟨A', q, q, rfl, ⟨by omega, by omega, by unfold maxLen; omega⟩, h, hb⟩
end Go.Proofs.YtljkkejjnimjcaaDoor
namespace Go.Proofs.YtljkkejjnimjcaaDoor
open Go.RowKit

set_option maxRecDepth 1000000 in
theorem sha256_abc : sha256 [97, 98, 99] = [186, 120, 22, 191, 143, 1, 207, 234, 65, 65, 64, 222, 93, 174, 34, 35, 176, 3, 97, 163, 150, 23, 122, 156, 180, 16, 255, 97, 242, 0, 21, 173] := by decide +kernel
theorem digestI_length (alg : Int) (xs : List Int) : ((digestI alg xs).length : Int) = sizeI alg := by
  unfold digestI sizeI
  split
  · rw [sha1_length]; rfl
  · split
    · rw [sha256_length]; rfl
    · rfl

end Go.Proofs.YtljkkejjnimjcaaDoor
