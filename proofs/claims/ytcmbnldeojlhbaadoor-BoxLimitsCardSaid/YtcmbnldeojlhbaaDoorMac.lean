/-
  HMAC-SHA-256 by the program: the closure that masks the key and hashes, and Mac itself.
-/
import Derived.Test.YtcmbnldeojlhbaaDoorKey
import Derived.Test.YtcmbnldeojlhbaaDoorSame
namespace Go.Proofs.YtcmbnldeojlhbaaDoor
open Go.RowKit

/-- The first k bytes masked, the others still zero. -/
def fillM (m : Int) (K : List Int) (k : Nat) : List Int := maskI m (K.take k) ++ List.replicate (64 - k) 0
theorem fillM_zero (m : Int) (K : List Int) : fillM m K 0 = List.replicate 64 0 := by simp [fillM, maskI]
theorem fillM_full (m : Int) (K : List Int) (h : K.length = 64) : fillM m K 64 = maskI m K := by
  rw [fillM, List.take_of_length_le (by omega)]; simp
theorem fillM_length (m : Int) (K : List Int) (k : Nat) (h : K.length = 64) (hk : k ≤ 64) : (fillM m K k).length = 64 := by
  simp [fillM, maskI]; omega
theorem fillM_next (m : Int) (K : List Int) (k : Nat) (h : K.length = 64) (hk : k < 64) : (fillM m K k).set k (bits .xor .u8 (K.getD k 0) m) = fillM m K (k + 1) := by
  have e : K.take (k + 1) = K.take k ++ [K.getD k 0] := by rw [List.take_add_one, List.getElem?_eq_getElem (by omega)]; simp [List.getD, h, hk]
  have hr : 64 - k = (64 - (k + 1)) + 1 := by omega
  rw [fillM, fillM, e, hr, List.replicate_succ, List.set_append_right _ _ (by simp [maskI]; omega)]
  have hl : (maskI m (K.take k)).length = k := by simp [maskI]; omega
  rw [hl, Nat.sub_self]
  simp [maskI]

set_option maxRecDepth 100000 in
set_option maxHeartbeats 4000000 in
theorem masked_any (m : Int) (A : Option Addr) (n c g : Nat) (K xs : List Int) (w : World) (hk : Blk w g 65 .u8 K) (hkl : K.length = 64) (hs : Seg w w.heap.size .u8 A n xs) (hn : n ≤ 1073741824) (hK : Tab w 0 .u32 kay256) :
    Calls Tryd.prog 60 #[.int .u8 m, .slice A n c, .pointer (some ⟨g, 0, none⟩)] w fun e w' => ∃ v, e = .returned v ∧ Row w' w.heap.size 5 .u8 v 32 (sha256 (maskI m K ++ xs)) ∧ Below w.heap.size w w' := by
  obtain ⟨i0, hi, hz0, hz1, hz2⟩ := info_parts Tryd.infoU8
  have HS := Lib.hid hs
  have HK := Lib.hid hK
  have HB := Lib.hid hk
  have HKL := Lib.hid hkl
  have hgl := hk.lt
  clear hs hK hk hkl
  go_enter Tryd.func60, Tryd.ntmps60
  go_wp2_with (at_make; refine wpList_make_cap rfl _ _ 22 rfl w.heap.size 5 i0 .u8 Tryd.underlying22 hi hz0 hz1 hz2 .i64 .i64 64 (64 + n) _ _ rfl rfl (by omega) (by omega) (by omega) (by omega) (Nat.le_refl _) ?_; intro w1 hR1 hb1 hz1)
  have hz1' := hb1.size
  rw [← fillM_zero m K] at hR1
  clear hz1
  go_loopw [12] (fun i wr => ∃ k : Nat, k ≤ 64 ∧ i = .int .i64 k ∧ Hid (Row wr w.heap.size 5 .u8 (.slice (some ⟨w.heap.size, 0, none⟩) 64 (64 + n)) 64 (fillM m K k)) ∧ Below w.heap.size w wr) (fun i _ => 64 - (intOf i).toNat)
  case atStart => exact ⟨0, by omega, rfl, hR1, hb1⟩
  case round =>
    clear hR1 hb1 hz1'
    obtain ⟨k, hk, rfl, hR, hb⟩ := hrel
    have hz := hb.size
    by_cases hlt : k < 64
    · have hd : decide ((k : Int) < 64) = true := by simp; omega
      obtain ⟨x, hx⟩ : ∃ x, Hid (K.getD k 0 = x) := ⟨_, rfl⟩
      have hcx := (HB.out.below hb hgl).cell k (by rw [HKL.out]; exact hlt)
      rw [hx.out] at hcx
      have hcm := hR.out.cell k hlt
      have hfm := hR.out.frozen k
      go_wp2_with fail
      go_roundw
      case measure => simp [intOf]; omega
      case rel =>
        refine ⟨k + 1, by omega, by go_num, ?_, hb.setCell (by simp) _⟩
        show Row _ _ _ _ _ _ _
        rw [← fillM_next m K k HKL.out hlt, hx.out]
        exact hR.out.set_ k _
    · have hd : decide ((k : Int) < 64) = false := by simp; omega
      have hfull : fillM m K k = maskI m K := by
        obtain rfl : k = 64 := by omega
        exact fillM_full m K HKL.out
      rw [hfull] at hR
      clear hfull
      have HO := Lib.hid hR.out.own
      have HSr := Lib.hid (HS.out.below hb (Nat.le_refl _))
      have HMK : Hid ((maskI m K).length = 64) := by show _ = _; rw [maskI_length]; exact HKL.out
      have HKr := Lib.hid (HK.out.below hb HK.out.lt)
      go_wp2_with (at_builtin; refine wpList_app _ rfl (.tmp 24) (.tmp 25) 22 rfl w.heap.size 5 i0 (.int .u8 0) 1 Tryd.underlying22 hi hz0 hz1 hz2 rfl .u8 _ (maskI m K) rfl HO.out w.heap.size A n c xs rfl HSr.out (by unfold maxLen; rw [HMK.out]; omega) (by rw [HMK.out]; omega) hz ?_; intro v3 w3 hown3 hg3 hor3; have hb3 := own_below HO.out hg3 hb hz)
      obtain ⟨A3, c3, rfl, h1, h2⟩ := Own.cut hown3
      have HL3 : Hid ((maskI m K ++ xs).length = 64 + n) := by show _ = _; rw [List.length_append, HMK.out, HS.out.1]
      have hseg := Seg.of_own hown3
      have HK3 := Lib.hid (HK.out.below hb3 HK.out.lt)
      rw [HL3.out] at hseg h1 ⊢
      unfold maxLen at h2
      have HSEG := Lib.hid hseg
      have hz3 := hb3.size
      clear hseg hown3 hg3 hor3
      go_wp2_with fail
      refine (sum_any 1 A3 (64 + n) c3 (maskI m K ++ xs) w3 HSEG.out (by omega) h1 (by omega) HK3.out).mono ?_
      rintro e w4 ⟨v4, rfl, hown4, hb4⟩
      go_wp2
      go_ret
      exact ⟨_, rfl, (Own.less hown4 hz3).row (sha256_length _), hb3.trans (hb4.mono hz3)⟩

set_option maxRecDepth 100000 in
set_option maxHeartbeats 4000000 in
/-- The program's HMAC. -/
theorem mac_any (A A2 : Option Addr) (n c n2 c2 : Nat) (key xs : List Int) (w : World) (hs : Seg w w.heap.size .u8 A n key) (hn : n ≤ 1073741824) (hc : n ≤ c) (hcm : c ≤ 9223372036854775807) (ht : Seg w w.heap.size .u8 A2 n2 xs) (hn2 : n2 ≤ 1073741824) (hK : Tab w 0 .u32 kay256) :
    Calls Tryd.prog 41 #[.slice A n c, .slice A2 n2 c2] w fun e w' => ∃ v, e = .returned v ∧ Row w' w.heap.size 5 .u8 v 32 (macI key xs) ∧ Below w.heap.size w w' := by
  have HS := Lib.hid hs
  have HT := Lib.hid ht
  have HK := Lib.hid hK
  clear hs ht hK
  go_enter Tryd.func41, Tryd.ntmps41
  go_wp2_with fail
  refine (blockKey_any A n c key w HS.out (by omega) hc hcm HK.out).mono ?_
  rintro e w1 ⟨rfl, hb1⟩
  have HKL := Lib.hid (keyI_length key)
  obtain ⟨K, HKI⟩ : ∃ K, Hid (keyI key = K) := ⟨_, rfl⟩
  rw [HKI.out] at HKL ⊢
  have hz1 := hb1.size
  have hz64 := Tryd.zeroK64
  go_wp2_with (refine wpList_storeInts rfl 65 (.tmp 5) (.tmp 8) rfl w1.heap.size rfl 65 .u8 _ K rfl (Blk.new w1 65 .u8 (List.replicate 64 0)) 64 Tryd.sizeK64 (by simp) HKL.out ?_)
  generalize hwk : World.setRow _ _ _ = wk
  have hbk : Below w.heap.size w wk := by rw [← hwk]; exact below_setRow' (hb1.alloc hz1 _) hz1 _
  have hBk : Blk wk w1.heap.size 65 .u8 K := by rw [← hwk]; exact (Blk.new w1 65 .u8 (List.replicate 64 0)).setRow K
  have hzk := hbk.size
  obtain ⟨g, HG⟩ : ∃ g, Hid (w1.heap.size = g) := ⟨_, rfl⟩
  rw [HG.out] at hBk hz1 ⊢
  clear hwk hz64
  refine (masked_any 54 A2 n2 c2 g K xs wk hBk HKL.out ((HT.out.below hbk (Nat.le_refl _)).more hzk) hn2 (HK.out.below hbk HK.out.lt)).mono ?_
  rintro e w2 ⟨v2, rfl, hR2, hb2⟩
  obtain ⟨A3, c3, rfl, h1, h2⟩ := hR2.cut
  unfold maxLen at h2
  have hb2' := hbk.trans (hb2.mono hzk)
  have HS2 := Lib.hid hR2.seg
  have HB2 := Lib.hid (hBk.below hb2 hBk.lt)
  have hz2 := hb2'.size
  clear hR2 hBk
  go_wp2_with fail
  refine (masked_any 92 A3 32 c3 g K _ w2 HB2.out HKL.out HS2.out (by omega) (HK.out.below hb2' HK.out.lt)).mono ?_
  rintro e w3 ⟨v3, rfl, hR3, hb3⟩
  go_wp2
  go_ret
  refine ⟨_, rfl, ?_, hb2'.trans (hb3.mono hz2)⟩
  rw [macI, innerI, HKI.out]
  exact (Own.less hR3.own hz2).row (sha256_length _)
end Go.Proofs.YtcmbnldeojlhbaaDoor
