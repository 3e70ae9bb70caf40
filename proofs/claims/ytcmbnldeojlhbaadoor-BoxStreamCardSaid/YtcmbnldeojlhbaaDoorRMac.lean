/-
  The reference's HMAC-SHA-256.
-/
import Derived.Test.YtcmbnldeojlhbaaDoorMac
import Derived.Test.YtcmbnldeojlhbaaDoorRefC
namespace Go.Proofs.YtcmbnldeojlhbaaDoor
open Go.RowKit

theorem keyI_get (xs : List Int) (k : Nat) (h : k < (keyOf xs).length) : (keyI xs).getD k 0 = (keyOf xs).getD k 0 := by
  simp [keyI, List.getD, List.getElem?_append, h]
theorem keyI_zero (xs : List Int) (k : Nat) (h : (keyOf xs).length ≤ k) : (keyI xs).getD k 0 = 0 := by
  rw [keyI, List.getD_eq_getElem?_getD, List.getElem?_append_right h, List.getElem?_replicate]
  split <;> rfl
set_option maxRecDepth 100000 in
set_option maxHeartbeats 4000000 in
theorem rmac_any (A A2 : Option Addr) (n c n2 c2 : Nat) (key xs : List Int) (w : World) (hs : Seg w w.heap.size .u8 A n key) (hn : n ≤ 1073741824) (ht : Seg w w.heap.size .u8 A2 n2 xs) (hn2 : n2 ≤ 1073741824) :
    Calls Tryd.prog 34 #[.slice A n c, .slice A2 n2 c2] w fun e w' => ∃ v, e = .returned v ∧ Row w' w.heap.size 5 .u8 v 32 (macI key xs) ∧ Below w.heap.size w w' := by
  obtain ⟨i0, hi, hz0, hz1, hz2⟩ := info_parts Tryd.infoU8
  have HS := Lib.hid hs
  have HT := Lib.hid ht
  clear hs ht
  generalize hP : (fun (e : Ending) (w' : World) => ∃ v, e = .returned v ∧ Row w' w.heap.size 5 .u8 v 32 (macI key xs) ∧ Below w.heap.size w w') = Post
  have HP := Lib.hid hP
  clear hP
  by_cases hlong : 64 < n
  case' pos =>
    have hd : decide ((64 : Int) < n) = true := by simp; omega
    go_enter Tryd.func34, Tryd.ntmps34
    go_wp2_with fail
    refine (rsum256_any A n c key w HS.out (by omega)).mono ?_
    rintro e w1 ⟨v1, rfl, hown1, hb1⟩
    have HR1 := Lib.hid (hown1.row (sha256_length key))
    obtain ⟨A', c', rfl, hc', hcm'⟩ := HR1.out.cut
    have HS' : Hid (Seg w1 w1.heap.size .u8 A' 32 (keyOf key)) := by
      show Seg _ _ _ _ _ _
      rw [keyOf, if_pos (by rw [HS.out.1]; exact hlong)]
      exact HR1.out.seg
    obtain ⟨n', HN⟩ : ∃ n', Hid (n' = 32) := ⟨32, rfl⟩
    rw [← HN.out] at HS' ⊢
    have hn' : n' ≤ 64 := by have := HN.out; omega
    clear hd hlong hown1 HR1 HN hc' hcm'
    go_wp2_with fail
  case' neg =>
    have hd : decide ((64 : Int) < n) = false := by simp; omega
    have hn' : n ≤ 64 := by omega
    obtain ⟨w1, HW1⟩ : ∃ w1, Hid (w1 = w) := ⟨w, rfl⟩
    have hb1 : Below w.heap.size w w1 := by rw [HW1.out]; exact Below.refl _ _
    have HS' : Hid (Seg w1 w1.heap.size .u8 A n (keyOf key)) := by
      show Seg _ _ _ _ _ _
      rw [keyOf, if_neg (by rw [HS.out.1]; exact hlong), HW1.out]
      exact HS.out
    obtain ⟨n', rfl⟩ : ∃ n', n' = n := ⟨n, rfl⟩
    obtain ⟨A', rfl⟩ : ∃ A', A' = A := ⟨A, rfl⟩
    obtain ⟨c', rfl⟩ : ∃ c', c' = c := ⟨c, rfl⟩
    rw [← HW1.out]
    go_enter Tryd.func34, Tryd.ntmps34
    go_wp2_with fail
  all_goals
    obtain ⟨K, HKI⟩ : ∃ K, Hid (keyI key = K) := ⟨_, rfl⟩
    have HKL : Hid (K.length = 64) := by show _ = _; rw [← HKI.out]; exact keyI_length key
    have hz1 := hb1.size
    obtain ⟨Z, HZ⟩ : ∃ Z, Hid (List.replicate 64 (0 : Int) = Z) := ⟨_, rfl⟩
    have hmk : ∀ W : World, (Instr.makeSlice 22 (.int .i64 64) (.int .i64 64)).run Tryd.prog W = .ok (.slice (some ⟨W.heap.size, 0, none⟩) 64 64) (W.alloc (.cells (ints .u8 Z).toArray 5)) := fun W => by
      have h := run_make_row' (P := Tryd.prog) 22 5 (.int .u8 0) 1 Tryd.underlying22 Tryd.infoU8 rfl .i64 .i64 64 (by omega) (by omega) W
      rw [made_zeros, HZ.out] at h
      exact h
    go_region
  all_goals
    generalize hw2 : World.drew _ = w2
    have hbw2 : Below w.heap.size w w2 := by rw [← hw2]; exact ((hb1.alloc hz1 _).alloc (by simp; omega) _).drew
    have hb12 : Below w1.heap.size w1 w2 := by rw [← hw2]; exact (((Below.refl _ _).alloc (Nat.le_refl _) _).alloc (by simp) _).drew
    have hB0 : Blk w2 w1.heap.size 5 .u8 Z := by rw [← hw2]; exact ((Blk.new w1 5 .u8 Z).alloc _).drew
    have hB1 : Blk w2 (w1.heap.size + 1) 5 .u8 Z := by rw [← hw2]; exact (Blk.new' _ 5 .u8 Z _ (by simp)).drew
    have HS2 := Lib.hid (HS'.out.below hb12 (Nat.le_refl _))
    have hlt0 : w1.heap.size < w2.heap.size := hB0.lt
    have hlt1 : w1.heap.size + 1 < w2.heap.size := hB1.lt
    obtain ⟨g1, HG1⟩ : ∃ g1, Hid (w1.heap.size + 1 = g1) := ⟨_, rfl⟩
    obtain ⟨g0, HG0⟩ : ∃ g0, Hid (w1.heap.size = g0) := ⟨_, rfl⟩
    have hne : g0 ≠ g1 := by rw [← HG0.out, ← HG1.out]; omega
    have hne' : g1 ≠ g0 := by rw [← HG0.out, ← HG1.out]; omega
    have hl0 : w.heap.size ≤ g0 := by rw [← HG0.out]; omega
    have hl1 : w.heap.size ≤ g1 := by rw [← HG1.out]; omega
    have hk0 : w1.heap.size ≤ g0 := by rw [← HG0.out]; omega
    have hk1 : w1.heap.size ≤ g1 := by rw [← HG1.out]; omega
    rw [HG1.out] at hB1 hlt1 ⊢
    rw [HG0.out] at hB0 hlt0 HS2 hk0 hk1 ⊢
    obtain ⟨G, hG0, hG1, HSG⟩ : ∃ G, G ≤ g0 ∧ G ≤ g1 ∧ Hid (Seg w2 G .u8 A' n' (keyOf key)) := ⟨g0, Nat.le_refl _, hk1, HS2.out⟩
    clear hw2 hmk hb1 hz1 hb12 HS' HG0 HG1 HS2 hk0 hk1
  obtain ⟨gi, rfl⟩ : ∃ gi, gi = g0 := ⟨g0, rfl⟩
  obtain ⟨go, rfl⟩ : ∃ go, go = g1 := ⟨g1, rfl⟩
  rotate_left
  obtain ⟨gi, rfl⟩ : ∃ gi, gi = g1 := ⟨g1, rfl⟩
  obtain ⟨go, rfl⟩ : ∃ go, go = g0 := ⟨g0, rfl⟩
  rotate_left
  obtain ⟨gi, rfl⟩ : ∃ gi, gi = g0 := ⟨g0, rfl⟩
  obtain ⟨go, rfl⟩ : ∃ go, go = g1 := ⟨g1, rfl⟩
  rotate_left
  obtain ⟨gi, rfl⟩ : ∃ gi, gi = g1 := ⟨g1, rfl⟩
  obtain ⟨go, rfl⟩ : ∃ go, go = g0 := ⟨g0, rfl⟩
  rotate_left
  all_goals
    have hBi : Blk w2 gi 5 .u8 Z := by assumption
    have hBo : Blk w2 go 5 .u8 Z := by assumption
    have hGi : G ≤ gi := by assumption
    have hGo : G ≤ go := by assumption
    have hwi : w.heap.size ≤ gi := by assumption
    have hwo : w.heap.size ≤ go := by assumption
    have hio : gi ≠ go := by assumption
    have hoi : go ≠ gi := by assumption
    have hli : gi < w2.heap.size := hBi.lt
    have hlo : go < w2.heap.size := hBo.lt
    have hG2 : G ≤ w2.heap.size := by omega
    rw [← HZ.out, ← fillM_zero 54 K] at hBi
    rw [← HZ.out, ← fillM_zero 92 K] at hBo
    clear hB0 hB1 hlt0 hlt1 hl0 hl1 hne hne' hG0 hG1
    go_wp2_with fail
    go_loopw [7] (fun i wr => ∃ k : Nat, k ≤ 64 ∧ i = .int .i64 k ∧ Hid (Blk wr gi 5 .u8 (fillM 54 K k)) ∧ Hid (Blk wr go 5 .u8 (fillM 92 K k)) ∧ Below G w2 wr ∧ Below w.heap.size w wr) (fun i _ => 64 - (intOf i).toNat)
    case atStart => exact ⟨0, by omega, rfl, hBi, hBo, Below.refl _ _, hbw2⟩
    case round =>
      clear hBi hBo hbw2
      obtain ⟨k, hk, rfl, hI, hO, hbG, hb⟩ := hrel
      by_cases hlt : k < 64
      · have hd64 : decide ((k : Int) < 64) = true := by simp; omega
        have hLi := fillM_length 54 K k HKL.out hk
        have hLo := fillM_length 92 K k HKL.out hk
        have hci := hI.out.cell k (by omega)
        have hco := hO.out.cell k (by omega)
        have hfi := hI.out.frozen k
        have hfo := hO.out.frozen k
        have HNi := Lib.hid (fillM_next 54 K k HKL.out hlt)
        have HNo := Lib.hid (fillM_next 92 K k HKL.out hlt)
        clear hLi hLo
        by_cases hkn : k < n'
        · have hdn : decide (k < n') = true := by simp; omega
          obtain ⟨b, off, hA, hbG2, hc⟩ := HSG.out.2 (by omega)
          have hA' := Lib.hid hA
          obtain ⟨x, hx⟩ : ∃ x, Hid (K.getD k 0 = x) := ⟨_, rfl⟩
          have hcx := (hbG.cell (p := ⟨b, off + k, none⟩) hbG2).trans (hc k hkn)
          rw [← keyI_get key k (by rw [HSG.out.1]; exact hkn), HKI.out, hx.out] at hcx
          rw [hx.out] at HNi HNo
          clear hc hA
          rw [hA'.out]
          go_wp2_with fail
          go_roundw
          case measure => simp [intOf]; omega
          case rel =>
            refine ⟨k + 1, by omega, by go_num, ?_, ?_, (hbG.setCell hGi _).setCell hGo _, (hb.setCell hwi _).setCell hwo _⟩
            · rw [← HNi.out]
              exact (hI.out.set_ k _).far hio _
            · rw [← HNo.out]
              exact (hO.out.far hoi _).set_ k _
        · have hdn : decide (k < n') = false := by simp; omega
          have hx0 : K.getD k 0 = 0 := by rw [← HKI.out]; exact keyI_zero key k (by rw [HSG.out.1]; omega)
          rw [hx0] at HNi HNo
          clear hx0
          go_wp2_with fail
          go_roundw
          case measure => simp [intOf]; omega
          case rel =>
            refine ⟨k + 1, by omega, by go_num, ?_, ?_, (hbG.setCell hGi _).setCell hGo _, (hb.setCell hwi _).setCell hwo _⟩
            · rw [← HNi.out]
              exact (hI.out.set_ k _).far hio _
            · rw [← HNo.out]
              exact (hO.out.far hoi _).set_ k _
      · have hd64 : decide ((k : Int) < 64) = false := by simp; omega
        have hk64 : k = 64 := by omega
        rw [hk64] at hI hO
        rw [fillM_full _ _ HKL.out] at hI hO
        clear hk64
        have hLM : ∀ m, (maskI m K).length = 64 := fun m => by rw [maskI_length]; exact HKL.out
        have HLM := Lib.hid hLM
        clear hLM
        have hoI : Own wr w.heap.size 5 .u8 (.slice (some ⟨gi, 0, none⟩) 64 64) (maskI 54 K) := by
          have h := Own.of_blk hI.out hwi (by unfold maxLen; rw [HLM.out]; omega)
          rw [HLM.out] at h
          exact h
        have hoO : Own wr w.heap.size 5 .u8 (.slice (some ⟨go, 0, none⟩) 64 64) (maskI 92 K) := by
          have h := Own.of_blk hO.out hwo (by unfold maxLen; rw [HLM.out]; omega)
          rw [HLM.out] at h
          exact h
        have HoI := Lib.hid hoI
        have HoO := Lib.hid hoO
        have hz := hb.size
        have HTr := Lib.hid (HT.out.below hb (Nat.le_refl _))
        clear hoI hoO hI hO
        go_wp2_with (at_builtin; refine wpList_app _ rfl (.tmp 39) (.tmp 40) 22 rfl w.heap.size 5 i0 (.int .u8 0) 1 Tryd.underlying22 hi hz0 hz1 hz2 rfl .u8 (.slice (some ⟨gi, 0, none⟩) 64 64) (maskI 54 K) rfl HoI.out w.heap.size A2 n2 c2 xs rfl HTr.out (by unfold maxLen; rw [HLM.out]; omega) (by rw [HLM.out]; omega) hz ?_; intro v3 w3 hown3 hg3 hor3; have hb3 := own_below HoI.out hg3 hb hz; have HO3 : Hid (Own w3 w.heap.size 5 .u8 (.slice (some ⟨go, 0, none⟩) 64 64) (maskI 92 K)) := World.ownsRow.kept HoO.out hg3 (.inr (fun h => hoi (by injection h))))
        have HR3 : Hid (Row w3 w.heap.size 5 .u8 v3 (64 + n2) (maskI 54 K ++ xs)) := hown3.row (by rw [List.length_append, HLM.out, HT.out.1])
        obtain ⟨A3, c3, rfl, _, _⟩ := HR3.out.cut
        have HS3 := Lib.hid HR3.out.seg
        have hz3 := hb3.size
        clear hown3 hg3 hor3
        refine (rsum256_any A3 (64 + n2) c3 _ w3 HS3.out (by omega)).mono ?_
        rintro e w4 ⟨v4, rfl, hown4, hb4⟩
        have HR4 := Lib.hid (hown4.row (sha256_length _))
        obtain ⟨A4, c4, rfl, _, _⟩ := HR4.out.cut
        have hbw4 := hb3.trans (hb4.mono hz3)
        have hz4 := hbw4.size
        have HS4 := Lib.hid HR4.out.seg
        have HO4 : Hid (Own w4 w.heap.size 5 .u8 (.slice (some ⟨go, 0, none⟩) 64 64) (maskI 92 K)) := (Row.below (n := (maskI 92 K).length) HO3.out hb4).own
        obtain ⟨D, HD⟩ : ∃ D, Hid (sha256 (maskI 54 K ++ xs) = D) := ⟨_, rfl⟩
        have HDL : Hid (D.length = 32) := by show _ = _; rw [← HD.out]; exact sha256_length _
        rw [HD.out] at HS4
        clear hown4 hb4 HR4 HS3 HR3 HO3 HoI HoO
        go_wp2_with (at_builtin; refine wpList_app _ rfl (.tmp 38) (.tmp 42) 22 rfl w.heap.size 5 i0 (.int .u8 0) 1 Tryd.underlying22 hi hz0 hz1 hz2 rfl .u8 (.slice (some ⟨go, 0, none⟩) 64 64) (maskI 92 K) rfl HO4.out w4.heap.size A4 32 c4 D rfl HS4.out (by unfold maxLen; rw [HLM.out]; omega) (by rw [HLM.out]; omega) hz4 ?_; intro v5 w5 hown5 hg5 hor5; have hb5 := own_below HO4.out hg5 hbw4 hz4)
        have HR5 : Hid (Row w5 w.heap.size 5 .u8 v5 96 (maskI 92 K ++ D)) := hown5.row (by rw [List.length_append, HLM.out, HDL.out])
        obtain ⟨A5, c5, rfl, _, _⟩ := HR5.out.cut
        have HS5 := Lib.hid HR5.out.seg
        have hz5 := hb5.size
        clear hown5 hg5 hor5
        refine (rsum256_any A5 96 c5 _ w5 HS5.out (by omega)).mono ?_
        rintro e w6 ⟨v6, rfl, hown6, hb6⟩
        have HR6 := Lib.hid ((Own.less hown6 hz5).row (sha256_length _))
        have HBZ := Lib.hid (hb5.trans (hb6.mono hz5))
        clear hown6 hb6
        go_wp2
        rw [← HP.out]
        refine ⟨v6, rfl, ?_, HBZ.out⟩
        rw [macI, innerI, HKI.out, HD.out]
        exact HR6.out
end Go.Proofs.YtcmbnldeojlhbaaDoor
