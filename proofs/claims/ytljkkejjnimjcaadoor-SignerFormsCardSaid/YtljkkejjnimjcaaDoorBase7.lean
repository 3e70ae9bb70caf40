/-
  The reference's HMAC-SHA-256.
  The reference's key derivation.
  The reference's frame.
  The reference's hash of a frame; a list of two fields that a call has laid.
  What a call hands back: a slice of bytes.
  The reference's one-time signatures: hash of a frame, first node, public value of the ends, steps of a chain.
-/
import Derived.Test.YtljkkejjnimjcaaDoorBase4
import Derived.Test.YtljkkejjnimjcaaDoorBase6
import Derived.Test.YtljkkejjnimjcaaDoorBase1
namespace Go.Proofs.YtljkkejjnimjcaaDoor
open Go.RowKit

theorem keyI_get (xs : List Int) (k : Nat) (h : k < (keyOf xs).length) : (keyI xs).getD k 0 = (keyOf xs).getD k 0 := by
  simp [keyI, List.getD, List.getElem?_append, h]
theorem keyI_zero (xs : List Int) (k : Nat) (h : (keyOf xs).length ≤ k) : (keyI xs).getD k 0 = 0 := by
  rw [keyI, List.getD_eq_getElem?_getD, List.getElem?_append_right h, List.getElem?_replicate]
  split <;> rfl
set_option maxRecDepth 100000 in
set_option maxHeartbeats 4000000 in
theorem rmac_any (A A2 : Option Addr) (n c n2 c2 : Nat) (key xs : List Int) (w : World) (hs : Seg w w.heap.size .u8 A n key) (hn : n ≤ 1073741824) (ht : Seg w w.heap.size .u8 A2 n2 xs) (hn2 : n2 ≤ 1073741824) :
    Calls Tryd.prog 68 #[.slice A n c, .slice A2 n2 c2] w fun e w' => ∃ v, e = .returned v ∧ Row w' w.heap.size 5 .u8 v 32 (macI key xs) ∧ Below w.heap.size w w' := by
  obtain ⟨i0, hi, hz0, hz1, hz2⟩ := info_parts Tryd.infoU8
  have HS := Lib.hid hs
  have HT := Lib.hid ht
  clear hs ht
  generalize hP : (fun (e : Ending) (w' : World) => ∃ v, e = .returned v ∧ Row w' w.heap.size 5 .u8 v 32 (macI key xs) ∧ Below w.heap.size w w') = Post
  have HP := Lib.hid hP
  clear hP
  by_cases hlong : 64 < n
  case' pos =>
    have hd : decide ((64 : Int) < n) = true := by simp; omega
    go_enter Tryd.func68, Tryd.ntmps68
    go_wp2_with fail
    refine (rsum256_any A n c key w HS.out (by omega)).mono ?_
    rintro e w1 ⟨v1, rfl, hown1, hb1⟩
    have HR1 := Lib.hid (hown1.row (sha256_length key))
    obtain ⟨A', c', rfl, hc', hcm'⟩ := HR1.out.cut
    have HS' : Hid (Seg w1 w1.heap.size .u8 A' 32 (keyOf key)) := by
      show Seg _ _ _ _ _ _
      rw [keyOf, if_pos (by rw [HS.out.1]; exact hlong)]
      exact HR1.out.seg
    obtain ⟨n', HN⟩ : ∃ n', Hid (n' = 32) := ⟨32, rfl⟩
    rw [← HN.out] at HS' ⊢
    have hn' : n' ≤ 64 := by have := HN.out; omega
    clear hd hlong hown1 HR1 HN hc' hcm'
    go_wp2_with fail
  case' neg =>
    have hd : decide ((64 : Int) < n) = false := by simp; omega
    have hn' : n ≤ 64 := by omega
    obtain ⟨w1, HW1⟩ : ∃ w1, Hid (w1 = w) := ⟨w, rfl⟩
    have hb1 : Below w.heap.size w w1 := by rw [HW1.out]; exact Below.refl _ _
    have HS' : Hid (Seg w1 w1.heap.size .u8 A n (keyOf key)) := by
      show Seg _ _ _ _ _ _
      rw [keyOf, if_neg (by rw [HS.out.1]; exact hlong), HW1.out]
      exact HS.out
    obtain ⟨n', rfl⟩ : ∃ n', n' = n := ⟨n, rfl⟩
    obtain ⟨A', rfl⟩ : ∃ A', A' = A := ⟨A, rfl⟩
    obtain ⟨c', rfl⟩ : ∃ c', c' = c := ⟨c, rfl⟩
    rw [← HW1.out]
    go_enter Tryd.func68, Tryd.ntmps68
    go_wp2_with fail
  all_goals
    obtain ⟨K, HKI⟩ : ∃ K, Hid (keyI key = K) := ⟨_, rfl⟩
    have HKL : Hid (K.length = 64) := by show _ = _; rw [← HKI.out]; exact keyI_length key
    have hz1 := hb1.size
    obtain ⟨Z, HZ⟩ : ∃ Z, Hid (List.replicate 64 (0 : Int) = Z) := ⟨_, rfl⟩
    have hmk : ∀ W : World, (Instr.makeSlice 22 (.int .i64 64) (.int .i64 64)).run Tryd.prog W = .ok (.slice (some ⟨W.heap.size, 0, none⟩) 64 64) (W.alloc (.cells (ints .u8 Z).toArray 5)) := fun W => by
      have h := run_make_row' (P := Tryd.prog) 22 5 (.int .u8 0) 1 Tryd.underlying22 Tryd.infoU8 rfl .i64 .i64 64 (by omega) (by omega) W
      rw [made_zeros, HZ.out] at h
      exact h
    go_region
  all_goals
    generalize hw2 : World.drew _ = w2
    have hbw2 : Below w.heap.size w w2 := by rw [← hw2]; exact ((hb1.alloc hz1 _).alloc (by simp; omega) _).drew
    have hb12 : Below w1.heap.size w1 w2 := by rw [← hw2]; exact (((Below.refl _ _).alloc (Nat.le_refl _) _).alloc (by simp) _).drew
    have hB0 : Blk w2 w1.heap.size 5 .u8 Z := by rw [← hw2]; exact ((Blk.new w1 5 .u8 Z).alloc _).drew
    have hB1 : Blk w2 (w1.heap.size + 1) 5 .u8 Z := by rw [← hw2]; exact (Blk.new' _ 5 .u8 Z _ (by simp)).drew
    have HS2 := Lib.hid (HS'.out.below hb12 (Nat.le_refl _))
    have hlt0 : w1.heap.size < w2.heap.size := hB0.lt
    have hlt1 : w1.heap.size + 1 < w2.heap.size := hB1.lt
    obtain ⟨g1, HG1⟩ : ∃ g1, Hid (w1.heap.size + 1 = g1) := ⟨_, rfl⟩
    obtain ⟨g0, HG0⟩ : ∃ g0, Hid (w1.heap.size = g0) := ⟨_, rfl⟩
    have hne : g0 ≠ g1 := by rw [← HG0.out, ← HG1.out]; omega
    have hne' : g1 ≠ g0 := by rw [← HG0.out, ← HG1.out]; omega
    have hl0 : w.heap.size ≤ g0 := by rw [← HG0.out]; omega
    have hl1 : w.heap.size ≤ g1 := by rw [← HG1.out]; omega
    have hk0 : w1.heap.size ≤ g0 := by rw [← HG0.out]; omega
    have hk1 : w1.heap.size ≤ g1 := by rw [← HG1.out]; omega
    rw [HG1.out] at hB1 hlt1 ⊢
    rw [HG0.out] at hB0 hlt0 HS2 hk0 hk1 ⊢
    obtain ⟨G, hG0, hG1, HSG⟩ : ∃ G, G ≤ g0 ∧ G ≤ g1 ∧ Hid (Seg w2 G .u8 A' n' (keyOf key)) := ⟨g0, Nat.le_refl _, hk1, HS2.out⟩
    clear hw2 hmk hb1 hz1 hb12 HS' HG0 HG1 HS2 hk0 hk1
  obtain ⟨gi, rfl⟩ : ∃ gi, gi = g0 := ⟨g0, rfl⟩
  obtain ⟨go, rfl⟩ : ∃ go, go = g1 := ⟨g1, rfl⟩
  rotate_left
  obtain ⟨gi, rfl⟩ : ∃ gi, gi = g1 := ⟨g1, rfl⟩
  obtain ⟨go, rfl⟩ : ∃ go, go = g0 := ⟨g0, rfl⟩
  rotate_left
  obtain ⟨gi, rfl⟩ : ∃ gi, gi = g0 := ⟨g0, rfl⟩
  obtain ⟨go, rfl⟩ : ∃ go, go = g1 := ⟨g1, rfl⟩
  rotate_left
  obtain ⟨gi, rfl⟩ : ∃ gi, gi = g1 := ⟨g1, rfl⟩
  obtain ⟨go, rfl⟩ : ∃ go, go = g0 := ⟨g0, rfl⟩
  rotate_left
  all_goals
    have hBi : Blk w2 gi 5 .u8 Z := by assumption
    have hBo : Blk w2 go 5 .u8 Z := by assumption
    have hGi : G ≤ gi := by assumption
    have hGo : G ≤ go := by assumption
    have hwi : w.heap.size ≤ gi := by assumption
    have hwo : w.heap.size ≤ go := by assumption
    have hio : gi ≠ go := by assumption
    have hoi : go ≠ gi := by assumption
    have hli : gi < w2.heap.size := hBi.lt
    have hlo : go < w2.heap.size := hBo.lt
    have hG2 : G ≤ w2.heap.size := by omega
    rw [← HZ.out, ← fillM_zero 54 K] at hBi
    rw [← HZ.out, ← fillM_zero 92 K] at hBo
    clear hB0 hB1 hlt0 hlt1 hl0 hl1 hne hne' hG0 hG1
    go_wp2_with fail
    go_loopw [7] (fun i wr => ∃ k : Nat, k ≤ 64 ∧ i = .int .i64 k ∧ Hid (Blk wr gi 5 .u8 (fillM 54 K k)) ∧ Hid (Blk wr go 5 .u8 (fillM 92 K k)) ∧ Below G w2 wr ∧ Below w.heap.size w wr) (fun i _ => 64 - (intOf i).toNat)
    case atStart => exact ⟨0, by omega, rfl, hBi, hBo, Below.refl _ _, hbw2⟩
    case round =>
      clear hBi hBo hbw2
      obtain ⟨k, hk, rfl, hI, hO, hbG, hb⟩ := hrel
      by_cases hlt : k < 64
      · have hd64 : decide ((k : Int) < 64) = true := by simp; omega
        have hLi := fillM_length 54 K k HKL.out hk
        have hLo := fillM_length 92 K k HKL.out hk
        have hci := hI.out.cell k (by omega)
        have hco := hO.out.cell k (by omega)
        have hfi := hI.out.frozen k
        have hfo := hO.out.frozen k
        have HNi := Lib.hid (fillM_next 54 K k HKL.out hlt)
        have HNo := Lib.hid (fillM_next 92 K k HKL.out hlt)
        clear hLi hLo
        by_cases hkn : k < n'
        · have hdn : decide (k < n') = true := by simp; omega
          obtain ⟨b, off, hA, hbG2, hc⟩ := HSG.out.2 (by omega)
          have hA' := Lib.hid hA
          obtain ⟨x, hx⟩ : ∃ x, Hid (K.getD k 0 = x) := ⟨_, rfl⟩
          have hcx := (hbG.cell (p := ⟨b, off + k, none⟩) hbG2).trans (hc k hkn)
          rw [← keyI_get key k (by rw [HSG.out.1]; exact hkn), HKI.out, hx.out] at hcx
          rw [hx.out] at HNi HNo
          clear hc hA
          rw [hA'.out]
          go_wp2_with fail
          go_roundw
          case measure => simp [intOf]; omega
          case rel =>
            refine ⟨k + 1, by omega, by go_num, ?_, ?_, (hbG.setCell hGi _).setCell hGo _, (hb.setCell hwi _).setCell hwo _⟩
            · rw [← HNi.out]
              exact (hI.out.set_ k _).far hio _
            · rw [← HNo.out]
              exact (hO.out.far hoi _).set_ k _
        · have hdn : decide (k < n') = false := by simp; omega
          have hx0 : K.getD k 0 = 0 := by rw [← HKI.out]; exact keyI_zero key k (by rw [HSG.out.1]; omega)
          rw [hx0] at HNi HNo
          clear hx0
          go_wp2_with fail
          go_roundw
          case measure => simp [intOf]; omega
          case rel =>
            refine ⟨k + 1, by omega, by go_num, ?_, ?_, (hbG.setCell hGi _).setCell hGo _, (hb.setCell hwi _).setCell hwo _⟩
            · rw [← HNi.out]
              exact (hI.out.set_ k _).far hio _
            · rw [← HNo.out]
              exact (hO.out.far hoi _).set_ k _
      · have hd64 : decide ((k : Int) < 64) = false := by simp; omega
        have hk64 : k = 64 := by omega
        rw [hk64] at hI hO
        rw [fillM_full _ _ HKL.out] at hI hO
        clear hk64
        have hLM : ∀ m, (maskI m K).length = 64 := fun m => by rw [maskI_length]; exact HKL.out
        have HLM := Lib.hid hLM
        clear hLM
        have hoI : Own wr w.heap.size 5 .u8 (.slice (some ⟨gi, 0, none⟩) 64 64) (maskI 54 K) := by
          have h := Own.of_blk hI.out hwi (by unfold maxLen; rw [HLM.out]; omega)
          rw [HLM.out] at h
          exact h
        have hoO : Own wr w.heap.size 5 .u8 (.slice (some ⟨go, 0, none⟩) 64 64) (maskI 92 K) := by
          have h := Own.of_blk hO.out hwo (by unfold maxLen; rw [HLM.out]; omega)
          rw [HLM.out] at h
          exact h
        have HoI := Lib.hid hoI
        have HoO := Lib.hid hoO
        have hz := hb.size
        have HTr := Lib.hid (HT.out.below hb (Nat.le_refl _))
        clear hoI hoO hI hO
        go_wp2_with (at_builtin; refine wpList_app _ rfl (.tmp 39) (.tmp 40) 22 rfl w.heap.size 5 i0 (.int .u8 0) 1 Tryd.underlying22 hi hz0 hz1 hz2 rfl .u8 (.slice (some ⟨gi, 0, none⟩) 64 64) (maskI 54 K) rfl HoI.out w.heap.size A2 n2 c2 xs rfl HTr.out (by unfold maxLen; rw [HLM.out]; omega) (by rw [HLM.out]; omega) hz ?_; intro v3 w3 hown3 hg3 hor3; have hb3 := own_below HoI.out hg3 hb hz; have HO3 : Hid (Own w3 w.heap.size 5 .u8 (.slice (some ⟨go, 0, none⟩) 64 64) (maskI 92 K)) := World.ownsRow.kept HoO.out hg3 (.inr (fun h => hoi (by injection h))))
        have HR3 : Hid (Row w3 w.heap.size 5 .u8 v3 (64 + n2) (maskI 54 K ++ xs)) := hown3.row (by rw [List.length_append, HLM.out, HT.out.1])
        obtain ⟨A3, c3, rfl, _, _⟩ := HR3.out.cut
        have HS3 := Lib.hid HR3.out.seg
        have hz3 := hb3.size
        clear hown3 hg3 hor3
        refine (rsum256_any A3 (64 + n2) c3 _ w3 HS3.out (by omega)).mono ?_
        rintro e w4 ⟨v4, rfl, hown4, hb4⟩
        have HR4 := Lib.hid (hown4.row (sha256_length _))
        obtain ⟨A4, c4, rfl, _, _⟩ := HR4.out.cut
        have hbw4 := hb3.trans (hb4.mono hz3)
        have hz4 := hbw4.size
        have HS4 := Lib.hid HR4.out.seg
        have HO4 : Hid (Own w4 w.heap.size 5 .u8 (.slice (some ⟨go, 0, none⟩) 64 64) (maskI 92 K)) := (Row.below (n := (maskI 92 K).length) HO3.out hb4).own
        obtain ⟨D, HD⟩ : ∃ D, Hid (sha256 (maskI 54 K ++ xs) = D) := ⟨_, rfl⟩
        have HDL : Hid (D.length = 32) := by show _ = _; rw [← HD.out]; exact sha256_length _
        rw [HD.out] at HS4
        clear hown4 hb4 HR4 HS3 HR3 HO3 HoI HoO
        go_wp2_with (at_builtin; refine wpList_app _ rfl (.tmp 38) (.tmp 42) 22 rfl w.heap.size 5 i0 (.int .u8 0) 1 Tryd.underlying22 hi hz0 hz1 hz2 rfl .u8 (.slice (some ⟨go, 0, none⟩) 64 64) (maskI 92 K) rfl HO4.out w4.heap.size A4 32 c4 D rfl HS4.out (by unfold maxLen; rw [HLM.out]; omega) (by rw [HLM.out]; omega) hz4 ?_; intro v5 w5 hown5 hg5 hor5; have hb5 := own_below HO4.out hg5 hbw4 hz4)
        have HR5 : Hid (Row w5 w.heap.size 5 .u8 v5 96 (maskI 92 K ++ D)) := hown5.row (by rw [List.length_append, HLM.out, HDL.out])
        obtain ⟨A5, c5, rfl, _, _⟩ := HR5.out.cut
        have HS5 := Lib.hid HR5.out.seg
        have hz5 := hb5.size
        clear hown5 hg5 hor5
        refine (rsum256_any A5 96 c5 _ w5 HS5.out (by omega)).mono ?_
        rintro e w6 ⟨v6, rfl, hown6, hb6⟩
        have HR6 := Lib.hid ((Own.less hown6 hz5).row (sha256_length _))
        have HBZ := Lib.hid (hb5.trans (hb6.mono hz5))
        clear hown6 hb6
        go_wp2
        rw [← HP.out]
        refine ⟨v6, rfl, ?_, HBZ.out⟩
        rw [macI, innerI, HKI.out, HD.out]
        exact HR6.out
end Go.Proofs.YtljkkejjnimjcaaDoor
namespace Go.Proofs.YtljkkejjnimjcaaDoor
open Go.RowKit

set_option maxHeartbeats 1000000 in
theorem rfour_any (x : Int) (w : World) (h0 : 0 ≤ x) (h1 : x ≤ 1073741824) :
    Calls Tryd.prog 67 #[.int .i64 x] w fun e w' => ∃ v, e = .returned v ∧ Row w' w.heap.size 5 .u8 v 4 (be4 x) ∧ Below w.heap.size w w' := by
  have HE : Hid (be4 x = [x / 16777216, x / 65536 % 256, x / 256 % 256, x % 256]) := by
    show _ = _
    rw [be4, show x / 16777216 % 256 = x / 16777216 by omega]
  go_enter Tryd.func67, Tryd.ntmps67
  go_wp2_with fail
  go_ret
  refine ⟨_, rfl, ?_, (Below.refl _ _).alloc (Nat.le_refl _) _⟩
  rw [HE.out]
  exact (Own.of_blk (Blk.new w 5 .u8 [x / 16777216, x / 65536 % 256, x / 256 % 256, x % 256]) (Nat.le_refl _) (by unfold maxLen; simp)).row rfl

set_option maxRecDepth 100000 in
set_option maxHeartbeats 2000000 in
theorem rderive_out (A A2 : Option Addr) (n c n2 c2 : Nat) (label : ByteArray) (m : Int) (w : World) (hm : m < 1 ∨ 1024 < m) :
    Calls Tryd.prog 53 #[.slice A n c, .string label, .slice A2 n2 c2, .int .i64 m] w
      fun e w' => e = .returned (.slice none 0 0) ∧ Below w.heap.size w w' := by
  go_enter Tryd.func53, Tryd.ntmps53
  rcases hm with hm | hm
  · have hd : decide (m < 1) = true := by simpa using hm
    go_wp2_with fail
    go_ret
    exact ⟨rfl, Below.refl _ _⟩
  · have hd : decide (m < 1) = false := by simp; omega
    have hd2 : decide (1024 < m) = true := by simpa using hm
    go_wp2_with fail
    go_ret
    exact ⟨rfl, Below.refl _ _⟩

set_option maxRecDepth 100000 in
set_option maxHeartbeats 4000000 in
theorem rderive_in (A A2 : Option Addr) (n c n2 c2 : Nat) (key ctx : List Int) (label : ByteArray) (m : Nat) (w : World) (hs : Seg w w.heap.size .u8 A n key) (hn : n ≤ 1048576)
    (ht : Seg w w.heap.size .u8 A2 n2 ctx) (hn2 : n2 ≤ 1048576) (hlab : label.size ≤ 1048576) (hm0 : 1 ≤ m) (hm1 : m ≤ 1024) :
    Calls Tryd.prog 53 #[.slice A n c, .string label, .slice A2 n2 c2, .int .i64 (m : Int)] w
      fun e w' => ∃ A' c', e = .returned (.slice A' m c') ∧ (m ≤ c' ∧ c' ≤ maxLen) ∧ Seg w' w'.heap.size .u8 A' m (deriveI key (strI label) ctx m) ∧ Below w.heap.size w w' := by
  obtain ⟨i0, hi, hz0, hz1, hz2⟩ := info_parts Tryd.infoU8
  have HS := Lib.hid hs
  have HT := Lib.hid ht
  have hd : decide ((m : Int) < 1) = false := by simp; omega
  have hd2 : decide ((1024 : Int) < m) = false := by simp; omega
  have HL1 := Lib.hid (strI_length label)
  have HTL := Lib.hid ht.1
  clear hs ht
  go_enter Tryd.func53, Tryd.ntmps53
  go_wp2_with fail
  go_loopw [9, 10] (fun v i wr => ∃ (k : Nat) (A' : Option Addr) (c' : Nat), 32 * k < m + 32 ∧ i = .int .i64 ((k : Int) + 1) ∧ v = .slice A' (32 * k) c' ∧ Hid (32 * k ≤ c' ∧ c' ≤ maxLen) ∧ Hid (Row wr w.heap.size 5 .u8 v (32 * k) (partsI key (strI label) ctx m k)) ∧ Below w.heap.size w wr) (fun v _ _ => m - lenOf v)
  case atStart => exact ⟨0, none, 0, by omega, rfl, rfl, by show _ ∧ _; unfold maxLen; omega, nil_row _ _ _ _, Below.refl _ _⟩
  case round =>
    obtain ⟨k, A', c', hk, rfl, rfl, hkc, hR, hb⟩ := hrel
    have hz := hb.size
    by_cases hlt : 32 * k < m
    · have hdk : decide (32 * k < m) = true := by simp; omega
      have hdk' : decide ((32 * (k : Int)) < m) = true := by simp; omega
      have HTr := Lib.hid ((HT.out.below hb (Nat.le_refl _)).more hz)
      have HSr := Lib.hid ((HS.out.below hb (Nat.le_refl _)).more hz)
      have HLN1 : Hid ((be4 ((k : Int) + 1) ++ strI label).length = 4 + label.size) := by show _ = _; rw [List.length_append, HL1.out]; rfl
      have HLN2 : Hid ((be4 ((k : Int) + 1) ++ strI label ++ [0]).length = 5 + label.size) := by show _ = _; rw [List.length_append, HLN1.out]; simp; omega
      have HLN3 : Hid ((be4 ((k : Int) + 1) ++ strI label ++ [0] ++ ctx).length = 5 + label.size + n2) := by show _ = _; rw [List.length_append, HLN2.out, HTL.out]
      have HLN4 : Hid ((be4 ((k : Int) + 1) ++ strI label ++ [0] ++ ctx ++ be4 (8 * (m : Int))).length = 9 + label.size + n2) := by show _ = _; rw [List.length_append, HLN3.out]; simp [be4]; omega
      go_wp2_with fail
      refine (rfour_any ((k : Int) + 1) wr (by omega) (by omega)).mono ?_
      rintro e w1 ⟨v1, rfl, hR1, hb1⟩
      have HR1 := Lib.hid hR1
      have hzb1 := hb1.size
      clear hR1
      go_wp2_with (first
        | (at_builtin; refine wpList_apps _ rfl (.tmp 25) (.tmp 26) 22 9 rfl wr.heap.size 5 i0 Tryd.underlying22 Tryd.underlying9 hi hz0 hz1 hz2 v1 4 (be4 ((k : Int) + 1)) rfl HR1.out label rfl (by omega) hzb1 ?_; intro v2 w2 hR2 hg2; have hb2 : Below wr.heap.size wr w2 := own_below HR1.out.own hg2 hb1 hzb1; have HR2 := Lib.hid hR2.own; have hzb2 := hb2.size; clear hR2 hg2)
        | (at_builtin; refine wpList_app _ rfl (.tmp 28) (.tmp 29) 22 rfl wr.heap.size 5 i0 (.int .u8 0) 1 Tryd.underlying22 hi hz0 hz1 hz2 rfl .u8 v2 (be4 ((k : Int) + 1) ++ strI label) rfl (HR2.out.alloc _) (w2.heap.size + 1) (some ⟨w2.heap.size, 0, none⟩) 1 1 [0] rfl ((Seg.of_blk (Blk.new w2 5 .u8 [0])).more (by simp)) (by unfold maxLen; rw [HLN1.out]; omega) (by rw [HLN1.out]; omega) (by simp; omega) ?_; intro v3 w3 hown3 hg3 hor3; have hb3 : Below wr.heap.size wr w3 := own_below (HR2.out.alloc _) hg3 (hb2.alloc hzb2 _) (by simp; omega); have HR3 := Lib.hid hown3; have hzb3 := hb3.size; have HT3 := Lib.hid (HTr.out.below hb3 (Nat.le_refl _)); clear hown3 hg3 hor3)
        | (at_builtin; refine wpList_app _ rfl (.tmp 30) (.tmp 31) 22 rfl wr.heap.size 5 i0 (.int .u8 0) 1 Tryd.underlying22 hi hz0 hz1 hz2 rfl .u8 v3 (be4 ((k : Int) + 1) ++ strI label ++ [0]) rfl HR3.out wr.heap.size A2 n2 c2 ctx rfl HT3.out (by unfold maxLen; rw [HLN2.out]; omega) (by rw [HLN2.out]; omega) hzb3 ?_; intro v4 w4 hown4 hg4 hor4; have hb4 : Below wr.heap.size wr w4 := own_below HR3.out hg4 hb3 hzb3; have HR4 := Lib.hid (hown4.row HLN3.out); have hzb4 := hb4.size; clear hown4 hg4 hor4))
      refine (rfour_any (8 * (m : Int)) w4 (by omega) (by omega)).mono ?_
      rintro e w5 ⟨v5, rfl, hR5, hb5⟩
      obtain ⟨A5, c5, rfl, _, _⟩ := hR5.cut
      have HS5 := Lib.hid hR5.seg
      have hb5' : Below wr.heap.size wr w5 := hb4.trans (hb5.mono hzb4)
      have hzb5 := hb5'.size
      have HR45 := Lib.hid (HR4.out.below hb5)
      clear hR5
      go_wp2_with (at_builtin; refine wpList_app _ rfl (.tmp 32) (.tmp 35) 22 rfl wr.heap.size 5 i0 (.int .u8 0) 1 Tryd.underlying22 hi hz0 hz1 hz2 rfl .u8 v4 (be4 ((k : Int) + 1) ++ strI label ++ [0] ++ ctx) rfl HR45.out.own w5.heap.size A5 4 c5 (be4 (8 * (m : Int))) rfl HS5.out (by unfold maxLen; rw [HLN3.out]; omega) (by rw [HLN3.out]; omega) hzb5 ?_; intro v6 w6 hown6 hg6 hor6; have hb6 : Below wr.heap.size wr w6 := own_below HR45.out.own hg6 hb5' hzb5; have hR6 := hown6.row HLN4.out; have hzb6 := hb6.size; clear hown6 hg6 hor6)
      obtain ⟨A6, c6, rfl, _, _⟩ := hR6.cut
      have HS6 := Lib.hid hR6.seg
      clear hR6
      go_wp2_with fail
      refine (rmac_any A A6 n c (9 + label.size + n2) c6 key _ w6 ((HSr.out.below hb6 (Nat.le_refl _)).more hzb6) (by omega) HS6.out (by omega)).mono ?_
      rintro e w7 ⟨v7, rfl, hR7, hb7⟩
      have HR7 : Hid (Row w7 w6.heap.size 5 .u8 v7 32 (partI key (strI label) ctx m ((k : Int) + 1))) := hR7
      obtain ⟨A7, c7, rfl, _, _⟩ := HR7.out.cut
      have hb7' : Below wr.heap.size wr w7 := hb6.trans (hb7.mono hzb6)
      have hbw7 := hb.trans (hb7'.mono hz)
      have hzb7 := hbw7.size
      have HOut := Lib.hid (hR.out.below hb7')
      have HOL := Lib.hid hR.out.length
      clear hR7
      go_wp2_with (at_builtin; refine wpList_app _ rfl (.tmp 37) (.tmp 40) 22 rfl w.heap.size 5 i0 (.int .u8 0) 1 Tryd.underlying22 hi hz0 hz1 hz2 rfl .u8 _ (partsI key (strI label) ctx m k) rfl HOut.out.own w7.heap.size A7 32 c7 (partI key (strI label) ctx m ((k : Int) + 1)) rfl HR7.out.seg (by unfold maxLen; rw [HOL.out]; omega) (by rw [HOL.out]; omega) hzb7 ?_; intro v8 w8 hown8 hg8 hor8; have hb8 : Below w.heap.size w w8 := own_below HOut.out.own hg8 hbw7 hzb7; have HR8 : Hid (Row w8 w.heap.size 5 .u8 v8 (32 * (k + 1)) (partsI key (strI label) ctx m (k + 1))) := hown8.row (by rw [List.length_append, HOL.out, partI_length]; omega); clear hown8 hg8 hor8)
      obtain ⟨A8, c8, rfl, hc8, hm8⟩ := HR8.out.cut
      have HC8 : Hid (32 * (k + 1) ≤ c8 ∧ c8 ≤ maxLen) := ⟨hc8, hm8⟩
      go_roundw
      case measure => simp [lenOf]; omega
      case rel => exact ⟨k + 1, A8, c8, by omega, by go_num, rfl, HC8.out, HR8.out, hb8⟩
    · have hdk : decide (32 * k < m) = false := by simp; omega
      have hdk' : decide ((32 * (k : Int)) < m) = false := by simp; omega
      have hmc : m ≤ c' := by have := hkc.out.1; omega
      have hD : deriveI key (strI label) ctx m = (partsI key (strI label) ctx m k).take m := by
        rw [deriveI, if_neg (by omega), Int.toNat_natCast, show (m + 31) / 32 = k by omega]
      have HD := Lib.hid hD
      clear hD
      go_wp2_with fail
      go_ret
      refine ⟨A', c', rfl, ⟨hmc, hkc.out.2⟩, ?_, hb⟩
      rw [HD.out]
      exact hR.out.seg.take (by omega)

/-- The reference's key derivation for any number of bytes. -/
theorem rderive_any (A A2 : Option Addr) (n c n2 c2 : Nat) (key ctx : List Int) (label : ByteArray) (m : Int) (w : World) (hs : Seg w w.heap.size .u8 A n key) (hn : n ≤ 1048576)
    (ht : Seg w w.heap.size .u8 A2 n2 ctx) (hn2 : n2 ≤ 1048576) (hlab : label.size ≤ 1048576) :
    Calls Tryd.prog 53 #[.slice A n c, .string label, .slice A2 n2 c2, .int .i64 m] w
      fun e w' => ∃ A' k c', e = .returned (.slice A' k c') ∧ (k ≤ 1024 ∧ k ≤ c' ∧ c' ≤ maxLen) ∧ Seg w' w'.heap.size .u8 A' k (deriveI key (strI label) ctx m) ∧ Below w.heap.size w w' := by
  by_cases hm : m < 1 ∨ 1024 < m
  · refine (rderive_out A A2 n c n2 c2 label m w hm).mono ?_
    rintro e w' ⟨rfl, hb⟩
    refine ⟨none, 0, 0, rfl, ⟨by omega, by omega, by unfold maxLen; omega⟩, ?_, hb⟩
    rw [deriveI, if_pos hm]
    exact Seg.nil _ _ _ _
  · obtain ⟨q, rfl⟩ : ∃ q : Nat, m = q := ⟨m.toNat, by omega⟩
    refine (rderive_in A A2 n c n2 c2 key ctx label q w hs hn ht hn2 hlab (by omega) (by omega)).mono ?_
    rintro e w' ⟨A', c', rfl, hcc, h, hb⟩
    exact ⟨A', q, c', rfl, ⟨by omega, hcc.1, hcc.2⟩, h, hb⟩
end Go.Proofs.YtljkkejjnimjcaaDoor
namespace Go.Proofs.YtljkkejjnimjcaaDoor
open Go.RowKit

theorem be4_mod (x : Int) : be4 (x % 4294967296) = be4 x := by
  simp only [be4, List.cons.injEq, and_true]
  omega

set_option maxRecDepth 100000 in
set_option maxHeartbeats 2000000 in
theorem rframe_any (tag : Int) (A : Option Addr) (n c : Nat) (fs : List (List Int)) (w : World) (hs : Fields w w.heap.size A n fs) (hn : n ≤ 1048576) (ht : tot fs ≤ 1099511627776) :
    Calls Tryd.prog 74 #[.int .i64 tag, .slice A n c] w fun e w' => ∃ v, e = .returned v ∧ Own w' w.heap.size 5 .u8 v (frameI tag fs) ∧ Below w.heap.size w w' := by
  obtain ⟨i0, hi, hz0, hz1, hz2⟩ := info_parts Tryd.infoU8
  have HS := Lib.hid hs
  have HLN := Lib.hid hs.1
  clear hs
  have hown0 : Own (w.alloc (.cells #[.int .u8 (tag % 256)] 5)) w.heap.size 5 .u8 (.slice (some ⟨w.heap.size, 0, none⟩) 1 1) [tag % 256] :=
    ⟨rfl, .inr ⟨w.heap.size, 1, #[.int .u8 (tag % 256)], rfl, Nat.le_refl _, heap_alloc_new w _, Nat.le_refl _, by unfold maxLen; omega, rfl, rfl⟩⟩
  have hb0 : Below w.heap.size w (w.alloc (.cells #[.int .u8 (tag % 256)] 5)) := (Below.refl _ _).alloc (Nat.le_refl _) _
  go_enter Tryd.func74, Tryd.ntmps74
  go_wp2_with fail
  go_loopw [5, 6] (fun v i wr => ∃ k : Nat, k ≤ n ∧ i = .int .i64 k ∧ Own wr w.heap.size 5 .u8 v (frameI tag (fs.take k)) ∧ Below w.heap.size w wr) (fun _ i _ => n - (intOf i).toNat)
  case atStart => exact ⟨0, by omega, rfl, hown0, hb0⟩
  case round =>
    clear hown0 hb0
    obtain ⟨j, hj, rfl, hown, hb⟩ := hrel
    have hz := hb.size
    have hfl : (frameI tag (fs.take j)).length ≤ 1 + 4 * n + 1099511627776 := by
      rw [frameI_length]
      have := tot_take_le fs j
      have : (fs.take j).length ≤ n := by simp; omega
      omega
    by_cases hjt : j < n
    · obtain ⟨b, off, rfl, hbl, hc⟩ := HS.out.2 (by omega)
      obtain ⟨A', n', c', h1, h2, hnc, hcm⟩ := hc j hjt
      have hn' : n' ≤ 1099511627776 := by have := h2.1; have := tot_get_le fs j (by rw [HLN.out]; exact hjt); omega
      obtain ⟨f, hf⟩ : ∃ f, Hid (fs.getD j [] = f) := ⟨_, rfl⟩
      rw [hf.out] at h2
      have h1r := (hb.cell (p := ⟨b, off + j, none⟩) hbl).trans h1
      have h1q : Hid (∀ W, Below w.heap.size w W → W.cell? ⟨b, off + j, none⟩ = some (.slice A' n' c')) := fun W hW => (hW.cell (p := ⟨b, off + j, none⟩) hbl).trans h1
      have HF := Lib.hid h2
      have hd : decide ((j : Int) < n) = true := by simp; omega
      clear hc h2 h1
      go_wp2_with (first
        | (at_builtin; refine wpList_app _ rfl (.tmp 22) (.tmp 34) 22 rfl w.heap.size 5 i0 (.int .u8 0) 1 Tryd.underlying22 hi hz0 hz1 hz2 rfl .u8 _ (frameI tag (fs.take j)) rfl (hown.alloc _) (wr.heap.size + 1) (some ⟨wr.heap.size, 0, none⟩) 4 4 (be4 n') rfl ((Seg.of_blk (Blk.new wr 5 .u8 (be4 n'))).more (by simp)) (by unfold maxLen; omega) (by omega) (by simp; omega) ?_; intro v4 w4 hown4 hg4 hor4; have hb4 := own_below (hown.alloc _) hg4 (hb.alloc hz _) (by simp; omega); have hz4 := hb4.size; have hs4 := HF.out.below hb4 (Nat.le_refl _); have h14 := h1q.out _ hb4; clear hg4 hor4)
        | (at_builtin; refine wpList_app _ rfl (.tmp 36) (.tmp 40) 22 rfl w.heap.size 5 i0 (.int .u8 0) 1 Tryd.underlying22 hi hz0 hz1 hz2 rfl .u8 _ (frameI tag (fs.take j) ++ be4 n') rfl hown4 _ A' n' c' f rfl hs4 (by unfold maxLen; rw [List.length_append]; simp [be4]; omega) (by rw [List.length_append]; simp [be4]; omega) hz4 ?_; intro v5 w5 hown5 hg5 hor5; have hb5 := own_below hown4 hg5 hb4 hz4; clear hg5 hor5 hs4))
      go_roundw
      case measure => simp [intOf]; omega
      case rel =>
        refine ⟨j + 1, by omega, by go_num, ?_, hb5⟩
        rw [frameI_take _ _ _ (by rw [HLN.out]; exact hjt), hf.out, HF.out.1, be4_mod]
        exact hown5
    · have hd : decide ((j : Int) < n) = false := by simp; omega
      have hw : fs.take j = fs := List.take_of_length_le (by rw [HLN.out]; omega)
      rw [hw] at hown
      clear hw hfl
      go_wp2_with fail
      go_ret
      exact ⟨_, rfl, hown, hb⟩
end Go.Proofs.YtljkkejjnimjcaaDoor
namespace Go.Proofs.YtljkkejjnimjcaaDoor
open Go.RowKit

set_option maxHeartbeats 1000000 in
theorem rhash_any (tag : Int) (A : Option Addr) (n c : Nat) (fs : List (List Int)) (w : World) (hs : Fields w w.heap.size A n fs) (hn : n ≤ 1048576) (ht : tot fs ≤ 1073741824) :
    Calls Tryd.prog 66 #[.int .i64 tag, .slice A n c] w fun e w' => ∃ v, e = .returned v ∧ Row w' w.heap.size 5 .u8 v 32 (sha256 (frameI tag fs)) ∧ Below w.heap.size w w' := by
  have HS := Lib.hid hs
  have HLN := Lib.hid hs.1
  clear hs
  go_enter Tryd.func66, Tryd.ntmps66
  go_wp2_with fail
  refine (rframe_any tag A n c fs w HS.out hn (by omega)).mono ?_
  rintro e w1 ⟨v1, rfl, hown1, hb1⟩
  obtain ⟨A1, c1, rfl, h1, h2⟩ := Own.cut hown1
  have HSEG := Lib.hid (Seg.of_own hown1)
  have hfl : (frameI tag fs).length ≤ 1099511627776 := by rw [frameI_length, HLN.out]; omega
  have hz := hb1.size
  clear hown1
  go_wp2_with fail
  refine (rsum256_any A1 _ c1 _ w1 HSEG.out hfl).mono ?_
  rintro e w2 ⟨v2, rfl, hown2, hb2⟩
  go_wp2
  go_ret
  exact ⟨_, rfl, (Own.less hown2 hz).row (sha256_length _), hb1.trans (hb2.mono hz)⟩

theorem hash_head {w' : World} {v : Value} {tag : Int} {fs : List (List Int)} {B : Nat} {e : TypeId} (h : Row w' B e .u8 v 32 (sha256 (frameI tag fs))) :
    ∃ A c, v = .slice A 32 c ∧ 32 ≤ c ∧ c ≤ maxLen ∧ Seg w' w'.heap.size .u8 A 16 (hash16 tag fs) := by
  obtain ⟨A, c, hv, h1, h2⟩ := h.cut
  subst hv
  exact ⟨A, c, rfl, h1, h2, h.seg.take (by omega)⟩

theorem hash_new {w' : World} {v : Value} {tag : Int} {fs : List (List Int)} {B : Nat} {e : TypeId} (h : Row w' B e .u8 v 32 (sha256 (frameI tag fs))) :
    ∃ A c, v = .slice A 32 c ∧ 32 ≤ c ∧ c ≤ maxLen ∧ Seg w' w'.heap.size .u8 A 16 (hash16 tag fs) ∧ ∀ a, A = some a → B ≤ a.block := by
  obtain ⟨A, c, hv, h1, h2⟩ := h.cut
  subst hv
  exact ⟨A, c, rfl, h1, h2, h.seg.take (by omega), h.from_ (by omega)⟩

/-- Numbers that the call has laid, and behind them a list of two fields of which they are the first. -/
theorem laid_two (w : World) (bs : List Int) (A : Option Addr) (n c : Nat) (xs : List Int) (tb tf : TypeId) (hs : Seg w w.heap.size .u8 A n xs) (hc : n ≤ c) (hcm : c ≤ maxLen) (hb : bs.length ≤ 1048576) :
    let wq := (w.alloc (.cells (ints .u8 bs).toArray tb)).alloc (.cells #[.slice (some ⟨w.heap.size, 0, none⟩) bs.length bs.length, .slice A n c] tf)
    Fields wq wq.heap.size (some ⟨w.heap.size + 1, 0, none⟩) 2 [bs, xs] ∧ Below w.heap.size w wq := by
  intro wq
  have hb0 : Below w.heap.size w wq := ((Below.refl _ _).alloc (Nat.le_refl _) _).alloc (by simp) _
  have hB : Blk wq w.heap.size tb .u8 bs := (Blk.new w tb .u8 bs).alloc _
  have hS : Seg wq wq.heap.size .u8 (some ⟨w.heap.size, 0, none⟩) bs.length bs := Seg.of_blk hB
  refine ⟨fields2 wq (w.heap.size + 1) _ _ _ _ _ _ bs xs ?_ ?_ hS ((hs.below hb0 (Nat.le_refl _)).more hb0.size) (Nat.le_refl _) (by unfold maxLen; omega) hc hcm, hb0⟩
  · exact cell_made _ _ _ _ 0 _ (by simp) rfl
  · exact cell_made _ _ _ _ 1 _ (by simp) rfl

/-- The same with three fields. -/
theorem laid_three (w : World) (bs : List Int) (A A2 : Option Addr) (n c n2 c2 : Nat) (xs ys : List Int) (tb tf : TypeId) (hs : Seg w w.heap.size .u8 A n xs) (hc : n ≤ c) (hcm : c ≤ maxLen) (ht : Seg w w.heap.size .u8 A2 n2 ys) (hc2 : n2 ≤ c2) (hcm2 : c2 ≤ maxLen) (hb : bs.length ≤ 1048576) :
    let wq := (w.alloc (.cells (ints .u8 bs).toArray tb)).alloc (.cells #[.slice (some ⟨w.heap.size, 0, none⟩) bs.length bs.length, .slice A n c, .slice A2 n2 c2] tf)
    Fields wq wq.heap.size (some ⟨w.heap.size + 1, 0, none⟩) 3 [bs, xs, ys] ∧ Below w.heap.size w wq := by
  intro wq
  have hb0 : Below w.heap.size w wq := ((Below.refl _ _).alloc (Nat.le_refl _) _).alloc (by simp) _
  have hB : Blk wq w.heap.size tb .u8 bs := (Blk.new w tb .u8 bs).alloc _
  have hS : Seg wq wq.heap.size .u8 (some ⟨w.heap.size, 0, none⟩) bs.length bs := Seg.of_blk hB
  refine ⟨fields3 wq (w.heap.size + 1) _ _ _ _ _ _ _ _ _ bs xs ys ?_ ?_ ?_ hS ((hs.below hb0 (Nat.le_refl _)).more hb0.size) ((ht.below hb0 (Nat.le_refl _)).more hb0.size) (Nat.le_refl _) (by unfold maxLen; omega) hc hcm hc2 hcm2, hb0⟩
  · exact cell_made _ _ _ _ 0 _ (by simp) rfl
  · exact cell_made _ _ _ _ 1 _ (by simp) rfl
  · exact cell_made _ _ _ _ 2 _ (by simp) rfl
end Go.Proofs.YtljkkejjnimjcaaDoor
namespace Go.Proofs.YtljkkejjnimjcaaDoor
open Go.RowKit

/-- What a call hands back: a slice of n bytes. -/
def Handed (w w' : World) (n : Nat) (xs : List Int) (e : Ending) : Prop := ∃ A c, e = .returned (.slice A n c) ∧ n ≤ c ∧ c ≤ maxLen ∧ Seg w' w'.heap.size .u8 A n xs ∧ Below w.heap.size w w'
/-- The same, in memory of the call's own. -/
def HandedN (w w' : World) (n : Nat) (xs : List Int) (e : Ending) : Prop := ∃ A c, e = .returned (.slice A n c) ∧ n ≤ c ∧ c ≤ maxLen ∧ Seg w' w'.heap.size .u8 A n xs ∧ Below w.heap.size w w' ∧ (0 < n → ∀ a, A = some a → w.heap.size ≤ a.block)
theorem HandedN.old {w w' : World} {n : Nat} {xs : List Int} {e : Ending} (h : HandedN w w' n xs e) : Handed w w' n xs e := by
  obtain ⟨A, c, h1, h2, h3, h4, h5, _⟩ := h
  exact ⟨A, c, h1, h2, h3, h4, h5⟩
end Go.Proofs.YtljkkejjnimjcaaDoor
namespace Go.Proofs.YtljkkejjnimjcaaDoor
open Go.RowKit

set_option maxRecDepth 100000 in
set_option maxHeartbeats 1000000 in
theorem rstart_any (A : Option Addr) (n c : Nat) (seed : List Int) (leaf k : Int) (w : World) (hs : Seg w w.heap.size .u8 A n seed) (hn : n ≤ 1048576) :
    Calls Tryd.prog 52 #[.slice A n c, .int .i64 leaf, .int .i64 k] w fun e w' => Handed w w' 16 (startI seed leaf k) e := by
  have HS := Lib.hid hs
  clear hs
  go_enter Tryd.func52, Tryd.ntmps52
  go_wp2_with fail
  generalize hwq : World.alloc _ _ = wq
  have hb0 : Below w.heap.size w wq := by rw [← hwq]; exact (Below.refl _ _).alloc (Nat.le_refl _) _
  have hS : Seg wq wq.heap.size .u8 (some ⟨w.heap.size, 0, none⟩) 2 [leaf % 256, k % 256] := by rw [← hwq]; exact Seg.of_blk (Blk.new w 5 .u8 [leaf % 256, k % 256])
  have hz := hb0.size
  clear hwq
  refine (rderive_any A _ n c 2 2 seed [leaf % 256, k % 256] labelC 16 wq ((HS.out.below hb0 (Nat.le_refl _)).more hz) hn hS (by omega) (show (5 : Nat) ≤ 1048576 by omega)).mono ?_
  rintro e w1 ⟨A', k', c', rfl, ⟨_, hkc, hkm⟩, hsD, hb1⟩
  have hl := startI_length seed leaf k
  have hk16 : k' = 16 := by rw [← hsD.1]; exact hl
  rw [hk16] at hsD hkc ⊢
  have HD := Lib.hid hsD
  clear hsD hl hS hk16
  go_wp2_with fail
  go_ret
  exact ⟨A', c', rfl, hkc, hkm, HD.out, hb0.trans (hb1.mono hz)⟩

set_option maxRecDepth 100000 in
set_option maxHeartbeats 1000000 in
theorem rvalue_new (A : Option Addr) (n c : Nat) (ends : List Int) (leaf : Int) (w : World) (hs : Seg w w.heap.size .u8 A n ends) (hn : n ≤ 1048576) (hc : n ≤ c) (hcm : c ≤ maxLen) :
    Calls Tryd.prog 58 #[.int .i64 leaf, .slice A n c] w fun e w' => HandedN w w' 16 (valueI leaf ends) e := by
  have HL := Lib.hid hs.1
  have HF := Lib.hid (laid_two w [leaf % 256] A n c ends 5 22 hs hc hcm (by simp))
  clear hs
  go_enter Tryd.func58, Tryd.ntmps58
  go_wp2_with fail
  obtain ⟨wq, HWQ⟩ : ∃ wq, Hid ((w.alloc (.cells (ints .u8 [leaf % 256]).toArray 5)).alloc (.cells #[.slice (some ⟨w.heap.size, 0, none⟩) 1 1, .slice A n c] 22) = wq) := ⟨_, rfl⟩
  have HF1 : Hid (Fields wq wq.heap.size (some ⟨w.heap.size + 1, 0, none⟩) 2 [[leaf % 256], ends]) := by show Fields _ _ _ _ _; rw [← HWQ.out]; exact HF.out.1
  have hb0 : Below w.heap.size w wq := by rw [← HWQ.out]; exact HF.out.2
  have hz := hb0.size
  show Calls Tryd.prog 66 _ ((w.alloc (.cells (ints .u8 [leaf % 256]).toArray 5)).alloc (.cells #[.slice (some ⟨w.heap.size, 0, none⟩) 1 1, .slice A n c] 22)) _
  rw [HWQ.out]
  refine (rhash_any 2 _ 2 2 _ wq HF1.out (by omega) (by simp [tot]; rw [HL.out]; omega)).mono ?_
  rintro e w1 ⟨v1, rfl, hR1, hb1⟩
  obtain ⟨A1, c1, rfl, h32, hm1, hseg, hnew⟩ := hash_new hR1
  have HSEG := Lib.hid hseg
  have h16 : 16 ≤ c1 := by omega
  clear hseg hR1
  go_wp2_with fail
  go_ret
  exact ⟨A1, c1, rfl, h16, hm1, HSEG.out, hb0.trans (hb1.mono hz), fun _ a ha => Nat.le_trans hz (hnew a ha)⟩

theorem rvalue_any (A : Option Addr) (n c : Nat) (ends : List Int) (leaf : Int) (w : World) (hs : Seg w w.heap.size .u8 A n ends) (hn : n ≤ 1048576) (hc : n ≤ c) (hcm : c ≤ maxLen) :
    Calls Tryd.prog 58 #[.int .i64 leaf, .slice A n c] w fun e w' => Handed w w' 16 (valueI leaf ends) e :=
  (rvalue_new A n c ends leaf w hs hn hc hcm).mono fun _ _ h => h.old

set_option maxRecDepth 100000 in
set_option maxHeartbeats 2000000 in
/-- Some steps of a chain. -/
theorem rsteps_any (A : Option Addr) (n c : Nat) (xs : List Int) (leaf k p to : Int) (w : World) (hs : Seg w w.heap.size .u8 A n xs) (hn : n ≤ 1048576) (hc : n ≤ c) (hcm : c ≤ maxLen) (hp : 0 ≤ p) (hp2 : p ≤ 1048576) (hto : to ≤ 1048576) :
    Calls Tryd.prog 51 #[.int .i64 leaf, .int .i64 k, .int .i64 p, .int .i64 to, .slice A n c] w fun e w' => ∃ n', n' ≤ 1048576 ∧ Handed w w' n' (chainI leaf k p xs (to - p).toNat) e := by
  have HS := Lib.hid hs
  clear hs
  go_enter Tryd.func51, Tryd.ntmps51
  go_wp2_with fail
  go_loopw [4, 11] (fun v i wr => ∃ (j : Nat) (A' : Option Addr) (n' c' : Nat), j ≤ (to - p).toNat ∧ i = .int .i64 (p + j) ∧ v = .slice A' n' c' ∧ n' ≤ 1048576 ∧ n' ≤ c' ∧ Hid (c' ≤ maxLen) ∧ Hid (Seg wr wr.heap.size .u8 A' n' (chainI leaf k p xs j)) ∧ Below w.heap.size w wr) (fun _ i _ => (to - intOf i).toNat)
  case atStart => exact ⟨0, A, n, c, by omega, by go_num, rfl, hn, hc, hcm, HS.out, Below.refl _ _⟩
  case round =>
    obtain ⟨j, A', n', c', hj, rfl, rfl, hn', hc', hcm', hseg, hb⟩ := hrel
    have hz := hb.size
    by_cases hlt : p + j < to
    · have hd : decide (p + (j : Int) < to) = true := by simpa using hlt
      obtain ⟨X, HX⟩ : ∃ X, Hid (chainI leaf k p xs j = X) := ⟨_, rfl⟩
      rw [HX.out] at hseg
      have HXL := Lib.hid hseg.out.1
      have HF := Lib.hid (laid_two wr [leaf % 256, k % 256, (p + (j : Int)) % 256] A' n' c' X 5 22 hseg.out hc' hcm'.out (by simp))
      go_wp2_with fail
      obtain ⟨wq, HWQ⟩ : ∃ wq, Hid ((wr.alloc (.cells (ints .u8 [leaf % 256, k % 256, (p + (j : Int)) % 256]).toArray 5)).alloc (.cells #[.slice (some ⟨wr.heap.size, 0, none⟩) 3 3, .slice A' n' c'] 22) = wq) := ⟨_, rfl⟩
      have HF1 : Hid (Fields wq wq.heap.size (some ⟨wr.heap.size + 1, 0, none⟩) 2 [[leaf % 256, k % 256, (p + (j : Int)) % 256], X]) := by show Fields _ _ _ _ _; rw [← HWQ.out]; exact HF.out.1
      have hb0 : Below wr.heap.size wr wq := by rw [← HWQ.out]; exact HF.out.2
      have hz0 := hb0.size
      show Calls Tryd.prog 66 _ ((wr.alloc (.cells (ints .u8 [leaf % 256, k % 256, (p + (j : Int)) % 256]).toArray 5)).alloc (.cells #[.slice (some ⟨wr.heap.size, 0, none⟩) 3 3, .slice A' n' c'] 22)) _
      rw [HWQ.out]
      refine (rhash_any 1 _ 2 2 _ wq HF1.out (by omega) (by simp [tot]; rw [HXL.out]; omega)).mono ?_
      rintro e w1 ⟨v1, rfl, hR1, hb1⟩
      obtain ⟨A1, c1, rfl, h32, hm1, hseg1⟩ := hash_head hR1
      have HS1 : Hid (Seg w1 w1.heap.size .u8 A1 16 (chainI leaf k p xs (j + 1))) := by
        show Seg _ _ _ _ _ _
        rw [chainI, HX.out]
        exact hseg1
      have h16 : 16 ≤ c1 := by omega
      have hbw1 := hb.trans ((hb0.trans (hb1.mono hz0)).mono hz)
      clear hseg1 hR1 hseg
      go_wp2_with fail
      go_roundw
      case measure => simp [intOf]; omega
      case rel => exact ⟨j + 1, A1, 16, c1, by omega, by go_num, rfl, by omega, h16, hm1, HS1.out, hbw1⟩
    · have hd : decide (p + (j : Int) < to) = false := by simpa using hlt
      have hjt : (to - p).toNat = j := by omega
      have HJ := Lib.hid hjt
      clear hjt
      go_wp2_with fail
      go_ret
      refine ⟨n', hn', A', c', rfl, hc', hcm'.out, ?_, hb⟩
      rw [HJ.out]
      exact hseg.out

set_option maxRecDepth 100000 in
set_option maxHeartbeats 2000000 in
theorem rpublic_new (A : Option Addr) (n c : Nat) (seed : List Int) (leaf : Int) (w : World) (hs : Seg w w.heap.size .u8 A n seed) (hn : n ≤ 1048576) :
    Calls Tryd.prog 45 #[.slice A n c, .int .i64 leaf] w fun e w' => ∃ n', n' ≤ 16 ∧ HandedN w w' n' (publicI seed leaf) e := by
  obtain ⟨i0, hi, hz0, hz1, hz2⟩ := info_parts Tryd.infoU8
  have HS := Lib.hid hs
  clear hs
  by_cases hbad : leaf < 0 ∨ 255 < leaf
  · have hP : Hid (publicI seed leaf = []) := by show _ = _; rw [publicI, if_pos hbad]
    rcases (by omega : leaf < 0 ∨ (0 ≤ leaf ∧ 255 < leaf)) with h1 | ⟨h1, h2⟩
    focus
      have hd : decide (leaf < 0) = true := by simpa using h1
    rotate_left
    focus
      have hd : decide (leaf < 0) = false := by simp; omega
      have hd2 : decide (255 < leaf) = true := by simpa using h2
    rotate_left
    all_goals
      clear hbad
      go_enter Tryd.func45, Tryd.ntmps45
      go_wp2_with fail
      go_ret
      rw [hP.out]
      exact ⟨0, by omega, none, 0, rfl, by omega, by unfold maxLen; omega, Seg.nil _ _ _ _, Below.refl _ _, fun h => absurd h (by omega)⟩
  · have hd : decide (leaf < 0) = false := by simp; omega
    have hd2 : decide (255 < leaf) = false := by simp; omega
    obtain ⟨F, HF⟩ : ∃ F : Nat → List Int, Hid (F = fun (k : Nat) => chainI leaf k 0 (startI seed leaf k) 15) := ⟨_, rfl⟩
    have hP : Hid (publicI seed leaf = valueI leaf (catI F 35)) := by show _ = _; rw [publicI, if_neg hbad, HF.out]
    have HFL : Hid (∀ k, (F k).length = 16) := by
      intro k
      rw [HF.out]
      exact chainI_length _ _ _ _ (startI_length _ _ _) _
    clear hbad
    go_enter Tryd.func45, Tryd.ntmps45
    go_wp2_with fail
    go_loopw [5, 6] (fun v i wr => ∃ k : Nat, k ≤ 35 ∧ i = .int .i64 k ∧ Hid (Row wr w.heap.size 5 .u8 v (16 * k) (catI F k)) ∧ Below w.heap.size w wr) (fun _ i _ => 35 - (intOf i).toNat)
    case atStart => exact ⟨0, by omega, rfl, nil_row _ _ _ _, Below.refl _ _⟩
    case round =>
      obtain ⟨k, hk, rfl, hR, hb⟩ := hrel
      have hz := hb.size
      by_cases hlt : k < 35
      · have hdk : decide ((k : Int) < 35) = true := by simp; omega
        have HSr := Lib.hid ((HS.out.below hb (Nat.le_refl _)).more hz)
        have HRL := Lib.hid hR.out.length
        go_wp2_with fail
        refine (rstart_any A n c seed leaf k wr HSr.out hn).mono ?_
        rintro e w1 ⟨A1, c1, rfl, hc1, hm1, hseg1, hb1⟩
        have hzw1 := hb1.size
        have HS1 := Lib.hid hseg1
        clear hseg1
        go_wp2_with fail
        refine (rsteps_any A1 16 c1 _ leaf k 0 15 w1 HS1.out (by omega) hc1 hm1 (by omega) (by omega) (by omega)).mono ?_
        rintro e w2 ⟨n2, hn2, A2, c2, rfl, hc2, hm2, hseg2, hb2⟩
        have hbr2 := hb1.trans (hb2.mono hzw1)
        have hbw2 := hb.trans (hbr2.mono hz)
        have hzw2 := hbw2.size
        have HS2 : Hid (Seg w2 w2.heap.size .u8 A2 n2 (F k)) := by show Seg _ _ _ _ _ _; rw [HF.out]; exact hseg2
        have hn16 : n2 = 16 := by rw [← HS2.out.1]; exact HFL.out k
        have HR2 := Lib.hid (hR.out.below hbr2)
        clear hseg2
        rw [hn16] at HS2 hc2 ⊢
        clear hn16
        go_wp2_with (at_builtin; refine wpList_app _ rfl (.tmp 17) (.tmp 24) 22 rfl w.heap.size 5 i0 (.int .u8 0) 1 Tryd.underlying22 hi hz0 hz1 hz2 rfl .u8 _ (catI F k) rfl HR2.out.own w2.heap.size A2 16 c2 (F k) rfl HS2.out (by unfold maxLen; rw [HRL.out]; omega) (by rw [HRL.out]; omega) hzw2 ?_; intro v3 w3 hown3 hg3 hor3; have hb3 : Below w.heap.size w w3 := own_below HR2.out.own hg3 hbw2 hzw2; have HR3 : Hid (Row w3 w.heap.size 5 .u8 v3 (16 * (k + 1)) (catI F (k + 1))) := hown3.row (by rw [List.length_append, HRL.out, HFL.out k]; omega); clear hown3 hg3 hor3)
        go_roundw
        case measure => simp [intOf]; omega
        case rel => exact ⟨k + 1, by omega, by go_num, HR3.out, hb3⟩
      · have hdk : decide ((k : Int) < 35) = false := by simp; omega
        have hk35 : k = 35 := by omega
        rw [hk35] at hR
        clear hk35
        obtain ⟨A4, c4, rfl, hc4, hm4⟩ := hR.out.cut
        go_wp2_with fail
        refine (rvalue_new A4 560 c4 (catI F 35) leaf wr hR.out.seg (by omega) hc4 hm4).mono ?_
        rintro e w2 ⟨A2, c2, rfl, hc2, hm2, hseg2, hb2, hnew2⟩
        have HS2 := Lib.hid hseg2
        have HN2 := Lib.hid hnew2
        clear hseg2 hnew2
        go_wp2
        go_ret
        rw [hP.out]
        exact ⟨16, by omega, A2, c2, rfl, hc2, hm2, HS2.out, hb.trans (hb2.mono hz), fun h a ha => Nat.le_trans hz (HN2.out h a ha)⟩
theorem rpublic_any (A : Option Addr) (n c : Nat) (seed : List Int) (leaf : Int) (w : World) (hs : Seg w w.heap.size .u8 A n seed) (hn : n ≤ 1048576) :
    Calls Tryd.prog 45 #[.slice A n c, .int .i64 leaf] w fun e w' => ∃ n', n' ≤ 16 ∧ Handed w w' n' (publicI seed leaf) e :=
  (rpublic_new A n c seed leaf w hs hn).mono fun _ _ ⟨n', h1, h2⟩ => ⟨n', h1, h2.old⟩
end Go.Proofs.YtljkkejjnimjcaaDoor
