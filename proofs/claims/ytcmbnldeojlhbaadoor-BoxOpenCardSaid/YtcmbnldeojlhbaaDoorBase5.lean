/-
  The program's key derivation.
  How long a frame is.
  The program's frames.
  The program's keystream, combined in a closure, and its code.
  The program's Seal and Open.
  The sanity check with which each statement of layer 4 begins, and whether byte strings are short enough.
  Small facts on what a call hands back: a row of bytes that is not empty lies in a block; lengths of digests; the digest of abc.
  The reference's padding, its table and the bytes of words.
-/
import Derived.Test.YtcmbnldeojlhbaaDoorBase3
import Derived.Test.YtcmbnldeojlhbaaDoorBase4
import Derived.Test.YtcmbnldeojlhbaaDoorBase1
import Derived.Lib.SlBytesConst
namespace Go.Proofs.YtcmbnldeojlhbaaDoor
open Go.RowKit

set_option maxRecDepth 100000 in
set_option maxHeartbeats 2000000 in
theorem derive_out (A A2 : Option Addr) (n c n2 c2 : Nat) (label : ByteArray) (m : Int) (w : World) (hm : m < 1 ∨ 1024 < m) :
    Calls Tryd.prog 37 #[.slice A n c, .string label, .slice A2 n2 c2, .int .i64 m] w
      fun e w' => e = .returned (.slice none 0 0) ∧ Below w.heap.size w w' := by
  go_enter Tryd.func37, Tryd.ntmps37
  have hb : ∀ o1 o2 o3 o4 : Obj, Below w.heap.size w ((((w.alloc o1).alloc o2).alloc o3).alloc o4) := fun o1 o2 o3 o4 =>
    ((((Below.refl _ _).alloc (Nat.le_refl _) _).alloc (by simp) _).alloc (by simp; omega) _).alloc (by simp; omega) _
  rcases hm with hm | hm
  · have hd : decide (m < 1) = true := by simpa using hm
    go_wp2_with fail
    go_ret
    exact ⟨rfl, hb _ _ _ _⟩
  · have hd : decide (m < 1) = false := by simp; omega
    have hd2 : decide (1024 < m) = true := by simpa using hm
    go_wp2_with fail
    go_ret
    exact ⟨rfl, hb _ _ _ _⟩

set_option maxRecDepth 100000 in
set_option maxHeartbeats 2000000 in
theorem derive_in (A A2 : Option Addr) (n c n2 c2 : Nat) (key ctx : List Int) (label : ByteArray) (m : Nat) (w : World) (hs : Seg w w.heap.size .u8 A n key) (hn : n ≤ 1048576) (hc : n ≤ c) (hcm : c ≤ 9223372036854775807)
    (ht : Seg w w.heap.size .u8 A2 n2 ctx) (hn2 : n2 ≤ 1048576) (hlab : label.size ≤ 1048576) (hm0 : 1 ≤ m) (hm1 : m ≤ 1024) (hK : Tab w 0 .u32 kay256) :
    Calls Tryd.prog 37 #[.slice A n c, .string label, .slice A2 n2 c2, .int .i64 (m : Int)] w
      fun e w' => ∃ v, e = .returned v ∧ (∃ A', v = .slice A' m m ∧ Seg w' w'.heap.size .u8 A' m (deriveI key (strI label) ctx m)) ∧ Below w.heap.size w w' := by
  obtain ⟨i0, hi, hz0, hz1, hz2⟩ := info_parts Tryd.infoU8
  have HS := Lib.hid hs
  have HT := Lib.hid ht
  have HK := Lib.hid hK
  have h0 : 0 < w.heap.size := hK.lt
  have hd : decide ((m : Int) < 1) = false := by simp; omega
  have hd2 : decide ((1024 : Int) < m) = false := by simp; omega
  have CS : Hid (∀ W, Calls Tryd.prog 56 #[.int .i64 1] W fun e w' => e = .returned (.int .i64 32) ∧ W = w') := fun W => size_any 1 W
  obtain ⟨P, HP⟩ : ∃ P : Nat, Hid (P = (m + 31) / 32) := ⟨_, rfl⟩
  have hP : ((m : Int) + 32 - 1) / 32 = (P : Int) := by rw [HP.out]; omega
  have hPb : 32 * P < m + 32 := by rw [HP.out]; omega
  have hPm : m ≤ 32 * P := by rw [HP.out]; omega
  clear hs ht hK
  go_enter Tryd.func37, Tryd.ntmps37
  go_wp2_with (first
    | (go_at_call 56; refine (CS.out _).mono ?_; rintro e w' ⟨rfl, rfl⟩)
    | (at_make; generalize hw0 : World.alloc _ _ = w0; refine wpList_make_own _ rfl _ _ 22 rfl w0.heap.size 5 i0 (.int .u8 0) 1 Tryd.underlying22 hi hz0 hz1 .i64 .i64 _ (P * 32) rfl rfl (by omega) (by rw [hz2]; omega) (by unfold maxLen; omega) (Nat.le_refl _) ?_; intro w1 hown1 hg1))
  have hb0 : Below w.heap.size w w0 := by
    rw [← hw0]
    exact ((((Below.refl _ _).alloc (Nat.le_refl _) _).alloc (by simp) _).alloc (by simp; omega) _).alloc (by simp; omega) _
  obtain ⟨hc0, hc1, hc2', hc3⟩ := four_boxes w (.slice A n c) (.string label) (.slice A2 n2 c2) (.int .i64 m) 22 9 22 3
  rw [hw0] at hc0 hc1 hc2' hc3
  obtain ⟨gn, HGN⟩ : ∃ g, Hid (w.heap.size + 1 + 1 + 1 = g) := ⟨_, rfl⟩
  obtain ⟨gc, HGC⟩ : ∃ g, Hid (w.heap.size + 1 + 1 = g) := ⟨_, rfl⟩
  obtain ⟨gl, HGL⟩ : ∃ g, Hid (w.heap.size + 1 = g) := ⟨_, rfl⟩
  rw [HGN.out] at hc3 ⊢
  rw [HGC.out] at hc2' ⊢
  rw [HGL.out] at hc1 ⊢
  have bk := block_lt_of_cell hc0
  have bl := block_lt_of_cell hc1
  have bc := block_lt_of_cell hc2'
  have bn := block_lt_of_cell hc3
  have H0 := Lib.hid hc0
  have H1 := Lib.hid hc1
  have H2 := Lib.hid hc2'
  have H3 := Lib.hid hc3
  have hb1 : Below w0.heap.size w0 w1 := (Below.refl _ _).grown hg1 (Nat.le_refl _) (fun r hr => by cases hr)
  have hz0' := hb0.size
  have HS0 := Lib.hid (HS.out.below hb0 (Nat.le_refl _))
  have HT0 := Lib.hid (HT.out.below hb0 (Nat.le_refl _))
  have HK0 := Lib.hid (HK.out.below hb0 h0)
  clear hc0 hc1 hc2' hc3 hw0 hg1
  go_loopw [12, 33] (fun v i wr => ∃ k : Nat, k ≤ P ∧ i = .int .i64 k ∧ Hid (Row wr w0.heap.size 5 .u8 v (32 * k) (partsI key (strI label) ctx m k)) ∧ Below w0.heap.size w0 wr) (fun _ i _ => P - (intOf i).toNat)
  case atStart => exact ⟨0, by omega, rfl, hown1, hb1⟩
  case round =>
    clear hown1 hb1
    obtain ⟨k, hk, rfl, hR, hb⟩ := hrel
    have hz := hb.size
    by_cases hlt : k < P
    · have hdk : decide ((k : Int) < P) = true := by simp; omega
      have HSr := Lib.hid ((HS0.out.below hb hz0').more (Nat.le_trans hz0' hz))
      have HTr := Lib.hid ((HT0.out.below hb hz0').more (Nat.le_trans hz0' hz))
      have HKr := Lib.hid (HK0.out.below hb HK0.out.lt)
      go_wp2_with fail
      refine (part_any ((k : Int) + 1) gl gc w.heap.size gn label A A2 n c n2 c2 key ctx m wr ((hb.cell (p := ⟨gl, 0, none⟩) bl).trans H1.out) ((hb.cell (p := ⟨gc, 0, none⟩) bc).trans H2.out) ((hb.cell (p := ⟨w.heap.size, 0, none⟩) bk).trans H0.out) ((hb.cell (p := ⟨gn, 0, none⟩) bn).trans H3.out) HSr.out hn hc hcm HTr.out hn2 hlab (by omega) (by omega) (by omega) (by omega) HKr.out).mono ?_
      rintro e w2 ⟨v2, rfl, hR2, hb2⟩
      have HR2 := Lib.hid hR2
      obtain ⟨A3, c3, rfl, _, _⟩ := hR2.cut
      have hbw2 := hb.trans (hb2.mono hz)
      have hzw2 := hbw2.size
      have HO := Lib.hid (hR.out.below hb2)
      have HOL := Lib.hid hR.out.length
      clear hR2
      go_wp2_with (at_builtin; refine wpList_app _ rfl (.tmp 36) (.tmp 40) 22 rfl w0.heap.size 5 i0 (.int .u8 0) 1 Tryd.underlying22 hi hz0 hz1 hz2 rfl .u8 _ (partsI key (strI label) ctx m k) rfl HO.out.own w2.heap.size A3 32 c3 (partI key (strI label) ctx m ((k : Int) + 1)) rfl HR2.out.seg (by unfold maxLen; rw [HOL.out]; omega) (by rw [HOL.out]; omega) hzw2 ?_; intro v4 w4 hown4 hg4 hor4; have hb4 : Below w0.heap.size w0 w4 := own_below HO.out.own hg4 hbw2 hzw2)
      go_roundw
      case measure => simp [intOf]; omega
      case rel => exact ⟨k + 1, by omega, by go_num, hown4.row (by rw [List.length_append, HOL.out, partI_length]; omega), hb4⟩
    · have hdk : decide ((k : Int) < P) = false := by simp; omega
      have hkP : k = P := by omega
      rw [hkP] at hR
      obtain ⟨A5, c5, rfl, hc5, hcm5⟩ := hR.out.cut
      have hrun := fun W => slice_hm A5 (32 * P) c5 m (by omega) W
      have hn3 := (hb.cell (p := ⟨gn, 0, none⟩) bn).trans H3.out
      clear hkP
      have hD : deriveI key (strI label) ctx m = (partsI key (strI label) ctx m P).take m := by
        rw [deriveI, if_neg (by omega), Int.toNat_natCast, HP.out]
      have HD := Lib.hid hD
      clear hD
      go_wp2_with fail
      go_ret
      refine ⟨_, rfl, ⟨A5, rfl, ?_⟩, hb0.trans (hb.mono hz0')⟩
      rw [HD.out]
      exact hR.out.seg.take hPm

/-- Key derivation for any number of bytes. -/
theorem derive_any (A A2 : Option Addr) (n c n2 c2 : Nat) (key ctx : List Int) (label : ByteArray) (m : Int) (w : World) (hs : Seg w w.heap.size .u8 A n key) (hn : n ≤ 1048576) (hc : n ≤ c) (hcm : c ≤ 9223372036854775807)
    (ht : Seg w w.heap.size .u8 A2 n2 ctx) (hn2 : n2 ≤ 1048576) (hlab : label.size ≤ 1048576) (hK : Tab w 0 .u32 kay256) :
    Calls Tryd.prog 37 #[.slice A n c, .string label, .slice A2 n2 c2, .int .i64 m] w
      fun e w' => ∃ A' k c', e = .returned (.slice A' k c') ∧ (k ≤ 1024 ∧ k ≤ c' ∧ c' ≤ maxLen) ∧ Seg w' w'.heap.size .u8 A' k (deriveI key (strI label) ctx m) ∧ Below w.heap.size w w' := by
  by_cases hm : m < 1 ∨ 1024 < m
  · refine (derive_out A A2 n c n2 c2 label m w hm).mono ?_
    rintro e w' ⟨rfl, hb⟩
    refine ⟨none, 0, 0, rfl, ⟨by omega, by omega, by unfold maxLen; omega⟩, ?_, hb⟩
    rw [deriveI, if_pos hm]
    exact Seg.nil _ _ _ _
  · obtain ⟨q, rfl⟩ : ∃ q : Nat, m = q := ⟨m.toNat, by omega⟩
    refine (derive_in A A2 n c n2 c2 key ctx label q w hs hn hc hcm ht hn2 hlab (by omega) (by omega) hK).mono ?_
    rintro e w' ⟨v, rfl, ⟨A', rfl, h⟩, hb⟩
    exact ⟨A', q, q, rfl, ⟨by omega, by omega, by unfold maxLen; omega⟩, h, hb⟩
end Go.Proofs.YtcmbnldeojlhbaaDoor
namespace Go.Proofs.YtcmbnldeojlhbaaDoor
open Go.RowKit

theorem frameI_take (tag : Int) (fs : List (List Int)) (k : Nat) (h : k < fs.length) : frameI tag (fs.take (k + 1)) = frameI tag (fs.take k) ++ be4 (((fs.getD k []).length : Int) % 4294967296) ++ fs.getD k [] := by
  have : fs.take (k + 1) = fs.take k ++ [fs.getD k []] := by rw [List.take_add_one, List.getElem?_eq_getElem h]; simp [List.getD, h]
  rw [this]
  simp [frameI]
theorem frameI_length (tag : Int) (fs : List (List Int)) : (frameI tag fs).length = 1 + 4 * fs.length + tot fs := by
  induction fs with
  | nil => rfl
  | cons f l ih => simp [frameI, tot, be4] at ih ⊢; omega
end Go.Proofs.YtcmbnldeojlhbaaDoor
namespace Go.Proofs.YtcmbnldeojlhbaaDoor
open Go.RowKit

set_option maxRecDepth 100000 in
set_option maxHeartbeats 2000000 in
theorem frame_any (tag : Int) (A : Option Addr) (n c : Nat) (fs : List (List Int)) (w : World) (hs : Fields w w.heap.size A n fs) (hn : n ≤ 1048576) (ht : tot fs ≤ 1099511627776) :
    Calls Tryd.prog 42 #[.int .i64 tag, .slice A n c] w fun e w' => ∃ v, e = .returned v ∧ Own w' w.heap.size 5 .u8 v (frameI tag fs) ∧ Below w.heap.size w w' := by
  obtain ⟨i0, hi, hz0, hz1, hz2⟩ := info_parts Tryd.infoU8
  have HS := Lib.hid hs
  have hlen : fs.length = n := hs.1
  have HLN := Lib.hid hlen
  clear hs hlen
  go_enter Tryd.func42, Tryd.ntmps42
  go_wp2_with fail
  go_loop [5, 13] (fun s i => ∃ k : Nat, k ≤ n ∧ i = .int .i64 k ∧ s = .int .i64 ((1 + 4 * k + tot (fs.take k) : Nat) : Int)) (fun _ i => n - (intOf i).toNat)
  case atStart => exact ⟨0, by omega, rfl, rfl⟩
  case round =>
    obtain ⟨k, hk, rfl, rfl⟩ := hrel
    obtain ⟨s, hsz⟩ : ∃ s, Hid (1 + 4 * k + tot (fs.take k) = s) := ⟨_, rfl⟩
    rw [hsz.out]
    have hsb : s ≤ 1 + 4 * n + 1099511627776 := by have := tot_take_le fs k; have := hsz.out; omega
    by_cases hlt : k < n
    · obtain ⟨b, off, rfl, _, hc⟩ := HS.out.2 (by omega)
      obtain ⟨A', n', c', h1, h2, _, _⟩ := hc k hlt
      have hn' : n' ≤ 1099511627776 := by have := h2.1; have := tot_get_le fs k (by rw [HLN.out]; exact hlt); omega
      have HL := Lib.hid h2.1
      have hd : decide ((k : Int) < n) = true := by simp; omega
      clear hc h2
      go_wp2_with fail
      go_round
      case measure => simp [intOf]; omega
      case rel =>
        refine ⟨k + 1, by omega, by go_num, ?_⟩
        have h := tot_take fs k (by rw [HLN.out]; exact hlt)
        have h3 := HL.out
        have h4 := hsz.out
        rw [h, h3]
        congr 1
        omega
    · have hd : decide ((k : Int) < n) = false := by simp; omega
      go_wp2_with (first
        | (at_make; refine wpList_make_own _ rfl _ _ 22 rfl w.heap.size 5 i0 (.int .u8 0) 1 Tryd.underlying22 hi hz0 hz1 .i64 .i64 _ s rfl rfl rfl (by rw [hz2]; omega) (by unfold maxLen; omega) (Nat.le_refl _) ?_; intro w1 hown1 hg1; have hb1 : Below w.heap.size w w1 := (Below.refl _ _).grown hg1 (Nat.le_refl _) (fun r hr => by cases hr); have hz1' := hb1.size; clear hg1)
        | (at_builtin; refine wpList_app _ rfl (.tmp 24) (.tmp 27) 22 rfl w.heap.size 5 i0 (.int .u8 0) 1 Tryd.underlying22 hi hz0 hz1 hz2 rfl .u8 _ [] rfl (hown1.alloc _) (w1.heap.size + 1) (some ⟨w1.heap.size, 0, none⟩) 1 1 [tag % 256] rfl ((Seg.of_blk (Blk.new w1 5 .u8 [tag % 256])).more (by simp)) (by unfold maxLen; simp) (by simp) (by simp; omega) ?_; intro v3 w3 hown3 hg3 hor3; have hb3 := own_below (k := .u8) (xs := []) (hown1.alloc _) hg3 (hb1.alloc hz1' _) (by simp; omega); clear hg3 hor3))
      clear hb1 hz1'
      go_loopw [8, 31] (fun v i wr => ∃ k : Nat, k ≤ n ∧ i = .int .i64 k ∧ Own wr w.heap.size 5 .u8 v (frameI tag (fs.take k)) ∧ Below w.heap.size w wr) (fun _ i _ => n - (intOf i).toNat)
      case atStart => exact ⟨0, by omega, rfl, hown3, hb3⟩
      case round =>
        clear hown3 hb3 hd hsb
        obtain ⟨j, hj, rfl, hown, hb⟩ := hrel
        have hz := hb.size
        have hfl : (frameI tag (fs.take j)).length ≤ 1 + 4 * n + 1099511627776 := by
          rw [frameI_length]
          have := tot_take_le fs j
          have : (fs.take j).length ≤ n := by simp; omega
          omega
        by_cases hjt : j < n
        · obtain ⟨b, off, rfl, hbl, hc⟩ := HS.out.2 (by omega)
          obtain ⟨A', n', c', h1, h2, hnc, hcm⟩ := hc j hjt
          have hn' : n' ≤ 1099511627776 := by have := h2.1; have := tot_get_le fs j (by rw [HLN.out]; exact hjt); omega
          obtain ⟨f, hf⟩ : ∃ f, Hid (fs.getD j [] = f) := ⟨_, rfl⟩
          rw [hf.out] at h2
          have h1r := (hb.cell (p := ⟨b, off + j, none⟩) hbl).trans h1
          have HF := Lib.hid h2
          have hd : decide ((j : Int) < n) = true := by simp; omega
          clear hc h2 h1
          go_wp2_with (first
            | (go_at_call 62; refine (appendWord_any w.heap.size _ _ _ wr hown (by omega) hz).mono ?_; rintro e w4 ⟨v4, rfl, hown4, hg4⟩; have hb4 := own_below hown hg4 hb hz; have hz4 := hb4.size; have hs4 := HF.out.below hb4 (Nat.le_refl _); clear hg4)
            | (at_builtin; refine wpList_app _ rfl (.tmp 40) (.tmp 41) 22 rfl w.heap.size 5 i0 (.int .u8 0) 1 Tryd.underlying22 hi hz0 hz1 hz2 rfl .u8 _ _ rfl hown4 _ A' n' c' f rfl hs4 (by unfold maxLen; rw [List.length_append]; simp [be4]; omega) (by rw [List.length_append]; simp [be4]; omega) hz4 ?_; intro v5 w5 hown5 hg5 hor5; have hb5 := own_below hown4 hg5 hb4 hz4; clear hg5 hor5 hs4))
          refine ⟨⟨j + 1, by omega, by go_num, ?_, hb5⟩, by simp [intOf]; omega⟩
          rw [frameI_take _ _ _ (by rw [HLN.out]; exact hjt), hf.out, HF.out.1]
          exact hown5
        · have hd : decide ((j : Int) < n) = false := by simp; omega
          have hw : fs.take j = fs := List.take_of_length_le (by rw [HLN.out]; omega)
          rw [hw] at hown
          clear hw hfl
          go_wp2_with fail
          go_ret
          exact ⟨_, rfl, hown, hb⟩

end Go.Proofs.YtcmbnldeojlhbaaDoor
namespace Go.Proofs.YtcmbnldeojlhbaaDoor
open Go.RowKit

set_option maxRecDepth 100000 in
set_option maxHeartbeats 1000000 in
theorem wmasked_any (gt gs j n n2 c c2 B B2 : Nat) (A A2 : Option Addr) (b D : List Int) (w : World) (ht : w.cell? ⟨gt, 0, none⟩ = some (.slice A n c)) (hs : w.cell? ⟨gs, 0, none⟩ = some (.slice A2 n2 c2))
    (h1 : Seg w B .u8 A n b) (h2 : Seg w B2 .u8 A2 n2 D) (hj : j < n) (hj2 : j < n2) :
    Calls Tryd.prog 38 #[.int .i64 j, .pointer (some ⟨gt, 0, none⟩), .pointer (some ⟨gs, 0, none⟩)] w
      fun e w' => e = .returned (.int .u8 (bits .xor .u8 (b.getD j 0) (D.getD j 0))) ∧ ∃ q, w' = w.drewN q := by
  obtain ⟨p, po, rfl, hpb, hpc⟩ := h1.2 (by omega)
  obtain ⟨d, dof, rfl, hdb, hdc⟩ := h2.2 (by omega)
  have hx := hpc j hj
  have hy := hdc j hj2
  obtain ⟨x, hxx⟩ : ∃ x, Hid (b.getD j 0 = x) := ⟨_, rfl⟩
  obtain ⟨y, hyy⟩ : ∃ y, Hid (D.getD j 0 = y) := ⟨_, rfl⟩
  rw [hxx.out] at hx ⊢
  rw [hyy.out] at hy ⊢
  have hji : (j : Int) < n := by omega
  have hji2 : (j : Int) < n2 := by omega
  have hj0 : (0 : Int) ≤ (j : Int) := by omega
  clear hpc hdc h1 h2
  go_enter Tryd.func38, Tryd.ntmps38
  go_wp2_with fail
  go_quiet (fail)
  go_wp2
  go_ret
  exact ⟨rfl, _, rfl⟩

set_option maxRecDepth 100000 in
set_option maxHeartbeats 4000000 in
theorem wcombine_any (A A2 A3 : Option Addr) (n c n2 c2 n3 c3 : Nat) (key nonce b : List Int) (w : World) (hs : Seg w w.heap.size .u8 A n key) (hn : n ≤ 1048576) (hc : n ≤ c) (hm : c ≤ 9223372036854775807)
    (ht : Seg w w.heap.size .u8 A2 n2 nonce) (hn2 : n2 ≤ 1048576) (hu : Seg w w.heap.size .u8 A3 n3 b) (hn3 : n3 ≤ 1024) (hK : Tab w 0 .u32 kay256) :
    Calls Tryd.prog 20 #[.slice A n c, .slice A2 n2 c2, .slice A3 n3 c3] w
      fun e w' => ∃ v, e = .returned v ∧ Row w' w.heap.size 5 .u8 v n3 (streamI key nonce b) ∧ Below w.heap.size w w' := by
  obtain ⟨i0, hi, hz0, hz1, hz2⟩ := info_parts Tryd.infoU8
  have hmf : ∀ (fn : Fn) (first cap : Array Value) (w : World), (Instr.makeFunc fn first cap).run Tryd.prog w = .ok (.func fn first cap) w := fun _ _ _ _ => rfl
  have HUL := Lib.hid hu.1
  obtain ⟨g0, HG0⟩ : ∃ g, Hid (w.heap.size = g) := ⟨_, rfl⟩
  have hba : Below w.heap.size w (w.alloc (.cells #[.slice A3 n3 c3] 22)) := (Below.refl _ _).alloc (Nat.le_refl _) _
  have HS := Lib.hid ((hs.below hba (Nat.le_refl _)).more hba.size)
  have HT := Lib.hid ((ht.below hba (Nat.le_refl _)).more hba.size)
  have HU := Lib.hid ((hu.below hba (Nat.le_refl _)).more hba.size)
  have HK := Lib.hid (hK.below hba hK.lt)
  have HC : Hid ((w.alloc (.cells #[.slice A3 n3 c3] 22)).cell? ⟨w.heap.size, 0, none⟩ = some (.slice A3 n3 c3)) := cell_made w _ _ _ 0 _ rfl rfl
  have HBA := Lib.hid hba
  clear hs ht hu hK hba
  go_enter Tryd.func20, Tryd.ntmps20
  go_wp2_with fail
  generalize hwa : World.alloc _ _ = wa at HS HT HU HK HC HBA ⊢
  have hzba := HBA.out.size
  clear hwa
  refine (derive_any A A2 n c n2 c2 key nonce labelE n3 wa HS.out hn hc hm HT.out hn2 (show (7 : Nat) ≤ 1048576 by omega) HK.out).mono ?_
  rintro e w1 ⟨A4, k, c4, rfl, ⟨hk, hkc, hcm4⟩, hsD, hb1⟩
  obtain ⟨D, HD⟩ : ∃ D, Hid (deriveI key (strI labelE) nonce n3 = D) := ⟨_, rfl⟩
  have hk3 : k = n3 := by rw [← hsD.1, deriveI_len _ _ _ _ hn3]
  subst hk3
  rw [HD.out] at hsD
  have HDS := Lib.hid hsD
  have HDL := Lib.hid hsD.1
  have HL : Hid (streamI key nonce b = xorL b D) := by show _ = _; rw [streamI, HUL.out, HD.out]
  obtain ⟨X, HX⟩ : ∃ X, Hid (xorL b D = X) := ⟨_, rfl⟩
  have HXL : Hid (X.length = k) := by show _ = _; rw [← HX.out, xorL, List.length_zipWith, HDL.out, HUL.out, Nat.min_self]
  have hz1' := hb1.size
  have hbw1 := HBA.out.trans (hb1.mono hzba)
  have HUS := Lib.hid ((HU.out.below hb1 (Nat.le_refl _)).more hz1')
  have hlt0 : w.heap.size < wa.heap.size := block_lt_of_cell HC.out
  have hc1 : w1.cell? ⟨w.heap.size, 0, none⟩ = some (.slice A3 k c3) := (hb1.cell (p := ⟨w.heap.size, 0, none⟩) hlt0).trans HC.out
  have hbs : Below w1.heap.size w1 (w1.alloc (.cells #[.slice A4 k c4] 22)) := (Below.refl _ _).alloc (Nat.le_refl _) _
  have hc2 : (w1.alloc (.cells #[.slice A4 k c4] 22)).cell? ⟨w.heap.size, 0, none⟩ = some (.slice A3 k c3) := (hbs.cell (p := ⟨w.heap.size, 0, none⟩) (by show w.heap.size < w1.heap.size; omega)).trans hc1
  have hs2 : (w1.alloc (.cells #[.slice A4 k c4] 22)).cell? ⟨w1.heap.size, 0, none⟩ = some (.slice A4 k c4) := cell_made w1 _ _ _ 0 _ rfl rfl
  have hb12 : Below w1.heap.size w1 (w1.alloc (.cells #[.slice A4 k c4] 22)) := (Below.refl _ _).alloc (Nat.le_refl _) _
  have HU2 := Lib.hid ((HUS.out.below hb12 (Nat.le_refl _)).more hb12.size)
  have HD2 := Lib.hid ((HDS.out.below hb12 (Nat.le_refl _)).more hb12.size)
  have hlt2 : w1.heap.size < (w1.alloc (.cells #[.slice A4 k c4] 22)).heap.size := block_lt_of_cell hs2
  have hbw2 := hbw1.trans (hb12.mono hbw1.size)
  clear hsD hbs hc1 HBA hb12
  unfold maxLen at hcm4
  go_wp2_with (at_make; refine wpList_make_row _ rfl _ _ 22 rfl 5 i0 (.int .u8 0) Tryd.underlying22 hi hz0 hz1 rfl .i64 .i64 k rfl rfl (by rw [hz2]; omega) (by omega) ?_)
  rw [made_zeros]
  have e2 : (w1.alloc (.cells #[.slice A4 k c4] 22)).heap.size = w1.heap.size + 1 := by simp
  generalize World.alloc w1 _ = w2 at hc2 hs2 HU2 HD2 hlt2 hbw2 e2 ⊢
  have HC2 := Lib.hid hc2
  have HS2 := Lib.hid hs2
  clear hc2 hs2
  generalize hwq : World.alloc _ _ = wq
  have hb2q : Below w2.heap.size w2 wq := by rw [← hwq]; exact (Below.refl _ _).alloc (Nat.le_refl _) _
  have hBq : Blk wq w2.heap.size 5 .u8 (fillZ X k 0) := by rw [← hwq, fillZ_zero]; exact Blk.new w2 _ .u8 _
  have hz2' := hbw2.size
  obtain ⟨g, HG⟩ : ∃ g, Hid (w1.heap.size + 1 = g) := ⟨_, rfl⟩
  have hlt02 : w.heap.size < w2.heap.size := by omega
  obtain ⟨gt, HGT⟩ : ∃ g, Hid (w.heap.size = g) := ⟨_, rfl⟩
  obtain ⟨gs, HGS⟩ : ∃ g, Hid (w1.heap.size = g) := ⟨_, rfl⟩
  rw [e2, HG.out] at hBq hz2' HU2 HD2 hb2q hlt2 hlt02
  rw [HG.out]
  have HB2 := Lib.hid hbw2
  rw [HGT.out] at HC2 hlt02 hz2' HB2 ⊢
  rw [HGS.out] at HS2 hlt2 ⊢
  clear hwq e2 hbw2 HG
  go_wp2_with fail
  go_loopw [22] (fun i wr => ∃ j : Nat, j ≤ k ∧ i = .int .i64 j ∧ Hid (Blk wr g 5 .u8 (fillZ X k j)) ∧ Below g w2 wr) (fun i _ => k - (intOf i).toNat)
  case atStart => exact ⟨0, by omega, rfl, hBq, hb2q⟩
  case round =>
    clear hBq hb2q
    obtain ⟨j, hj, rfl, hB, hb⟩ := hrel
    by_cases hlt : j < k
    · have hd : decide ((j : Int) < k) = true := by simp; omega
      have HM := Lib.hid (wmasked_any gt gs j k k c3 c4 g g A3 A4 b D wr ((hb.cell (p := ⟨gt, 0, none⟩) hlt02).trans HC2.out) ((hb.cell (p := ⟨gs, 0, none⟩) hlt2).trans HS2.out) (HU2.out.below hb (Nat.le_refl _)) (HD2.out.below hb (Nat.le_refl _)) hlt hlt)
      go_wp2_with fail
      refine HM.out.mono ?_
      rintro e wv ⟨rfl, q, hq⟩
      have hBv : Blk wv g 5 .u8 (fillZ X k j) := by rw [hq]; exact hB.out
      have hbv : Below g w2 wv := by rw [hq]; exact below_drewN hb q
      have hX : bits .xor .u8 (b.getD j 0) (D.getD j 0) = X.getD j 0 := by rw [← HX.out, xorL_get b D j (by rw [HUL.out]; exact hlt) (by rw [HDL.out]; exact hlt)]
      rw [hX]
      obtain ⟨z, hzz⟩ : ∃ z, Hid (X.getD j 0 = z) := ⟨_, rfl⟩
      rw [hzz.out]
      have HBv := Lib.hid hBv
      have hcl := hBv.cell j (by rw [fillZ_length X k j HXL.out hj]; exact hlt)
      have hfr := hBv.frozen j
      have hji : (j : Int) < k := by omega
      have hj0 : (0 : Int) ≤ (j : Int) := by omega
      clear hq hX hBv HM
      go_wp2_with fail
      go_roundw
      case measure => simp [intOf]; omega
      case rel =>
        refine ⟨j + 1, by omega, by go_num, ?_, hbv.setCell (Nat.le_refl _) _⟩
        show Blk _ _ _ _ _
        rw [← fillZ_next X k j HXL.out hlt, hzz.out]
        exact HBv.out.set_ j _
    · have hd : decide ((j : Int) < k) = false := by simp; omega
      have hjk : j = k := by omega
      rw [hjk, fillZ_full X k HXL.out] at hB
      clear hjk
      go_wp2_with fail
      go_ret
      have h := Own.of_blk hB.out hz2' (by unfold maxLen; rw [HXL.out]; omega)
      rw [HXL.out] at h
      rw [HL.out, HX.out, HGT.out]
      exact ⟨_, rfl, h.row HXL.out, HB2.out.trans (hb.mono hz2')⟩

set_option maxRecDepth 100000 in
set_option maxHeartbeats 4000000 in
theorem wtag_any (A A2 A3 A4 : Option Addr) (n c n2 c2 n3 c3 n4 c4 : Nat) (key nonce ad x : List Int) (w : World) (hs : Seg w w.heap.size .u8 A n key) (hn : n ≤ 1048576) (hc : n ≤ c) (hm : c ≤ 9223372036854775807)
    (ht : Seg w w.heap.size .u8 A2 n2 nonce) (hn2 : n2 ≤ 1048576) (hc2 : n2 ≤ c2) (hm2 : c2 ≤ maxLen) (hu : Seg w w.heap.size .u8 A3 n3 ad) (hn3 : n3 ≤ 1048576) (hc3 : n3 ≤ c3) (hm3 : c3 ≤ maxLen) (hv : Seg w w.heap.size .u8 A4 n4 x) (hn4 : n4 ≤ 1048576) (hc4 : n4 ≤ c4) (hm4 : c4 ≤ maxLen) (hK : Tab w 0 .u32 kay256) :
    Calls Tryd.prog 22 #[.slice A n c, .slice A2 n2 c2, .slice A3 n3 c3, .slice A4 n4 c4] w
      fun e w' => ∃ v, e = .returned v ∧ Row w' w.heap.size 5 .u8 v 32 (tagI key nonce ad x) ∧ Below w.heap.size w w' := by
  have HS := Lib.hid hs
  have HT := Lib.hid ht
  have HU := Lib.hid hu
  have HV := Lib.hid hv
  have HK := Lib.hid hK
  have hk0 := hK.lt
  have HLT := Lib.hid ht.1
  have HLU := Lib.hid hu.1
  have HLV := Lib.hid hv.1
  clear hs ht hu hv hK
  go_enter Tryd.func22, Tryd.ntmps22
  go_wp2_with fail
  refine (derive_any A A2 n c n2 c2 key nonce labelA 32 w HS.out hn hc hm HT.out hn2 (show (12 : Nat) ≤ 1048576 by omega) HK.out).mono ?_
  rintro e w1 ⟨A5, k, c5, rfl, ⟨hk, hkc, hcm5⟩, hsD, hb1⟩
  obtain ⟨D, HD⟩ : ∃ D, Hid (deriveI key (strI labelA) nonce 32 = D) := ⟨_, rfl⟩
  rw [HD.out] at hsD
  have HDS := Lib.hid hsD
  have hzb1 := hb1.size
  clear hsD
  unfold maxLen at hcm5
  go_wp2_with fail
  generalize hwq : World.alloc _ _ = wq
  have hb1q : Below w1.heap.size w1 wq := by rw [← hwq]; exact (Below.refl _ _).alloc (Nat.le_refl _) _
  have hbq : Below w.heap.size w wq := hb1.trans (hb1q.mono hzb1)
  have hzq := hbq.size
  have hF : Fields wq wq.heap.size (some ⟨w1.heap.size, 0, none⟩) 3 [ad, nonce, x] :=
    fields3 wq w1.heap.size A3 A2 A4 n3 c3 n2 c2 n4 c4 ad nonce x (by rw [← hwq]; exact cell_made w1 _ _ _ 0 _ rfl rfl) (by rw [← hwq]; exact cell_made w1 _ _ _ 1 _ rfl rfl) (by rw [← hwq]; exact cell_made w1 _ _ _ 2 _ rfl rfl)
      ((HU.out.below hbq (Nat.le_refl _)).more hzq) ((HT.out.below hbq (Nat.le_refl _)).more hzq) ((HV.out.below hbq (Nat.le_refl _)).more hzq) hc3 hm3 hc2 hm2 hc4 hm4
  have HF := Lib.hid hF
  have HDQ := Lib.hid ((HDS.out.below hb1q (Nat.le_refl _)).more hb1q.size)
  clear hwq hF
  refine (frame_any 0 _ 3 3 _ wq HF.out (by omega) (by simp [tot]; rw [HLT.out, HLU.out, HLV.out]; omega)).mono ?_
  rintro e w2 ⟨v2, rfl, hown2, hb2⟩
  have HR2 := Lib.hid (hown2.row (n := 13 + n2 + n3 + n4) (by rw [frameI_length]; simp [tot]; rw [HLT.out, HLU.out, HLV.out]; omega))
  obtain ⟨A6, c6, rfl, _, _⟩ := HR2.out.cut
  have hbw2 := hbq.trans (hb2.mono hzq)
  have hzw2 := hbw2.size
  have HD2 := Lib.hid ((HDQ.out.below hb2 (Nat.le_refl _)).more hb2.size)
  have HK2 := Lib.hid (HK.out.below hbw2 hk0)
  clear hown2
  go_wp2_with fail
  refine (mac_any A5 A6 k c5 (13 + n2 + n3 + n4) c6 D _ w2 HD2.out (by omega) hkc hcm5 HR2.out.seg (by omega) HK2.out).mono ?_
  rintro e w3 ⟨v3, rfl, hR3, hb3⟩
  go_wp2
  go_ret
  refine ⟨_, rfl, ?_, hbw2.trans (hb3.mono hzw2)⟩
  rw [tagI, HD.out]
  exact (Own.less hR3.own hzw2).row (macI_length _ _)
end Go.Proofs.YtcmbnldeojlhbaaDoor
namespace Go.Proofs.YtcmbnldeojlhbaaDoor
open Go.RowKit

theorem blob_le (xs : List Int) (p : Nat) (err m : Int) (h : 0 ≤ m) : ((blobR xs p err m).1.length : Int) ≤ m := by
  unfold blobR
  split
  · simpa using h
  · split
    · simpa using h
    · split
      · simpa using h
      · split
        · simpa using h
        · have : ((xs.drop (p + 2)).take (numI ((xs.drop p).take 2)).toNat).length ≤ (numI ((xs.drop p).take 2)).toNat := List.length_take_le _ _
          simp only
          omega
theorem inB_raw (xs : List Int) (p : Nat) (err m : Int) (h : InB xs) : InB (rawR xs p err m).1 := by
  unfold rawR
  repeat' split
  all_goals first
    | (intro x hx; cases hx; done)
    | exact fun y hy => h y (List.mem_of_mem_drop (List.mem_of_mem_take hy))

set_option maxRecDepth 100000 in
set_option maxHeartbeats 4000000 in
theorem wseal_any (A A2 A3 A4 : Option Addr) (n c n2 c2 n3 c3 n4 c4 : Nat) (key nonce ad plain : List Int) (w : World) (hs : Seg w w.heap.size .u8 A n key) (hn : n ≤ 1048576) (hc : n ≤ c) (hm : c ≤ 9223372036854775807)
    (ht : Seg w w.heap.size .u8 A2 n2 nonce) (hn2 : n2 ≤ 1048576) (hc2 : n2 ≤ c2) (hm2 : c2 ≤ 9223372036854775807) (hu : Seg w w.heap.size .u8 A3 n3 ad) (hn3 : n3 ≤ 1048576) (hc3 : n3 ≤ c3) (hm3 : c3 ≤ 9223372036854775807)
    (hv : Seg w w.heap.size .u8 A4 n4 plain) (hn4 : n4 ≤ 1048576) (_hc4 : n4 ≤ c4) (_hm4 : c4 ≤ 9223372036854775807) (hK : Tab w 0 .u32 kay256) :
    Calls Tryd.prog 13 #[.slice A n c, .slice A2 n2 c2, .slice A3 n3 c3, .slice A4 n4 c4] w
      fun e w' => ∃ B k d, e = .returned (.slice B k d) ∧ k ≤ 1048576 ∧ k ≤ d ∧ d ≤ 9223372036854775807 ∧ Seg w' w'.heap.size .u8 B k (sealI key nonce ad plain) ∧ Below w.heap.size w w' := by
  obtain ⟨i0, hi, hz0, hz1, hz2⟩ := info_parts Tryd.infoU8
  have HS := Lib.hid hs
  have HT := Lib.hid ht
  have HU := Lib.hid hu
  have HV := Lib.hid hv
  have HK := Lib.hid hK
  have hk0 := hK.lt
  have HLT := Lib.hid ht.1
  have HLV := Lib.hid hv.1
  clear hs ht hu hv hK
  by_cases hbad : 64 < n2 ∨ 1024 < n4
  · have hE : Hid (sealI key nonce ad plain = []) := by show _ = _; rw [sealI, if_pos (by rw [HLT.out, HLV.out]; exact hbad)]
    rcases (by omega : 64 < n2 ∨ (n2 ≤ 64 ∧ 1024 < n4)) with h1 | ⟨h1, h2⟩
    focus
      have hd : decide ((64 : Int) < n2) = true := by simp; omega
    rotate_left
    focus
      have hd : decide ((64 : Int) < n2) = false := by simp; omega
      have hd2 : decide ((1024 : Int) < n4) = true := by simp; omega
    rotate_left
    all_goals
      clear hbad
      go_enter Tryd.func13, Tryd.ntmps13
      go_wp2_with fail
      go_ret
      rw [hE.out]
      exact ⟨none, 0, 0, rfl, by omega, Nat.le_refl _, by omega, Seg.nil _ _ _ _, Below.refl _ _⟩
  · have hd : decide ((64 : Int) < n2) = false := by simp; omega
    have hd2 : decide ((1024 : Int) < n4) = false := by simp; omega
    have h64 : n2 ≤ 64 := by omega
    have h1024 : n4 ≤ 1024 := by omega
    obtain ⟨C, HC⟩ : ∃ C, Hid (streamI key nonce plain = C) := ⟨_, rfl⟩
    have hE : Hid (sealI key nonce ad plain = blobB (blobB [] nonce) C ++ tagI key nonce ad C) := by show _ = _; rw [sealI, if_neg (by rw [HLT.out, HLV.out]; exact hbad), HC.out]
    clear hbad
    go_enter Tryd.func13, Tryd.ntmps13
    go_wp2_with fail
    refine (wcombine_any A A2 A4 n c n2 c2 n4 c4 key nonce plain w HS.out hn hc hm HT.out hn2 HV.out h1024 HK.out).mono ?_
    rintro e w1 ⟨v1, rfl, hR1, hb1⟩
    rw [HC.out] at hR1
    have HR1 := Lib.hid hR1
    obtain ⟨A5, c5, rfl, hc5, hm5⟩ := hR1.cut
    unfold maxLen at hm5
    have hzb1 := hb1.size
    clear hR1
    go_wp2_with fail
    refine (wblob_any none A2 0 0 n2 c2 [] nonce w1 (Seg.nil _ _ _ _) (by omega) (by omega) (by omega) ((HT.out.below hb1 (Nat.le_refl _)).more hzb1) (by omega) hc2 hm2).mono ?_
    rintro e w2 ⟨v2, k2, rfl, hk2, hR2, hb2⟩
    have HR2 := Lib.hid hR2
    obtain ⟨A6, c6, rfl, hc6, hm6⟩ := hR2.cut
    unfold maxLen at hm6
    have hbw2 := hb1.trans (hb2.mono hzb1)
    have hzb2 := hbw2.size
    have HC2 := Lib.hid (HR1.out.below hb2)
    clear hR2
    go_wp2_with fail
    refine (wblob_any A6 A5 k2 c6 n4 c5 _ C w2 HR2.out.seg (by omega) hc6 hm6 HC2.out.seg (by omega) hc5 hm5).mono ?_
    rintro e w3 ⟨v3, k3, rfl, hk3, hR3, hb3⟩
    have HR3 := Lib.hid hR3
    have hbw3 := hbw2.trans (hb3.mono hzb2)
    have hzb3 := hbw3.size
    have HC3 := Lib.hid (HC2.out.below hb3)
    have HK3 := Lib.hid (HK.out.below hbw3 hk0)
    clear hR3
    go_wp2_with fail
    refine (wtag_any A A2 A3 A5 n c n2 c2 n3 c3 n4 c5 key nonce ad C w3 ((HS.out.below hbw3 (Nat.le_refl _)).more hzb3) hn hc hm ((HT.out.below hbw3 (Nat.le_refl _)).more hzb3) hn2 hc2 (by unfold maxLen; omega) ((HU.out.below hbw3 (Nat.le_refl _)).more hzb3) hn3 hc3 (by unfold maxLen; omega) HC3.out.seg (by omega) hc5 (by unfold maxLen; omega) HK3.out).mono ?_
    rintro e w4 ⟨v4, rfl, hR4, hb4⟩
    have HR4 := Lib.hid hR4
    obtain ⟨A7, c7, rfl, _, _⟩ := hR4.cut
    have hbw4 := hbw3.trans (hb4.mono hzb3)
    have hzb4 := hbw4.size
    have hb24 := hb3.trans (hb4.mono hb3.size)
    have HR34 := Lib.hid (HR3.out.below hb4)
    have HL3 := Lib.hid HR34.out.length
    clear hR4
    go_wp2_with (at_builtin; refine wpList_app _ rfl (.tmp 27) (.tmp 32) 22 rfl w2.heap.size 5 i0 (.int .u8 0) 1 Tryd.underlying22 hi hz0 hz1 hz2 rfl .u8 v3 _ rfl HR34.out.own w4.heap.size A7 32 c7 (tagI key nonce ad C) rfl HR4.out.seg (by unfold maxLen; rw [HL3.out]; omega) (by rw [HL3.out]; omega) hb24.size ?_; intro v5 w5 hown5 hg5 hor5; have hb5 : Below w2.heap.size w2 w5 := own_below HR34.out.own hg5 hb24 hb24.size; have HR5 := Lib.hid hown5; clear hown5 hg5 hor5)
    have hR5 := HR5.out.row (n := k3 + 32) (by rw [List.length_append, HL3.out, tagI_length])
    obtain ⟨A8, c8, rfl, hc8, hm8⟩ := hR5.cut
    unfold maxLen at hm8
    have HR6 := Lib.hid hR5.seg
    clear hR5
    go_wp2
    go_ret
    rw [hE.out]
    exact ⟨A8, k3 + 32, c8, rfl, by omega, hc8, hm8, HR6.out, hbw2.trans (hb5.mono hzb2)⟩

set_option maxRecDepth 100000 in
set_option maxHeartbeats 4000000 in
theorem wopen_any (A A2 A3 : Option Addr) (n c n2 c2 n3 c3 : Nat) (key ad b : List Int) (w : World) (hs : Seg w w.heap.size .u8 A n key) (hn : n ≤ 1048576) (hc : n ≤ c) (hm : c ≤ 9223372036854775807)
    (ht : Seg w w.heap.size .u8 A2 n2 ad) (hn2 : n2 ≤ 1048576) (hc2 : n2 ≤ c2) (hm2 : c2 ≤ 9223372036854775807) (hu : Seg w w.heap.size .u8 A3 n3 b) (hn3 : n3 ≤ 1048576) (_hc3 : n3 ≤ c3) (_hm3 : c3 ≤ 9223372036854775807) (hB : InB b) (hK : Tab w 0 .u32 kay256) :
    Calls Tryd.prog 15 #[.slice A n c, .slice A2 n2 c2, .slice A3 n3 c3] w
      fun e w' => ∃ B k d, e = .returned (.tuple #[.slice B k d, .int .i64 (openI key ad b).2]) ∧ k ≤ 1048576 ∧ k ≤ d ∧ d ≤ 9223372036854775807 ∧ Seg w' w'.heap.size .u8 B k (openI key ad b).1 ∧ Below w.heap.size w w' := by
  have HS := Lib.hid hs
  have HT := Lib.hid ht
  have HU := Lib.hid hu
  have HBB := Lib.hid hB
  have HL3 := Lib.hid hu.1
  have HK := Lib.hid hK
  have hk0 := hK.lt
  clear hs ht hu hB hK
  go_enter Tryd.func15, Tryd.ntmps15
  go_wp2_with fail
  refine (wnew_any A3 n3 c3 b w HU.out (by omega)).mono ?_
  rintro e w1 ⟨g, rfl, hgw, hR1, hb1⟩
  have HR1 := Lib.hid hR1
  have hzb1 := hb1.size
  have hg1 : g < w1.heap.size := hR1.lt
  clear hR1
  go_wp2_with fail
  refine (wrblob_any g 0 b 0 64 w1 HR1.out (by rw [HL3.out]; omega) HBB.out).mono ?_
  rintro e w2 ⟨A4, k2, c4, rfl, hS2, hk2, hc4, hm4, hD2, hbt2⟩
  have hl2 := blob_le b 0 0 64 (by omega)
  rw [hS2.1] at hl2
  have HP : Hid (partsB b = ((blobR b 0 0 64).1, (blobR b (blobR b 0 0 64).2.1 (blobR b 0 0 64).2.2 1024).1,
   (rawR b (blobR b (blobR b 0 0 64).2.1 (blobR b 0 0 64).2.2 1024).2.1 (blobR b (blobR b 0 0 64).2.1 (blobR b 0 0 64).2.2 1024).2.2 32).1,
   endR b (rawR b (blobR b (blobR b 0 0 64).2.1 (blobR b 0 0 64).2.2 1024).2.1 (blobR b (blobR b 0 0 64).2.1 (blobR b 0 0 64).2.2 1024).2.2 32).2.1
     (rawR b (blobR b (blobR b 0 0 64).2.1 (blobR b 0 0 64).2.2 1024).2.1 (blobR b (blobR b 0 0 64).2.1 (blobR b 0 0 64).2.2 1024).2.2 32).2.2)) := rfl
  obtain ⟨X2, HX2⟩ : ∃ X, Hid (blobR b 0 0 64 = X) := ⟨_, rfl⟩
  rw [HX2.out] at HP hS2 hD2
  have HS2 := Lib.hid hS2
  have HD2 := Lib.hid hD2
  have hzb2 := hbt2.size
  clear hS2 hD2
  go_wp2_with fail
  refine (wrblob_any g X2.2.1 b X2.2.2 1024 w2 HD2.out (by rw [HL3.out]; omega) HBB.out).mono ?_
  rintro e w3 ⟨A5, k3, c5, rfl, hS3, hk3, hc5, hm5, hD3, hbt3⟩
  have hl3 := blob_le b X2.2.1 X2.2.2 1024 (by omega)
  rw [hS3.1] at hl3
  obtain ⟨X3, HX3⟩ : ∃ X, Hid (blobR b X2.2.1 X2.2.2 1024 = X) := ⟨_, rfl⟩
  rw [HX3.out] at HP hS3 hD3
  have HS3 := Lib.hid hS3
  have HD3 := Lib.hid hD3
  have hzb3 := hbt3.size
  have HN3 := Lib.hid (HS2.out.but2 hbt3 (Nat.le_refl _))
  clear hS3 hD3
  go_wp2_with fail
  refine (wrraw_any g X3.2.1 b X3.2.2 32 w3 HD3.out (by rw [HL3.out]; omega)).mono ?_
  rintro e w4 ⟨A6, k4, c6, rfl, hS4, hk4, hc6, hm6, hD4, hbt4⟩
  have hI4 := inB_raw b X3.2.1 X3.2.2 32 HBB.out
  obtain ⟨X4, HX4⟩ : ∃ X, Hid (rawR b X3.2.1 X3.2.2 32 = X) := ⟨_, rfl⟩
  rw [HX4.out] at HP hS4 hD4 hI4
  have HI4 := Lib.hid hI4
  have HS4 := Lib.hid hS4
  have HD4 := Lib.hid hD4
  have hzb4 := hbt4.size
  have HN4 := Lib.hid (HN3.out.but2 hbt4 (Nat.le_refl _))
  have HC4 := Lib.hid (HS3.out.but2 hbt4 (Nat.le_refl _))
  clear hS4 hD4 hI4
  go_wp2_with fail
  refine (wend_any g X4.2.1 b X4.2.2 w4 HD4.out).mono ?_
  rintro e w5 ⟨rfl, rfl⟩
  have hbt : But w1 w4 g := hbt2.trans (hbt3.trans hbt4)
  have hbw5 : Below w.heap.size w w4 := below_but hb1 hbt hgw hzb1
  have hzw5 := hbw5.size
  have hg5 : g ≤ w4.heap.size := by omega
  have HN5 := Lib.hid (HN4.out.more hg5)
  have HC5 := Lib.hid (HC4.out.more hg5)
  have HT5 := Lib.hid (HS4.out.more hg5)
  have HK5 := Lib.hid (HK.out.below hbw5 hk0)
  obtain ⟨E, HE⟩ : ∃ E, Hid (endR b X4.2.1 X4.2.2 = E) := ⟨_, rfl⟩
  rw [HE.out] at HP ⊢
  by_cases hE : E ≠ 0
  · have hd : (E != 0) = true := by simpa using hE
    have HO : Hid (openI key ad b = ([], E)) := by show _ = _; rw [openI, HP.out, openBox, if_pos hE]
    clear hE
    go_wp2_with fail
    go_ret2
    rw [HO.out]
    exact ⟨none, 0, 0, rfl, by omega, Nat.le_refl _, by omega, Seg.nil _ _ _ _, hbw5⟩
  · have hE0 : E = 0 := by omega
    have hd : (E != 0) = false := by simp [hE0]
    have HO : Hid (openI key ad b = if sameB X4.1 (tagI key X2.1 ad X3.1) = false then ([], 18) else (streamI key X2.1 X3.1, 0)) := by
      show _ = _
      rw [openI, HP.out, openBox, if_neg (by simpa using hE0)]
    clear hE hE0
    have hS5 := Lib.hid ((HS.out.below hbw5 (Nat.le_refl _)).more hzw5)
    have hA5 := Lib.hid ((HT.out.below hbw5 (Nat.le_refl _)).more hzw5)
    go_wp2_with fail
    refine (wtag_any A A4 A2 A5 n c k2 c4 n2 c2 k3 c5 key X2.1 ad X3.1 w4 hS5.out hn hc hm HN5.out (by omega) hc4 hm4 hA5.out hn2 hc2 (by unfold maxLen; omega) HC5.out (by omega) hc5 hm5 HK5.out).mono ?_
    rintro e w6 ⟨v6, rfl, hR6, hb6⟩
    have HR6 := Lib.hid hR6
    obtain ⟨A7, c7, rfl, _, _⟩ := hR6.cut
    have hbw6 := hbw5.trans (hb6.mono hzw5)
    have hzw6 := hbw6.size
    have hzb6 := hb6.size
    have HT6 := Lib.hid (HT5.out.below hb6 (Nat.le_refl _))
    have HN6 := Lib.hid ((HN5.out.below hb6 (Nat.le_refl _)).more hzb6)
    have HC6 := Lib.hid ((HC5.out.below hb6 (Nat.le_refl _)).more hzb6)
    have HK6 := Lib.hid (HK.out.below hbw6 hk0)
    have HS6 := Lib.hid ((HS.out.below hbw6 (Nat.le_refl _)).more hzw6)
    clear hR6
    go_wp2_with fail
    refine (mequal_any A6 A7 k4 c6 32 c7 _ _ X4.1 _ w6 HT6.out HR6.out.seg HI4.out (inB_sha2 _)).mono ?_
    rintro e w7 ⟨rfl, rfl⟩
    by_cases hsame : sameB X4.1 (tagI key X2.1 ad X3.1) = false
    · have HO2 : Hid (openI key ad b = ([], 18)) := by show _ = _; rw [HO.out, if_pos hsame]
      rw [hsame]
      clear hsame
      go_wp2_with fail
      go_ret2
      rw [HO2.out]
      exact ⟨none, 0, 0, rfl, by omega, Nat.le_refl _, by omega, Seg.nil _ _ _ _, hbw6⟩
    · have HO2 : Hid (openI key ad b = (streamI key X2.1 X3.1, 0)) := by show _ = _; rw [HO.out, if_neg hsame]
      have hst : sameB X4.1 (tagI key X2.1 ad X3.1) = true := by simpa using hsame
      rw [hst]
      clear hsame hst
      go_wp2_with fail
      refine (wcombine_any A A4 A5 n c k2 c4 k3 c5 key X2.1 X3.1 w6 HS6.out hn hc hm HN6.out (by omega) HC6.out (by omega) HK6.out).mono ?_
      rintro e w8 ⟨v8, rfl, hR8, hb8⟩
      obtain ⟨A8, c8, rfl, hc8, hm8⟩ := hR8.cut
      have HR8 := Lib.hid hR8.seg
      unfold maxLen at hm8
      clear hR8
      go_wp2_with fail
      go_ret2
      rw [HO2.out]
      exact ⟨A8, k3, c8, rfl, by omega, hc8, hm8, HR8.out, hbw6.trans (hb8.mono hzw6)⟩
end Go.Proofs.YtcmbnldeojlhbaaDoor
namespace Go.Proofs.YtcmbnldeojlhbaaDoor
open Go.RowKit

/-- What was there before is there behind a call, below the heap's end. -/
theorem Seg.up {w w' : World} {k : IntKind} {A : Option Addr} {n : Nat} {xs : List Int} (h : Seg w w.heap.size k A n xs) (hb : Below w.heap.size w w') : Seg w' w'.heap.size k A n xs := (h.below hb (Nat.le_refl _)).more hb.size
/-- Slices of these lengths lie in block g. -/
def Lens (w : World) (g : Nat) (ns : List Nat) : Prop := ∀ j, j < ns.length → ∃ A c, w.cell? ⟨g, j, none⟩ = some (.slice A (ns.getD j 0) c)
def smallB (ns : List Nat) : Bool := decide (∀ n ∈ ns, n ≤ 120)

set_option maxRecDepth 100000 in
set_option maxHeartbeats 1000000 in
theorem small_any (g k c : Nat) (ns : List Nat) (w : World) (h : Lens w g ns) (hk : ns.length = k) (hk2 : k ≤ 100) :
    Calls Tryd.prog 11 #[.slice (some ⟨g, 0, none⟩) k c] w fun e w' => e = .returned (.bool (smallB ns)) ∧ w = w' := by
  have H := Lib.hid h
  have HK := Lib.hid hk
  clear h hk
  go_enter Tryd.func11, Tryd.ntmps11
  go_wp2_with fail
  go_loop [3] (fun i => ∃ j : Nat, j ≤ k ∧ i = .int .i64 j ∧ Hid (∀ n ∈ ns.take j, n ≤ 120)) (fun i => k - (intOf i).toNat)
  case atStart => exact ⟨0, by omega, rfl, by intro n hn; simp at hn⟩
  case round =>
    obtain ⟨j, hj, rfl, HP⟩ := hrel
    by_cases hjt : j < k
    · have hd : decide ((j : Int) < k) = true := by simp; omega
      obtain ⟨A', c', hcell⟩ := H.out j (by rw [HK.out]; exact hjt)
      obtain ⟨m, hm⟩ : ∃ m, Hid (ns.getD j 0 = m) := ⟨_, rfl⟩
      rw [hm.out] at hcell
      have hmem : m ∈ ns := by
        rw [← hm.out]
        have hl : j < ns.length := by rw [HK.out]; exact hjt
        rw [show ns.getD j 0 = ns[j] by simp [List.getD, hl]]
        exact List.getElem_mem hl
      have HM := Lib.hid hmem
      clear hmem
      by_cases hbig : 120 < m
      · have hb : decide ((120 : Int) < m) = true := by simp; omega
        have HS : Hid (smallB ns = false) := by
          show _ = _
          simp only [smallB, decide_eq_false_iff_not]
          intro h
          have := h m HM.out
          omega
        go_wp2_with fail
        go_ret
        exact ⟨by rw [HS.out]; rfl, rfl⟩
      · have hb : decide ((120 : Int) < m) = false := by simp; omega
        go_wp2_with fail
        go_round
        case measure => simp [intOf]; omega
        case rel =>
          refine ⟨j + 1, by omega, by go_num, ?_⟩
          intro n hn
          rw [List.take_add_one, List.mem_append] at hn
          rcases hn with h | h
          · exact HP.out n h
          · have hl : j < ns.length := by rw [HK.out]; exact hjt
            rw [List.getElem?_eq_getElem hl] at h
            have e : ns.getD j 0 = ns[j] := by simp [List.getD, hl]
            have h' : n = ns[j] := by simpa using h
            rw [h', ← e, hm.out]
            omega
    · have hd : decide ((j : Int) < k) = false := by simp; omega
      have HS : Hid (smallB ns = true) := by
        show _ = _
        have h := HP.out
        rw [List.take_of_length_le (by rw [HK.out]; omega)] at h
        simpa [smallB] using h
      go_wp2_with fail
      go_ret
      exact ⟨by rw [HS.out]; rfl, rfl⟩

theorem lens4 (W : World) (A1 A2 A3 A4 : Option Addr) (n1 n2 n3 n4 c1 c2 c3 c4 : Nat) (t : TypeId) (g : Nat) (hg : g = W.heap.size) :
    Lens (W.alloc (.cells #[.slice A1 n1 c1, .slice A2 n2 c2, .slice A3 n3 c3, .slice A4 n4 c4] t)) g [n1, n2, n3, n4] := by
  intro j hj
  match j, hj with
  | 0, _ => exact ⟨_, _, cell_made W _ t g 0 _ hg rfl⟩
  | 1, _ => exact ⟨_, _, cell_made W _ t g 1 _ hg rfl⟩
  | 2, _ => exact ⟨_, _, cell_made W _ t g 2 _ hg rfl⟩
  | 3, _ => exact ⟨_, _, cell_made W _ t g 3 _ hg rfl⟩
theorem small4 {n1 n2 n3 n4 : Nat} (h : smallB [n1, n2, n3, n4] = true) : n1 ≤ 120 ∧ n2 ≤ 120 ∧ n3 ≤ 120 ∧ n4 ≤ 120 := by
  simpa [smallB] using h

theorem sealI_length (key nonce ad plain : List Int) (h1 : nonce.length ≤ 64) (h2 : plain.length ≤ 1024) : (sealI key nonce ad plain).length = 36 + nonce.length + plain.length := by
  rw [sealI, if_neg (by omega), List.length_append, tagI_length, blobB_short _ _ (by rw [streamI_length _ _ _ h2]; omega), blobB_short _ _ (by omega)]
  simp only [List.length_append, beI_length, streamI_length _ _ _ h2, List.length_nil]
  omega
theorem inB_mac (key xs : List Int) : InB (macI key xs) := inB_sha2 _
theorem xor8_in (x y : Int) : 0 ≤ bits .xor .u8 x y ∧ bits .xor .u8 x y < 256 := by
  have hw : ∀ n : Int, IntKind.u8.wrap n = n % 256 := fun n => by simp [IntKind.wrap, IntKind.bits, IntKind.signed]
  have e : bits .xor .u8 x y = IntKind.u8.wrap ((BitVec.ofInt 8 x ^^^ BitVec.ofInt 8 y).toNat : Int) := rfl
  rw [e, hw]
  omega
theorem inB_xor : ∀ (b k : List Int), InB (xorL b k)
  | [], _ => by intro x hx; simp [xorL] at hx
  | _ :: _, [] => by intro x hx; simp [xorL] at hx
  | x :: b, y :: k => by
    intro z hz
    simp only [xorL, List.zipWith_cons_cons, List.mem_cons] at hz
    rcases hz with rfl | h
    · exact xor8_in x y
    · exact inB_xor b k z h
theorem inB_stream (key nonce b : List Int) : InB (streamI key nonce b) := inB_xor _ _
theorem inB_bytes8 (s : Nat) (n : Int) : InB (beI s n) := by
  intro y hy
  obtain ⟨j, _, rfl⟩ := List.mem_map.1 hy
  omega
theorem inB_uint (b : List Int) (s n : Int) (hb : InB b) : InB (uintB b s n) := by
  unfold uintB
  split
  · exact hb
  · exact inB_append hb (inB_bytes8 _ _)
theorem inB_blob (b x : List Int) (hb : InB b) (hx : InB x) : InB (blobB b x) := inB_append (inB_uint _ _ _ hb) (hx.take _)
theorem inB_seal (key nonce ad plain : List Int) (hn : InB nonce) : InB (sealI key nonce ad plain) := by
  unfold sealI
  split
  · intro x hx; cases hx
  · exact inB_append (inB_blob _ _ (inB_blob _ _ (by intro x hx; cases hx) hn) (inB_stream _ _ _)) (inB_mac _ _)

set_option maxRecDepth 100000 in
set_option maxHeartbeats 2000000 in
theorem awake4_any (w : World) (hK : Tab w 0 .u32 kay256) : Calls Tryd.prog 10 #[] w fun e w' => e = .returned (.bool true) ∧ Below w.heap.size w w' := by
  have HK := Lib.hid hK
  have hw0 := hK.lt
  clear hK
  go_enter Tryd.func10, Tryd.ntmps10
  go_wp2_with fail
  have hal : ∀ (W : World) (o : Obj), Below W.heap.size W (W.alloc o) := fun W o => (Below.refl _ _).alloc (Nat.le_refl _) _
  have hs1 : Seg (w.alloc (.cells (ints .u8 [1]).toArray 5)) (w.alloc (.cells (ints .u8 [1]).toArray 5)).heap.size .u8 (some ⟨w.heap.size, 0, none⟩) 1 [1] := Seg.of_blk (Blk.new w 5 .u8 [1])
  obtain ⟨wa, hwa⟩ : ∃ wa, wa = w.alloc (.cells (ints .u8 [1]).toArray 5) := ⟨_, rfl⟩
  have hs2 : Seg (wa.alloc (.cells (ints .u8 [2]).toArray 5)) (wa.alloc (.cells (ints .u8 [2]).toArray 5)).heap.size .u8 (some ⟨wa.heap.size, 0, none⟩) 1 [2] := Seg.of_blk (Blk.new wa 5 .u8 [2])
  obtain ⟨wb, hwb⟩ : ∃ wb, wb = wa.alloc (.cells (ints .u8 [2]).toArray 5) := ⟨_, rfl⟩
  have hs3 : Seg (wb.alloc (.cells (ints .u8 [3]).toArray 5)) (wb.alloc (.cells (ints .u8 [3]).toArray 5)).heap.size .u8 (some ⟨wb.heap.size, 0, none⟩) 1 [3] := Seg.of_blk (Blk.new wb 5 .u8 [3])
  obtain ⟨wc, hwc⟩ : ∃ wc, wc = wb.alloc (.cells (ints .u8 [3]).toArray 5) := ⟨_, rfl⟩
  have ba : Below w.heap.size w wa := by rw [hwa]; exact hal _ _
  have bb : Below wa.heap.size wa wb := by rw [hwb]; exact hal _ _
  have bc : Below wb.heap.size wb wc := by rw [hwc]; exact hal _ _
  rw [← hwa] at hs1
  rw [← hwb] at hs2
  rw [← hwc] at hs3
  have zab := bb.size
  have zbc := bc.size
  have za := ba.size
  have H1 := Lib.hid (((hs1.below bb (Nat.le_refl _)).more zab).below bc (Nat.le_refl _) |>.more zbc)
  have H2 := Lib.hid ((hs2.below bc (Nat.le_refl _)).more zbc)
  have H3 := Lib.hid hs3
  have hbw : Below w.heap.size w wc := (ba.trans (bb.mono za)).trans (bc.mono (by omega))
  have HKc := Lib.hid (HK.out.below hbw hw0)
  have hwcz := hbw.size
  have e1 : wa.heap.size = w.heap.size + 1 := by rw [hwa]; simp
  have e2 : wb.heap.size = w.heap.size + 1 + 1 := by rw [hwb]; simp; omega
  rw [e1] at H2
  rw [e2] at H3
  have hworld : ((w.alloc (.cells #[.int .u8 1] 5)).alloc (.cells #[.int .u8 2] 5)).alloc (.cells #[.int .u8 3] 5) = wc := by rw [hwc, hwb, hwa]; rfl
  rw [hworld]
  clear hs1 hs2 hs3 e1 e2 hworld hwa hwb hwc ba bb bc zab zbc za hal
  refine (wseal_any _ _ _ _ 1 1 1 1 0 0 1 1 [1] [2] [] [3] wc H1.out (by omega) (by omega) (by omega) H2.out (by omega) (by omega) (by omega) (Seg.nil _ _ _ _) (by omega) (by omega) (by omega) H3.out (by omega) (by omega) (by omega) HKc.out).mono ?_
  rintro e w1 ⟨B1, k1, d1, rfl, hk1, hd1, hdm1, hS1, hb1⟩
  have hl1 : k1 = 38 := by rw [← hS1.1, sealI_length _ _ _ _ (by simp) (by simp)]; rfl
  subst hl1
  have HS1 := Lib.hid hS1
  have hbw1 := hbw.trans (hb1.mono hwcz)
  have hz1 := hbw1.size
  clear hS1
  go_wp2_with fail
  have hbq : Below w1.heap.size w1 (w1.alloc (.cells (ints .u8 [1]).toArray 5)) := (Below.refl _ _).alloc (Nat.le_refl _) _
  have hsq : Seg (w1.alloc (.cells (ints .u8 [1]).toArray 5)) (w1.alloc (.cells (ints .u8 [1]).toArray 5)).heap.size .u8 (some ⟨w1.heap.size, 0, none⟩) 1 [1] := Seg.of_blk (Blk.new w1 5 .u8 [1])
  have hzq := hbq.size
  have hbwq := hbw1.trans (hbq.mono hz1)
  have HO : Hid (openI [1] [] (sealI [1] [2] [] [3]) = ([3], 0)) := open_seal [1] [2] [] [3] (by simp) (by simp) (by intro y hy; simp at hy; omega)
  refine (wopen_any _ _ _ 1 1 0 0 38 d1 [1] [] (sealI [1] [2] [] [3]) _ hsq (by omega) (by omega) (by omega) (Seg.nil _ _ _ _) (by omega) (by omega) (by omega) ((HS1.out.below hbq (Nat.le_refl _)).more hzq) (by omega) hd1 hdm1 (inB_seal _ _ _ _ (by intro y hy; simp at hy; omega)) (HK.out.below hbwq hw0)).mono ?_
  rw [HO.out]
  rintro e w2 ⟨B2, k2, d2, rfl, hk2, hd2, hdm2, hS2, hb2⟩
  have hl2 : k2 = 1 := hS2.1.symm
  subst hl2
  obtain ⟨b, off, rfl, hlt, hc⟩ := hS2.2 (by omega)
  have hc0 : w2.cell? ⟨b, off, none⟩ = some (.int .u8 3) := hc 0 (by omega)
  have hbw2 := hbwq.trans (hb2.mono hbwq.size)
  clear hc hS2 hsq
  go_wp2_with fail
  go_ret
  exact ⟨rfl, hbw2⟩
end Go.Proofs.YtcmbnldeojlhbaaDoor
namespace Go.Proofs.YtcmbnldeojlhbaaDoor
open Go.RowKit

set_option maxRecDepth 1000000 in
theorem sha256_abc : sha256 [97, 98, 99] = [186, 120, 22, 191, 143, 1, 207, 234, 65, 65, 64, 222, 93, 174, 34, 35, 176, 3, 97, 163, 150, 23, 122, 156, 180, 16, 255, 97, 242, 0, 21, 173] := by decide +kernel
theorem digestI_length (alg : Int) (xs : List Int) : ((digestI alg xs).length : Int) = sizeI alg := by
  unfold digestI sizeI
  split
  · rw [sha1_length]; rfl
  · split
    · rw [sha256_length]; rfl
    · rfl

end Go.Proofs.YtcmbnldeojlhbaaDoor
namespace Go.Proofs.YtcmbnldeojlhbaaDoor
open Go.RowKit

/-- The eight bytes of a length. -/
def be8 (x : Int) (k : Nat) : List Int := (List.range k).map fun j => x / 2 ^ (8 * (7 - j)) % 256
theorem be8_next (x : Int) (k : Nat) : be8 x (k + 1) = be8 x k ++ [x / 2 ^ (8 * (7 - k)) % 256] := by simp [be8, List.range_succ]
theorem be8_full (n : Nat) (hn : n ≤ 1099511627776) : be8 ((n : Int) * 8) 8 = tail8 n := by
  simp only [be8, tail8, be4, List.range, List.range.loop, List.map, List.cons_append, List.nil_append, List.cons.injEq, and_true]
  omega

set_option maxRecDepth 100000 in
set_option maxHeartbeats 2000000 in
theorem rpad_any (A : Option Addr) (n c : Nat) (xs : List Int) (w : World) (hs : Seg w w.heap.size .u8 A n xs) (hn : n ≤ 1099511627776) :
    Calls Tryd.prog 65 #[.slice A n c] w fun e w' => ∃ v, e = .returned v ∧ Own w' w.heap.size 5 .u8 v (padded xs) ∧ Below w.heap.size w w' := by
  obtain ⟨i0, hi, hz0, hz1, hz2⟩ := info_parts Tryd.infoU8
  have HS := Lib.hid hs
  have hxl : xs.length = n := hs.1
  clear hs
  have hown0 : (w.alloc (.cells #[] 5)).ownsRow w.heap.size 5 1 (.slice (some ⟨w.heap.size, 0, none⟩) 0 0) 0 [] :=
    ⟨rfl, .inr ⟨w.heap.size, 0, #[], rfl, Nat.le_refl _, heap_alloc_new w _, Nat.le_refl _, by unfold maxLen; omega, rfl, rfl⟩⟩
  have hb0 : Below w.heap.size w (w.alloc (.cells #[] 5)) := (Below.refl _ _).alloc (Nat.le_refl _) _
  have hs0 := HS.out.below hb0 (Nat.le_refl _)
  go_enter Tryd.func65, Tryd.ntmps65
  go_wp2_with (first
    | (at_builtin; refine wpList_app _ rfl (.tmp 6) (.tmp 7) 22 rfl w.heap.size 5 i0 (.int .u8 0) 1 Tryd.underlying22 hi hz0 hz1 hz2 rfl .u8 _ [] rfl hown0 _ A n c xs rfl hs0 (by unfold maxLen; simp; omega) (by simp; omega) hb0.size ?_; intro v2 w2 hown2 hg2 hor2; have hb2 := own_below (k := .u8) (xs := []) hown0 hg2 hb0 hb0.size; have hz2' := hb2.size; clear hg2 hor2)
    | (at_builtin; refine wpList_app _ rfl (.tmp 8) (.tmp 9) 22 rfl w.heap.size 5 i0 (.int .u8 0) 1 Tryd.underlying22 hi hz0 hz1 hz2 rfl .u8 _ ([] ++ xs) rfl (hown2.alloc _) (w2.heap.size + 1) (some ⟨w2.heap.size, 0, none⟩) 1 1 [128] rfl ((Seg.of_blk (Blk.new w2 5 .u8 [128])).more (by simp)) (by unfold maxLen; simp; omega) (by simp; omega) (by simp; omega) ?_; intro v3 w3 hown3 hg3 hor3; have hb3 := own_below (hown2.alloc _) hg3 (hb2.alloc hz2' _) (by simp; omega); have hz3' := hb3.size; clear hg3 hown2 hor3))
  clear hb0 hs0 hown0 hb2 hz2'
  go_loopw [3] (fun v wr => ∃ (j : Nat) (A' : Option Addr) (c' : Nat), j ≤ (119 - n % 64) % 64 ∧ v = .slice A' (n + 1 + j) c' ∧ Own wr w.heap.size 5 .u8 v (xs ++ 128 :: List.replicate j 0) ∧ Below w.heap.size w wr)
    (fun v _ => n + 1 + 64 - lenOf v)
  case atStart =>
    obtain ⟨A', c', hv, _, _⟩ := Own.cut hown3
    exact ⟨0, A', c', by omega, by rw [hv]; simp [hxl], by simpa using hown3, hb3⟩
  case round =>
    clear hown3 hb3 hz3'
    obtain ⟨j, A', c', hj, rfl, hown, hb⟩ := hrel
    have hz := hb.size
    have hln : (xs ++ 128 :: List.replicate j 0).length = n + 1 + j := by simp [hxl]; omega
    have HL := Lib.hid hln
    clear hln
    by_cases hlt : j < (119 - n % 64) % 64
    · have hne : (((n : Int) + 1 + j) % 64 != 56) = true := by rw [bne_iff_ne]; omega
      have hl2 := HL.out
      go_wp2_with (at_builtin; refine wpList_app _ rfl (.tmp 15) (.tmp 16) 22 rfl w.heap.size 5 i0 (.int .u8 0) 1 Tryd.underlying22 hi hz0 hz1 hz2 rfl .u8 _ (xs ++ 128 :: List.replicate j 0) rfl (hown.alloc _) (wr.heap.size + 1) (some ⟨wr.heap.size, 0, none⟩) 1 1 [0] rfl ((Seg.of_blk (Blk.new wr 5 .u8 [0])).more (by simp)) (by unfold maxLen; rw [HL.out]; omega) (by rw [HL.out]; omega) (by simp; omega) ?_; intro v3 w3 hown3 hg3 hor3; have hb3 := own_below (hown.alloc _) hg3 (hb.alloc hz _) (by simp; omega); clear hg3 hor3)
      obtain ⟨A3, c3, hv3, _, _⟩ := Own.cut hown3
      have hl3 : (xs ++ 128 :: List.replicate j 0 ++ [0]).length = n + 1 + (j + 1) := by rw [List.length_append, hl2]; rfl
      rw [hl3] at hv3
      refine ⟨⟨j + 1, A3, c3, by omega, hv3, ?_, hb3⟩, by rw [hv3]; simp only [lenOf]; omega⟩
      have e : xs ++ 128 :: List.replicate (j + 1) 0 = xs ++ 128 :: List.replicate j 0 ++ [(0 : Int)] := by rw [List.replicate_succ']; simp
      rw [e]
      exact hown3
    · have hne : (((n : Int) + 1 + j) % 64 != 56) = false := by rw [bne_eq_false_iff_eq]; omega
      have hjz : (119 - n % 64) % 64 = j := by omega
      have HJ := Lib.hid hjz
      have hjb : j < 64 := by omega
      clear hjz hj hlt
      go_wp2_with fail
      go_loopw [3, 5] (fun v i wr => ∃ k : Nat, k ≤ 8 ∧ i = .int .i64 (7 - (k : Int)) ∧ Own wr w.heap.size 5 .u8 v (xs ++ 128 :: List.replicate j 0 ++ be8 ((n : Int) * 8) k) ∧ Below w.heap.size w wr)
        (fun _ i _ => (intOf i + 1).toNat)
      case atStart => exact ⟨0, by omega, rfl, by simpa [be8] using hown, hb⟩
      case round =>
        clear hown hb hz
        obtain ⟨k, hk, rfl, hown, hb⟩ := hrel
        have hz := hb.size
        have hlk : (xs ++ 128 :: List.replicate j 0 ++ be8 ((n : Int) * 8) k).length = n + 1 + j + k := by rw [List.length_append, HL.out]; simp [be8]
        have HLK := Lib.hid hlk
        clear hlk
        by_cases hk8 : k < 8
        · obtain ⟨q, hq⟩ : ∃ q : Nat, (7 - (k : Int)) = q := ⟨7 - k, by omega⟩
          have hq7 : q ≤ 7 := by omega
          have hqk : 7 - k = q := by omega
          rw [hq]
          have HQ := Lib.hid hq
          have HQK := Lib.hid hqk
          clear hq hqk
          have hd : decide ((0 : Int) ≤ q) = true := by simp
          go_wp2_with (at_builtin; refine wpList_app _ rfl (.tmp 26) (.tmp 33) 22 rfl w.heap.size 5 i0 (.int .u8 0) 1 Tryd.underlying22 hi hz0 hz1 hz2 rfl .u8 _ (xs ++ 128 :: List.replicate j 0 ++ be8 ((n : Int) * 8) k) rfl (hown.alloc _) (wr.heap.size + 1) (some ⟨wr.heap.size, 0, none⟩) 1 1 [(n : Int) * 8 / 2 ^ (8 * q) % 256] rfl ((Seg.of_blk (Blk.new wr 5 .u8 [(n : Int) * 8 / 2 ^ (8 * q) % 256])).more (by simp)) (by unfold maxLen; rw [HLK.out]; omega) (by rw [HLK.out]; omega) (by simp; omega) ?_; intro v3 w3 hown3 hg3 hor3; have hb3 := own_below (hown.alloc _) hg3 (hb.alloc hz _) (by simp; omega); clear hg3 hor3)
          go_roundw
          case measure => simp [intOf]
          case rel =>
            refine ⟨k + 1, by omega, ?_, ?_, hb3⟩
            · have := HQ.out
              congr 1
              omega
            · rw [be8_next, HQK.out, ← List.append_assoc]
              exact hown3
        · obtain rfl : k = 8 := by omega
          have hd : decide ((0 : Int) ≤ 7 - (8 : Nat)) = false := by decide
          have e : padded xs = xs ++ 128 :: List.replicate j 0 ++ be8 ((n : Int) * 8) 8 := by
            rw [be8_full n hn]
            simp only [padded, tailI, hxl, HJ.out]
            simp
          have HE := Lib.hid e
          clear e
          go_wp2_with fail
          go_ret
          refine ⟨_, rfl, ?_, hb⟩
          rw [HE.out]
          exact hown
end Go.Proofs.YtcmbnldeojlhbaaDoor
