/-
  The sanity check with which each statement of layer 4 begins, and whether byte strings are short enough.
-/
import Derived.Test.YtcmbnldeojlhbaaDoorWBox
namespace Go.Proofs.YtcmbnldeojlhbaaDoor
open Go.RowKit

/-- What was there before is there behind a call, below the heap's end. -/
theorem Seg.up {w w' : World} {k : IntKind} {A : Option Addr} {n : Nat} {xs : List Int} (h : Seg w w.heap.size k A n xs) (hb : Below w.heap.size w w') : Seg w' w'.heap.size k A n xs := (h.below hb (Nat.le_refl _)).more hb.size
/-- Slices of these lengths lie in block g. -/
def Lens (w : World) (g : Nat) (ns : List Nat) : Prop := ∀ j, j < ns.length → ∃ A c, w.cell? ⟨g, j, none⟩ = some (.slice A (ns.getD j 0) c)
def smallB (ns : List Nat) : Bool := decide (∀ n ∈ ns, n ≤ 120)

set_option maxRecDepth 100000 in
set_option maxHeartbeats 1000000 in
theorem small_any (g k c : Nat) (ns : List Nat) (w : World) (h : Lens w g ns) (hk : ns.length = k) (hk2 : k ≤ 100) :
    Calls Tryd.prog 11 #[.slice (some ⟨g, 0, none⟩) k c] w fun e w' => e = .returned (.bool (smallB ns)) ∧ w = w' := by
  have H := Lib.hid h
  have HK := Lib.hid hk
  clear h hk
  go_enter Tryd.func11, Tryd.ntmps11
  go_wp2_with fail
  go_loop [3] (fun i => ∃ j : Nat, j ≤ k ∧ i = .int .i64 j ∧ Hid (∀ n ∈ ns.take j, n ≤ 120)) (fun i => k - (intOf i).toNat)
  case atStart => exact ⟨0, by omega, rfl, by intro n hn; simp at hn⟩
  case round =>
    obtain ⟨j, hj, rfl, HP⟩ := hrel
    by_cases hjt : j < k
    · have hd : decide ((j : Int) < k) = true := by simp; omega
      obtain ⟨A', c', hcell⟩ := H.out j (by rw [HK.out]; exact hjt)
      obtain ⟨m, hm⟩ : ∃ m, Hid (ns.getD j 0 = m) := ⟨_, rfl⟩
      rw [hm.out] at hcell
      have hmem : m ∈ ns := by
        rw [← hm.out]
        have hl : j < ns.length := by rw [HK.out]; exact hjt
        rw [show ns.getD j 0 = ns[j] by simp [List.getD, hl]]
        exact List.getElem_mem hl
      have HM := Lib.hid hmem
      clear hmem
      by_cases hbig : 120 < m
      · have hb : decide ((120 : Int) < m) = true := by simp; omega
        have HS : Hid (smallB ns = false) := by
          show _ = _
          simp only [smallB, decide_eq_false_iff_not]
          intro h
          have := h m HM.out
          omega
        go_wp2_with fail
        go_ret
        exact ⟨by rw [HS.out]; rfl, rfl⟩
      · have hb : decide ((120 : Int) < m) = false := by simp; omega
        go_wp2_with fail
        go_round
        case measure => simp [intOf]; omega
        case rel =>
          refine ⟨j + 1, by omega, by go_num, ?_⟩
          intro n hn
          rw [List.take_add_one, List.mem_append] at hn
          rcases hn with h | h
          · exact HP.out n h
          · have hl : j < ns.length := by rw [HK.out]; exact hjt
            rw [List.getElem?_eq_getElem hl] at h
            have e : ns.getD j 0 = ns[j] := by simp [List.getD, hl]
            have h' : n = ns[j] := by simpa using h
            rw [h', ← e, hm.out]
            omega
    · have hd : decide ((j : Int) < k) = false := by simp; omega
      have HS : Hid (smallB ns = true) := by
        show _ = _
        have h := HP.out
        rw [List.take_of_length_le (by rw [HK.out]; omega)] at h
        simpa [smallB] using h
      go_wp2_with fail
      go_ret
      exact ⟨by rw [HS.out]; rfl, rfl⟩

theorem lens4 (W : World) (A1 A2 A3 A4 : Option Addr) (n1 n2 n3 n4 c1 c2 c3 c4 : Nat) (t : TypeId) (g : Nat) (hg : g = W.heap.size) :
    Lens (W.alloc (.cells #[.slice A1 n1 c1, .slice A2 n2 c2, .slice A3 n3 c3, .slice A4 n4 c4] t)) g [n1, n2, n3, n4] := by
  intro j hj
  match j, hj with
  | 0, _ => exact ⟨_, _, cell_made W _ t g 0 _ hg rfl⟩
  | 1, _ => exact ⟨_, _, cell_made W _ t g 1 _ hg rfl⟩
  | 2, _ => exact ⟨_, _, cell_made W _ t g 2 _ hg rfl⟩
  | 3, _ => exact ⟨_, _, cell_made W _ t g 3 _ hg rfl⟩
theorem small4 {n1 n2 n3 n4 : Nat} (h : smallB [n1, n2, n3, n4] = true) : n1 ≤ 120 ∧ n2 ≤ 120 ∧ n3 ≤ 120 ∧ n4 ≤ 120 := by
  simpa [smallB] using h

theorem sealI_length (key nonce ad plain : List Int) (h1 : nonce.length ≤ 64) (h2 : plain.length ≤ 1024) : (sealI key nonce ad plain).length = 36 + nonce.length + plain.length := by
  rw [sealI, if_neg (by omega), List.length_append, tagI_length, blobB_short _ _ (by rw [streamI_length _ _ _ h2]; omega), blobB_short _ _ (by omega)]
  simp only [List.length_append, beI_length, streamI_length _ _ _ h2, List.length_nil]
  omega
theorem inB_mac (key xs : List Int) : InB (macI key xs) := inB_sha2 _
theorem xor8_in (x y : Int) : 0 ≤ bits .xor .u8 x y ∧ bits .xor .u8 x y < 256 := by
  have hw : ∀ n : Int, IntKind.u8.wrap n = n % 256 := fun n => by simp [IntKind.wrap, IntKind.bits, IntKind.signed]
  have e : bits .xor .u8 x y = IntKind.u8.wrap ((BitVec.ofInt 8 x ^^^ BitVec.ofInt 8 y).toNat : Int) := rfl
  rw [e, hw]
  omega
theorem inB_xor : ∀ (b k : List Int), InB (xorL b k)
  | [], _ => by intro x hx; simp [xorL] at hx
  | _ :: _, [] => by intro x hx; simp [xorL] at hx
  | x :: b, y :: k => by
    intro z hz
    simp only [xorL, List.zipWith_cons_cons, List.mem_cons] at hz
    rcases hz with rfl | h
    · exact xor8_in x y
    · exact inB_xor b k z h
theorem inB_stream (key nonce b : List Int) : InB (streamI key nonce b) := inB_xor _ _
theorem inB_bytes8 (s : Nat) (n : Int) : InB (beI s n) := by
  intro y hy
  obtain ⟨j, _, rfl⟩ := List.mem_map.1 hy
  omega
theorem inB_uint (b : List Int) (s n : Int) (hb : InB b) : InB (uintB b s n) := by
  unfold uintB
  split
  · exact hb
  · exact inB_append hb (inB_bytes8 _ _)
theorem inB_blob (b x : List Int) (hb : InB b) (hx : InB x) : InB (blobB b x) := inB_append (inB_uint _ _ _ hb) (hx.take _)
theorem inB_seal (key nonce ad plain : List Int) (hn : InB nonce) : InB (sealI key nonce ad plain) := by
  unfold sealI
  split
  · intro x hx; cases hx
  · exact inB_append (inB_blob _ _ (inB_blob _ _ (by intro x hx; cases hx) hn) (inB_stream _ _ _)) (inB_mac _ _)

set_option maxRecDepth 100000 in
set_option maxHeartbeats 2000000 in
theorem awake4_any (w : World) (hK : Tab w 0 .u32 kay256) : Calls Tryd.prog 10 #[] w fun e w' => e = .returned (.bool true) ∧ Below w.heap.size w w' := by
  have HK := Lib.hid hK
  have hw0 := hK.lt
  clear hK
  go_enter Tryd.func10, Tryd.ntmps10
  go_wp2_with fail
  have hal : ∀ (W : World) (o : Obj), Below W.heap.size W (W.alloc o) := fun W o => (Below.refl _ _).alloc (Nat.le_refl _) _
  have hs1 : Seg (w.alloc (.cells (ints .u8 [1]).toArray 5)) (w.alloc (.cells (ints .u8 [1]).toArray 5)).heap.size .u8 (some ⟨w.heap.size, 0, none⟩) 1 [1] := Seg.of_blk (Blk.new w 5 .u8 [1])
  obtain ⟨wa, hwa⟩ : ∃ wa, wa = w.alloc (.cells (ints .u8 [1]).toArray 5) := ⟨_, rfl⟩
  have hs2 : Seg (wa.alloc (.cells (ints .u8 [2]).toArray 5)) (wa.alloc (.cells (ints .u8 [2]).toArray 5)).heap.size .u8 (some ⟨wa.heap.size, 0, none⟩) 1 [2] := Seg.of_blk (Blk.new wa 5 .u8 [2])
  obtain ⟨wb, hwb⟩ : ∃ wb, wb = wa.alloc (.cells (ints .u8 [2]).toArray 5) := ⟨_, rfl⟩
  have hs3 : Seg (wb.alloc (.cells (ints .u8 [3]).toArray 5)) (wb.alloc (.cells (ints .u8 [3]).toArray 5)).heap.size .u8 (some ⟨wb.heap.size, 0, none⟩) 1 [3] := Seg.of_blk (Blk.new wb 5 .u8 [3])
  obtain ⟨wc, hwc⟩ : ∃ wc, wc = wb.alloc (.cells (ints .u8 [3]).toArray 5) := ⟨_, rfl⟩
  have ba : Below w.heap.size w wa := by rw [hwa]; exact hal _ _
  have bb : Below wa.heap.size wa wb := by rw [hwb]; exact hal _ _
  have bc : Below wb.heap.size wb wc := by rw [hwc]; exact hal _ _
  rw [← hwa] at hs1
  rw [← hwb] at hs2
  rw [← hwc] at hs3
  have zab := bb.size
  have zbc := bc.size
  have za := ba.size
  have H1 := Lib.hid (((hs1.below bb (Nat.le_refl _)).more zab).below bc (Nat.le_refl _) |>.more zbc)
  have H2 := Lib.hid ((hs2.below bc (Nat.le_refl _)).more zbc)
  have H3 := Lib.hid hs3
  have hbw : Below w.heap.size w wc := (ba.trans (bb.mono za)).trans (bc.mono (by omega))
  have HKc := Lib.hid (HK.out.below hbw hw0)
  have hwcz := hbw.size
  have e1 : wa.heap.size = w.heap.size + 1 := by rw [hwa]; simp
  have e2 : wb.heap.size = w.heap.size + 1 + 1 := by rw [hwb]; simp; omega
  rw [e1] at H2
  rw [e2] at H3
  have hworld : ((w.alloc (.cells #[.int .u8 1] 5)).alloc (.cells #[.int .u8 2] 5)).alloc (.cells #[.int .u8 3] 5) = wc := by rw [hwc, hwb, hwa]; rfl
  rw [hworld]
  clear hs1 hs2 hs3 e1 e2 hworld hwa hwb hwc ba bb bc zab zbc za hal
  refine (wseal_any _ _ _ _ 1 1 1 1 0 0 1 1 [1] [2] [] [3] wc H1.out (by omega) (by omega) (by omega) H2.out (by omega) (by omega) (by omega) (Seg.nil _ _ _ _) (by omega) (by omega) (by omega) H3.out (by omega) (by omega) (by omega) HKc.out).mono ?_
  rintro e w1 ⟨B1, k1, d1, rfl, hk1, hd1, hdm1, hS1, hb1⟩
  have hl1 : k1 = 38 := by rw [← hS1.1, sealI_length _ _ _ _ (by simp) (by simp)]; rfl
  subst hl1
  have HS1 := Lib.hid hS1
  have hbw1 := hbw.trans (hb1.mono hwcz)
  have hz1 := hbw1.size
  clear hS1
  go_wp2_with fail
  have hbq : Below w1.heap.size w1 (w1.alloc (.cells (ints .u8 [1]).toArray 5)) := (Below.refl _ _).alloc (Nat.le_refl _) _
  have hsq : Seg (w1.alloc (.cells (ints .u8 [1]).toArray 5)) (w1.alloc (.cells (ints .u8 [1]).toArray 5)).heap.size .u8 (some ⟨w1.heap.size, 0, none⟩) 1 [1] := Seg.of_blk (Blk.new w1 5 .u8 [1])
  have hzq := hbq.size
  have hbwq := hbw1.trans (hbq.mono hz1)
  have HO : Hid (openI [1] [] (sealI [1] [2] [] [3]) = ([3], 0)) := open_seal [1] [2] [] [3] (by simp) (by simp) (by intro y hy; simp at hy; omega)
  refine (wopen_any _ _ _ 1 1 0 0 38 d1 [1] [] (sealI [1] [2] [] [3]) _ hsq (by omega) (by omega) (by omega) (Seg.nil _ _ _ _) (by omega) (by omega) (by omega) ((HS1.out.below hbq (Nat.le_refl _)).more hzq) (by omega) hd1 hdm1 (inB_seal _ _ _ _ (by intro y hy; simp at hy; omega)) (HK.out.below hbwq hw0)).mono ?_
  rw [HO.out]
  rintro e w2 ⟨B2, k2, d2, rfl, hk2, hd2, hdm2, hS2, hb2⟩
  have hl2 : k2 = 1 := hS2.1.symm
  subst hl2
  obtain ⟨b, off, rfl, hlt, hc⟩ := hS2.2 (by omega)
  have hc0 : w2.cell? ⟨b, off, none⟩ = some (.int .u8 3) := hc 0 (by omega)
  have hbw2 := hbwq.trans (hb2.mono hbwq.size)
  clear hc hS2 hsq
  go_wp2_with fail
  go_ret
  exact ⟨rfl, hbw2⟩
end Go.Proofs.YtcmbnldeojlhbaaDoor
