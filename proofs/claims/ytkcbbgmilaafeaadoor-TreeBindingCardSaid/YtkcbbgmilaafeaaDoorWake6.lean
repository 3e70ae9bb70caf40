/-
  The sanity check with which each statement of layer 6 begins; whether leaves are short; leaves that fit.
-/
import Derived.Test.YtkcbbgmilaafeaaDoorWTree
import Derived.Test.YtkcbbgmilaafeaaDoorSame
namespace Go.Proofs.YtkcbbgmilaafeaaDoor
open Go.RowKit

/-- The height that a drawn number stands for. -/
def heightF (h : Int) : Nat := (bits .and .i64 h 3).toNat
theorem height_le (h : Int) : heightF h ≤ 3 := by
  have : 0 ≤ bits .and .i64 h 3 ∧ bits .and .i64 h 3 ≤ 3 := and_mask h 3 (by omega)
  unfold heightF
  omega
theorem height_and (h : Int) : bits .and .i64 h 3 = (heightF h : Int) := by
  have : 0 ≤ bits .and .i64 h 3 ∧ bits .and .i64 h 3 ≤ 3 := and_mask h 3 (by omega)
  unfold heightF
  omega

/-- What was there before is there behind a call, below the heap's end. -/
theorem Seg.up {w w' : World} {k : IntKind} {A : Option Addr} {n : Nat} {xs : List Int} (h : Seg w w.heap.size k A n xs) (hb : Below w.heap.size w w') : Seg w' w'.heap.size k A n xs := (h.below hb (Nat.le_refl _)).more hb.size
theorem Fields.up {w w' : World} {A : Option Addr} {n : Nat} {fs : List (List Int)} (h : Fields w w.heap.size A n fs) (hb : Below w.heap.size w w') : Fields w' w'.heap.size A n fs := (h.below hb (Nat.le_refl _)).more hb.size
theorem seg_new (W : World) (k : IntKind) (t : TypeId) (x : List Int) : Seg (W.alloc (.cells (ints k x).toArray t)) (W.alloc (.cells (ints k x).toArray t)).heap.size k (some ⟨W.heap.size, 0, none⟩) x.length x := Seg.of_blk (Blk.new W t k x)
theorem below_new (W : World) (o : Obj) : Below W.heap.size W (W.alloc o) := (Below.refl _ _).alloc (Nat.le_refl _) _

set_option maxRecDepth 100000 in
set_option maxHeartbeats 1000000 in
theorem few6_any (A : Option Addr) (n c : Nat) (fs : List (List Int)) (w : World) (hs : Fields w w.heap.size A n fs) (hn : n ≤ 9223372036854775807) :
    Calls Tryd.prog 10 #[.slice A n c] w fun e w' => e = .returned (.bool (fewT fs)) ∧ w = w' := by
  have HS := Lib.hid hs
  have HL := Lib.hid hs.1
  clear hs
  go_enter Tryd.func10, Tryd.ntmps10
  go_wp2_with fail
  go_loop [3] (fun i => ∃ j : Nat, j ≤ n ∧ j ≤ 20 ∧ i = .int .i64 j ∧ Hid (∀ x ∈ fs.take j, x.length ≤ 60)) (fun i => n - (intOf i).toNat)
  case atStart => exact ⟨0, by omega, by omega, rfl, by intro n hn; simp at hn⟩
  case round =>
    obtain ⟨j, hj, hj20, rfl, HP⟩ := hrel
    by_cases hlt : j < n
    · have hd : decide ((j : Int) < n) = true := by simp; omega
      by_cases h20 : j < 20
      · have hd2 : decide ((j : Int) < 20) = true := by simp; omega
        obtain ⟨b, off, rfl, hbl, hcl⟩ := HS.out.2 (by omega)
        obtain ⟨A1, n1, c1, e1, s1, l1, m1⟩ := hcl j hlt
        have hlen : (fs.getD j []).length = n1 := s1.1
        have HLEN := Lib.hid hlen
        have hj0 : (0 : Int) ≤ (j : Int) := by omega
        have hj1 : (j : Int) < n := by omega
        have hjf : j < fs.length := by rw [HL.out]; exact hlt
        have hget : fs[j] = fs.getD j [] := by simp [List.getD, hjf]
        have HGET := Lib.hid hget
        clear hcl s1 hlen hget
        by_cases hbig : 60 < n1
        · have hb : decide ((60 : Int) < n1) = true := by simp; omega
          have HF : Hid (fewT fs = false) := by
            show _ = _
            unfold fewT
            rw [decide_eq_false_iff_not]
            intro h
            have := h.2 _ (List.getElem_mem hjf)
            rw [HGET.out, HLEN.out] at this
            omega
          clear hjf HGET
          go_wp2_with fail
          go_ret
          exact ⟨by rw [HF.out]; rfl, rfl⟩
        · have hb : decide ((60 : Int) < n1) = false := by simp; omega
          have HN : Hid (∀ x ∈ fs.take (j + 1), x.length ≤ 60) := by
            intro x hx
            rw [List.take_add_one, List.mem_append, List.getElem?_eq_getElem hjf] at hx
            rcases hx with h | h
            · exact HP.out x h
            · have : x = fs[j] := by simpa using h
              rw [this, HGET.out, HLEN.out]
              omega
          clear hjf HGET
          go_wp2_with fail
          go_round
          case measure => simp [intOf]; omega
          case rel => exact ⟨j + 1, by omega, by omega, by go_num, HN.out⟩
      · have hd2 : decide ((j : Int) < 20) = false := by simp; omega
        have hd3 : decide ((n : Int) < 20) = false := by simp; omega
        have HF : Hid (fewT fs = false) := by
          show _ = _
          unfold fewT
          rw [decide_eq_false_iff_not, HL.out]
          omega
        go_wp2_with fail
        go_ret
        exact ⟨by rw [HF.out]; rfl, rfl⟩
    · have hd : decide ((j : Int) < n) = false := by simp; omega
      by_cases h20 : n < 20
      · have hd3 : decide ((n : Int) < 20) = true := by simp; omega
        have HF : Hid (fewT fs = true) := by
          show _ = _
          unfold fewT
          rw [decide_eq_true_iff, HL.out]
          have h := HP.out
          rw [List.take_of_length_le (by rw [HL.out]; omega)] at h
          exact ⟨h20, h⟩
        go_wp2_with fail
        go_ret
        exact ⟨by rw [HF.out]; rfl, rfl⟩
      · have hd3 : decide ((n : Int) < 20) = false := by simp; omega
        have HF : Hid (fewT fs = false) := by
          show _ = _
          unfold fewT
          rw [decide_eq_false_iff_not, HL.out]
          omega
        go_wp2_with fail
        go_ret
        exact ⟨by rw [HF.out]; rfl, rfl⟩

set_option maxRecDepth 100000 in
set_option maxHeartbeats 2000000 in
theorem fit_any (A : Option Addr) (n c : Nat) (fs : List (List Int)) (h : Int) (w : World) (hs : Fields w w.heap.size A n fs) (hn : n ≤ 1048576) :
    Calls Tryd.prog 11 #[.slice A n c, .int .i64 h] w fun e w' => ∃ v, e = .returned v ∧ FRow w' w.heap.size 0 v (2 ^ heightF h) (fitTo fs (2 ^ heightF h)) ∧ Below w.heap.size w w' := by
  have HS := Lib.hid hs
  have HL := Lib.hid hs.1
  clear hs
  have hf := height_le h
  have hand := height_and h
  obtain ⟨f, hfe⟩ : ∃ f, heightF h = f := ⟨_, rfl⟩
  rw [hfe] at hf hand ⊢
  clear hfe
  obtain ⟨N, hN⟩ : ∃ N : Nat, Hid (2 ^ f = N) := ⟨_, rfl⟩
  have hN8 : N ≤ 8 := by rw [← hN.out]; exact two_three hf
  have hcast : (2 : Int) ^ f = (N : Int) := by rw [← hN.out]; simp
  have hw1 : RowKit.wrap64 ((2 : Int) ^ f) = (N : Int) := by rw [hcast]; unfold RowKit.wrap64; omega
  have hw2 : IntKind.i64.wrap ((2 : Int) ^ f) = (N : Int) := by rw [hcast]; exact IntWalk.i64_in _ (by omega)
  clear hcast
  rw [hN.out]
  go_enter Tryd.func11, Tryd.ntmps11
  go_wp2_with fail
  go_loopw [5, 6, 7] (fun v i _ wr => ∃ k : Nat, k ≤ N ∧ i = .int .i64 k ∧ Hid (FRow wr w.heap.size 0 v k (fitTo fs k)) ∧ Below w.heap.size w wr) (fun _ i _ _ => N - (intOf i).toNat)
  case atStart => exact ⟨0, by omega, rfl, FRow.nil _ _ _, Below.refl _ _⟩
  case round =>
    obtain ⟨k, hk, rfl, hR, hb⟩ := hrel
    have hz := hb.size
    by_cases hlt : k < N
    · have hd : decide ((k : Int) < N) = true := by simp; omega
      have hk0 : (0 : Int) ≤ (k : Int) := by omega
      have HNX : Hid (fitTo fs (k + 1) = fitTo fs k ++ [if k < n then fs.getD k [] else [(k : Int) % 256]]) := by show _ = _; rw [fitTo_next, HL.out]
      have hW1 : IntKind.u8.wrap (k : Int) = (k : Int) % 256 := by simp [IntKind.wrap, IntKind.bits, IntKind.signed]
      have hba : Below wr.heap.size wr (wr.alloc (.cells #[.int .u8 ((k : Int) % 256)] 5)) := below_new _ _
      have hza : (wr.alloc (.cells #[.int .u8 ((k : Int) % 256)] 5)).heap.size = wr.heap.size + 1 := by simp
      have HSN : Hid (Seg (wr.alloc (.cells #[.int .u8 ((k : Int) % 256)] 5)) (wr.alloc (.cells #[.int .u8 ((k : Int) % 256)] 5)).heap.size .u8 (some ⟨wr.heap.size, 0, none⟩) 1 [(k : Int) % 256]) := seg_new wr .u8 5 [(k : Int) % 256]
      have HLT := Lib.hid hR.out.lt
      have hbW : ∀ v : Value, Below wr.heap.size wr ((wr.alloc (.cells #[.int .u8 ((k : Int) % 256)] 5)).alloc (.cells #[v] 27)) := fun v => hba.alloc hba.size _
      have HBW := Lib.hid hbW
      clear hbW
      by_cases hkn : k < n
      focus
        have hd2 : decide ((k : Int) < n) = true := by simp; omega
        have hk1 : (k : Int) < n := by omega
        obtain ⟨b, off, rfl, hbl, hcl⟩ := HS.out.2 (by omega)
        obtain ⟨A1, n1, c1, e1, s1, l1, m1⟩ := hcl k hkn
        have hcx := (hb.cell (p := ⟨b, off + k, none⟩) hbl).trans e1
        have HE : Hid (fitTo fs (k + 1) = fitTo fs k ++ [fs.getD k []]) := by show _ = _; rw [HNX.out, if_pos hkn]
        have hbb := HBW.out (.slice A1 n1 c1)
        have hbw := hb.trans (hbb.mono hz)
        have hcb := cell_made (wr.alloc (.cells #[.int .u8 ((k : Int) % 256)] 5)) #[.slice A1 n1 c1] 27 (wr.heap.size + 1) 0 _ hza.symm rfl
        have HSb := Lib.hid ((s1.below hbw (Nat.le_refl _)).more (Nat.le_trans hz hbb.size))
        have HAP := Lib.hid (Apart.old s1 (fun g hg => (HLT.out g hg).1))
        have HRb := Lib.hid (FRow.below hR.out hbb)
        have hcx2 : (wr.alloc (.cells #[.int .u8 ((k : Int) % 256)] 5)).cell? ⟨b, off + k, none⟩ = some (.slice A1 n1 c1) := (hba.cell (p := ⟨b, off + k, none⟩) (by show b < wr.heap.size; omega)).trans hcx
        clear hcl s1 e1 HNX hcx
        go_wp2_with (at_builtin; refine wpList_app1 rfl (.tmp 27) (.tmp 29) rfl w.heap.size 0 (wr.heap.size + 1) _ k (fitTo fs k) rfl HRb.out 1 A1 n1 c1 (fs.getD k []) rfl hcb HSb.out l1 m1 HAP.out (fun _ _ _ => Nat.zero_le _) (by omega) hbw.size ?_; intro v4 w4 hF4 hg4 hor4; have hb4 : Below w.heap.size w w4 := frow_below HRb.out hg4 hbw hbw.size; have HF4 := Lib.hid hF4; clear hF4 hg4 hor4 hcb)
        rw [← HE.out] at HF4
      rotate_left
      focus
        have hd2 : decide ((k : Int) < n) = false := by simp; omega
        have HE : Hid (fitTo fs (k + 1) = fitTo fs k ++ [[(k : Int) % 256]]) := by show _ = _; rw [HNX.out, if_neg hkn]
        have hbb := HBW.out (.slice (some ⟨wr.heap.size, 0, none⟩) 1 1)
        have hbw := hb.trans (hbb.mono hz)
        have hcb := cell_made (wr.alloc (.cells #[.int .u8 ((k : Int) % 256)] 5)) #[.slice (some ⟨wr.heap.size, 0, none⟩) 1 1] 27 (wr.heap.size + 1) 0 _ hza.symm rfl
        have HSb := Lib.hid (HSN.out.up (below_new _ (.cells #[.slice (some ⟨wr.heap.size, 0, none⟩) 1 1] 27)))
        have HAP : Hid (Apart _ (some ⟨wr.heap.size, 0, none⟩) 1) := fun _ a ha e => by injection ha with ha; subst ha; have := (HLT.out _ e).2; simp at this
        have HRb := Lib.hid (FRow.below hR.out hbb)
        clear HNX
        go_wp2_with (at_builtin; refine wpList_app1 rfl (.tmp 27) (.tmp 29) rfl w.heap.size 0 (wr.heap.size + 1) _ k (fitTo fs k) rfl HRb.out 1 (some ⟨wr.heap.size, 0, none⟩) 1 1 [(k : Int) % 256] rfl hcb HSb.out (Nat.le_refl _) (by unfold maxLen; omega) HAP.out (fun _ _ _ => Nat.zero_le _) (by omega) hbw.size ?_; intro v4 w4 hF4 hg4 hor4; have hb4 : Below w.heap.size w w4 := frow_below HRb.out hg4 hbw hbw.size; have HF4 := Lib.hid hF4; clear hF4 hg4 hor4 hcb)
        rw [← HE.out] at HF4
      rotate_left
      all_goals
        go_roundw
        case measure => simp [intOf]; omega
        case rel => exact ⟨k + 1, by omega, by go_num, HF4.out, hb4⟩
    · have hd : decide ((k : Int) < N) = false := by simp; omega
      have hkN : k = N := by omega
      rw [hkN] at hR
      clear hkN
      go_wp2_with fail
      go_ret
      exact ⟨_, rfl, hR.out, hb⟩

/-- Two byte strings that a call has laid, and a list of them. -/
theorem leaves_two (w : World) (x y : Int) (tb tf : TypeId) : let W := ((w.alloc (.cells #[.int .u8 x] tb)).alloc (.cells #[.int .u8 y] tb)).alloc (.cells #[.slice (some ⟨w.heap.size, 0, none⟩) 1 1, .slice (some ⟨w.heap.size + 1, 0, none⟩) 1 1] tf)
    Fields W W.heap.size (some ⟨w.heap.size + 1 + 1, 0, none⟩) 2 [[x], [y]] ∧ Below w.heap.size w W := by
  intro W
  have b1 := below_new w (.cells #[.int .u8 x] tb)
  have b2 := below_new (w.alloc (.cells #[.int .u8 x] tb)) (.cells #[.int .u8 y] tb)
  have b3 := below_new ((w.alloc (.cells #[.int .u8 x] tb)).alloc (.cells #[.int .u8 y] tb)) (.cells #[.slice (some ⟨w.heap.size, 0, none⟩) 1 1, .slice (some ⟨w.heap.size + 1, 0, none⟩) 1 1] tf)
  have h1 := seg_new w .u8 tb [x]
  have h2 := seg_new (w.alloc (.cells #[.int .u8 x] tb)) .u8 tb [y]
  have z1 : (w.alloc (.cells #[.int .u8 x] tb)).heap.size = w.heap.size + 1 := by simp
  rw [z1] at h2
  refine ⟨fields2 W (w.heap.size + 1 + 1) _ _ _ _ _ _ [x] [y] (cell_made _ _ _ _ 0 _ (by simp) rfl) (cell_made _ _ _ _ 1 _ (by simp) rfl) ((Seg.up h1 b2).up b3) (Seg.up h2 b3) (Nat.le_refl _) (by unfold maxLen; omega) (Nat.le_refl _) (by unfold maxLen; omega), (b1.trans (b2.mono b1.size)).trans (b3.mono ?_)⟩
  have := b1.size
  have := b2.size
  omega

theorem leaf_one (w : World) (x y : Int) (tb tf : TypeId) : let W := ((w.alloc (.cells #[.int .u8 x] tb)).alloc (.cells #[.int .u8 y] tb)).alloc (.cells #[.slice (some ⟨w.heap.size + 1, 0, none⟩) 1 1] tf)
    Seg W W.heap.size .u8 (some ⟨w.heap.size, 0, none⟩) 1 [x] ∧ Fields W W.heap.size (some ⟨w.heap.size + 1 + 1, 0, none⟩) 1 [[y]] ∧ Below w.heap.size w W := by
  intro W
  have b1 := below_new w (.cells #[.int .u8 x] tb)
  have b2 := below_new (w.alloc (.cells #[.int .u8 x] tb)) (.cells #[.int .u8 y] tb)
  have b3 := below_new ((w.alloc (.cells #[.int .u8 x] tb)).alloc (.cells #[.int .u8 y] tb)) (.cells #[.slice (some ⟨w.heap.size + 1, 0, none⟩) 1 1] tf)
  have h1 := seg_new w .u8 tb [x]
  have h2 := seg_new (w.alloc (.cells #[.int .u8 x] tb)) .u8 tb [y]
  have z1 : (w.alloc (.cells #[.int .u8 x] tb)).heap.size = w.heap.size + 1 := by simp
  rw [z1] at h2
  refine ⟨(Seg.up h1 b2).up b3, fields1 W (w.heap.size + 1 + 1) _ _ _ [y] (cell_made _ _ _ _ 0 _ (by simp) rfl) (Seg.up h2 b3) (Nat.le_refl _) (by unfold maxLen; omega), (b1.trans (b2.mono b1.size)).trans (b3.mono ?_)⟩
  have := b1.size
  have := b2.size
  omega

set_option maxRecDepth 100000 in
set_option maxHeartbeats 2000000 in
theorem awake6_any (w : World) (hK : Tab w 0 .u32 kay256) : Calls Tryd.prog 9 #[] w fun e w' => e = .returned (.bool true) ∧ Below w.heap.size w w' := by
  have HK := Lib.hid hK
  have hw0 := hK.lt
  clear hK
  have hshort : ∀ x ∈ ([[1], [2]] : List (List Int)), x.length ≤ 1048576 := by intro x hx; simp only [List.mem_cons, List.not_mem_nil, or_false] at hx; rcases hx with rfl | rfl <;> simp
  have HSH := Lib.hid hshort
  obtain ⟨hp0, _⟩ := climb_trip (l := [[1], [2]]) (f := 1) (by omega) rfl 0 (by omega)
  obtain ⟨_, hc1⟩ := climb_trip (l := [[1], [2]]) (f := 1) (by omega) rfl 1 (by omega)
  have hr16 : (rootI [[1], [2]]).length = 16 := by rw [rootI_two (f := 1) (by omega) rfl]; exact rootF_length 0 0 _ rfl
  have HP0 : Hid ((pathI 0 [[1], [2]]).length = 1) := hp0
  have HR : Hid (climbI [2] 1 [[1]] = rootI [[1], [2]]) := hc1
  have HR16 := Lib.hid hr16
  clear hshort hp0 hc1 hr16
  go_enter Tryd.func9, Tryd.ntmps9
  go_wp2_with fail
  obtain ⟨hF, hb0⟩ := leaves_two w 1 2 5 27
  have hz0 := hb0.size
  refine (wroot_any _ 2 2 [[1], [2]] _ hF (by omega) (by omega) (by omega) HSH.out (HK.out.below hb0 hw0)).mono ?_
  rintro e w1 ⟨B1, k1, d1, rfl, hk1, hd1, hm1, hS1, hb1⟩
  have hl1 : k1 = 16 := by rw [← hS1.1]; exact HR16.out
  subst hl1
  have HS1 := Lib.hid hS1
  have hbw1 := hb0.trans (hb1.mono hz0)
  have hz1 := hbw1.size
  clear hF hb0 hz0 hS1 hb1
  go_wp2_with fail
  obtain ⟨hF, hb0⟩ := leaves_two w1 1 2 5 27
  have hz0 := hb0.size
  have hbw2 := hbw1.trans (hb0.mono hz1)
  have HS2 := Lib.hid (HS1.out.up hb0)
  refine (wpath_any 0 _ 2 2 [[1], [2]] _ hF (by omega) (by omega) (by omega) HSH.out (HK.out.below hbw2 hw0)).mono ?_
  rintro e w3 ⟨B3, k3, d3, rfl, hk3, hd3, hm3, hS3, hb3⟩
  have hl3 : k3 = 1 := by rw [← hS3.1]; exact HP0.out
  subst hl3
  have HS3 := Lib.hid (HS2.out.up hb3)
  have hbw3 := hbw2.trans (hb3.mono hbw2.size)
  have hz3 := hbw3.size
  clear hF hb0 hz0 hS3 hb3 HS2 hbw2
  go_wp2_with fail
  obtain ⟨hL, hF, hb0⟩ := leaf_one w3 2 1 5 27
  have hbw4 := hbw3.trans (hb0.mono hz3)
  have hz4 := hbw4.size
  have HS4 := Lib.hid (HS3.out.up hb0)
  have hsh1 : ∀ x ∈ ([[1]] : List (List Int)), x.length ≤ 1048576 := by intro x hx; simp only [List.mem_cons, List.not_mem_nil, or_false] at hx; rw [hx]; simp
  refine (wclimb_any _ _ 1 1 1 1 [2] 1 [[1]] _ hL (by omega) (by omega) (by omega) hF (by omega) (by omega) (by omega) hsh1 (HK.out.below hbw4 hw0)).mono ?_
  rw [HR.out]
  rintro e w5 ⟨B5, k5, d5, rfl, hk5, hd5, hm5, hS5, hb5⟩
  have hl5 : k5 = 16 := by rw [← hS5.1]; exact HR16.out
  subst hl5
  have HS5 := Lib.hid hS5
  have HS45 := Lib.hid (HS4.out.up hb5)
  have hbw5 := hbw4.trans (hb5.mono hz4)
  have hz5 := hbw5.size
  clear hL hF hb0 hsh1 hS5 hb5
  go_wp2_with fail
  refine (same_self B5 B1 16 d5 d1 (rootI [[1], [2]]) w5 HS5.out HS45.out (by omega)).mono ?_
  rintro e w6 ⟨rfl, hb6⟩
  go_wp2_with fail
  go_ret
  exact ⟨rfl, hbw5.trans (hb6.mono hz5)⟩
end Go.Proofs.YtkcbbgmilaafeaaDoor
