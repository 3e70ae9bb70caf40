/-
  The walk of the statement on which nonces and plaintexts are accepted.
-/
import Derived.Test.YtcmbnldeojlhbaaDoorBoxL
import Derived.Test.YtcmbnldeojlhbaaDoorSame
namespace Go.Proofs.YtcmbnldeojlhbaaDoor
open Go.RowKit

theorem lens1 (W : World) (A1 : Option Addr) (n1 c1 : Nat) (t : TypeId) (g : Nat) (hg : g = W.heap.size) : Lens (W.alloc (.cells #[.slice A1 n1 c1] t)) g [n1] := by
  intro j hj
  match j, hj with
  | 0, _ => exact ⟨_, _, cell_made W _ t g 0 _ hg rfl⟩
theorem small1 {n1 : Nat} (h : smallB [n1] = true) : n1 ≤ 120 := by simpa [smallB] using h
/-- Seal's post, of a world below which nothing has turned. -/
def Sealed (w0 : World) (S : List Int) (e : Ending) (w' : World) : Prop :=
  ∃ B k d, e = .returned (.slice B k d) ∧ S.length = k ∧ k ≤ d ∧ d ≤ 9223372036854775807 ∧ Seg w' w'.heap.size .u8 B k S ∧ Below w0.heap.size w0 w'

set_option maxRecDepth 100000 in
set_option maxHeartbeats 4000000 in
theorem lawBoxLimits (A : Option Addr) (n c : Nat) (key : List Int) (a b : Int) (w : World) (hs : Seg w w.heap.size .u8 A n key) (hc : n ≤ c) (hm : c ≤ 9223372036854775807) (hK : Tab w 0 .u32 kay256) :
    Calls Tryd.prog 8 #[.slice A n c, .int .i64 a, .int .i64 b] w fun e w' => e = .returned (.bool true) ∧ Below w.heap.size w w' := by
  have HS := Lib.hid hs
  have HK := Lib.hid hK
  have hw0 := hK.lt
  clear hs hK
  go_enter Tryd.func8, Tryd.ntmps8
  go_wp2_with fail
  refine (awake4_any w HK.out).mono ?_
  rintro e w1 ⟨rfl, hb1⟩
  have hz1 := hb1.size
  have HSM := Lib.hid (small_any w1.heap.size 1 1 [n] _ (lens1 w1 A n c 22 _ rfl) rfl (by omega))
  have hb2' : Below w.heap.size w (w1.alloc (.cells #[.slice A n c] 22)) := hb1.alloc hz1 _
  by_cases hout : smallB [n] = false ∨ a < 0 ∨ 70 < a ∨ b < 1015 ∨ 1030 < b
  · rcases (by
      rcases hout with h | h
      · exact Or.inl h
      · cases hsm : smallB [n] with
        | false => exact Or.inl rfl
        | true => exact Or.inr ⟨rfl, by omega⟩ : smallB [n] = false ∨ (smallB [n] = true ∧ (a < 0 ∨ (0 ≤ a ∧ (70 < a ∨ (a ≤ 70 ∧ (b < 1015 ∨ (1015 ≤ b ∧ 1030 < b)))))))) with h | ⟨h, h2⟩
    · clear hout
      rw [h] at HSM
      clear h
      go_wp2_with fail
      refine HSM.out.mono ?_
      rintro e w2 ⟨rfl, rfl⟩
      go_wp2_with fail
      go_ret
      exact ⟨rfl, hb2'⟩
    · clear hout
      rw [h] at HSM
      clear h
      rcases h2 with h3 | ⟨h3, h4 | ⟨h4, h5 | ⟨h5, h6⟩⟩⟩
      focus
        have d1 : decide (a < 0) = true := by simpa using h3
      rotate_left
      focus
        have d1 : decide (a < 0) = false := by simp; omega
        have d2 : decide (70 < a) = true := by simpa using h4
      rotate_left
      focus
        have d1 : decide (a < 0) = false := by simp; omega
        have d2 : decide (70 < a) = false := by simp; omega
        have d3 : decide (b < 1015) = true := by simpa using h5
      rotate_left
      focus
        have d1 : decide (a < 0) = false := by simp; omega
        have d2 : decide (70 < a) = false := by simp; omega
        have d3 : decide (b < 1015) = false := by simp; omega
        have d4 : decide (1030 < b) = true := by simpa using h6
      rotate_left
      all_goals
        go_wp2_with fail
        refine HSM.out.mono ?_
        rintro e w2 ⟨rfl, rfl⟩
        go_wp2_with fail
        go_ret
        exact ⟨rfl, hb2'⟩
  have hsm : smallB [n] = true := by
    cases h : smallB [n] with
    | true => rfl
    | false => exact absurd (Or.inl h) hout
  have l1 := small1 hsm
  have hin : 0 ≤ a ∧ a ≤ 70 ∧ 1015 ≤ b ∧ b ≤ 1030 := by omega
  clear hout
  rw [hsm] at HSM
  clear hsm
  obtain ⟨N, rfl⟩ : ∃ N : Nat, a = N := ⟨a.toNat, by omega⟩
  obtain ⟨M, rfl⟩ : ∃ M : Nat, b = M := ⟨b.toNat, by omega⟩
  obtain ⟨_, hN70, hM0, hM1⟩ := hin
  have d1 : decide ((N : Int) < 0) = false := by simp
  have d2 : decide ((70 : Int) < N) = false := by simp; omega
  have d3 : decide ((M : Int) < 1015) = false := by simp; omega
  have d4 : decide ((1030 : Int) < M) = false := by simp; omega
  go_wp2_with fail
  refine HSM.out.mono ?_
  rintro e w2 ⟨rfl, hw2⟩
  have hb2 : Below w.heap.size w w2 := by rw [← hw2]; exact hb2'
  have hz2 := hb2.size
  clear hw2 hb2' HSM
  go_wp2_with fail
  obtain ⟨zn, HZN⟩ : ∃ zn, Hid (List.replicate N (0 : Int) = zn) := ⟨_, rfl⟩
  obtain ⟨zm, HZM⟩ : ∃ zm, Hid (List.replicate M (0 : Int) = zm) := ⟨_, rfl⟩
  have HNL : Hid (zn.length = N) := by show _ = _; rw [← HZN.out]; simp
  have HML : Hid (zm.length = M) := by show _ = _; rw [← HZM.out]; simp
  have hmkn : ∀ W : World, (Instr.makeSlice 22 (.int .i64 (N : Int)) (.int .i64 (N : Int))).run Tryd.prog W = .ok (.slice (some ⟨W.heap.size, 0, none⟩) N N) (W.alloc (.cells (ints .u8 zn).toArray 5)) := fun W => by
    have h := run_make_row' (P := Tryd.prog) 22 5 (.int .u8 0) 1 Tryd.underlying22 Tryd.infoU8 rfl .i64 .i64 N (by omega) (by omega) W
    rw [made_zeros, HZN.out] at h
    exact h
  have hmkm : ∀ W : World, (Instr.makeSlice 22 (.int .i64 (M : Int)) (.int .i64 (M : Int))).run Tryd.prog W = .ok (.slice (some ⟨W.heap.size, 0, none⟩) M M) (W.alloc (.cells (ints .u8 zm).toArray 5)) := fun W => by
    have h := run_make_row' (P := Tryd.prog) 22 5 (.int .u8 0) 1 Tryd.underlying22 Tryd.infoU8 rfl .i64 .i64 M (by omega) (by omega) W
    rw [made_zeros, HZM.out] at h
    exact h
  have HSC : Hid (∀ (W : World) (A8 A9 : Option Addr), Below w.heap.size w W → Seg W W.heap.size .u8 A8 N zn → Seg W W.heap.size .u8 A9 M zm →
      Calls Tryd.prog 13 #[.slice A n c, .slice A8 N N, .slice none 0 0, .slice A9 M M] W (Sealed w (sealI key zn [] zm))) := fun W A8 A9 hB h8 h9 => by
    refine (wseal_any A A8 none A9 n c N N 0 0 M M key zn [] zm W (HS.out.up hB) (by omega) hc hm h8 (by omega) (Nat.le_refl _) (by omega) (Seg.nil _ _ _ _) (by omega) (by omega) (by omega) h9 (by omega) (Nat.le_refl _) (by omega) (HK.out.below hB hw0)).mono ?_
    rintro e w' ⟨B, k, d, rfl, hk, hd, hdm, hS, hb⟩
    exact ⟨B, k, d, rfl, hS.1, hd, hdm, hS, hB.trans (hb.mono hB.size)⟩
  have hal : ∀ (W : World) (o : Obj), Below W.heap.size W (W.alloc o) := fun W o => (Below.refl _ _).alloc (Nat.le_refl _) _
  have two : ∀ (x y : List Int) (W : World), Seg ((W.alloc (.cells (ints .u8 x).toArray 5)).alloc (.cells (ints .u8 y).toArray 5)).drew ((W.alloc (.cells (ints .u8 x).toArray 5)).alloc (.cells (ints .u8 y).toArray 5)).drew.heap.size .u8 (some ⟨W.heap.size, 0, none⟩) x.length x ∧
      Seg ((W.alloc (.cells (ints .u8 x).toArray 5)).alloc (.cells (ints .u8 y).toArray 5)).drew ((W.alloc (.cells (ints .u8 x).toArray 5)).alloc (.cells (ints .u8 y).toArray 5)).drew.heap.size .u8 (some ⟨W.heap.size + 1, 0, none⟩) y.length y := fun x y W => by
    have h1 := (Seg.of_blk (Blk.new W 5 .u8 x)).up (hal _ (.cells (ints .u8 y).toArray 5))
    have h2 := Seg.of_blk (Blk.new (W.alloc (.cells (ints .u8 x).toArray 5)) 5 .u8 y)
    have e : (W.alloc (.cells (ints .u8 x).toArray 5)).heap.size = W.heap.size + 1 := by simp
    rw [e] at h2
    exact ⟨h1.drewN 1, h2.drewN 1⟩
  have HC1 : Hid (Calls Tryd.prog 13 #[.slice A n c, .slice (some ⟨w2.heap.size, 0, none⟩) N N, .slice none 0 0, .slice (some ⟨w2.heap.size + 1, 0, none⟩) M M] ((w2.alloc (.cells (ints .u8 zn).toArray 5)).alloc (.cells (ints .u8 zm).toArray 5)).drew (Sealed w (sealI key zn [] zm))) := by
    have h := two zn zm w2
    rw [HNL.out, HML.out] at h
    exact HSC.out _ _ _ (((hb2.alloc hz2 _).alloc (by simp; omega) _).drew) h.1 h.2
  have HC2 : Hid (Calls Tryd.prog 13 #[.slice A n c, .slice (some ⟨w2.heap.size + 1, 0, none⟩) N N, .slice none 0 0, .slice (some ⟨w2.heap.size, 0, none⟩) M M] ((w2.alloc (.cells (ints .u8 zm).toArray 5)).alloc (.cells (ints .u8 zn).toArray 5)).drew (Sealed w (sealI key zn [] zm))) := by
    have h := two zm zn w2
    rw [HNL.out, HML.out] at h
    exact HSC.out _ _ _ (((hb2.alloc hz2 _).alloc (by simp; omega) _).drew) h.2 h.1
  clear two hal HSC
  go_region_held3 (fun _ => True)
    (trivial)
    (first
      | (go_at_call 13; ((with_reducible refine (Hid.out HC1).mono ?_); rintro e w3 ⟨B3, k3, d3, rfl, hk3, hd3, hdm3, hS3, hb3⟩))
      | (go_at_call 13; ((with_reducible refine (Hid.out HC2).mono ?_); rintro e w3 ⟨B3, k3, d3, rfl, hk3, hd3, hdm3, hS3, hb3⟩)))
  all_goals
    have HR3 := Lib.hid hS3
    have HK3 := Lib.hid hk3
    have hz3 := hb3.size
    clear hS3 hk3 HC1 HC2
    by_cases hbig : 64 < N ∨ 1024 < M
    · have hk0 : k3 = 0 := by
        have h := HK3.out
        rw [sealI, if_pos (by rw [HNL.out, HML.out]; exact hbig)] at h
        exact h.symm
      subst hk0
      rcases (by omega : 64 < N ∨ (N ≤ 64 ∧ 1024 < M)) with h | ⟨h, h'⟩
      focus
        have d5 : decide ((64 : Int) < N) = true := by simp; omega
      rotate_left
      focus
        have d5 : decide ((64 : Int) < N) = false := by simp; omega
        have d6 : decide ((1024 : Int) < M) = true := by simp; omega
      rotate_left
      all_goals
        go_wp2
        go_ret
        exact ⟨rfl, hb3⟩
    · have d5 : decide ((64 : Int) < N) = false := by simp; omega
      have d6 : decide ((1024 : Int) < M) = false := by simp; omega
      have hk36 : k3 = 36 + N + M := by
        rw [← HK3.out, sealI_length _ _ _ _ (by rw [HNL.out]; omega) (by rw [HML.out]; omega), HNL.out, HML.out]
      have hzb : ∀ k, InB (List.replicate k 0) := fun k x hx => by have := List.eq_of_mem_replicate hx; omega
      have HO : Hid (openI key [] (sealI key zn [] zm) = (zm, 0)) := open_seal key zn [] zm (by rw [HNL.out]; omega) (by rw [HML.out]; omega) (by rw [← HZM.out]; exact hzb M)
      have HZI : Hid (InB zn) := by show InB zn; rw [← HZN.out]; exact hzb N
      clear hbig hzb
      subst hk36
      go_wp2_with fail
      refine (wopen_any A none B3 n c 0 0 (36 + N + M) d3 key [] (sealI key zn [] zm) w3 (HS.out.up hb3) (by omega) hc hm (Seg.nil _ _ _ _) (by omega) (by omega) (by omega) HR3.out (by omega) hd3 hdm3 (inB_seal _ _ _ _ HZI.out) (HK.out.below hb3 hw0)).mono ?_
      rw [HO.out]
      rintro e w4 ⟨B4, k4, d4, rfl, hk4, hd4, hdm4, hS4, hb4⟩
      have hk4m : k4 = M := by rw [← hS4.1, HML.out]
      rw [hk4m] at hS4
      rw [hk4m]
      have hbq : Below w4.heap.size w4 (w4.alloc (.cells (ints .u8 zm).toArray 5)) := (Below.refl _ _).alloc (Nat.le_refl _) _
      have HR4 := Lib.hid (hS4.up hbq)
      have HQ4 : Hid (Seg (w4.alloc (.cells (ints .u8 zm).toArray 5)) (w4.alloc (.cells (ints .u8 zm).toArray 5)).heap.size .u8 (some ⟨w4.heap.size, 0, none⟩) M zm) := by
        have h := Seg.of_blk (Blk.new w4 5 .u8 zm)
        rw [HML.out] at h
        exact h
      have hbw4 := hb3.trans (hb4.mono hz3)
      have hbwq := hbw4.trans (hbq.mono hbw4.size)
      clear hS4 hk4m
      go_wp2_with fail
      refine (same_self B4 (some ⟨w4.heap.size, 0, none⟩) M _ M zm _ HR4.out HQ4.out (by omega)).mono ?_
      rintro e w5 ⟨rfl, hb5⟩
      go_wp2_with fail
      go_ret
      exact ⟨rfl, hbwq.trans (hb5.mono hbwq.size)⟩
end Go.Proofs.YtcmbnldeojlhbaaDoor
