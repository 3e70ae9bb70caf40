/-
  The walk of the statement that after an error nothing is read any more.
-/
import Derived.Test.YtcidfnblfelgkaaWake3
namespace Go.Proofs.Ytcidfnblfelgkaa
open Go.RowKit

section
set_option maxRecDepth 100000
set_option maxHeartbeats 1000000
theorem wruint_err (g p : Nat) (xs : List Int) (err size : Int) (w : World) (h : WRdr w g 53 xs p err) (he : err ≠ 0) :
    Calls Try.prog 23 #[.pointer (some ⟨g, 0, none⟩), .int .i64 size] w fun e w' => e = .returned (.int .i64 0) ∧ w = w' := by
  have hmf : ∀ (fn : Fn) (first cap : Array Value) (w : World), (Instr.makeFunc fn first cap).run Try.prog w = .ok (.func fn first cap) w := fun _ _ _ _ => rfl
  have HT := Lib.hid (fun f => tryint_err g p xs err he f size w h)
  clear h he
  go_enter Try.func23, Try.ntmps23
  go_wp2_with fail
  refine (HT.out _).mono ?_
  rintro e w1 ⟨rfl, rfl⟩
  go_wp2_with fail
  go_ret
  exact ⟨rfl, rfl⟩
theorem wrraw_err (g p : Nat) (xs : List Int) (err m : Int) (w : World) (h : WRdr w g 53 xs p err) (he : err ≠ 0) :
    Calls Try.prog 25 #[.pointer (some ⟨g, 0, none⟩), .int .i64 m] w fun e w' => e = .returned (.slice none 0 0) ∧ w = w' := by
  have hmf : ∀ (fn : Fn) (first cap : Array Value) (w : World), (Instr.makeFunc fn first cap).run Try.prog w = .ok (.func fn first cap) w := fun _ _ _ _ => rfl
  have HT := Lib.hid (fun f => trybytes_err g p xs err he f m w h)
  clear h he
  go_enter Try.func25, Try.ntmps25
  go_wp2_with fail
  refine (HT.out _).mono ?_
  rintro e w1 ⟨rfl, rfl⟩
  go_wp2_with fail
  go_ret
  exact ⟨rfl, rfl⟩
theorem wrblob_err (g p : Nat) (xs : List Int) (err m : Int) (w : World) (h : WRdr w g 53 xs p err) (he : err ≠ 0) :
    Calls Try.prog 24 #[.pointer (some ⟨g, 0, none⟩), .int .i64 m] w fun e w' => e = .returned (.slice none 0 0) ∧ w = w' := by
  have hmf : ∀ (fn : Fn) (first cap : Array Value) (w : World), (Instr.makeFunc fn first cap).run Try.prog w = .ok (.func fn first cap) w := fun _ _ _ _ => rfl
  have HT := Lib.hid (fun f => trybytes_err g p xs err he f m w h)
  clear h he
  go_enter Try.func24, Try.ntmps24
  go_wp2_with fail
  refine (HT.out _).mono ?_
  rintro e w1 ⟨rfl, rfl⟩
  go_wp2_with fail
  go_ret
  exact ⟨rfl, rfl⟩
end

set_option maxRecDepth 100000 in
set_option maxHeartbeats 4000000 in
theorem lawWireSticky (A : Option Addr) (n c : Nat) (xs : List Int) (kind : Int) (A2 : Option Addr) (n2 c2 : Nat) (ks : List Int) (w : World)
    (hs : Seg w w.heap.size .u8 A n xs) (_hc : n ≤ c) (_hcm : c ≤ 9223372036854775807) (hx : InB xs) (hk0 : 0 ≤ kind) (hk1 : kind < 256)
    (hs2 : Seg w w.heap.size .u8 A2 n2 ks) (_hc2 : n2 ≤ c2) (_hcm2 : c2 ≤ 9223372036854775807) (hk : InB ks) :
    Calls Try.prog 7 #[.slice A n c, .int .u8 kind, .slice A2 n2 c2] w fun e w' => e = .returned (.bool true) ∧ Below w.heap.size w w' := by
  obtain ⟨i0, hi, hz0, hz1, hz2⟩ := info_parts Try.infoU8
  have HS := Lib.hid hs
  have HX := Lib.hid hx
  have HL := Lib.hid hs.1
  have HS2 := Lib.hid hs2
  have HK := Lib.hid hk
  clear hs hx hs2 hk
  go_enter Try.func7, Try.ntmps7
  go_wp2_with fail
  refine (awake3_any w).mono ?_
  rintro e w1 ⟨rfl, hb1⟩
  have hz1' := hb1.size
  by_cases hl : n < 4
  · have hd : decide ((n : Int) < 4) = true := by simp; omega
    go_wp2_with fail
    go_ret
    exact ⟨rfl, hb1⟩
  have hd : decide ((n : Int) < 4) = false := by simp; omega
  by_cases hl2 : 100 < n
  · have hd2 : decide ((100 : Int) < n) = true := by simp; omega
    go_wp2_with fail
    go_ret
    exact ⟨rfl, hb1⟩
  have hd2 : decide ((100 : Int) < n) = false := by simp; omega
  by_cases hl3 : 10 < n2
  · have hd3 : decide ((10 : Int) < n2) = true := by simp; omega
    go_wp2_with fail
    go_ret
    exact ⟨rfl, hb1⟩
  have hd3 : decide ((10 : Int) < n2) = false := by simp; omega
  go_wp2_with fail
  refine (wnew_any A n c xs w1 ((HS.out.below hb1 (Nat.le_refl _)).more hz1') (by omega)).mono ?_
  rintro e w2 ⟨g, rfl, hg1, hW2, hb2⟩
  have HW2 := Lib.hid hW2
  have hbw2 := hb1.trans (hb2.mono hz1')
  have hzw2 := hbw2.size
  have hg2 := hW2.lt
  have hg : w.heap.size ≤ g := by omega
  clear hW2 hb2
  rcases (by omega : kind % 4 = 0 ∨ kind % 4 = 1 ∨ kind % 4 = 2 ∨ kind % 4 = 3) with hk | hk | hk | hk
  focus
    have d0 : (kind % 4 == 0) = true := by simpa using hk
    clear hk
    go_wp2_with fail
    refine (wrraw_any g 0 xs 0 _ w2 HW2.out (by rw [HL.out]; omega)).mono ?_
    rw [show rawR xs 0 0 ((n : Int) + 1) = ([], 0, 2) by rw [rawR, if_neg (by omega), if_neg (by omega), if_pos (by rw [HL.out]; omega)]]
    rintro e ws ⟨A5, k5, c5, rfl, hS5, hk5, hc5, hcm5, hW5, hb5⟩
    obtain ⟨want, hwant⟩ : ∃ x : Int, x = 2 := ⟨_, rfl⟩
    obtain ⟨gr, hgr⟩ : ∃ x, x = g := ⟨_, rfl⟩
    obtain ⟨zs, hzs⟩ : ∃ x : List Int, x = xs := ⟨_, rfl⟩
    have HW5 : Hid (WRdr ws gr 53 zs 0 want) := by rw [hwant, hgr, hzs]; exact hW5
    have hdw : (want == 2) = true := by rw [hwant]; rfl
    have hne : want ≠ 0 := by omega
    rw [← hgr]
    have hbws := below_but hbw2 hb5 hg hzw2
    have hleft : (n : Int) ≤ leftR zs 0 := by rw [hzs]; unfold leftR; rw [HL.out]; omega
    clear hwant hgr hzs hS5 hW5 hk5 hc5 hcm5 hb5
  rotate_left
  focus
    have d0 : (kind % 4 == 0) = false := by rw [hk]; rfl
    have d1 : (kind % 4 == 1) = true := by simpa using hk
    clear hk
    go_wp2_with fail
    refine (wrraw_any g 0 xs 0 _ w2 HW2.out (by rw [HL.out]; omega)).mono ?_
    rw [show rawR xs 0 0 (-1) = ([], 0, 1) by rw [rawR, if_neg (by omega), if_pos (by omega)]]
    rintro e ws ⟨A5, k5, c5, rfl, hS5, hk5, hc5, hcm5, hW5, hb5⟩
    obtain ⟨want, hwant⟩ : ∃ x : Int, x = 1 := ⟨_, rfl⟩
    obtain ⟨gr, hgr⟩ : ∃ x, x = g := ⟨_, rfl⟩
    obtain ⟨zs, hzs⟩ : ∃ x : List Int, x = xs := ⟨_, rfl⟩
    have HW5 : Hid (WRdr ws gr 53 zs 0 want) := by rw [hwant, hgr, hzs]; exact hW5
    have hdw : (want == 1) = true := by rw [hwant]; rfl
    have hne : want ≠ 0 := by omega
    rw [← hgr]
    have hbws := below_but hbw2 hb5 hg hzw2
    have hleft : (n : Int) ≤ leftR zs 0 := by rw [hzs]; unfold leftR; rw [HL.out]; omega
    clear hwant hgr hzs hS5 hW5 hk5 hc5 hcm5 hb5
  rotate_left
  focus
    have d0 : (kind % 4 == 0) = false := by rw [hk]; rfl
    have d1 : (kind % 4 == 1) = false := by rw [hk]; rfl
    have d2 : (kind % 4 == 2) = true := by simpa using hk
    clear hk
    go_wp2_with fail
    refine (wruint_any g 0 xs 0 _ w2 HW2.out (by rw [HL.out]; omega) HX.out).mono ?_
    rw [show uintR xs 0 0 9 = (0, 0, 1) by rw [uintR, if_neg (by omega), if_pos (by omega)]]
    rintro e ws ⟨rfl, hW5, hb5⟩
    obtain ⟨want, hwant⟩ : ∃ x : Int, x = 1 := ⟨_, rfl⟩
    obtain ⟨gr, hgr⟩ : ∃ x, x = g := ⟨_, rfl⟩
    obtain ⟨zs, hzs⟩ : ∃ x : List Int, x = xs := ⟨_, rfl⟩
    have HW5 : Hid (WRdr ws gr 53 zs 0 want) := by rw [hwant, hgr, hzs]; exact hW5
    have hdw : (want == 1) = true := by rw [hwant]; rfl
    have hne : want ≠ 0 := by omega
    rw [← hgr]
    have hbws := below_but hbw2 hb5 hg hzw2
    have hleft : (n : Int) ≤ leftR zs 0 := by rw [hzs]; unfold leftR; rw [HL.out]; omega
    clear hwant hgr hzs hW5 hb5
  rotate_left
  focus
    have d0 : (kind % 4 == 0) = false := by rw [hk]; rfl
    have d1 : (kind % 4 == 1) = false := by rw [hk]; rfl
    have d2 : (kind % 4 == 2) = false := by rw [hk]; rfl
    clear hk
    have hbq : Below w2.heap.size w2 (w2.alloc (.cells (ints .u8 [0, 9]).toArray 5)) := (Below.refl _ _).alloc (Nat.le_refl _) _
    have HOQ : Hid (Own (w2.alloc (.cells (ints .u8 [0, 9]).toArray 5)) w2.heap.size 5 .u8 (.slice (some ⟨w2.heap.size, 0, none⟩) 2 2) [0, 9]) := Own.of_blk (Blk.new w2 5 .u8 [0, 9]) (Nat.le_refl _) (by unfold maxLen; simp)
    have HSQ := Lib.hid ((HS.out.below hbw2 (Nat.le_refl _)).below (hbq.mono hzw2) (Nat.le_refl _))
    have hzq := hbq.size
    go_wp2_with (at_builtin; refine wpList_app _ rfl (.tmp 30) (.tmp 31) 22 rfl w2.heap.size 5 i0 (.int .u8 0) 1 Try.underlying22 hi hz0 hz1 hz2 rfl .u8 (.slice (some ⟨w2.heap.size, 0, none⟩) 2 2) [0, 9] rfl HOQ.out w.heap.size A n c xs rfl HSQ.out (by unfold maxLen; simp; omega) (by simp; omega) hzq ?_; intro v3 w3 hown3 hg3 hor3; have hb3 : Below w2.heap.size w2 w3 := own_below (k := .u8) (xs := [0, 9]) HOQ.out hg3 hbq hzq; have HR3 : Hid (Row w3 w2.heap.size 5 .u8 v3 (2 + n) ([0, 9] ++ xs)) := Own.row hown3 (by rw [List.length_append, HL.out]; rfl); clear hg3 hor3 hown3)
    obtain ⟨A3, c3, rfl, _, _⟩ := HR3.out.cut
    have hz3 := hb3.size
    have hbw3 := hbw2.trans (hb3.mono hzw2)
    refine (wnew_any A3 (2 + n) c3 ([0, 9] ++ xs) w3 HR3.out.seg (by omega)).mono ?_
    rintro e w4 ⟨g4, rfl, hg4, hW4, hb4⟩
    have HW4 := Lib.hid hW4
    have hbw4 := hbw3.trans (hb4.mono (by omega))
    have hzw4 := hbw4.size
    have hgw4 : w.heap.size ≤ g4 := by omega
    have HZB : Hid (InB ([0, 9] ++ xs)) := inB_append (by intro y hy; simp at hy; omega) HX.out
    have HZL : Hid (([0, 9] ++ xs).length = n + 2) := by show _ = _; rw [List.length_append, HL.out]; simp; omega
    have HBR : Hid (blobR ([0, 9] ++ xs) 0 0 8 = ([], 0, 4)) := by
      show _ = _
      rw [blobR, if_neg (by omega), if_neg (by rw [HZL.out]; omega), if_pos (by simp [numI])]
    clear hW4 hb4
    go_wp2_with fail
    refine (wrblob_any g4 0 ([0, 9] ++ xs) 0 8 w4 HW4.out (by rw [HZL.out]; omega) HZB.out).mono ?_
    rw [HBR.out]
    rintro e ws ⟨A5, k5, c5, rfl, hS5, hk5, hc5, hcm5, hW5, hb5⟩
    obtain ⟨want, hwant⟩ : ∃ x : Int, x = 4 := ⟨_, rfl⟩
    obtain ⟨gr, hgr⟩ : ∃ x, x = g4 := ⟨_, rfl⟩
    obtain ⟨zs, hzs⟩ : ∃ x : List Int, x = [0, 9] ++ xs := ⟨_, rfl⟩
    have HW5 : Hid (WRdr ws gr 53 zs 0 want) := by rw [hwant, hgr, hzs]; exact hW5
    have hdw : (want == 4) = true := by rw [hwant]; rfl
    have hne : want ≠ 0 := by omega
    rw [← hgr]
    have hbws := below_but hbw4 hb5 hgw4 hzw4
    have hleft : (n : Int) ≤ leftR zs 0 := by rw [hzs]; unfold leftR; rw [HZL.out]; omega
    clear hwant hgr hzs hS5 hW5 hk5 hc5 hcm5 hb5
  rotate_left
  all_goals
    have HE : Hid (endR zs 0 want = want) := by show _ = _; rw [endR, if_neg (fun h => hne h.1)]
    have HNE := Lib.hid hne
    have hdl : decide ((n : Int) ≤ leftR zs 0) = true := by simpa using hleft
    clear hne hleft
    go_wp2_with (go_at_call 18; refine (wleft_any gr 0 zs want ws HW5.out).mono ?_; rintro e w' ⟨rfl, rfl⟩)
    go_loop [10] (fun i => ∃ k : Nat, k ≤ n2 ∧ i = .int .i64 k) (fun i => n2 - (intOf i).toNat)
    case atStart => exact ⟨0, by omega, rfl⟩
    case round =>
      obtain ⟨k, hkn, rfl⟩ := hrel
      by_cases hlt : k < n2
      · have hdk : decide ((k : Int) < n2) = true := by simp; omega
        obtain ⟨b2, off2, rfl, hb2l, hc2'⟩ := HS2.out.2 (by omega)
        have hck := hc2' k hlt
        obtain ⟨kd, hkd⟩ : ∃ x, Hid (ks.getD k 0 = x) := ⟨_, rfl⟩
        obtain ⟨hk0', hk1'⟩ := inB_getD HK.out k (by rw [HS2.out.1]; exact hlt)
        rw [hkd.out] at hck hk0' hk1'
        have hckr := (hbws.cell (p := ⟨b2, off2 + k, none⟩) hb2l).trans hck
        clear hc2' hck
        go_wp2_with (first
          | (go_at_call 23; refine (wruint_err gr 0 zs want _ ws HW5.out HNE.out).mono ?_; rintro e w' ⟨rfl, rfl⟩)
          | (go_at_call 25; refine (wrraw_err gr 0 zs want _ ws HW5.out HNE.out).mono ?_; rintro e w' ⟨rfl, rfl⟩)
          | (go_at_call 24; refine (wrblob_err gr 0 zs want _ ws HW5.out HNE.out).mono ?_; rintro e w' ⟨rfl, rfl⟩))
        go_round
        case measure => simp [intOf]; omega
        case rel => exact ⟨k + 1, by omega, by go_num⟩
      · have hdk : decide ((k : Int) < n2) = false := by simp; omega
        go_wp2_with (first
          | (go_at_call 20; refine (werr_any gr 0 zs want ws HW5.out).mono ?_; rintro e w' ⟨rfl, rfl⟩)
          | (go_at_call 21; refine (wend_any gr 0 zs want ws HW5.out).mono ?_; rw [HE.out]; rintro e w' ⟨rfl, rfl⟩)
          | (go_at_call 18; refine (wleft_any gr 0 zs want ws HW5.out).mono ?_; rintro e w' ⟨rfl, rfl⟩))
        go_ret
        exact ⟨rfl, hbws⟩
end Go.Proofs.Ytcidfnblfelgkaa
