/-
  The walk of the statement on the results and errors of any sequence of reads.
-/
import Derived.Test.YtcidfnblfelgkaaLWRead
import Derived.Test.YtcidfnblfelgkaaFront
namespace Go.Proofs.Ytcidfnblfelgkaa
open Go.RowKit

theorem rleft_q (h : Nat) (A : Option Addr) (n c p : Nat) (xs : List Int) (err : Int) (w : World) (hR : Rdr w h 39 A n c p err) (hn : n ≤ 1048576) (hp : p ≤ n) (hx : xs.length = n) (q : Nat) :
    Calls Try.prog 19 #[.pointer (some ⟨h, 0, none⟩)] (w.drewN q) fun e w'' => e = .returned (.int .i64 (leftR xs p)) ∧ ∃ m, w'' = w.drewN m := by
  refine Calls.quiet_of ?_
  have e : leftR xs p = (n : Int) - p := by unfold leftR; rw [hx]
  rw [e]
  exact rleft_any h A n c p err (w.drewN q) (hR.drewN q) (by omega) hp
theorem rend_q (h : Nat) (A : Option Addr) (n c p : Nat) (xs : List Int) (err : Int) (w : World) (hR : Rdr w h 39 A n c p err) (hn : n ≤ 1048576) (hp : p ≤ n) (hx : xs.length = n) (q : Nat) :
    Calls Try.prog 22 #[.pointer (some ⟨h, 0, none⟩)] (w.drewN q) fun e w'' => e = .returned (.int .i64 (endR xs p err)) ∧ ∃ m, w'' = w.drewN m := by
  refine Calls.quiet_of ?_
  exact rend_any h A n c p err xs (w.drewN q) (hR.drewN q) (by omega) hp hx

set_option maxRecDepth 100000 in
set_option maxHeartbeats 4000000 in
theorem lawWireReads (A : Option Addr) (n c : Nat) (xs : List Int) (A2 : Option Addr) (n2 c2 : Nat) (ks : List Int) (A3 : Option Addr) (n3 c3 : Nat) (ns : List Int) (w : World)
    (hs : Seg w w.heap.size .u8 A n xs) (hc : n ≤ c) (hcm : c ≤ 9223372036854775807) (hx : InB xs) (hs2 : Seg w w.heap.size .u8 A2 n2 ks) (_hc2 : n2 ≤ c2) (_hcm2 : c2 ≤ 9223372036854775807) (hk : InB ks)
    (hs3 : Seg w w.heap.size .i64 A3 n3 ns) (_hc3 : n3 ≤ c3) (_hcm3 : c3 ≤ 9223372036854775807) :
    Calls Try.prog 5 #[.slice A n c, .slice A2 n2 c2, .slice A3 n3 c3] w fun e w' => e = .returned (.bool true) ∧ Below w.heap.size w w' := by
  have HS := Lib.hid hs
  have HX := Lib.hid hx
  have HL := Lib.hid hs.1
  have HS2 := Lib.hid hs2
  have HK := Lib.hid hk
  have HS3 := Lib.hid hs3
  clear hs hx hs2 hk hs3
  go_enter Try.func5, Try.ntmps5
  go_wp2_with fail
  refine (awake3_any w).mono ?_
  rintro e w1 ⟨rfl, hb1⟩
  have hz1 := hb1.size
  by_cases hl : 200 < n
  · have hd : decide ((200 : Int) < n) = true := by simp; omega
    go_wp2_with fail
    go_ret
    exact ⟨rfl, hb1⟩
  have hd : decide ((200 : Int) < n) = false := by simp; omega
  by_cases hl2 : 20 < n2
  · have hd2 : decide ((20 : Int) < n2) = true := by simp; omega
    go_wp2_with fail
    go_ret
    exact ⟨rfl, hb1⟩
  have hd2 : decide ((20 : Int) < n2) = false := by simp; omega
  go_wp2_with fail
  refine (wnew_any A n c xs w1 ((HS.out.below hb1 (Nat.le_refl _)).more hz1) (by omega)).mono ?_
  rintro e w2 ⟨g, rfl, hg1, hW2, hb2⟩
  have HW2 := Lib.hid hW2
  have hbw2 := hb1.trans (hb2.mono hz1)
  have hzw2 := hbw2.size
  have hg2 := hW2.lt
  have hg : w.heap.size ≤ g := by omega
  clear hW2
  go_wp2_with fail
  refine (rnew_any A n c w2).mono ?_
  rintro e w3 ⟨rfl, hR3, hb3⟩
  have hbw3 := hbw2.trans (hb3.mono hzw2)
  have hzw3 := hbw3.size
  obtain ⟨h, HH⟩ : ∃ h, Hid (w2.heap.size = h) := ⟨_, rfl⟩
  have hgh : g < h := by rw [← HH.out]; exact hg2
  have HT3 : Hid (Two w w.heap.size g w2.heap.size A n c xs 0 0 w3) := ⟨HW2.out.below hb3 hg2, hR3, HS.out.below hbw3 (Nat.le_refl _), hbw3, hzw3⟩
  rw [HH.out] at HT3 ⊢
  clear hR3
  go_wp2_with fail
  go_loopw [9] (fun i wr => ∃ k p err, k ≤ n2 ∧ i = .int .i64 (k : Nat) ∧ Hid (Two w w.heap.size g h A n c xs p err wr)) (fun i _ => n2 - (intOf i).toNat)
  case atStart => exact ⟨0, 0, 0, by omega, rfl, HT3⟩
  case round =>
    clear hb1 hz1 hbw3 hzw3 HT3 hb2 hb3 hbw2 hzw2
    obtain ⟨k, p, err, hkn, rfl, HT⟩ := hrel
    by_cases hlt : k < n2
    · have hdk : decide ((k : Int) < n2) = true := by simp; omega
      obtain ⟨b2, off2, rfl, hb2l, hc2'⟩ := HS2.out.2 (by omega)
      have hck := hc2' k hlt
      obtain ⟨kd, hkd⟩ : ∃ x, Hid (ks.getD k 0 = x) := ⟨_, rfl⟩
      obtain ⟨hk0, hk1⟩ := inB_getD HK.out k (by rw [HS2.out.1]; exact hlt)
      rw [hkd.out] at hck hk0 hk1
      have hckr := (HT.out.2.2.2.1.cell (p := ⟨b2, off2 + k, none⟩) hb2l).trans hck
      have hki : (k : Int) < n2 := by omega
      have hkz : (0 : Int) ≤ k := by omega
      clear hc2' hck
      by_cases h3 : k < n3
      focus
        have hd3 : decide ((k : Int) < n3) = true := by simp; omega
        obtain ⟨b3, off3, rfl, hb3l, hc3'⟩ := HS3.out.2 (by omega)
        have hcn := (HT.out.2.2.2.1.cell (p := ⟨b3, off3 + k, none⟩) hb3l).trans (hc3' k h3)
        obtain ⟨m, hm⟩ : ∃ x, Hid (ns.getD k 0 = x) := ⟨_, rfl⟩
        rw [hm.out] at hcn
        have hki3 : (k : Int) < n3 := by omega
        clear hc3'
        go_wp2_with fail
        clear hcn hki3
      rotate_left
      focus
        have hd3 : decide ((k : Int) < n3) = false := by simp; omega
        go_wp2_with fail
      rotate_left
      all_goals
        refine wp_region_any (by kernel_rfl) ?_
        change wpAny _ _ _ _ _ _ _ (World.drew _)
        have HTd := Lib.hid HT.out.drew
        refine wpAny_take (i := 0) (v := _) rfl (by kernel_rfl) (by kernel_rfl) (by kernel_rfl) (fun _ _ _ h => h) (Or.inl ⟨by rfl, fun _ => by rfl⟩) ?_
        refine wpAny_take (i := 1) (v := _) rfl (by kernel_rfl) (by kernel_rfl) (by kernel_rfl) (fun _ _ _ h => h) (Or.inl ⟨by rfl, fun _ => by rfl⟩) ?_
        refine wpAny_take (i := 2) (v := _) rfl (by kernel_rfl) (by kernel_rfl) (by kernel_rfl) (fun _ _ _ h => h) (Or.inl ⟨by rfl, fun _ => by rfl⟩) ?_
        refine wpAny_take (i := 3) (v := _) rfl (by kernel_rfl) (by kernel_rfl) (by kernel_rfl) (fun _ _ _ h => h) (Or.inl ⟨by rfl, fun _ => by rfl⟩) ?_
        simp only [Act.put, List.setIfInBounds_toArray]
        refine wpAny_take (i := 4) (v := .pointer (some ⟨b2, off2 + k, none⟩)) rfl (by kernel_rfl) (by kernel_rfl) (by kernel_rfl) (fun _ _ _ h => h) (Or.inl ⟨by rfl, fun _ => by go_simp⟩) ?_
        refine wpAny_take (i := 6) (v := _) rfl (by kernel_rfl) (by kernel_rfl) (by kernel_rfl) (fun _ _ _ h => h) (Or.inl ⟨by rfl, fun _ => by rfl⟩) ?_
        simp only [Act.put]
        refine wpAny_ready (rs := [5]) (by kernel_rfl) (by simp) ?_
        refine AllReady.cons rfl (fun K hK => ?_) AllReady.nil
        go_simp
        refine hK _ _ ?_
        clear hK K
        refine wpAny_ready (rs := [7]) (by kernel_rfl) (by simp) ?_
        refine AllReady.cons rfl (fun K hK => ?_) AllReady.nil
        go_simp
        refine (read_any w w.heap.size g h A n c xs p err kd _ wr.drew HTd.out hg hgh HX.out (by omega) hc hcm hk0 (by omega)).mono ?_
        rintro e w5 ⟨p', err', rfl, hT5⟩
        have HT5 := Lib.hid hT5
        have k5 := hT5.2.1.cell2
        have hp5 : p' ≤ n := by have := hT5.1.le; have := HL.out; omega
        clear hT5
        go_simp
        refine hK _ _ ?_
        clear hK K
        refine wpAny_rest 8 (by kernel_rfl) (by rfl) (by kernel_rfl) ?_
        simp only [List.drop_succ_cons, List.drop_zero]
        repeat (go_big_quiet_step ((first
          | (go_at_call 20; exact werr_q g p' xs _ w5 HT5.out.1 _)
          | (go_at_call 18; exact wleft_q g p' xs _ w5 HT5.out.1 _)
          | (go_at_call 21; exact wend_q g p' xs _ w5 HT5.out.1 _)
          | (go_at_call 19; exact rleft_q h A n c p' xs _ w5 HT5.out.2.1 (by omega) hp5 HL.out _)
          | (go_at_call 22; exact rend_q h A n c p' xs _ w5 HT5.out.2.1 (by omega) hp5 HL.out _))))
        refine wpQuiet_nil ?_
        intro _ hw'
        obtain ⟨nq, hw''⟩ := hw'
        subst hw''
        go_wp2
        go_roundw
        case measure => simp [intOf]; omega
        case rel =>
          have h5 := HT5.out
          exact ⟨k + 1, p', err', by omega, by go_num, h5.1.drewN nq, h5.2.1.drewN nq, h5.2.2.1.drewN nq, below_drewN h5.2.2.2.1 nq, h5.2.2.2.2⟩
    · have hdk : decide ((k : Int) < n2) = false := by simp; omega
      go_wp2_with fail
      go_ret
      exact ⟨rfl, HT.out.2.2.2.1⟩
end Go.Proofs.Ytcidfnblfelgkaa
