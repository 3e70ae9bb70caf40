/-
  The program's frames.
-/
import Derived.Test.YtkcbbgmilaafeaaDoorFields
import Derived.Test.YtkcbbgmilaafeaaDoorWords
namespace Go.Proofs.YtkcbbgmilaafeaaDoor
open Go.RowKit

set_option maxRecDepth 100000 in
set_option maxHeartbeats 2000000 in
theorem frame_any (tag : Int) (A : Option Addr) (n c : Nat) (fs : List (List Int)) (w : World) (hs : Fields w w.heap.size A n fs) (hn : n ≤ 1048576) (ht : tot fs ≤ 1099511627776) :
    Calls Tryd.prog 35 #[.int .i64 tag, .slice A n c] w fun e w' => ∃ v, e = .returned v ∧ Own w' w.heap.size 5 .u8 v (frameI tag fs) ∧ Below w.heap.size w w' := by
  obtain ⟨i0, hi, hz0, hz1, hz2⟩ := info_parts Tryd.infoU8
  have HS := Lib.hid hs
  have hlen : fs.length = n := hs.1
  have HLN := Lib.hid hlen
  clear hs hlen
  go_enter Tryd.func35, Tryd.ntmps35
  go_wp2_with fail
  go_loop [5, 13] (fun s i => ∃ k : Nat, k ≤ n ∧ i = .int .i64 k ∧ s = .int .i64 ((1 + 4 * k + tot (fs.take k) : Nat) : Int)) (fun _ i => n - (intOf i).toNat)
  case atStart => exact ⟨0, by omega, rfl, rfl⟩
  case round =>
    obtain ⟨k, hk, rfl, rfl⟩ := hrel
    obtain ⟨s, hsz⟩ : ∃ s, Hid (1 + 4 * k + tot (fs.take k) = s) := ⟨_, rfl⟩
    rw [hsz.out]
    have hsb : s ≤ 1 + 4 * n + 1099511627776 := by have := tot_take_le fs k; have := hsz.out; omega
    by_cases hlt : k < n
    · obtain ⟨b, off, rfl, _, hc⟩ := HS.out.2 (by omega)
      obtain ⟨A', n', c', h1, h2, _, _⟩ := hc k hlt
      have hn' : n' ≤ 1099511627776 := by have := h2.1; have := tot_get_le fs k (by rw [HLN.out]; exact hlt); omega
      have HL := Lib.hid h2.1
      have hd : decide ((k : Int) < n) = true := by simp; omega
      clear hc h2
      go_wp2_with fail
      go_round
      case measure => simp [intOf]; omega
      case rel =>
        refine ⟨k + 1, by omega, by go_num, ?_⟩
        have h := tot_take fs k (by rw [HLN.out]; exact hlt)
        have h3 := HL.out
        have h4 := hsz.out
        rw [h, h3]
        congr 1
        omega
    · have hd : decide ((k : Int) < n) = false := by simp; omega
      go_wp2_with (first
        | (at_make; refine wpList_make_own _ rfl _ _ 27 rfl w.heap.size 5 i0 (.int .u8 0) 1 Tryd.underlying27 hi hz0 hz1 .i64 .i64 _ s rfl rfl rfl (by rw [hz2]; omega) (by unfold maxLen; omega) (Nat.le_refl _) ?_; intro w1 hown1 hg1; have hb1 : Below w.heap.size w w1 := (Below.refl _ _).grown hg1 (Nat.le_refl _) (fun r hr => by cases hr); have hz1' := hb1.size; clear hg1)
        | (at_builtin; refine wpList_app _ rfl (.tmp 24) (.tmp 27) 27 rfl w.heap.size 5 i0 (.int .u8 0) 1 Tryd.underlying27 hi hz0 hz1 hz2 rfl .u8 _ [] rfl (hown1.alloc _) (w1.heap.size + 1) (some ⟨w1.heap.size, 0, none⟩) 1 1 [tag % 256] rfl ((Seg.of_blk (Blk.new w1 5 .u8 [tag % 256])).more (by simp)) (by unfold maxLen; simp) (by simp) (by simp; omega) ?_; intro v3 w3 hown3 hg3 hor3; have hb3 := own_below (k := .u8) (xs := []) (hown1.alloc _) hg3 (hb1.alloc hz1' _) (by simp; omega); clear hg3 hor3))
      clear hb1 hz1'
      go_loopw [8, 31] (fun v i wr => ∃ k : Nat, k ≤ n ∧ i = .int .i64 k ∧ Own wr w.heap.size 5 .u8 v (frameI tag (fs.take k)) ∧ Below w.heap.size w wr) (fun _ i _ => n - (intOf i).toNat)
      case atStart => exact ⟨0, by omega, rfl, hown3, hb3⟩
      case round =>
        clear hown3 hb3 hd hsb
        obtain ⟨j, hj, rfl, hown, hb⟩ := hrel
        have hz := hb.size
        have hfl : (frameI tag (fs.take j)).length ≤ 1 + 4 * n + 1099511627776 := by
          rw [frameI_length]
          have := tot_take_le fs j
          have : (fs.take j).length ≤ n := by simp; omega
          omega
        by_cases hjt : j < n
        · obtain ⟨b, off, rfl, hbl, hc⟩ := HS.out.2 (by omega)
          obtain ⟨A', n', c', h1, h2, hnc, hcm⟩ := hc j hjt
          have hn' : n' ≤ 1099511627776 := by have := h2.1; have := tot_get_le fs j (by rw [HLN.out]; exact hjt); omega
          obtain ⟨f, hf⟩ : ∃ f, Hid (fs.getD j [] = f) := ⟨_, rfl⟩
          rw [hf.out] at h2
          have h1r := (hb.cell (p := ⟨b, off + j, none⟩) hbl).trans h1
          have HF := Lib.hid h2
          have hd : decide ((j : Int) < n) = true := by simp; omega
          clear hc h2 h1
          go_wp2_with (first
            | (go_at_call 43; refine (appendWord_any w.heap.size _ _ _ wr hown (by omega) hz).mono ?_; rintro e w4 ⟨v4, rfl, hown4, hg4⟩; have hb4 := own_below hown hg4 hb hz; have hz4 := hb4.size; have hs4 := HF.out.below hb4 (Nat.le_refl _); clear hg4)
            | (at_builtin; refine wpList_app _ rfl (.tmp 40) (.tmp 41) 27 rfl w.heap.size 5 i0 (.int .u8 0) 1 Tryd.underlying27 hi hz0 hz1 hz2 rfl .u8 _ _ rfl hown4 _ A' n' c' f rfl hs4 (by unfold maxLen; rw [List.length_append]; simp [be4]; omega) (by rw [List.length_append]; simp [be4]; omega) hz4 ?_; intro v5 w5 hown5 hg5 hor5; have hb5 := own_below hown4 hg5 hb4 hz4; clear hg5 hor5 hs4))
          refine ⟨⟨j + 1, by omega, by go_num, ?_, hb5⟩, by simp [intOf]; omega⟩
          rw [frameI_take _ _ _ (by rw [HLN.out]; exact hjt), hf.out, HF.out.1]
          exact hown5
        · have hd : decide ((j : Int) < n) = false := by simp; omega
          have hw : fs.take j = fs := List.take_of_length_le (by rw [HLN.out]; omega)
          rw [hw] at hown
          clear hw hfl
          go_wp2_with fail
          go_ret
          exact ⟨_, rfl, hown, hb⟩

end Go.Proofs.YtkcbbgmilaafeaaDoor
