/-
  The walk of the statement that numbers and blobs are read as they were written.
-/
import Derived.Test.YtcidfnblfelgkaaWake3
import Derived.Test.YtcidfnblfelgkaaTripL
import Derived.Test.YtcidfnblfelgkaaSame
import Derived.IntWalk
namespace Go.Proofs.Ytcidfnblfelgkaa
open Go.RowKit

theorem infoI64 : (Try.prog.info? 3).map (fun i => (i.zero, i.size, i.bytes)) = some (some (.int .i64 0), 1, 8) := by kernel_rfl

/-- What has been written of the numbers: the bytes (v7), the list of sizes and numbers (v8). -/
def WroteN (w0 : World) (k : Nat) (L : List (Nat × Int)) (v7 v8 : Value) (w : World) : Prop :=
  L.length = k ∧ (∀ p ∈ L, Fit p) ∧ Row w w0.heap.size 5 .u8 v7 (encN L).length (encN L) ∧ Row w w0.heap.size 3 .i64 v8 (2 * k) (wantN L) ∧ Below w0.heap.size w0 w

/-- The numbers are written, and j of the blobs. -/
def WroteB (w0 : World) (L : List (Nat × Int)) (fs : List (List Int)) (j : Nat) (v7 v8 : Value) (w : World) : Prop :=
  (∀ x ∈ fs.take j, x.length ≤ 200) ∧ Row w w0.heap.size 5 .u8 v7 (encN L ++ encB (fs.take j)).length (encN L ++ encB (fs.take j)) ∧ Row w w0.heap.size 3 .i64 v8 (2 * L.length) (wantN L) ∧ Below w0.heap.size w0 w

/-- p bytes of Z have been read without an error; the list of sizes and numbers lies below B. -/
def Reading (w0 : World) (B g : Nat) (Z : List Int) (A8 : Option Addr) (m8 : Nat) (ws : List Int) (p : Nat) (w : World) : Prop :=
  WRdr w g 53 Z p 0 ∧ Seg w B .i64 A8 m8 ws ∧ Below w0.heap.size w0 w ∧ B ≤ w.heap.size ∧ w0.heap.size ≤ B
theorem Reading.drewN {w0 w : World} {B g : Nat} {Z : List Int} {A8 : Option Addr} {m8 : Nat} {ws : List Int} {p : Nat} (h : Reading w0 B g Z A8 m8 ws p w) (q : Nat) : Reading w0 B g Z A8 m8 ws p (w.drewN q) :=
  ⟨h.1.drewN q, h.2.1.drewN q, below_drewN h.2.2.1 q, h.2.2.2.1, h.2.2.2.2⟩
theorem Reading.step {w0 w w' : World} {B g : Nat} {Z : List Int} {A8 : Option Addr} {m8 : Nat} {ws : List Int} {p p' : Nat} (h : Reading w0 B g Z A8 m8 ws p w) (hB : B ≤ g)
    (hW : WRdr w' g 53 Z p' 0) (hb : But w w' g) : Reading w0 B g Z A8 m8 ws p' w' := by
  obtain ⟨_, h2, h3, h4, h5⟩ := h
  have hz := hb.size
  exact ⟨hW, h2.but2 hb hB, below_but h3 hb (by omega) (by omega), by omega, h5⟩

set_option maxRecDepth 100000 in
set_option maxHeartbeats 8000000 in
theorem lawWireTrip (A : Option Addr) (n c : Nat) (ns : List Int) (A2 : Option Addr) (n2 c2 : Nat) (ss : List Int) (A3 : Option Addr) (n3 c3 : Nat) (fs : List (List Int)) (w : World)
    (hs : Seg w w.heap.size .i64 A n ns) (_hc : n ≤ c) (_hcm : c ≤ 9223372036854775807) (hs2 : Seg w w.heap.size .u8 A2 n2 ss) (_hc2 : n2 ≤ c2) (_hcm2 : c2 ≤ 9223372036854775807) (hx2 : InB ss)
    (hs3 : Fields w w.heap.size A3 n3 fs) (_hc3 : n3 ≤ c3) (_hcm3 : c3 ≤ 9223372036854775807) (hx3 : ∀ x ∈ fs, InB x) :
    Calls Try.prog 6 #[.slice A n c, .slice A2 n2 c2, .slice A3 n3 c3] w fun e w' => e = .returned (.bool true) ∧ Below w.heap.size w w' := by
  obtain ⟨i0, hi, hz0, hz1, hz2⟩ := info_parts infoI64
  have HS := Lib.hid hs
  have HS2 := Lib.hid hs2
  have HX2 := Lib.hid hx2
  have HS3 := Lib.hid hs3
  have HX3 := Lib.hid hx3
  clear hs hs2 hx2 hs3 hx3
  go_enter Try.func6, Try.ntmps6
  go_wp2_with fail
  refine (awake3_any w).mono ?_
  rintro e w1 ⟨rfl, hb1⟩
  have hzb1 := hb1.size
  by_cases hl : 12 < n
  · have hd : decide ((12 : Int) < n) = true := by simp; omega
    go_wp2_with fail
    go_ret
    exact ⟨rfl, hb1⟩
  have hd : decide ((12 : Int) < n) = false := by simp; omega
  by_cases hl2 : 8 < n3
  · have hd2 : decide ((8 : Int) < n3) = true := by simp; omega
    go_wp2_with fail
    go_ret
    exact ⟨rfl, hb1⟩
  have hd2 : decide ((8 : Int) < n3) = false := by simp; omega
  go_wp2_with fail
  go_loopw [7, 8, 9] (fun v7 v8 i wr => ∃ k L, k ≤ n ∧ i = .int .i64 (k : Nat) ∧ Hid (WroteN w k L v7 v8 wr)) (fun _ _ i _ => n - (intOf i).toNat)
  case atStart => exact ⟨0, [], by omega, rfl, rfl, by simp, nil_row _ _ _ _, nil_row _ _ _ _, hb1⟩
  case round =>
    clear hb1 hzb1
    obtain ⟨k, L, hkn, rfl, HW⟩ := hrel
    by_cases hlt : k < n
    · have hdk : decide ((k : Int) < n) = true := by simp; omega
      obtain ⟨b1, off1, rfl, hb1l, hc1'⟩ := HS.out.2 (by omega)
      have hcn := (HW.out.2.2.2.2.cell (p := ⟨b1, off1 + k, none⟩) hb1l).trans (hc1' k hlt)
      obtain ⟨x, hx⟩ : ∃ x, Hid (ns.getD k 0 = x) := ⟨_, rfl⟩
      rw [hx.out] at hcn
      clear hc1'
      obtain ⟨y, hy⟩ : ∃ y, Hid (bits .and .i64 x 4611686018427387903 = y) := ⟨_, rfl⟩
      have hyb : 0 ≤ y ∧ y ≤ 4611686018427387903 := by
        have := i64_and_le x 4611686018427387903 (by omega)
        rw [← hy.out]
        exact this
      rcases (by omega : k < n2 ∨ n2 ≤ k) with h3 | h3
      focus
        have hd3 : decide ((k : Int) < n2) = true := by simp; omega
        obtain ⟨b2, off2, rfl, hb2l, hc2'⟩ := HS2.out.2 (by omega)
        have hcs := (HW.out.2.2.2.2.cell (p := ⟨b2, off2 + k, none⟩) hb2l).trans (hc2' k h3)
        obtain ⟨z, hz⟩ : ∃ x, Hid (ss.getD k 0 = x) := ⟨_, rfl⟩
        obtain ⟨hz0', hz1'⟩ := inB_getD HX2.out k (by rw [HS2.out.1]; exact h3)
        rw [hz.out] at hcs hz0' hz1'
        clear hc2'
        rcases (by omega : z % 8 = 0 ∨ z % 8 = 1 ∨ z % 8 = 2 ∨ z % 8 = 3 ∨ z % 8 = 4 ∨ z % 8 = 5 ∨ z % 8 = 6 ∨ z % 8 = 7) with hzr | hzr | hzr | hzr | hzr | hzr | hzr | hzr
        focus
          obtain ⟨v, hv⟩ : ∃ v, Hid (bits .and .i64 y 255 = v) := ⟨_, rfl⟩
          have hvb : 0 ≤ v ∧ v ≤ 255 := by
            have := i64_and_le y 255 (by omega)
            rw [← hv.out]
            exact this
          obtain ⟨hv0, hv1⟩ := hvb
          go_wp2_with fail
          rw [hy.out, hv.out]
          obtain ⟨s, hss⟩ : ∃ s : Nat, s = 1 := ⟨_, rfl⟩
          have HSS : Hid ((1 : Int) = (s : Int)) := by show _ = _; rw [hss]; rfl
          have hfit : Fit (s, v) := by rw [hss]; exact ⟨by show 1 ≤ 1; omega, by show 1 ≤ 8; omega, hv0, by show v < 256 ^ 1; omega, by show v < _; omega⟩
          have hs1 : 1 ≤ s := by omega
          have hs8 : s ≤ 8 := by omega
          clear hss hv0 hv1
        rotate_left
        focus
          obtain ⟨v, hv⟩ : ∃ v, Hid (bits .and .i64 y 65535 = v) := ⟨_, rfl⟩
          have hvb : 0 ≤ v ∧ v ≤ 65535 := by
            have := i64_and_le y 65535 (by omega)
            rw [← hv.out]
            exact this
          obtain ⟨hv0, hv1⟩ := hvb
          go_wp2_with fail
          rw [hy.out, hv.out]
          obtain ⟨s, hss⟩ : ∃ s : Nat, s = 2 := ⟨_, rfl⟩
          have HSS : Hid ((2 : Int) = (s : Int)) := by show _ = _; rw [hss]; rfl
          have hfit : Fit (s, v) := by rw [hss]; exact ⟨by show 1 ≤ 2; omega, by show 2 ≤ 8; omega, hv0, by show v < 256 ^ 2; omega, by show v < _; omega⟩
          have hs1 : 1 ≤ s := by omega
          have hs8 : s ≤ 8 := by omega
          clear hss hv0 hv1
        rotate_left
        focus
          obtain ⟨v, hv⟩ : ∃ v, Hid (bits .and .i64 y 16777215 = v) := ⟨_, rfl⟩
          have hvb : 0 ≤ v ∧ v ≤ 16777215 := by
            have := i64_and_le y 16777215 (by omega)
            rw [← hv.out]
            exact this
          obtain ⟨hv0, hv1⟩ := hvb
          go_wp2_with fail
          rw [hy.out, hv.out]
          obtain ⟨s, hss⟩ : ∃ s : Nat, s = 3 := ⟨_, rfl⟩
          have HSS : Hid ((3 : Int) = (s : Int)) := by show _ = _; rw [hss]; rfl
          have hfit : Fit (s, v) := by rw [hss]; exact ⟨by show 1 ≤ 3; omega, by show 3 ≤ 8; omega, hv0, by show v < 256 ^ 3; omega, by show v < _; omega⟩
          have hs1 : 1 ≤ s := by omega
          have hs8 : s ≤ 8 := by omega
          clear hss hv0 hv1
        rotate_left
        focus
          obtain ⟨v, hv⟩ : ∃ v, Hid (bits .and .i64 y 4294967295 = v) := ⟨_, rfl⟩
          have hvb : 0 ≤ v ∧ v ≤ 4294967295 := by
            have := i64_and_le y 4294967295 (by omega)
            rw [← hv.out]
            exact this
          obtain ⟨hv0, hv1⟩ := hvb
          go_wp2_with fail
          rw [hy.out, hv.out]
          obtain ⟨s, hss⟩ : ∃ s : Nat, s = 4 := ⟨_, rfl⟩
          have HSS : Hid ((4 : Int) = (s : Int)) := by show _ = _; rw [hss]; rfl
          have hfit : Fit (s, v) := by rw [hss]; exact ⟨by show 1 ≤ 4; omega, by show 4 ≤ 8; omega, hv0, by show v < 256 ^ 4; omega, by show v < _; omega⟩
          have hs1 : 1 ≤ s := by omega
          have hs8 : s ≤ 8 := by omega
          clear hss hv0 hv1
        rotate_left
        focus
          obtain ⟨v, hv⟩ : ∃ v, Hid (bits .and .i64 y 1099511627775 = v) := ⟨_, rfl⟩
          have hvb : 0 ≤ v ∧ v ≤ 1099511627775 := by
            have := i64_and_le y 1099511627775 (by omega)
            rw [← hv.out]
            exact this
          obtain ⟨hv0, hv1⟩ := hvb
          go_wp2_with fail
          rw [hy.out, hv.out]
          obtain ⟨s, hss⟩ : ∃ s : Nat, s = 5 := ⟨_, rfl⟩
          have HSS : Hid ((5 : Int) = (s : Int)) := by show _ = _; rw [hss]; rfl
          have hfit : Fit (s, v) := by rw [hss]; exact ⟨by show 1 ≤ 5; omega, by show 5 ≤ 8; omega, hv0, by show v < 256 ^ 5; omega, by show v < _; omega⟩
          have hs1 : 1 ≤ s := by omega
          have hs8 : s ≤ 8 := by omega
          clear hss hv0 hv1
        rotate_left
        focus
          obtain ⟨v, hv⟩ : ∃ v, Hid (bits .and .i64 y 281474976710655 = v) := ⟨_, rfl⟩
          have hvb : 0 ≤ v ∧ v ≤ 281474976710655 := by
            have := i64_and_le y 281474976710655 (by omega)
            rw [← hv.out]
            exact this
          obtain ⟨hv0, hv1⟩ := hvb
          go_wp2_with fail
          rw [hy.out, hv.out]
          obtain ⟨s, hss⟩ : ∃ s : Nat, s = 6 := ⟨_, rfl⟩
          have HSS : Hid ((6 : Int) = (s : Int)) := by show _ = _; rw [hss]; rfl
          have hfit : Fit (s, v) := by rw [hss]; exact ⟨by show 1 ≤ 6; omega, by show 6 ≤ 8; omega, hv0, by show v < 256 ^ 6; omega, by show v < _; omega⟩
          have hs1 : 1 ≤ s := by omega
          have hs8 : s ≤ 8 := by omega
          clear hss hv0 hv1
        rotate_left
        focus
          obtain ⟨v, hv⟩ : ∃ v, Hid (bits .and .i64 y 72057594037927935 = v) := ⟨_, rfl⟩
          have hvb : 0 ≤ v ∧ v ≤ 72057594037927935 := by
            have := i64_and_le y 72057594037927935 (by omega)
            rw [← hv.out]
            exact this
          obtain ⟨hv0, hv1⟩ := hvb
          go_wp2_with fail
          rw [hy.out, hv.out]
          obtain ⟨s, hss⟩ : ∃ s : Nat, s = 7 := ⟨_, rfl⟩
          have HSS : Hid ((7 : Int) = (s : Int)) := by show _ = _; rw [hss]; rfl
          have hfit : Fit (s, v) := by rw [hss]; exact ⟨by show 1 ≤ 7; omega, by show 7 ≤ 8; omega, hv0, by show v < 256 ^ 7; omega, by show v < _; omega⟩
          have hs1 : 1 ≤ s := by omega
          have hs8 : s ≤ 8 := by omega
          clear hss hv0 hv1
        rotate_left
        focus
          obtain ⟨v, hv⟩ : ∃ v, Hid (y = v) := ⟨_, rfl⟩
          have hv0 : 0 ≤ v := by rw [← hv.out]; exact hyb.1
          have hv1 : v ≤ 4611686018427387903 := by rw [← hv.out]; exact hyb.2
          go_wp2_with fail
          rw [hy.out, hv.out]
          obtain ⟨s, hss⟩ : ∃ s : Nat, s = 8 := ⟨_, rfl⟩
          have HSS : Hid ((8 : Int) = (s : Int)) := by show _ = _; rw [hss]; rfl
          have hfit : Fit (s, v) := by rw [hss]; exact ⟨by show 1 ≤ 8; omega, by show 8 ≤ 8; omega, hv0, by show v < 256 ^ 8; omega, by show v < _; omega⟩
          have hs1 : 1 ≤ s := by omega
          have hs8 : s ≤ 8 := by omega
          clear hss hv0 hv1
        rotate_left
      rotate_left 8
      focus
        have hd3 : decide ((k : Int) < n2) = false := by simp; omega
        obtain ⟨v, hv⟩ : ∃ v, Hid (y = v) := ⟨_, rfl⟩
        have hv0 : 0 ≤ v := by rw [← hv.out]; exact hyb.1
        have hv1 : v ≤ 4611686018427387903 := by rw [← hv.out]; exact hyb.2
        go_wp2_with fail
        rw [hy.out, hv.out]
        obtain ⟨s, hss⟩ : ∃ s : Nat, s = 8 := ⟨_, rfl⟩
        have HSS : Hid ((8 : Int) = (s : Int)) := by show _ = _; rw [hss]; rfl
        have hfit : Fit (s, v) := by rw [hss]; exact ⟨by show 1 ≤ 8; omega, by show 8 ≤ 8; omega, hv0, by show v < 256 ^ 8; omega, by show v < _; omega⟩
        have hs1 : 1 ≤ s := by omega
        have hs8 : s ≤ 8 := by omega
        clear hss hv0 hv1
      rotate_left
      all_goals
        rw [HSS.out]
        obtain ⟨h1, h2, h3', h4, h5⟩ := HW.out
        obtain ⟨A7, c7, rfl, hc7, hcm7⟩ := h3'.cut
        have HL := Lib.hid h1
        have HF := Lib.hid h2
        have HR7 := Lib.hid h3'
        have HR8 := Lib.hid h4
        have hzr' := h5.size
        have hle := encN_le L h2
        have hle2 : (encN L).length ≤ 96 := by omega
        clear h1 h2 h3' h4 hle
        refine (wuint_any A7 _ c7 (encN L) s v wr (HR7.out.seg) (by omega) hc7 (by unfold maxLen at hcm7; omega)).mono ?_
        rw [uintB_in (encN L) s v hs1 hs8]
        rintro e w2 ⟨v2, k2, rfl, hk2, hR2, hb2⟩
        have HR2 := Lib.hid hR2
        have HR82 := Lib.hid (HR8.out.below hb2)
        have hbw2 := h5.trans (hb2.mono hzr')
        have hzw2 := hbw2.size
        have hz2' := hb2.size
        clear hR2
        have HO8 : Hid (Own (w2.alloc (.cells (ints .i64 [(s : Int), v]).toArray 3)) w.heap.size 3 .i64 u8 (wantN L)) := by
          show Own _ _ _ _ _ _
          exact (HR82.out.alloc _).own
        have HP : Hid (Seg (w2.alloc (.cells (ints .i64 [(s : Int), v]).toArray 3)) (w2.heap.size + 1) .i64 (some ⟨w2.heap.size, 0, none⟩) 2 [(s : Int), v]) := (Seg.of_blk (Blk.new w2 3 .i64 [(s : Int), v])).more (by simp)
        have hwl : (wantN L).length ≤ 24 := by rw [wantN_length, HL.out]; omega
        have hba : Below w.heap.size w (w2.alloc (.cells (ints .i64 [(s : Int), v]).toArray 3)) := hbw2.alloc hzw2 _
        have hza := hba.size
        go_wp2_with (at_builtin; refine wpList_app _ rfl (.tmp 61) (.tmp 64) 29 rfl w.heap.size 3 i0 (.int .i64 0) 8 Try.underlying29 hi hz0 hz1 hz2 rfl .i64 u8 (wantN L) rfl HO8.out (w2.heap.size + 1) (some ⟨w2.heap.size, 0, none⟩) 2 2 [(s : Int), v] rfl HP.out (by unfold maxLen; omega) (by omega) hza ?_; intro v5 w5 hown5 hg5 hor5; have hb5 : Below w.heap.size w w5 := own_below HO8.out hg5 hba hza; have HO5 := Lib.hid hown5; have HG5 := Lib.hid hg5; clear hown5 hg5 hor5)
        go_roundw
        case measure => simp [intOf]; omega
        case rel =>
          refine ⟨k + 1, L ++ [(s, v)], by omega, by go_num, ?_⟩
          have hk2l : k2 = (encN (L ++ [(s, v)])).length := by rw [encN_snoc, ← HR2.out.length]
          refine ⟨by simp [HL.out], fun p hp => ?_, ?_, ?_, hb5⟩
          · rcases List.mem_append.1 hp with h | h
            · exact HF.out p h
            · obtain rfl : p = (s, v) := by simpa using h
              exact hfit
          · rw [encN_snoc] at hk2l ⊢
            rw [← hk2l]
            refine Row.less (B := wr.heap.size) ?_ hzr'
            refine World.ownsRow.kept (HR2.out.alloc _) HG5.out ?_
            rcases hv8 : v2.ownBlock with _ | r
            · exact .inl rfl
            · refine .inr fun e => ?_
              have h1 := (World.ownsRow.lt HR2.out r hv8).1
              have h2 := (World.ownsRow.lt HR8.out r e.symm).2
              omega
          · rw [wantN_snoc]
            exact Own.row HO5.out (by rw [List.length_append, wantN_length, HL.out]; rfl)
    · have hdk : decide ((k : Int) < n) = false := by simp; omega
      obtain ⟨h1, h2, h3', h4, h5⟩ := HW.out
      have HLN : Hid (L.length = n) := by show _ = _; omega
      have HF := Lib.hid h2
      have hle := encN_le L h2
      have hle2 : (encN L).length ≤ 96 := by omega
      have HB0 : Hid (WroteB w L fs 0 u7 u8 wr) := ⟨by simp, by simpa [encB] using h3', by rw [h1]; exact h4, h5⟩
      clear h1 h2 h3' h4 h5 hle HW
      go_wp2_with fail
      go_loopw [7, 12] (fun v7 i wr => ∃ j, j ≤ n3 ∧ i = .int .i64 (j : Nat) ∧ Hid (WroteB w L fs j v7 u8 wr)) (fun _ i _ => n3 - (intOf i).toNat)
      case atStart => exact ⟨0, by omega, rfl, HB0⟩
      case round =>
        clear HB0
        obtain ⟨j, hjn, rfl, HW⟩ := hrel
        obtain ⟨h1, h2, h3', h4⟩ := HW.out
        by_cases hjt : j < n3
        · have hdj : decide ((j : Int) < n3) = true := by simp; omega
          obtain ⟨b3, off3, rfl, hb3l, hc3'⟩ := HS3.out.2 (by omega)
          obtain ⟨A', n', c', g1, g2, hnc', hcm'⟩ := hc3' j hjt
          have hcr := (h4.cell (p := ⟨b3, off3 + j, none⟩) hb3l).trans g1
          have HG2 := Lib.hid g2
          have HFL := Lib.hid g2.1
          clear hc3' g1 g2
          by_cases hlong : 200 < n'
          · have hdl : decide ((200 : Int) < n') = true := by simp; omega
            have hb4 := h4
            clear h1 h2 h3' h4
            go_wp2_with fail
            go_ret
            exact ⟨rfl, hb4⟩
          · have hdl : decide ((200 : Int) < n') = false := by simp; omega
            obtain ⟨Z, HZ⟩ : ∃ Z, Hid (encN L ++ encB (fs.take j) = Z) := ⟨_, rfl⟩
            obtain ⟨m, HM⟩ : ∃ m, Hid ((encN L ++ encB (fs.take j)).length = m) := ⟨_, rfl⟩
            rw [HM.out, HZ.out] at h2
            obtain ⟨A7, c7, rfl, hc7, hcm7⟩ := h2.cut
            have HR7 := Lib.hid h2
            have HR8 := Lib.hid h3'
            have HQ := Lib.hid h1
            have hzr' := h4.size
            have hle3 := encB_le (fs.take j) h1
            have hle4 : m ≤ 1712 := by
              have h5 : (fs.take j).length ≤ j := by rw [List.length_take]; omega
              rw [← HM.out, List.length_append]
              omega
            have HG2r := Lib.hid ((HG2.out.below h4 (Nat.le_refl _)).more hzr')
            have hb4 := h4
            clear h1 h2 h3' h4 hle3
            go_wp2_with fail
            refine (wblob_any A7 A' m c7 n' c' Z (fs.getD j []) wr HR7.out.seg (by omega) hc7 (by unfold maxLen at hcm7; omega) HG2r.out (by omega) hnc' (by unfold maxLen at hcm'; omega)).mono ?_
            rintro e w2 ⟨v2, k2, rfl, hk2, hR2, hb2⟩
            rw [blobB_short _ _ (by rw [HFL.out]; omega)] at hR2
            have HR2 := Lib.hid hR2
            have HR82 := Lib.hid (HR8.out.below hb2)
            have hbw2 := hb4.trans (hb2.mono hzr')
            clear hR2
            go_wp2_with fail
            go_roundw
            case measure => simp [intOf]; omega
            case rel =>
              refine ⟨j + 1, by omega, by go_num, ?_⟩
              have ht := take_snoc' fs j [] (by rw [HS3.out.1]; exact hjt)
              have he : encN L ++ encB (fs.take (j + 1)) = encN L ++ encB (fs.take j) ++ (beI 2 ((fs.getD j []).length : Int) ++ fs.getD j []) := by
                rw [ht, encB_snoc, List.append_assoc]
              refine ⟨fun x hx => ?_, ?_, HR82.out, hbw2⟩
              · rw [ht] at hx
                rcases List.mem_append.1 hx with h | h
                · exact HQ.out x h
                · obtain rfl : x = fs.getD j [] := by simpa using h
                  rw [HFL.out]; omega
              · rw [he, HZ.out, HR2.out.length]
                exact Row.less HR2.out hzr'
        · have hdj : decide ((j : Int) < n3) = false := by simp; omega
          rw [List.take_of_length_le (show fs.length ≤ j by rw [HS3.out.1]; omega)] at h1 h2
          obtain ⟨Z, HZ⟩ : ∃ Z, Hid (encN L ++ encB fs = Z) := ⟨_, rfl⟩
          obtain ⟨m, HM⟩ : ∃ m, Hid ((encN L ++ encB fs).length = m) := ⟨_, rfl⟩
          obtain ⟨m8, HM8⟩ : ∃ m8, Hid (2 * L.length = m8) := ⟨_, rfl⟩
          rw [HM.out, HZ.out] at h2
          rw [HM8.out] at h3'
          obtain ⟨A7, c7, rfl, hc7, hcm7⟩ := h2.cut
          obtain ⟨A8, c8, rfl, hc8, hcm8⟩ := h3'.cut
          have HR7 := Lib.hid h2
          have HV := Lib.hid h3'.seg
          have HQ := Lib.hid h1
          have hzr' := h4.size
          have hle3 := encB_le fs h1
          have hm1712 : m ≤ 1712 := by
            have h5 : fs.length = n3 := HS3.out.1
            rw [← HM.out, List.length_append]
            omega
          have hm8n : m8 = 2 * n := by have := HM8.out; have := HLN.out; omega
          have HM8N := Lib.hid hm8n
          have HZB : Hid (InB Z) := by
            show InB Z
            rw [← HZ.out]
            exact inB_append (inB_encN L) (inB_encB fs HX3.out)
          have HZL : Hid (Z.length = m) := by show _ = _; rw [← HZ.out, HM.out]
          have hb4 := h4
          have hZl : Z.length ≤ 1099511627776 := by rw [HZL.out]; omega
          clear h1 h2 h3' h4 hle3 hm8n HW
          go_wp2_with fail
          refine (wnew_any A7 m c7 Z wr HR7.out.seg (by omega)).mono ?_
          rintro e w6 ⟨g, rfl, hg, hW6, hb6⟩
          have HRD : Hid (Reading w wr.heap.size g Z A8 m8 (wantN L) 0 w6) := ⟨hW6, HV.out.below hb6 (Nat.le_refl _), hb4.trans (hb6.mono hzr'), hb6.size, hzr'⟩
          have HRD0 : Hid (Reading w wr.heap.size g Z A8 m8 (wantN L) (encN (L.take 0)).length w6) := by
            show Reading _ _ _ _ _ _ _ _ _
            simpa [encN] using HRD.out
          obtain ⟨B, HBB⟩ : ∃ B, Hid (wr.heap.size = B) := ⟨_, rfl⟩
          rw [HBB.out] at HRD0 hg
          clear hW6 hb6 HRD
          go_wp2_with fail
          go_loopw [14] (fun i wq => ∃ q r : Nat, q ≤ n ∧ i = .int .i64 (r : Int) ∧ Hid (r = 2 * q) ∧ Hid (Reading w B g Z A8 m8 (wantN L) (encN (L.take q)).length wq)) (fun i _ => m8 - (intOf i).toNat)
          case atStart => exact ⟨0, 0, by omega, rfl, rfl, HRD0⟩
          case round =>
            clear HRD0
            obtain ⟨q, r, hqn, rfl, HRQ, HD⟩ := hrel
            have hr2 : r = 2 * q := HRQ.out
            have hm2 : m8 = 2 * n := HM8N.out
            by_cases hqt : q < n
            · have hrm : r < m8 := by omega
              have hrm1 : r + 1 < m8 := by omega
              have hdr : decide ((r : Int) < m8) = true := by simp; omega
              obtain ⟨b8, off8, rfl, hb8l, hc8'⟩ := HD.out.2.1.2 (by omega)
              have hw0 := hc8' r hrm
              have hw1 := hc8' (r + 1) hrm1
              obtain ⟨ha0, ha1⟩ := wantN_at L q (by rw [HLN.out]; exact hqt)
              have hnr := num_read L fs q (by rw [HLN.out]; exact hqt) HF.out
              rw [HZ.out] at hnr
              obtain ⟨s, hss⟩ : ∃ s : Int, Hid (((L.getD q (0, 0)).1 : Int) = s) := ⟨_, rfl⟩
              obtain ⟨v, hv⟩ : ∃ v, Hid ((L.getD q (0, 0)).2 = v) := ⟨_, rfl⟩
              rw [hss.out] at ha0 hnr
              rw [hv.out] at ha1 hnr
              rw [hr2, ha0, ← hr2] at hw0
              rw [hr2, ha1, ← hr2] at hw1
              have HUC : Hid (Calls Try.prog 23 #[.pointer (some ⟨g, 0, none⟩), .int .i64 s] wr.drew fun e w' => e = .returned (.int .i64 v) ∧ Reading w B g Z (some ⟨b8, off8, none⟩) m8 (wantN L) (encN (L.take (q + 1))).length w' ∧ w'.cell? ⟨b8, off8 + r, none⟩ = some (.int .i64 s) ∧ w'.cell? ⟨b8, off8 + (r + 1), none⟩ = some (.int .i64 v)) := by
                refine (wruint_any g _ Z 0 s wr.drew (HD.out.1.drewN 1) hZl HZB.out).mono ?_
                rw [hnr]
                rintro e w' ⟨rfl, hW', hb'⟩
                have hk := fun (x : Addr) (u : Value) (hx : x.block < B) (hc : wr.cell? x = some u) => have hne : x.block ≠ g := Nat.ne_of_lt (Nat.lt_of_lt_of_le hx hg); ((World.cell?_of_block (w := wr.drew) (w' := w') (a := x) (hb'.block x.block (block_lt_of_cell hc) (fun h => hne (by injection h)))).trans hc : w'.cell? x = some u)
                exact ⟨rfl, Reading.step (HD.out.drewN 1) hg hW' hb', hk _ _ hb8l hw0, hk _ _ hb8l hw1⟩
              have hr24' : r ≤ 24 := by omega
              clear ha0 ha1 hnr hr2 hm2 hc8'
              have hd0 : wr.drew.cell? ⟨b8, off8 + r, none⟩ = some (.int .i64 s) := hw0
              have hd1 : wr.drew.cell? ⟨b8, off8 + (r + 1), none⟩ = some (.int .i64 v) := hw1
              have hri : (r : Int) < m8 := by omega
              have hr24 : (r : Int) ≤ 24 := by omega
              have hrz : (0 : Int) ≤ r := by omega
              have e1 : IntKind.i64.wrap ((r : Int) + 1) = (r : Int) + 1 := IntWalk.i64_in _ (by omega)
              have e2 : ((r : Int) + 1).toNat = r + 1 := by omega
              have e3 : (0 : Int) ≤ (r : Int) + 1 := by omega
              have e4 : (r : Int) + 1 < m8 := by omega
              go_wp2_with fail
              go_region_held3 (fun W => W.cell? ⟨b8, off8 + r, none⟩ = some (.int .i64 s) ∧ W.cell? ⟨b8, off8 + (r + 1), none⟩ = some (.int .i64 v))
                (first
                  | exact ⟨k1, k2⟩
                  | exact ⟨hd0, hd1⟩
                  | go_keep)
                (first
                  | (go_at_call 23; refine HUC.out.mono ?_; rintro e w5 ⟨rfl, hRD5, k1, k2⟩; have HRD5 := Lib.hid hRD5; clear hRD5))
              clear e1 e2
              go_wp2
              go_roundw
              case measure => simp [intOf]; omega
              case rel => exact ⟨q + 1, r + 2, by omega, by go_num, by show _ = _; have := HRQ.out; omega, HRD5.out⟩
            · have hdr : decide (r < m8) = false := by simp; omega
              have hqn' : q = n := by omega
              have HRB : Hid (Reading w B g Z A8 m8 (wantN L) (encN L ++ encB (fs.take 0)).length wr) := by
                show Reading _ _ _ _ _ _ _ _ _
                have h := HD.out
                rw [List.take_of_length_le (by rw [HLN.out]; omega)] at h
                simpa [encB] using h
              clear hr2 hm2 hqn' HD
              go_wp2_with fail
              go_loopw [15] (fun i wq => ∃ q : Nat, q ≤ n3 ∧ i = .int .i64 (q : Int) ∧ Hid (Reading w B g Z A8 m8 (wantN L) (encN L ++ encB (fs.take q)).length wq)) (fun i _ => n3 - (intOf i).toNat)
              case atStart => exact ⟨0, by omega, rfl, HRB⟩
              case round =>
                clear HRB
                obtain ⟨q, hqn3, rfl, HD⟩ := hrel
                by_cases hqt : q < n3
                · have hdq : decide ((q : Int) < n3) = true := by simp; omega
                  obtain ⟨b3, off3, rfl, hb3l, hc3'⟩ := HS3.out.2 (by omega)
                  obtain ⟨A', n', c', g1, g2, hnc', hcm'⟩ := hc3' q hqt
                  have hbr := HD.out.2.2.1
                  have hcr := (hbr.cell (p := ⟨b3, off3 + q, none⟩) hb3l).trans g1
                  have HG2 := Lib.hid g2
                  have HFL := Lib.hid g2.1
                  have hbrd := blob_read L fs q (by rw [HS3.out.1]; exact hqt) HQ.out
                  rw [HZ.out] at hbrd
                  obtain ⟨x, hx⟩ : ∃ x, Hid (fs.getD q [] = x) := ⟨_, rfl⟩
                  rw [hx.out] at hbrd HG2 HFL
                  have hn' : n' ≤ 200 := by
                    have hxm : fs.getD q [] ∈ fs := by
                      have hq2 : q < fs.length := by rw [HS3.out.1]; exact hqt
                      rw [show fs.getD q [] = fs[q] by simp [List.getD, hq2]]
                      exact List.getElem_mem hq2
                    have := HQ.out _ hxm
                    rw [hx.out, HFL.out] at this
                    exact this
                  have hwB : w.heap.size ≤ B := HD.out.2.2.2.2
                  have HBC : Hid (Calls Try.prog 24 #[.pointer (some ⟨g, 0, none⟩), .int .i64 200] wr.drew fun e w' => ∃ A1 c1, e = .returned (.slice A1 n' c1) ∧ Seg w' w'.heap.size .u8 A1 n' x ∧ Seg w' w'.heap.size .u8 A' n' x ∧ Reading w B g Z A8 m8 (wantN L) (encN L ++ encB (fs.take (q + 1))).length w' ∧ w'.cell? ⟨b3, off3 + q, none⟩ = some (.slice A' n' c')) := by
                    refine (wrblob_any g _ Z 0 200 wr.drew (HD.out.1.drewN 1) hZl HZB.out).mono ?_
                    rw [hbrd]
                    rintro e w' ⟨A1, k1, c1, rfl, hS1, hk1, hc1, hcm1, hW', hb'⟩
                    have hk1n : k1 = n' := by rw [← hS1.1, HFL.out]
                    subst hk1n
                    have hR := Reading.step (HD.out.drewN 1) hg hW' hb'
                    have hlt := hW'.lt
                    exact ⟨A1, c1, rfl, hS1.more (by omega), (HG2.out.below hR.2.2.1 (Nat.le_refl _)).more hR.2.2.1.size, hR, (hR.2.2.1.cell (p := ⟨b3, off3 + q, none⟩) hb3l).trans g1⟩
                  clear hc3' g1 g2 hbrd hbr
                  have hcd : wr.drew.cell? ⟨b3, off3 + q, none⟩ = some (.slice A' n' c') := hcr
                  have hqi : (q : Int) < n3 := by omega
                  have hqz : (0 : Int) ≤ q := by omega
                  go_wp2_with fail
                  go_region_held3 (fun W => W.cell? ⟨b3, off3 + q, none⟩ = some (.slice A' n' c'))
                    (first
                      | exact k7
                      | exact k5
                      | exact hcd
                      | go_keep)
                    (first
                      | (go_at_call 10; refine (same_any A1 A' n' c1 n' c' x x w5 HA5.out HB5.out (by omega)).mono ?_; rw [sameB_self]; rintro e w7 ⟨rfl, q7, rfl⟩; have k7 : (w5.drewN q7).cell? ⟨b3, off3 + q, none⟩ = some (.slice A' n' c') := k5)
                      | (go_at_call 24; refine HBC.out.mono ?_; rintro e w5 ⟨A1, c1, rfl, hA5, hB5, hRD5, k5⟩; have HRD5 := Lib.hid hRD5; have HA5 := Lib.hid hA5; have HB5 := Lib.hid hB5; clear hRD5 hA5 hB5))
                  go_wp2
                  go_roundw
                  case measure => simp [intOf]; omega
                  case rel =>
                    exact ⟨q + 1, by omega, by go_num, HRD5.out.drewN _⟩
                · have hdq : decide ((q : Int) < n3) = false := by simp; omega
                  have HE : Hid (Reading w B g Z A8 m8 (wantN L) Z.length wr) := by
                    show Reading _ _ _ _ _ _ _ _ _
                    have h := HD.out
                    rw [List.take_of_length_le (by rw [HS3.out.1]; omega), HZ.out] at h
                    exact h
                  have hl0 : Hid (leftR Z Z.length = 0) := by show _ = _; unfold leftR; omega
                  have he0 : Hid (endR Z Z.length 0 = 0) := by show _ = _; rw [endR, if_neg]; rintro ⟨_, h⟩; rw [hl0.out] at h; omega
                  clear HD
                  go_wp2_with (first
                    | (go_at_call 20; refine (werr_any g Z.length Z 0 wr HE.out.1).mono ?_; rintro e w' ⟨rfl, rfl⟩)
                    | (go_at_call 21; refine (wend_any g Z.length Z 0 wr HE.out.1).mono ?_; rw [he0.out]; rintro e w' ⟨rfl, rfl⟩)
                    | (go_at_call 18; refine (wleft_any g Z.length Z 0 wr HE.out.1).mono ?_; rw [hl0.out]; rintro e w' ⟨rfl, rfl⟩))
                  go_ret
                  exact ⟨rfl, HE.out.2.2.1⟩
end Go.Proofs.Ytcidfnblfelgkaa
