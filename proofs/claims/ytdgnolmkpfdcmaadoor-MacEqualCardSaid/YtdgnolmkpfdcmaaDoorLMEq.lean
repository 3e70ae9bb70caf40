/-
  The walk of the statement on the equality of byte strings.
-/
import Derived.Test.YtdgnolmkpfdcmaaDoorWake2
import Derived.Test.YtdgnolmkpfdcmaaDoorAlike
import Derived.Test.YtdgnolmkpfdcmaaDoorMEq
import Derived.Laws.Closers25b
namespace Go.Proofs.YtdgnolmkpfdcmaaDoor
open Go.RowKit

theorem InB.set_ {xs : List Int} (h : InB xs) (k : Nat) {x : Int} (hx : 0 ≤ x ∧ x < 256) : InB (xs.set k x) := fun y hy => by
  rcases List.mem_or_eq_of_mem_set hy with h1 | rfl
  · exact h y h1
  · exact hx
theorem inB_append {xs ys : List Int} (h : InB xs) (h2 : InB ys) : InB (xs ++ ys) := fun y hy => by
  rcases List.mem_append.1 hy with h1 | h1
  · exact h y h1
  · exact h2 y h1
theorem sameB_longer (xs : List Int) : sameB xs (xs ++ [0]) = false := by
  simp [sameB]
theorem Row.at_ {w : World} {B : Nat} {e : TypeId} {k : IntKind} {v : Value} {n : Nat} {xs : List Int} (h : Row w B e k v n xs) (hn : 0 < n) : ∃ g c, v = .slice (some ⟨g, 0, none⟩) n c ∧ B ≤ g := by
  obtain ⟨g, c, hv, _, _, hB, _, _⟩ := h.own.at_ (by rw [h.length]; exact hn)
  rw [h.length] at hv
  exact ⟨g, c, hv, hB⟩

section
variable {P : Program} {w : World} {ops : Array Oper} {rest : List Oper} {o : Oper} {a : Act} {Q : Exit → Act → World → Prop}
/-- append under a guard that holds. -/
theorem wpList_appG (w : World) (hw : Region.wanted o (yielded ops a.tmps) = true) (s x : Operand) (t : TypeId)
    (ho : o.op = .call { callee := .builtin .append, args := #[s, x], argTypes := #[t, t] })
    (base : Nat) (e : TypeId) (i : TypeInfo) (z : Value) (bytes : Nat) (ht : P.underlying t = some (.slice e)) (hi : P.info? e = some i) (hz : i.zero = some z)
    (hsize : i.size = 1) (hby : i.bytes = bytes) (hzs : z.cells.size = 1) (k : IntKind)
    (v : Value) (xs : List Int) (hs : a.eval s = v) (hown : Own w base e k v xs)
    (B : Nat) (A : Option Addr) (m c : Nat) (ys : List Int) (hx : a.eval x = .slice A m c) (hr : Seg w B k A m ys)
    (h63 : xs.length + m ≤ maxLen) (hbytes : (xs.length + m) * bytes ≤ 140737488355328) (hbase : base ≤ w.heap.size)
    (h : ∀ v' w', Own w' base e k v' (xs ++ ys) → w.grownBy w' v.ownBlock → (v'.ownBlock = v.ownBlock ∨ v'.ownBlock = some w.heap.size) → wpList P ops Q rest (a.put o.dst v') w') :
    wpList P ops Q (o :: rest) a w :=
  wpList_step fun K hK => by
    simp only [hw, if_true]
    exact wp_app w s x t ho base e i z bytes ht hi hz hsize hby hzs k v xs hs hown B A m c ys hx hr h63 hbytes hbase fun v' w' h2 h3 h4 => hK _ _ (h v' w' h2 h3 h4)
end

set_option maxRecDepth 100000 in
set_option maxHeartbeats 4000000 in
theorem lawMacEqual (A : Option Addr) (n c : Nat) (xs : List Int) (A2 : Option Addr) (n2 c2 : Nat) (ys : List Int) (i x : Int) (w : World) (hs : Seg w w.heap.size .u8 A n xs) (_hc : n ≤ c) (_hcm : c ≤ 9223372036854775807) (hx : InB xs)
    (ht : Seg w w.heap.size .u8 A2 n2 ys) (_hc2 : n2 ≤ c2) (_hcm2 : c2 ≤ 9223372036854775807) (hy : InB ys) (hK : Tab w 0 .u32 kay256) :
    Calls Tryd.prog 8 #[.slice A n c, .slice A2 n2 c2, .int .i64 i, .int .u8 x] w fun e w' => e = .returned (.bool true) ∧ Below w.heap.size w w' := by
  obtain ⟨i0, hi, hz0, hz1, hz2⟩ := info_parts Tryd.infoU8
  have HK := Lib.hid hK
  have HS := Lib.hid hs
  have HT := Lib.hid ht
  have HX := Lib.hid hx
  have HY := Lib.hid hy
  clear hs ht hK hx hy
  go_enter Tryd.func8, Tryd.ntmps8
  go_wp2_with fail
  refine (awake2_any w HK.out).mono ?_
  rintro e w1 ⟨rfl, hb1⟩
  have hzb1 := hb1.size
  by_cases hn : 100 < n
  · have hd : decide ((100 : Int) < n) = true := by simp; omega
    go_wp2_with fail
    go_ret
    exact ⟨rfl, hb1⟩
  have hd : decide ((100 : Int) < n) = false := by simp; omega
  by_cases hn2 : 100 < n2
  · have hd2 : decide ((100 : Int) < n2) = true := by simp; omega
    go_wp2_with fail
    go_ret
    exact ⟨rfl, hb1⟩
  have hd2 : decide ((100 : Int) < n2) = false := by simp; omega
  go_wp2_with fail
  refine (copy_any A n c xs w1 ((HS.out.below hb1 (Nat.le_refl _)).more hzb1) (by omega)).mono ?_
  rintro e w2 ⟨v2, rfl, hR2, hb2⟩
  have HR2 := Lib.hid hR2
  have hbw2 := hb1.trans (hb2.mono hzb1)
  have hzw2 := hb2.size
  clear hR2
  rcases (by omega : i < 0 ∨ (0 ≤ i ∧ (n : Int) ≤ i) ∨ (0 ≤ i ∧ i < n)) with hin | ⟨hin, hin2⟩ | ⟨hin, hin2⟩
  focus
    obtain ⟨Y, HYY⟩ : ∃ Y, Hid (xs = Y) := ⟨_, rfl⟩
    obtain ⟨A3, c3, hv2, _, _⟩ := HR2.out.cut
    rw [hv2] at HR2
    subst hv2
    have hd3 : decide (0 ≤ i) = false := by simpa using hin
    go_wp2_with fail
    obtain ⟨w3, HW3⟩ : ∃ w3, Hid (w2 = w3) := ⟨_, rfl⟩
    rw [HW3.out] at hb2 HR2 ⊢
    have hseg3 := Lib.hid HR2.out.seg
    rw [HYY.out] at hseg3
    have HYB : Hid (InB Y) := by
      show InB Y
      rw [← HYY.out]
      exact HX.out
    have hb3 := hb2
    clear HR2
  rotate_left
  focus
    obtain ⟨Y, HYY⟩ : ∃ Y, Hid (xs = Y) := ⟨_, rfl⟩
    obtain ⟨A3, c3, hv2, _, _⟩ := HR2.out.cut
    rw [hv2] at HR2
    subst hv2
    have hd3 : decide (0 ≤ i) = true := by simpa using hin
    have hd4 : decide (i < n) = false := by simpa using hin2
    go_wp2_with fail
    obtain ⟨w3, HW3⟩ : ∃ w3, Hid (w2 = w3) := ⟨_, rfl⟩
    rw [HW3.out] at hb2 HR2 ⊢
    have hseg3 := Lib.hid HR2.out.seg
    rw [HYY.out] at hseg3
    have HYB : Hid (InB Y) := by
      show InB Y
      rw [← HYY.out]
      exact HX.out
    have hb3 := hb2
    clear HR2
  rotate_left
  focus
    obtain ⟨k, rfl⟩ : ∃ k : Nat, i = k := ⟨i.toNat, by omega⟩
    have hk : k < n := by omega
    obtain ⟨g, c3, hv2, hg⟩ := HR2.out.at_ (by omega)
    rw [hv2] at HR2
    subst hv2
    have hcell := HR2.out.cell k hk
    have hfr := HR2.out.frozen k
    obtain ⟨z, HZ⟩ : ∃ z, Hid (xs.getD k 0 = z) := ⟨_, rfl⟩
    rw [HZ.out] at hcell
    have hd3 : decide ((k : Int) < n) = true := by simp; omega
    obtain ⟨Y, HYY⟩ : ∃ Y, Hid (xs.set k (bits .xor .u8 z x) = Y) := ⟨_, rfl⟩
    have HYB : Hid (InB Y) := by
      show InB Y
      rw [← HYY.out]
      exact HX.out.set_ k ⟨bits_lo_u8 _ _ _, by have := bits_hi_u8 .xor z x; omega⟩
    clear hin hin2
    go_wp2_with fail
    generalize hw3 : World.setCell _ _ _ = w3
    have HR3 : Hid (Row w3 w1.heap.size 5 .u8 (.slice (some ⟨g, 0, none⟩) n c3) n Y) := by
      show Row _ _ _ _ _ _ _
      rw [← hw3, ← HYY.out]
      exact HR2.out.set_ k _
    have hb3 : Below w1.heap.size w1 w3 := by rw [← hw3]; exact hb2.setCell hg _
    have hseg3 := Lib.hid HR3.out.seg
    obtain ⟨A3, HA3⟩ : ∃ A3 : Option Addr, Hid (some ⟨g, 0, none⟩ = A3) := ⟨_, rfl⟩
    rw [HA3.out] at hseg3 ⊢
    clear hw3 hcell hfr hd3 HR3 HR2 hk HYY HA3
  rotate_left
  all_goals
    have hbw3 := hb1.trans (hb3.mono hzb1)
    have hzw3 := hbw3.size
    have HS3 := Lib.hid ((HS.out.below hbw3 (Nat.le_refl _)).more hzw3)
    have HT3 := Lib.hid ((HT.out.below hbw3 (Nat.le_refl _)).more hzw3)
    have HU := Lib.hid (sameB_self xs)
    refine (mequal_any A A n c n c _ _ xs xs w3 HS3.out HS3.out HX.out HX.out).mono ?_
    rintro e w' ⟨rfl, rfl⟩
    rw [HU.out]
    obtain ⟨b1, HB1⟩ : ∃ b, Hid (sameB xs ys = b) := ⟨_, rfl⟩
    obtain ⟨b2, HB2⟩ : ∃ b, Hid (sameB xs Y = b) := ⟨_, rfl⟩
    go_wp2_with fail
    refine (mequal_any A A2 n c n2 c2 _ _ xs ys w3 HS3.out HT3.out HX.out HY.out).mono ?_
    rintro e w' ⟨rfl, rfl⟩
    rw [HB1.out]
    go_wp2_with fail
    refine (same_any A A2 n c n2 c2 xs ys w3 HS3.out HT3.out (by omega)).mono ?_
    rintro e w4 ⟨rfl, q, hq⟩
    have hb4 : Below w3.heap.size w3 w4 := by rw [hq]; exact below_drewN (Below.refl _ _) q
    have hzw4 := hb4.size
    have HS4 := Lib.hid ((HS3.out.below hb4 (Nat.le_refl _)).more hzw4)
    have HC4 := Lib.hid ((hseg3.out.below hb4 (Nat.le_refl _)).more hzw4)
    rw [HB1.out]
    clear hq
    go_wp2_with fail
    refine (mequal_any A A3 n c n c3 _ _ xs Y w4 HS4.out HC4.out HX.out HYB.out).mono ?_
    rintro e w' ⟨rfl, rfl⟩
    rw [HB2.out]
    go_wp2_with fail
    refine (same_any A A3 n c n c3 xs Y w4 HS4.out HC4.out (by omega)).mono ?_
    rintro e w5 ⟨rfl, q5, hq⟩
    have hb5 : Below w4.heap.size w4 w5 := by rw [hq]; exact below_drewN (Below.refl _ _) q5
    have hzw5 := hb5.size
    have HS5 := Lib.hid ((HS4.out.below hb5 (Nat.le_refl _)).more hzw5)
    have hbw5 := hbw3.trans ((hb4.trans (hb5.mono hzw4)).mono hzw3)
    have hzw5' := hbw5.size
    rw [HB2.out]
    clear hq
    go_wp2_with fail
    refine (copy_any A n c xs w5 HS5.out (by omega)).mono ?_
    rintro e w6 ⟨v6, rfl, hR6, hb6⟩
    have HR6 := Lib.hid hR6
    have hzw6 := hb6.size
    have HS6 := Lib.hid (HS5.out.below hb6 (Nat.le_refl _))
    have hbw6 := hbw5.trans (hb6.mono hzw5')
    have HXL := Lib.hid HS.out.1
    clear hR6
    go_wp2_with (at_builtin; refine wpList_appG _ (by rfl) (.tmp 61) (.tmp 62) 22 rfl w5.heap.size 5 i0 (.int .u8 0) 1 Tryd.underlying22 hi hz0 hz1 hz2 rfl .u8 v6 xs rfl (HR6.out.alloc _).own (w6.heap.size + 1) (some ⟨w6.heap.size, 0, none⟩) 1 1 [0] rfl ((Seg.of_blk (Blk.new w6 5 .u8 [0])).more (by simp)) (by unfold maxLen; rw [HXL.out]; omega) (by rw [HXL.out]; omega) (by simp; omega) ?_; intro v7 w7 hown7 hg7 hor7; have hb7 : Below w5.heap.size w5 w7 := own_below (HR6.out.alloc _).own hg7 (hb6.alloc hzw6 _) (by simp; omega))
    have HR7 : Hid (Row w7 w5.heap.size 5 .u8 v7 (n + 1) (xs ++ [0])) := hown7.row (by rw [List.length_append, HXL.out]; rfl)
    obtain ⟨A7, c7, rfl, _, _⟩ := HR7.out.cut
    have hzw7 := hb7.size
    have HS57 := Lib.hid ((HS5.out.below hb7 (Nat.le_refl _)).more hzw7)
    have HBL := Lib.hid (sameB_longer xs)
    have HBX := Lib.hid (inB_append HX.out (fun y hy => by simp at hy; omega : InB [0]))
    clear hown7 hg7 hor7
    refine (mequal_any A A7 n c (n + 1) c7 _ _ xs _ w7 HS57.out HR7.out.seg HX.out HBX.out).mono ?_
    rintro e w' ⟨rfl, rfl⟩
    rw [HBL.out]
    go_wp2_with fail
    go_ret
    exact ⟨rfl, hbw5.trans (hb7.mono hzw5')⟩
end Go.Proofs.YtdgnolmkpfdcmaaDoor
