/-
  The walk of the statement on the root to which any leaf and path lead.
-/
import Derived.Test.YtkcbbgmilaafeaaDoorLTRoot
namespace Go.Proofs.YtkcbbgmilaafeaaDoor
open Go.RowKit

theorem sizeS (W : World) : (sizeOf (Tryd.prog.elem 22)).run Tryd.prog W = .ok 1 W := by kernel_rfl
theorem slice_lists (A : Option Addr) (n c I : Nat) (h : I ≤ c) (W : World) : (Instr.slice 22 (.slice A n c) none (some (.int .i64 (I : Int))) none).run Tryd.prog W = .ok (.slice A I c) W := by
  rw [run_slice_h W 22 A n c (by kernel_rfl) .i64 (I : Int) (by omega) (by omega), sizeS]
  have e : ∀ a : Addr, a.add 0 = a := fun a => by unfold Addr.add; simp
  cases A <;> simp [Result.andThen, sliced, e]
theorem Fields.take {w : World} {B : Nat} {A : Option Addr} {n : Nat} {fs : List (List Int)} (h : Fields w B A n fs) {i : Nat} (hi : i ≤ n) : Fields w B A i (fs.take i) :=
  ⟨by rw [List.length_take, h.1]; omega, fun hn => by
    obtain ⟨b, off, e, hlt, hc⟩ := h.2 (by omega)
    refine ⟨b, off, e, hlt, fun j hj => ?_⟩
    obtain ⟨A', n', c', h1, h2, h3⟩ := hc j (by omega)
    refine ⟨A', n', c', h1, ?_, h3⟩
    have e : (fs.take i).getD j [] = fs.getD j [] := by simp [List.getD, hj]
    rw [e]
    exact h2⟩

set_option maxRecDepth 100000 in
set_option maxHeartbeats 2000000 in
theorem lawTreeClimb (A : Option Addr) (n c : Nat) (leaf : List Int) (i : Int) (A3 : Option Addr) (n3 c3 : Nat) (p : List (List Int)) (w : World) (ht : Seg w w.heap.size .u8 A n leaf) (hc : n ≤ c) (hm : c ≤ 9223372036854775807)
    (hs : Fields w w.heap.size A3 n3 p) (hc3 : n3 ≤ c3) (hm3 : c3 ≤ 9223372036854775807) (hK : Tab w 0 .u32 kay256) :
    Calls Tryd.prog 5 #[.slice A n c, .int .i64 i, .slice A3 n3 c3] w fun e w' => e = .returned (.bool true) ∧ Below w.heap.size w w' := by
  have HS := Lib.hid hs
  have HT := Lib.hid ht
  have HL := Lib.hid hs.1
  have HK := Lib.hid hK
  have hw0 := hK.lt
  clear hs hK ht
  go_enter Tryd.func5, Tryd.ntmps5
  go_wp2_with fail
  refine (awake6_any w HK.out).mono ?_
  rintro e w1 ⟨rfl, hb1⟩
  have hz1 := hb1.size
  have HS1 := Lib.hid (HS.out.up hb1)
  have HT1 := Lib.hid (HT.out.up hb1)
  by_cases hbig : 60 < n
  · have hd : decide ((60 : Int) < n) = true := by simp; omega
    go_wp2_with fail
    go_ret
    exact ⟨rfl, hb1⟩
  have hd : decide ((60 : Int) < n) = false := by simp; omega
  go_wp2_with fail
  refine (few6_any A3 n3 c3 p w1 HS1.out (by omega)).mono ?_
  rintro e w' ⟨rfl, rfl⟩
  cases hfew : fewT p with
  | false => ?_
  | true => ?_
  · go_wp2_with fail
    go_ret
    exact ⟨rfl, hb1⟩
  obtain ⟨hn20, hsh⟩ := fewT_true hfew
  have hn3 : n3 < 20 := by rw [← HL.out]; exact hn20
  have HSH := Lib.hid hsh
  have hbw1 := hb1
  clear hfew hn20 hsh hb1
  by_cases h3 : 3 < n3
  · have hd3 : decide ((3 : Int) < n3) = true := by simp; omega
    have hsl := slice_lists A3 n3 c3 3 (by omega)
    have HP1 := Lib.hid (HS1.out.take (i := 3) (by omega))
    obtain ⟨P, hP⟩ : ∃ P, Hid (p.take 3 = P) := ⟨_, rfl⟩
    rw [hP.out] at HP1
    have HPS : Hid (∀ x ∈ P, x.length ≤ 60) := by rw [← hP.out]; exact fun x hx => HSH.out x (List.mem_of_mem_take hx)
    go_wp2_with fail
    obtain ⟨K, hKK⟩ : ∃ K, Hid (bits .and .i64 i 7 = K) := ⟨_, rfl⟩
    rw [hKK.out]
    refine (wclimb_any A A3 n c n3 c3 leaf i p w1 HT1.out (by omega) hc hm HS1.out (by omega) hc3 hm3 (short_big HSH.out) (HK.out.below hbw1 hw0)).mono ?_
    rintro e w2 ⟨B2, k2, d2, rfl, hk2, hd2, hm2, hS2, hb2⟩
    have HX2 := Lib.hid hS2
    have HT2 := Lib.hid (HT1.out.up hb2)
    have HS2 := Lib.hid (HS1.out.up hb2)
    have HP2 := Lib.hid (HP1.out.up hb2)
    have hbw2 := hbw1.trans (hb2.mono hz1)
    have hz2 := hbw2.size
    clear hS2 hb2 HT1 HS1 HP1
    go_wp2_with fail
    refine (rclimb_any A A3 n c n3 c3 leaf i p w2 HT2.out (by omega) HS2.out (short_big HSH.out)).mono ?_
    rintro e w3 ⟨v3, k3, rfl, hk3, hR3, hb3⟩
    obtain ⟨A3', cr3, rfl, _, _⟩ := hR3.cut
    have hkk : k3 = k2 := by rw [← hR3.length, HX2.out.1]
    rw [hkk] at hR3 ⊢
    have HR3 := Lib.hid hR3.seg
    have HQ3 := Lib.hid (HX2.out.up hb3)
    have HT3 := Lib.hid (HT2.out.up hb3)
    have HS3 := Lib.hid (HS2.out.up hb3)
    have HP3 := Lib.hid (HP2.out.up hb3)
    have hbw3 := hbw2.trans (hb3.mono hz2)
    have hz3 := hbw3.size
    clear hR3 hb3 hkk HT2 HS2 HP2
    go_wp2_with fail
    refine (same_self B2 A3' k2 d2 cr3 (climbI leaf i p) w3 HQ3.out HR3.out (by omega)).mono ?_
    rintro e w4 ⟨rfl, hb4⟩
    have HT4 := Lib.hid (HT3.out.up hb4)
    have HP4 := Lib.hid (HP3.out.up hb4)
    have hbw4 := hbw3.trans (hb4.mono hz3)
    have hz4 := hbw4.size
    clear hb4 HQ3 HR3 HX2 HT3 HS3 HP3
    go_wp2_with fail
    refine (wclimb_any A A3 n c 3 c3 leaf K P w4 HT4.out (by omega) hc hm HP4.out (by omega) (by omega) hm3 (short_big HPS.out) (HK.out.below hbw4 hw0)).mono ?_
    rintro e w5 ⟨B5, k5, d5, rfl, hk5, hd5, hm5, hS5, hb5⟩
    have HX5 := Lib.hid hS5
    have HT5 := Lib.hid (HT4.out.up hb5)
    have HP5 := Lib.hid (HP4.out.up hb5)
    have hbw5 := hbw4.trans (hb5.mono hz4)
    have hz5 := hbw5.size
    clear hS5 hb5 HT4 HP4
    go_wp2_with fail
    refine (rclimb_any A A3 n c 3 c3 leaf K P w5 HT5.out (by omega) HP5.out (short_big HPS.out)).mono ?_
    rintro e w6 ⟨v6, k6, rfl, hk6, hR6, hb6⟩
    obtain ⟨A6', cr6, rfl, _, _⟩ := hR6.cut
    have hkk : k6 = k5 := by rw [← hR6.length, HX5.out.1]
    rw [hkk] at hR6 ⊢
    have HR6 := Lib.hid hR6.seg
    have HQ6 := Lib.hid (HX5.out.up hb6)
    have HT6 := Lib.hid (HT5.out.up hb6)
    have HP6 := Lib.hid (HP5.out.up hb6)
    have hbw6 := hbw5.trans (hb6.mono hz5)
    have hz6 := hbw6.size
    clear hR6 hb6 hkk HT5 HP5
    go_wp2_with fail
    refine (same_self B5 A6' k5 d5 cr6 (climbI leaf K P) w6 HQ6.out HR6.out (by omega)).mono ?_
    rintro e w7 ⟨rfl, hb7⟩
    have hbw7 := hbw6.trans (hb7.mono hz6)
    have hz7 := hbw7.size
    clear hb7 HQ6 HR6 HX5 HT6 HP6
    go_wp2_with fail
    go_ret
    exact ⟨rfl, hbw7⟩
  · have hd3 : decide ((3 : Int) < n3) = false := by simp; omega
    obtain ⟨N, hN⟩ : ∃ N : Nat, Hid (2 ^ n3 = N) := ⟨_, rfl⟩
    have hN8 : N ≤ 8 := by rw [← hN.out]; exact two_three (by omega)
    have hN1 : 1 ≤ N := by rw [← hN.out]; exact two_pos _
    have hcast : (2 : Int) ^ n3 = (N : Int) := by rw [← hN.out]; simp
    have hw1 : RowKit.wrap64 ((2 : Int) ^ n3) = (N : Int) := by rw [hcast]; unfold RowKit.wrap64; omega
    have hw2 : IntKind.i64.wrap ((2 : Int) ^ n3) = (N : Int) := by rw [hcast]; exact IntWalk.i64_in _ (by omega)
    have hsub : IntKind.i64.wrap ((N : Int) - 1) = ((N - 1 : Nat) : Int) := by rw [IntWalk.i64_in _ (by omega)]; omega
    have hsub2 : RowKit.wrap64 ((N : Int) - 1) = ((N - 1 : Nat) : Int) := by unfold RowKit.wrap64; omega
    clear hcast
    go_wp2_with fail
    obtain ⟨K, hKK⟩ : ∃ K, Hid (bits .and .i64 i ((N - 1 : Nat) : Int) = K) := ⟨_, rfl⟩
    rw [hKK.out]
    refine (wclimb_any A A3 n c n3 c3 leaf i p w1 HT1.out (by omega) hc hm HS1.out (by omega) hc3 hm3 (short_big HSH.out) (HK.out.below hbw1 hw0)).mono ?_
    rintro e w2 ⟨B2, k2, d2, rfl, hk2, hd2, hm2, hS2, hb2⟩
    have HX2 := Lib.hid hS2
    have HT2 := Lib.hid (HT1.out.up hb2)
    have HS2 := Lib.hid (HS1.out.up hb2)
    have hbw2 := hbw1.trans (hb2.mono hz1)
    have hz2 := hbw2.size
    clear hS2 hb2 HT1 HS1
    go_wp2_with fail
    refine (rclimb_any A A3 n c n3 c3 leaf i p w2 HT2.out (by omega) HS2.out (short_big HSH.out)).mono ?_
    rintro e w3 ⟨v3, k3, rfl, hk3, hR3, hb3⟩
    obtain ⟨A3', cr3, rfl, _, _⟩ := hR3.cut
    have hkk : k3 = k2 := by rw [← hR3.length, HX2.out.1]
    rw [hkk] at hR3 ⊢
    have HR3 := Lib.hid hR3.seg
    have HQ3 := Lib.hid (HX2.out.up hb3)
    have HT3 := Lib.hid (HT2.out.up hb3)
    have HS3 := Lib.hid (HS2.out.up hb3)
    have hbw3 := hbw2.trans (hb3.mono hz2)
    have hz3 := hbw3.size
    clear hR3 hb3 hkk HT2 HS2
    go_wp2_with fail
    refine (same_self B2 A3' k2 d2 cr3 (climbI leaf i p) w3 HQ3.out HR3.out (by omega)).mono ?_
    rintro e w4 ⟨rfl, hb4⟩
    have HT4 := Lib.hid (HT3.out.up hb4)
    have HS4 := Lib.hid (HS3.out.up hb4)
    have hbw4 := hbw3.trans (hb4.mono hz3)
    have hz4 := hbw4.size
    clear hb4 HQ3 HR3 HX2 HT3 HS3
    go_wp2_with fail
    refine (wclimb_any A A3 n c n3 c3 leaf K p w4 HT4.out (by omega) hc hm HS4.out (by omega) hc3 hm3 (short_big HSH.out) (HK.out.below hbw4 hw0)).mono ?_
    rintro e w5 ⟨B5, k5, d5, rfl, hk5, hd5, hm5, hS5, hb5⟩
    have HX5 := Lib.hid hS5
    have HT5 := Lib.hid (HT4.out.up hb5)
    have HS5 := Lib.hid (HS4.out.up hb5)
    have hbw5 := hbw4.trans (hb5.mono hz4)
    have hz5 := hbw5.size
    clear hS5 hb5 HT4 HS4
    go_wp2_with fail
    refine (rclimb_any A A3 n c n3 c3 leaf K p w5 HT5.out (by omega) HS5.out (short_big HSH.out)).mono ?_
    rintro e w6 ⟨v6, k6, rfl, hk6, hR6, hb6⟩
    obtain ⟨A6', cr6, rfl, _, _⟩ := hR6.cut
    have hkk : k6 = k5 := by rw [← hR6.length, HX5.out.1]
    rw [hkk] at hR6 ⊢
    have HR6 := Lib.hid hR6.seg
    have HQ6 := Lib.hid (HX5.out.up hb6)
    have HT6 := Lib.hid (HT5.out.up hb6)
    have HS6 := Lib.hid (HS5.out.up hb6)
    have hbw6 := hbw5.trans (hb6.mono hz5)
    have hz6 := hbw6.size
    clear hR6 hb6 hkk HT5 HS5
    go_wp2_with fail
    refine (same_self B5 A6' k5 d5 cr6 (climbI leaf K p) w6 HQ6.out HR6.out (by omega)).mono ?_
    rintro e w7 ⟨rfl, hb7⟩
    have hbw7 := hbw6.trans (hb7.mono hz6)
    have hz7 := hbw7.size
    clear hb7 HQ6 HR6 HX5 HT6 HS6
    go_wp2_with fail
    go_ret
    exact ⟨rfl, hbw7⟩
end Go.Proofs.YtkcbbgmilaafeaaDoor
