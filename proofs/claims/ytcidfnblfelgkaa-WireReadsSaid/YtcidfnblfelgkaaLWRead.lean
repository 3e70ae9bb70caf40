/-
  One read of both Readers.
-/
import Derived.Test.YtcidfnblfelgkaaWake3
import Derived.Test.YtcidfnblfelgkaaRRb
import Derived.Test.YtcidfnblfelgkaaRRu
import Derived.Test.YtcidfnblfelgkaaSame
namespace Go.Proofs.Ytcidfnblfelgkaa
open Go.RowKit

/-- Two Readers of the same bytes in the same state; below B all is as it was in w0. -/
def Two (w0 : World) (B g h : Nat) (A : Option Addr) (n c : Nat) (xs : List Int) (p : Nat) (err : Int) (w : World) : Prop :=
  WRdr w g 53 xs p err ∧ Rdr w h 39 A n c p err ∧ Seg w B .u8 A n xs ∧ Below B w0 w ∧ B ≤ w.heap.size
theorem Two.step {w0 w w1 w2 : World} {B g h : Nat} {A : Option Addr} {n c : Nat} {xs : List Int} {p p' : Nat} {err err' : Int} (ht : Two w0 B g h A n c xs p err w) (hB : B ≤ g) (hgh : g < h)
    (h1 : WRdr w1 g 53 xs p' err') (hb1 : But w w1 g) (h2 : Rdr w2 h 39 A n c p' err') (hb2 : But w1 w2 h) : Two w0 B g h A n c xs p' err' w2 := by
  obtain ⟨_, _, t3, t4, t5⟩ := ht
  have b1 := below_but t4 hb1 hB t5
  have z1 := hb1.size
  have b2 := below_but b1 hb2 (by omega) (by omega)
  have z2 := hb2.size
  exact ⟨h1.but hb2 hgh, h2, (t3.but2 hb1 hB).but2 hb2 (by omega), b2, by omega⟩

theorem Two.drew {w0 w : World} {B g h : Nat} {A : Option Addr} {n c : Nat} {xs : List Int} {p : Nat} {err : Int} (ht : Two w0 B g h A n c xs p err w) : Two w0 B g h A n c xs p err w.drew :=
  ⟨ht.1.drewN 1, ht.2.1.drewN 1, ht.2.2.1.drewN 1, ht.2.2.2.1.drew, ht.2.2.2.2⟩

set_option maxRecDepth 100000 in
set_option maxHeartbeats 4000000 in
theorem read_any (w0 : World) (B g h : Nat) (A : Option Addr) (n c : Nat) (xs : List Int) (p : Nat) (err : Int) (kind m : Int) (w : World) (ht : Two w0 B g h A n c xs p err w) (hB : B ≤ g) (hgh : g < h)
    (hx : InB xs) (hn : n ≤ 1048576) (hc : n ≤ c) (hcm : c ≤ 9223372036854775807) (hk0 : 0 ≤ kind) (hk1 : kind ≤ 255) :
    Calls Try.prog 17 #[.pointer (some ⟨g, 0, none⟩), .pointer (some ⟨h, 0, none⟩), .int .u8 kind, .int .i64 m] w
      fun e w' => ∃ p' err', e = .returned (.bool true) ∧ Two w0 B g h A n c xs p' err' w' := by
  have HT := Lib.hid ht
  have HX := Lib.hid hx
  have hxl : xs.length = n := ht.2.2.1.1
  have HXL := Lib.hid hxl
  have hp : p ≤ n := by have := ht.1.le; omega
  clear ht hx hxl
  rcases (by omega : kind % 4 = 0 ∨ kind % 4 = 1 ∨ kind % 4 = 2 ∨ kind % 4 = 3) with hk | hk | hk | hk
  · have d0 : (kind % 4 == 0) = true := by simpa using hk
    clear hk
    obtain ⟨⟨x, p', e'⟩, hr⟩ : ∃ r, uintR xs p err (m.tmod 10) = r := ⟨_, rfl⟩
    have HR := Lib.hid hr
    clear hr
    go_enter Try.func17, Try.ntmps17
    go_wp2_with fail
    refine (wruint_any g p xs err (m.tmod 10) w HT.out.1 (by rw [HXL.out]; omega) HX.out).mono ?_
    rw [HR.out]
    rintro e w1 ⟨rfl, hW1, hb1⟩
    have HW1 := Lib.hid hW1
    have HB1 := Lib.hid hb1
    clear hW1 hb1
    go_wp2_with fail
    refine (rruint_any h A n c p err (m.tmod 10) xs w1 (HT.out.2.1.but HB1.out (by omega)) ((HT.out.2.2.1.but2 HB1.out hB).more (by omega)) HX.out (by omega) hp).mono ?_
    rw [HR.out]
    rintro e w2 ⟨rfl, hW2, hb2⟩
    have HF := Lib.hid (HT.out.step hB hgh HW1.out HB1.out hW2 hb2)
    clear hW2 hb2
    go_wp2_with fail
    go_ret
    exact ⟨p', e', rfl, HF.out⟩
  · have d0 : (kind % 4 == 0) = false := by rw [hk]; rfl
    have d1 : (kind % 4 == 1) = true := by simpa using hk
    clear hk
    obtain ⟨⟨x, p', e'⟩, hr⟩ : ∃ r, rawR xs p err (m.tmod 20) = r := ⟨_, rfl⟩
    have HR := Lib.hid hr
    clear hr
    go_enter Try.func17, Try.ntmps17
    go_wp2_with fail
    refine (wrraw_any g p xs err (m.tmod 20) w HT.out.1 (by rw [HXL.out]; omega)).mono ?_
    rw [HR.out]
    rintro e w1 ⟨A1, k1, c1, rfl, hS1, hk1, hc1, hcm1, hW1, hb1⟩
    have HW1 := Lib.hid hW1
    have HB1 := Lib.hid hb1
    have HS1 := Lib.hid hS1
    have HL1 := Lib.hid hS1.1
    have hl1 := hW1.lt
    have hk1n : k1 ≤ n := by rw [HXL.out] at hk1; exact hk1
    clear hW1 hb1 hS1 hk1
    go_wp2_with fail
    refine (rrraw_any h A n c p err (m.tmod 20) xs w1 (HT.out.2.1.but HB1.out (by omega)) ((HT.out.2.2.1.but2 HB1.out hB).more (by omega)) (by omega) hp hc hcm).mono ?_
    rw [HR.out]
    rintro e w2 ⟨v2, k2, rfl, hk2, hR2, hW2, hb2⟩
    obtain ⟨A2, c2, rfl, hc2, hcm2⟩ := hR2.cut
    have HL2 := Lib.hid hR2.length
    have hz2 := hb2.size
    have hkk : k1 = k2 := by rw [← HL1.out, ← HL2.out]
    subst hkk
    have HS2 := Lib.hid hR2.seg
    have HS1' := Lib.hid ((HS1.out.but2 hb2 (by omega)).more (B' := w2.heap.size) (by omega))
    have HF := Lib.hid (HT.out.step hB hgh HW1.out HB1.out hW2 hb2)
    clear hW2 hb2 hR2
    go_wp2_with fail
    refine (same_self A1 A2 k1 c1 c2 x w2 HS1'.out HS2.out (by omega)).mono ?_
    rintro e w3 ⟨rfl, hb3⟩
    obtain ⟨f1, f2, f3, f4, f5⟩ := HF.out
    have HG : Hid (Two w0 B g h A n c xs p' e' w3) := ⟨f1.below hb3 f1.lt, f2.below hb3 f2.lt, f3.below hb3 f5, f4.trans (hb3.mono f5), by have := hb3.size; omega⟩
    clear hb3 f1 f2 f3 f4 f5
    go_wp2_with fail
    go_ret
    exact ⟨p', e', rfl, HG.out⟩
  · have d0 : (kind % 4 == 0) = false := by rw [hk]; rfl
    have d1 : (kind % 4 == 1) = false := by rw [hk]; rfl
    have d2 : (kind % 4 == 2) = true := by simpa using hk
    clear hk
    obtain ⟨⟨x, p', e'⟩, hr⟩ : ∃ r, blobR xs p err (m.tmod 30) = r := ⟨_, rfl⟩
    have HR := Lib.hid hr
    clear hr
    go_enter Try.func17, Try.ntmps17
    go_wp2_with fail
    refine (wrblob_any g p xs err (m.tmod 30) w HT.out.1 (by rw [HXL.out]; omega) HX.out).mono ?_
    rw [HR.out]
    rintro e w1 ⟨A1, k1, c1, rfl, hS1, hk1, hc1, hcm1, hW1, hb1⟩
    have HW1 := Lib.hid hW1
    have HB1 := Lib.hid hb1
    have HS1 := Lib.hid hS1
    have HL1 := Lib.hid hS1.1
    have hl1 := hW1.lt
    have hk1n : k1 ≤ n := by rw [HXL.out] at hk1; exact hk1
    clear hW1 hb1 hS1 hk1
    go_wp2_with fail
    refine (rrblob_any h A n c p err (m.tmod 30) xs w1 (HT.out.2.1.but HB1.out (by omega)) ((HT.out.2.2.1.but2 HB1.out hB).more (by omega)) HX.out (by omega) hp hc hcm).mono ?_
    rw [HR.out]
    rintro e w2 ⟨v2, k2, rfl, hk2, hR2, hW2, hb2⟩
    obtain ⟨A2, c2, rfl, hc2, hcm2⟩ := hR2.cut
    have HL2 := Lib.hid hR2.length
    have hz2 := hb2.size
    have hkk : k1 = k2 := by rw [← HL1.out, ← HL2.out]
    subst hkk
    have HS2 := Lib.hid hR2.seg
    have HS1' := Lib.hid ((HS1.out.but2 hb2 (by omega)).more (B' := w2.heap.size) (by omega))
    have HF := Lib.hid (HT.out.step hB hgh HW1.out HB1.out hW2 hb2)
    clear hW2 hb2 hR2
    go_wp2_with fail
    refine (same_self A1 A2 k1 c1 c2 x w2 HS1'.out HS2.out (by omega)).mono ?_
    rintro e w3 ⟨rfl, hb3⟩
    obtain ⟨f1, f2, f3, f4, f5⟩ := HF.out
    have HG : Hid (Two w0 B g h A n c xs p' e' w3) := ⟨f1.below hb3 f1.lt, f2.below hb3 f2.lt, f3.below hb3 f5, f4.trans (hb3.mono f5), by have := hb3.size; omega⟩
    clear hb3 f1 f2 f3 f4 f5
    go_wp2_with fail
    go_ret
    exact ⟨p', e', rfl, HG.out⟩
  · have d0 : (kind % 4 == 0) = false := by rw [hk]; rfl
    have d1 : (kind % 4 == 1) = false := by rw [hk]; rfl
    have d2 : (kind % 4 == 2) = false := by rw [hk]; rfl
    clear hk
    obtain ⟨⟨x, p', e'⟩, hr⟩ : ∃ r, uintR xs p err m = r := ⟨_, rfl⟩
    have HR := Lib.hid hr
    clear hr
    go_enter Try.func17, Try.ntmps17
    go_wp2_with fail
    refine (wruint_any g p xs err m w HT.out.1 (by rw [HXL.out]; omega) HX.out).mono ?_
    rw [HR.out]
    rintro e w1 ⟨rfl, hW1, hb1⟩
    have HW1 := Lib.hid hW1
    have HB1 := Lib.hid hb1
    clear hW1 hb1
    go_wp2_with fail
    refine (rruint_any h A n c p err m xs w1 (HT.out.2.1.but HB1.out (by omega)) ((HT.out.2.2.1.but2 HB1.out hB).more (by omega)) HX.out (by omega) hp).mono ?_
    rw [HR.out]
    rintro e w2 ⟨rfl, hW2, hb2⟩
    have HF := Lib.hid (HT.out.step hB hgh HW1.out HB1.out hW2 hb2)
    clear hW2 hb2
    go_wp2_with fail
    go_ret
    exact ⟨p', e', rfl, HF.out⟩
end Go.Proofs.Ytcidfnblfelgkaa
