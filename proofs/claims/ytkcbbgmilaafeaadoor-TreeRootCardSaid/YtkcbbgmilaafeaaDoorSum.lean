/-
  The program's sum256 and sum1, Sum and Size: they return the digests of the specification.
-/
import Derived.Test.YtkcbbgmilaafeaaDoorEach
namespace Go.Proofs.YtkcbbgmilaafeaaDoor
open Go.RowKit

theorem keep0 {g : Nat} (hg : 0 ≠ g) (W W' : World) (h : Tab W 0 .u32 kay256) (hb : But W W' g) : Tab W' 0 .u32 kay256 :=
  h.of_eq (hb.block 0 h.lt (by intro e; injection e with e; exact hg e))
theorem stepOf256 (g : Nat) : StepOf 49 64 g 8 step256 (fun W => Tab W 0 .u32 kay256) :=
  fun b off cap ys S W hcap hcm hb hx hS hg hi => block256_any b off cap g ys S W hcap hcm hb hx hS hg hi
theorem stepOf1 (g : Nat) : StepOf 45 57 g 5 step1 (fun _ => True) :=
  fun b off cap ys S W hcap hcm hb hx hS hg _ => block1_any b off cap g ys S W hcap hcm hb hx hS hg
theorem call256 (args : Array Value) (W : World) : (callFunc 49 args).run Tryd.prog W = .ok (.enter 49 args) W := by kernel_rfl
theorem call1 (args : Array Value) (W : World) : (callFunc 45 args).run Tryd.prog W = .ok (.enter 45 args) W := by kernel_rfl

set_option maxRecDepth 100000 in
set_option maxHeartbeats 1000000 in
theorem sum256_any (A : Option Addr) (n c : Nat) (xs : List Int) (w : World) (hs : Seg w w.heap.size .u8 A n xs) (hn : n ≤ 1099511627776) (hc : n ≤ c) (hcm : c ≤ 9223372036854775807) (hK : Tab w 0 .u32 kay256) :
    Calls Tryd.prog 42 #[.slice A n c] w fun e w' => ∃ v, e = .returned v ∧ Own w' w.heap.size 5 .u8 v (sha256 xs) ∧ Below w.heap.size w w' := by
  have HS := Lib.hid hs
  have HKK := Lib.hid hK
  clear hs hK
  go_enter Tryd.func42, Tryd.ntmps42
  go_wp2_with fail
  generalize hw1 : World.alloc _ _ = w1
  have hb : Below w.heap.size w w1 := by rw [← hw1]; exact (Below.refl _ _).alloc (Nat.le_refl _) _
  have hg : Blk w1 w.heap.size 64 .u32 init256 := by rw [← hw1]; exact Blk.new w _ .u32 init256
  have hlt : w.heap.size < w1.heap.size := hg.lt
  clear hw1
  have h0 := HKK.out.lt
  refine (each_any 49 64 w.heap.size 8 step256 _ (stepOf256 _) call256 step256_length (keep0 (by omega)) A n c xs init256 w1 (SegN.of_seg (HS.out.below hb (Nat.le_refl _)) (Nat.le_refl _) hb.size) hn hc hcm hg rfl (HKK.out.below hb h0)).mono ?_
  rintro e w2 ⟨rfl, hg2, hbut2⟩
  have hb2 : Below w.heap.size w w2 := hb.grown hbut2 hb.size (fun r hr => by injection hr with hr; omega)
  have HR := Lib.hid hg2
  go_wp2_with fail
  refine (join_any _ _ _ (state256 xs) w2 ?_ ?_).mono ?_
  · have h := Seg.of_blk HR.out
    rw [show (run step256 init256 (padded xs) ((padded xs).length / 64)).length = 8 from state256_length xs] at h
    exact h
  · omega
  rintro e w3 ⟨v, rfl, hown, hb3⟩
  go_wp2
  go_ret
  refine ⟨v, rfl, ?_, hb2.trans (hb3.mono hb2.size)⟩
  exact Own.less hown hb2.size
set_option maxRecDepth 100000 in
set_option maxHeartbeats 1000000 in
theorem sum1_any (A : Option Addr) (n c : Nat) (xs : List Int) (w : World) (hs : Seg w w.heap.size .u8 A n xs) (hn : n ≤ 1099511627776) (hc : n ≤ c) (hcm : c ≤ 9223372036854775807) :
    Calls Tryd.prog 41 #[.slice A n c] w fun e w' => ∃ v, e = .returned v ∧ Own w' w.heap.size 5 .u8 v (sha1 xs) ∧ Below w.heap.size w w' := by
  have HS := Lib.hid hs
  clear hs
  go_enter Tryd.func41, Tryd.ntmps41
  go_wp2_with fail
  generalize hw1 : World.alloc _ _ = w1
  have hb : Below w.heap.size w w1 := by rw [← hw1]; exact (Below.refl _ _).alloc (Nat.le_refl _) _
  have hg : Blk w1 w.heap.size 57 .u32 init1 := by rw [← hw1]; exact Blk.new w _ .u32 init1
  have hlt : w.heap.size < w1.heap.size := hg.lt
  clear hw1
  refine (each_any 45 57 w.heap.size 5 step1 _ (stepOf1 _) call1 step1_length (fun _ _ _ _ => trivial) A n c xs init1 w1 (SegN.of_seg (HS.out.below hb (Nat.le_refl _)) (Nat.le_refl _) hb.size) hn hc hcm hg rfl trivial).mono ?_
  rintro e w2 ⟨rfl, hg2, hbut2⟩
  have hb2 : Below w.heap.size w w2 := hb.grown hbut2 hb.size (fun r hr => by injection hr with hr; omega)
  have HR := Lib.hid hg2
  go_wp2_with fail
  refine (join_any _ _ _ (state1 xs) w2 ?_ ?_).mono ?_
  · have h := Seg.of_blk HR.out
    rw [show (run step1 init1 (padded xs) ((padded xs).length / 64)).length = 5 from state1_length xs] at h
    exact h
  · omega
  rintro e w3 ⟨v, rfl, hown, hb3⟩
  go_wp2
  go_ret
  refine ⟨v, rfl, ?_, hb2.trans (hb3.mono hb2.size)⟩
  exact Own.less hown hb2.size

/-- The digest of an algorithm; none for other numbers. -/
def digestI (alg : Int) (xs : List Int) : List Int := if alg = 0 then sha1 xs else if alg = 1 then sha256 xs else []
def sizeI (alg : Int) : Int := if alg = 0 then 20 else if alg = 1 then 32 else 0

set_option maxHeartbeats 1000000 in
theorem sum_any (alg : Int) (A : Option Addr) (n c : Nat) (xs : List Int) (w : World) (hs : Seg w w.heap.size .u8 A n xs) (hn : n ≤ 1099511627776) (hc : n ≤ c) (hcm : c ≤ 9223372036854775807) (hK : Tab w 0 .u32 kay256) :
    Calls Tryd.prog 34 #[.int .i64 alg, .slice A n c] w fun e w' => ∃ v, e = .returned v ∧ Own w' w.heap.size 5 .u8 v (digestI alg xs) ∧ Below w.heap.size w w' := by
  by_cases h0 : alg = 0
  · subst h0
    go_enter Tryd.func34, Tryd.ntmps34
    go_wp2_with (go_at_call 41; refine (sum1_any A n c xs w hs hn hc hcm).mono ?_; rintro e w2 ⟨v, rfl, hown, hb⟩)
    go_ret
    exact ⟨v, rfl, hown, hb⟩
  · by_cases h1 : alg = 1
    · subst h1
      go_enter Tryd.func34, Tryd.ntmps34
      go_wp2_with (go_at_call 42; refine (sum256_any A n c xs w hs hn hc hcm hK).mono ?_; rintro e w2 ⟨v, rfl, hown, hb⟩)
      go_ret
      exact ⟨v, rfl, hown, hb⟩
    · have e0 : (alg == 0) = false := by simpa using h0
      have e1 : (alg == 1) = false := by simpa using h1
      have hd : digestI alg xs = [] := by simp [digestI, h0, h1]
      have HD := Lib.hid hd
      clear hd hs hK
      go_enter Tryd.func34, Tryd.ntmps34
      go_wp2_with fail
      go_ret
      exact ⟨_, rfl, by rw [HD.out]; exact World.ownsRow_nil _ _ _ _, Below.refl _ _⟩
end Go.Proofs.YtkcbbgmilaafeaaDoor
