/-
  bytes.Equal.
-/
import Derived.Test.YtcmbnldeojlhbaaDoorSame
import Derived.Lib.Bytes
import Derived.Deep.RegionHeld3
namespace Go.Proofs.YtcmbnldeojlhbaaDoor
open Go.RowKit

theorem byte_inj {x y : Int} (hx : 0 ≤ x ∧ x < 256) (hy : 0 ≤ y ∧ y < 256) (h : UInt8.ofNat x.toNat = UInt8.ofNat y.toNat) : x = y := by
  have h1 := congrArg UInt8.toNat h
  simp only [UInt8.toNat_ofNat'] at h1
  omega
theorem bytesOf_inj : ∀ (xs ys : List Int), InB xs → InB ys → Lib.bytesOf xs = Lib.bytesOf ys → xs = ys
  | [], [], _, _, _ => rfl
  | [], _ :: _, _, _, h => by simp [Lib.bytesOf] at h
  | _ :: _, [], _, _, h => by simp [Lib.bytesOf] at h
  | x :: xs, y :: ys, hx, hy, h => by
    simp only [Lib.bytesOf, List.map_cons, List.cons.injEq] at h
    rw [byte_inj (hx x (by simp)) (hy y (by simp)) h.1, bytesOf_inj xs ys (fun a ha => hx a (by simp [ha])) (fun a ha => hy a (by simp [ha])) h.2]
theorem sameB_bytes {xs ys : List Int} (hx : InB xs) (hy : InB ys) : (Lib.bytesOf xs == Lib.bytesOf ys) = sameB xs ys := by
  unfold sameB
  rw [Bool.eq_iff_iff]
  simp only [beq_iff_eq, decide_eq_true_eq]
  exact ⟨bytesOf_inj xs ys hx hy, fun h => by rw [h]⟩

theorem conv_seg (A : Option Addr) (n c B : Nat) (xs : List Int) (w : World) (hs : Seg w B .u8 A n xs) : (convert 22 9 (.slice A n c)).run Tryd.prog w = .ok (.string (strOfNums xs)) w := by
  cases A with
  | none =>
    have h0 : n = 0 := by
      rcases Nat.eq_zero_or_pos n with h | h
      · exact h
      · obtain ⟨_, _, h1, _⟩ := hs.2 h
        cases h1
    have hx : xs = [] := List.eq_nil_of_length_eq_zero (by rw [hs.1, h0])
    rw [run_convert_bytes_nil (P := Tryd.prog) w 22 5 Tryd.underlying22 Tryd.underlying5 n c 9 Tryd.underlying9, hx]
    rfl
  | some a =>
    rcases Nat.eq_zero_or_pos n with h | h
    · have hx : xs = [] := List.eq_nil_of_length_eq_zero (by rw [hs.1, h])
      rw [hx, h, run_convert_bytes_string w 22 9 5 _ 0 c Tryd.underlying22 Tryd.underlying5 Tryd.underlying9, run_bytesToString w a 0 c [] (by simp [loadCells]; try rfl)]
      rfl
    · obtain ⟨b, off, h1, _, hc⟩ := hs.2 h
      injection h1 with h1
      subst h1
      exact run_convert_bytes_arg (P := Tryd.prog) w 22 5 Tryd.underlying22 Tryd.underlying5 b off n c xs hs.1 hc 9 Tryd.underlying9

set_option maxHeartbeats 1000000 in
theorem equal_any (A A2 : Option Addr) (n c n2 c2 B B2 : Nat) (xs ys : List Int) (w : World) (hs : Seg w B .u8 A n xs) (ht : Seg w B2 .u8 A2 n2 ys) (hx : InB xs) (hy : InB ys) :
    Calls Tryd.prog 50 #[.slice A n c, .slice A2 n2 c2] w fun e w' => e = .returned (.bool (sameB xs ys)) ∧ w = w' := by
  have h1 := conv_seg A n c B xs w hs
  have h2 := conv_seg A2 n2 c2 B2 ys w ht
  rw [← sameB_bytes hx hy, ← Lib.strOfNums_toList, ← Lib.strOfNums_toList]
  clear hs ht hx hy
  go_enter Tryd.func50, Tryd.ntmps50
  go_wp2
  go_ret
  exact ⟨rfl, rfl⟩

end Go.Proofs.YtcmbnldeojlhbaaDoor
