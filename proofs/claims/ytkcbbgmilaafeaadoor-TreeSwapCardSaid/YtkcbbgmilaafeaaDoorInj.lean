/-
  Frames are equal only if their fields are, on lists.
-/
import Derived.Test.YtkcbbgmilaafeaaDoorSpec
namespace Go.Proofs.YtkcbbgmilaafeaaDoor
open Go.RowKit

theorem be4_same {x y : Int} (hx0 : 0 ≤ x) (hx : x < 4294967296) (hy0 : 0 ≤ y) (hy : y < 4294967296) (h : be4 x = be4 y) : x = y := by
  simp only [be4, List.cons.injEq, and_true] at h
  omega
def flatF (fs : List (List Int)) : List Int := (fs.map fun f => be4 ((f.length : Int) % 4294967296) ++ f).flatten
theorem flatF_inj : ∀ (fs gs : List (List Int)), (∀ f ∈ fs, f.length < 4294967296) → (∀ g ∈ gs, g.length < 4294967296) → flatF fs = flatF gs → fs = gs
  | [], [], _, _, _ => rfl
  | [], g :: gs, _, _, h => by simp [flatF, be4] at h
  | f :: fs, [], _, _, h => by simp [flatF, be4] at h
  | f :: fs, g :: gs, hf, hg, h => by
    have h1 : be4 ((f.length : Int) % 4294967296) ++ (f ++ flatF fs) = be4 ((g.length : Int) % 4294967296) ++ (g ++ flatF gs) := by simpa [flatF] using h
    obtain ⟨h2, h3⟩ := List.append_inj h1 rfl
    have hfl := hf f (by simp)
    have hgl := hg g (by simp)
    have h4 := be4_same (by omega) (by omega) (by omega) (by omega) h2
    have hl : f.length = g.length := by omega
    obtain ⟨rfl, h5⟩ := List.append_inj h3 hl
    rw [flatF_inj fs gs (fun x hx => hf x (by simp [hx])) (fun x hx => hg x (by simp [hx])) h5]
theorem frameI_inj (t : Int) (fs gs : List (List Int)) (hf : ∀ f ∈ fs, f.length < 4294967296) (hg : ∀ g ∈ gs, g.length < 4294967296) (h : frameI t fs = frameI t gs) : fs = gs := by
  injection h with _ h2
  exact flatF_inj fs gs hf hg h2
end Go.Proofs.YtkcbbgmilaafeaaDoor
