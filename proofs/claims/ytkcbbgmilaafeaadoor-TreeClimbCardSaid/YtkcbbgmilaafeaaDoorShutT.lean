/-
  The table of constants out of the row's list, and a world for the witness.
-/
import Derived.Test.YtkcbbgmilaafeaaDoorShut
import Derived.Test.YtkcbbgmilaafeaaDoorSpec
import Derived.Test.YtkcbbgmilaafeaaDoorCards
import Derived.Test.YtkcbbgmilaafeaaDoorTie
import Derived.Lib.LaidTab
namespace Go.Proofs.YtkcbbgmilaafeaaDoor
open Go.ChangeShapes Go.WideShapes Go.ChangeAt Go.RowKit

theorem gTab : Tryd.prog.globalNamed "sealwright/digest.constants256" = some 0 := by kernel_rfl
theorem gTabType : (Tryd.prog.globals[0]?).map (·.type) = some 49 := by kernel_rfl
theorem cells64 : Tryd.prog.cellsOf 49 = 64 := by kernel_rfl
theorem cells1 : Tryd.prog.cellsOf 48 = 1 := by kernel_rfl
/-- What the row's list gives: the table's block. -/
theorem tab_of_laid {W : World} (h : laidMetH Tryd.prog [("sealwright/digest.constants256", Rows.laid_sealwright_digest_constants256)] W) : Tab W 0 .u32 kay256 := by
  have h1 : Lib.TabIs Tryd.prog W "sealwright/digest.constants256" .u32 kay256 := Lib.tabIs_of_head (rest := []) gTab gTabType Tryd.underlying49 Tryd.underlying48 cells1 cells64 h
  unfold Lib.TabIs World.var? at h1
  rw [gTab] at h1
  simp only [Option.bind_some] at h1
  split at h1
  · rename_i cs t fr hh
    injection h1 with h1
    subst h1
    exact ⟨t, fr, hh⟩
  · cases h1

/-- The world of the witness: the settled one, the table holding what its initialiser lays. -/
noncomputable def laidWorld (os : Os) : World :=
  { World.holding Tryd.prog os ⟨#[], #[], []⟩ with heap := (World.holding Tryd.prog os ⟨#[], #[], []⟩).heap.modify 0 fun
      | .cells _ t frozen => .cells (ints .u32 kay256).toArray t frozen
      | o => o }
end Go.Proofs.YtkcbbgmilaafeaaDoor
