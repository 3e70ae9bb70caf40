/-
  DERIVED. GIVEN WITH THE SEED: THE CARDS: each row of YtkcbbgmilaafeaaDoorRows.lean that lists a variable, with what it lists TIED to the program's text (the seventh form; the later family's looks); each row that meets fmt, with fmt's text TOLD by the authors' own Lean function (tested against real Go, not proved from fmt's source: count such statements apart). THE CARD IS WHAT COUNTS. Prove the row's statement (the work); the ties are given (YtkcbbgmilaafeaaDoorTie.lean); close each card by the builder's one call (the guide's Derived/Test/ToyasCard.lean, 'card_holds'). Laid BY PROGRAM, IN A SANDBOX (cutbox-door.mjs). By AI agents, Wed Nov 11 2026. No macro, syntax, notation, axiom, sorry.
-/
import Derived.Test.YtkcbbgmilaafeaaDoorRows
import GoSem.ClaimSeven
namespace Go.Proofs.YtkcbbgmilaafeaaDoor
namespace Rows

/-- THE TIED CARD OF 'sealwrightlaw6.TreeRoot'. -/
def treeRootCard : Claim7 := { stood := { row := treeRootRow, standIns := [], harness := (true, "e747a40d5eb6050df34987369fa39a30a16179c6700d9cc2c590d9ba0e31a288"), looks := false }, kinds := [], alts := [], laidByText := true, laidKinds := [.data], laidTests := true, laidLooks := .later }
def TreeRootCardSaid : Prop := Claim7.holds Tryd.pinned (.plain (OpenSpec.ofChange treeRootSpec)) treeRootCard

/-- THE TIED CARD OF 'sealwrightlaw6.TreePath'. -/
def treePathCard : Claim7 := { stood := { row := treePathRow, standIns := [], harness := (true, "e747a40d5eb6050df34987369fa39a30a16179c6700d9cc2c590d9ba0e31a288"), looks := false }, kinds := [], alts := [], laidByText := true, laidKinds := [.data], laidTests := true, laidLooks := .later }
def TreePathCardSaid : Prop := Claim7.holds Tryd.pinned (.plain (OpenSpec.ofChange treePathSpec)) treePathCard

/-- THE TIED CARD OF 'sealwrightlaw6.TreeClimb'. -/
def treeClimbCard : Claim7 := { stood := { row := treeClimbRow, standIns := [], harness := (true, "e747a40d5eb6050df34987369fa39a30a16179c6700d9cc2c590d9ba0e31a288"), looks := false }, kinds := [], alts := [], laidByText := true, laidKinds := [.data], laidTests := true, laidLooks := .later }
def TreeClimbCardSaid : Prop := Claim7.holds Tryd.pinned (.plain (OpenSpec.ofChange treeClimbSpec)) treeClimbCard

/-- THE TIED CARD OF 'sealwrightlaw6.TreeTrip'. -/
def treeTripCard : Claim7 := { stood := { row := treeTripRow, standIns := [], harness := (true, "e747a40d5eb6050df34987369fa39a30a16179c6700d9cc2c590d9ba0e31a288"), looks := false }, kinds := [], alts := [], laidByText := true, laidKinds := [.data], laidTests := true, laidLooks := .later }
def TreeTripCardSaid : Prop := Claim7.holds Tryd.pinned (.plain (OpenSpec.ofChange treeTripSpec)) treeTripCard

/-- THE TIED CARD OF 'sealwrightlaw6.TreeBinding'. -/
def treeBindingCard : Claim7 := { stood := { row := treeBindingRow, standIns := [], harness := (true, "e747a40d5eb6050df34987369fa39a30a16179c6700d9cc2c590d9ba0e31a288"), looks := false }, kinds := [], alts := [], laidByText := true, laidKinds := [.data], laidTests := true, laidLooks := .later }
def TreeBindingCardSaid : Prop := Claim7.holds Tryd.pinned (.plain (OpenSpec.ofChange treeBindingSpec)) treeBindingCard

/-- THE TIED CARD OF 'sealwrightlaw6.TreeSwap'. -/
def treeSwapCard : Claim7 := { stood := { row := treeSwapRow, standIns := [], harness := (true, "e747a40d5eb6050df34987369fa39a30a16179c6700d9cc2c590d9ba0e31a288"), looks := false }, kinds := [], alts := [], laidByText := true, laidKinds := [.data], laidTests := true, laidLooks := .later }
def TreeSwapCardSaid : Prop := Claim7.holds Tryd.pinned (.plain (OpenSpec.ofChange treeSwapSpec)) treeSwapCard

/-- THE SECOND FORM's CARD OF 'sealwrightlaw6.TreeRoot'. -/
def treeRootUptoCard : Claim7 := { stood := { row := treeRootUptoRow, standIns := [], harness := (true, "e747a40d5eb6050df34987369fa39a30a16179c6700d9cc2c590d9ba0e31a288"), looks := false }, kinds := [], alts := [], laidByText := true, laidKinds := [.data], laidTests := true, laidLooks := .later }
def TreeRootUptoCardSaid : Prop := Claim7.holds Tryd.pinned (.plain (OpenSpec.upto treeRootSpec)) treeRootUptoCard

/-- THE SECOND FORM's CARD OF 'sealwrightlaw6.TreePath'. -/
def treePathUptoCard : Claim7 := { stood := { row := treePathUptoRow, standIns := [], harness := (true, "e747a40d5eb6050df34987369fa39a30a16179c6700d9cc2c590d9ba0e31a288"), looks := false }, kinds := [], alts := [], laidByText := true, laidKinds := [.data], laidTests := true, laidLooks := .later }
def TreePathUptoCardSaid : Prop := Claim7.holds Tryd.pinned (.plain (OpenSpec.upto treePathSpec)) treePathUptoCard

/-- THE SECOND FORM's CARD OF 'sealwrightlaw6.TreeClimb'. -/
def treeClimbUptoCard : Claim7 := { stood := { row := treeClimbUptoRow, standIns := [], harness := (true, "e747a40d5eb6050df34987369fa39a30a16179c6700d9cc2c590d9ba0e31a288"), looks := false }, kinds := [], alts := [], laidByText := true, laidKinds := [.data], laidTests := true, laidLooks := .later }
def TreeClimbUptoCardSaid : Prop := Claim7.holds Tryd.pinned (.plain (OpenSpec.upto treeClimbSpec)) treeClimbUptoCard

/-- THE SECOND FORM's CARD OF 'sealwrightlaw6.TreeTrip'. -/
def treeTripUptoCard : Claim7 := { stood := { row := treeTripUptoRow, standIns := [], harness := (true, "e747a40d5eb6050df34987369fa39a30a16179c6700d9cc2c590d9ba0e31a288"), looks := false }, kinds := [], alts := [], laidByText := true, laidKinds := [.data], laidTests := true, laidLooks := .later }
def TreeTripUptoCardSaid : Prop := Claim7.holds Tryd.pinned (.plain (OpenSpec.upto treeTripSpec)) treeTripUptoCard

/-- THE SECOND FORM's CARD OF 'sealwrightlaw6.TreeBinding'. -/
def treeBindingUptoCard : Claim7 := { stood := { row := treeBindingUptoRow, standIns := [], harness := (true, "e747a40d5eb6050df34987369fa39a30a16179c6700d9cc2c590d9ba0e31a288"), looks := false }, kinds := [], alts := [], laidByText := true, laidKinds := [.data], laidTests := true, laidLooks := .later }
def TreeBindingUptoCardSaid : Prop := Claim7.holds Tryd.pinned (.plain (OpenSpec.upto treeBindingSpec)) treeBindingUptoCard

/-- THE SECOND FORM's CARD OF 'sealwrightlaw6.TreeSwap'. -/
def treeSwapUptoCard : Claim7 := { stood := { row := treeSwapUptoRow, standIns := [], harness := (true, "e747a40d5eb6050df34987369fa39a30a16179c6700d9cc2c590d9ba0e31a288"), looks := false }, kinds := [], alts := [], laidByText := true, laidKinds := [.data], laidTests := true, laidLooks := .later }
def TreeSwapUptoCardSaid : Prop := Claim7.holds Tryd.pinned (.plain (OpenSpec.upto treeSwapSpec)) treeSwapUptoCard
end Rows
end Go.Proofs.YtkcbbgmilaafeaaDoor
