/-
  DERIVED. GIVEN WITH THE SEED: THE CARDS: each row of YtdgnolmkpfdcmaaDoorRows.lean that lists a variable, with what it lists TIED to the program's text (the seventh form; the later family's looks); each row that meets fmt, with fmt's text TOLD by the authors' own Lean function (tested against real Go, not proved from fmt's source: count such statements apart). THE CARD IS WHAT COUNTS. Prove the row's statement (the work); the ties are given (YtdgnolmkpfdcmaaDoorTie.lean); close each card by the builder's one call (the guide's Derived/Test/ToyasCard.lean, 'card_holds'). Laid BY PROGRAM, IN A SANDBOX (cutbox-door.mjs). By AI agents, Wed Nov 11 2026. No macro, syntax, notation, axiom, sorry.
-/
import Derived.Test.YtdgnolmkpfdcmaaDoorRows
import GoSem.ClaimSeven
namespace Go.Proofs.YtdgnolmkpfdcmaaDoor
namespace Rows

/-- THE TIED CARD OF 'sealwrightlaw2.MacValue'. -/
def macValueCard : Claim7 := { stood := { row := macValueRow, standIns := [], harness := (true, "8833aa55467764364974a0922da91a8659e5b8a6a2d93d83f4733f4caf1cdeee"), looks := false }, kinds := [], alts := [], laidByText := true, laidKinds := [.data], laidTests := true, laidLooks := .later }
def MacValueCardSaid : Prop := Claim7.holds Tryd.pinned (.plain (OpenSpec.ofChange macValueSpec)) macValueCard

/-- THE TIED CARD OF 'sealwrightlaw2.MacLong'. -/
def macLongCard : Claim7 := { stood := { row := macLongRow, standIns := [], harness := (true, "8833aa55467764364974a0922da91a8659e5b8a6a2d93d83f4733f4caf1cdeee"), looks := false }, kinds := [], alts := [], laidByText := true, laidKinds := [.data], laidTests := true, laidLooks := .later }
def MacLongCardSaid : Prop := Claim7.holds Tryd.pinned (.plain (OpenSpec.ofChange macLongSpec)) macLongCard

/-- THE TIED CARD OF 'sealwrightlaw2.MacZero'. -/
def macZeroCard : Claim7 := { stood := { row := macZeroRow, standIns := [], harness := (true, "8833aa55467764364974a0922da91a8659e5b8a6a2d93d83f4733f4caf1cdeee"), looks := false }, kinds := [], alts := [], laidByText := true, laidKinds := [.data], laidTests := true, laidLooks := .later }
def MacZeroCardSaid : Prop := Claim7.holds Tryd.pinned (.plain (OpenSpec.ofChange macZeroSpec)) macZeroCard

/-- THE TIED CARD OF 'sealwrightlaw2.MacDerive'. -/
def macDeriveCard : Claim7 := { stood := { row := macDeriveRow, standIns := [], harness := (true, "8833aa55467764364974a0922da91a8659e5b8a6a2d93d83f4733f4caf1cdeee"), looks := false }, kinds := [], alts := [], laidByText := true, laidKinds := [.data], laidTests := true, laidLooks := .later }
def MacDeriveCardSaid : Prop := Claim7.holds Tryd.pinned (.plain (OpenSpec.ofChange macDeriveSpec)) macDeriveCard

/-- THE TIED CARD OF 'sealwrightlaw2.MacLengths'. -/
def macLengthsCard : Claim7 := { stood := { row := macLengthsRow, standIns := [], harness := (true, "8833aa55467764364974a0922da91a8659e5b8a6a2d93d83f4733f4caf1cdeee"), looks := false }, kinds := [], alts := [], laidByText := true, laidKinds := [.data], laidTests := true, laidLooks := .later }
def MacLengthsCardSaid : Prop := Claim7.holds Tryd.pinned (.plain (OpenSpec.ofChange macLengthsSpec)) macLengthsCard

/-- THE TIED CARD OF 'sealwrightlaw2.MacEqual'. -/
def macEqualCard : Claim7 := { stood := { row := macEqualRow, standIns := [], harness := (true, "8833aa55467764364974a0922da91a8659e5b8a6a2d93d83f4733f4caf1cdeee"), looks := false }, kinds := [], alts := [], laidByText := true, laidKinds := [.data], laidTests := true, laidLooks := .later }
def MacEqualCardSaid : Prop := Claim7.holds Tryd.pinned (.plain (OpenSpec.ofChange macEqualSpec)) macEqualCard

/-- THE SECOND FORM's CARD OF 'sealwrightlaw2.MacValue'. -/
def macValueUptoCard : Claim7 := { stood := { row := macValueUptoRow, standIns := [], harness := (true, "8833aa55467764364974a0922da91a8659e5b8a6a2d93d83f4733f4caf1cdeee"), looks := false }, kinds := [], alts := [], laidByText := true, laidKinds := [.data], laidTests := true, laidLooks := .later }
def MacValueUptoCardSaid : Prop := Claim7.holds Tryd.pinned (.plain (OpenSpec.upto macValueSpec)) macValueUptoCard

/-- THE SECOND FORM's CARD OF 'sealwrightlaw2.MacLong'. -/
def macLongUptoCard : Claim7 := { stood := { row := macLongUptoRow, standIns := [], harness := (true, "8833aa55467764364974a0922da91a8659e5b8a6a2d93d83f4733f4caf1cdeee"), looks := false }, kinds := [], alts := [], laidByText := true, laidKinds := [.data], laidTests := true, laidLooks := .later }
def MacLongUptoCardSaid : Prop := Claim7.holds Tryd.pinned (.plain (OpenSpec.upto macLongSpec)) macLongUptoCard

/-- THE SECOND FORM's CARD OF 'sealwrightlaw2.MacZero'. -/
def macZeroUptoCard : Claim7 := { stood := { row := macZeroUptoRow, standIns := [], harness := (true, "8833aa55467764364974a0922da91a8659e5b8a6a2d93d83f4733f4caf1cdeee"), looks := false }, kinds := [], alts := [], laidByText := true, laidKinds := [.data], laidTests := true, laidLooks := .later }
def MacZeroUptoCardSaid : Prop := Claim7.holds Tryd.pinned (.plain (OpenSpec.upto macZeroSpec)) macZeroUptoCard

/-- THE SECOND FORM's CARD OF 'sealwrightlaw2.MacDerive'. -/
def macDeriveUptoCard : Claim7 := { stood := { row := macDeriveUptoRow, standIns := [], harness := (true, "8833aa55467764364974a0922da91a8659e5b8a6a2d93d83f4733f4caf1cdeee"), looks := false }, kinds := [], alts := [], laidByText := true, laidKinds := [.data], laidTests := true, laidLooks := .later }
def MacDeriveUptoCardSaid : Prop := Claim7.holds Tryd.pinned (.plain (OpenSpec.upto macDeriveSpec)) macDeriveUptoCard

/-- THE SECOND FORM's CARD OF 'sealwrightlaw2.MacLengths'. -/
def macLengthsUptoCard : Claim7 := { stood := { row := macLengthsUptoRow, standIns := [], harness := (true, "8833aa55467764364974a0922da91a8659e5b8a6a2d93d83f4733f4caf1cdeee"), looks := false }, kinds := [], alts := [], laidByText := true, laidKinds := [.data], laidTests := true, laidLooks := .later }
def MacLengthsUptoCardSaid : Prop := Claim7.holds Tryd.pinned (.plain (OpenSpec.upto macLengthsSpec)) macLengthsUptoCard

/-- THE SECOND FORM's CARD OF 'sealwrightlaw2.MacEqual'. -/
def macEqualUptoCard : Claim7 := { stood := { row := macEqualUptoRow, standIns := [], harness := (true, "8833aa55467764364974a0922da91a8659e5b8a6a2d93d83f4733f4caf1cdeee"), looks := false }, kinds := [], alts := [], laidByText := true, laidKinds := [.data], laidTests := true, laidLooks := .later }
def MacEqualUptoCardSaid : Prop := Claim7.holds Tryd.pinned (.plain (OpenSpec.upto macEqualSpec)) macEqualUptoCard
end Rows
end Go.Proofs.YtdgnolmkpfdcmaaDoor
