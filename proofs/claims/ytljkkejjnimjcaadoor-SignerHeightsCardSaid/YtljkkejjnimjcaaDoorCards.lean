/-
  DERIVED. GIVEN WITH THE SEED: THE CARDS: each row of YtljkkejjnimjcaaDoorRows.lean that lists a variable, with what it lists TIED to the program's text (the seventh form; the later family's looks); each row that meets fmt, with fmt's text TOLD by the authors' own Lean function (tested against real Go, not proved from fmt's source: count such statements apart). THE CARD IS WHAT COUNTS. Prove the row's statement (the work); the ties are given (YtljkkejjnimjcaaDoorTie.lean); close each card by the builder's one call (the guide's Derived/Test/ToyasCard.lean, 'card_holds'). Laid BY PROGRAM, IN A SANDBOX (cutbox-door.mjs). By AI agents, Wed Nov 11 2026. No macro, syntax, notation, axiom, sorry.
-/
import Derived.Test.YtljkkejjnimjcaaDoorRows
import GoSem.ClaimSeven
namespace Go.Proofs.YtljkkejjnimjcaaDoor
namespace Rows

/-- THE TIED CARD OF 'sealwrightlaw7.SignerPublic'. -/
def signerPublicCard : Claim7 := { stood := { row := signerPublicRow, standIns := [], harness := (true, "49f3418d4978ae6e8a70b1b70689be1e53c3897d69ea67f85779a9244ff8f5a2"), looks := false }, kinds := [], alts := [], laidByText := true, laidKinds := [.data], laidTests := true, laidLooks := .later }
def SignerPublicCardSaid : Prop := Claim7.holds Tryd.pinned (.plain (OpenSpec.ofChange signerPublicSpec)) signerPublicCard

/-- THE TIED CARD OF 'sealwrightlaw7.SignerSign'. -/
def signerSignCard : Claim7 := { stood := { row := signerSignRow, standIns := [], harness := (true, "49f3418d4978ae6e8a70b1b70689be1e53c3897d69ea67f85779a9244ff8f5a2"), looks := false }, kinds := [], alts := [], laidByText := true, laidKinds := [.data], laidTests := true, laidLooks := .later }
def SignerSignCardSaid : Prop := Claim7.holds Tryd.pinned (.plain (OpenSpec.ofChange signerSignSpec)) signerSignCard

/-- THE TIED CARD OF 'sealwrightlaw7.SignerTrip'. -/
def signerTripCard : Claim7 := { stood := { row := signerTripRow, standIns := [], harness := (true, "49f3418d4978ae6e8a70b1b70689be1e53c3897d69ea67f85779a9244ff8f5a2"), looks := false }, kinds := [], alts := [], laidByText := true, laidKinds := [.data], laidTests := true, laidLooks := .later }
def SignerTripCardSaid : Prop := Claim7.holds Tryd.pinned (.plain (OpenSpec.ofChange signerTripSpec)) signerTripCard

/-- THE TIED CARD OF 'sealwrightlaw7.SignerVerify'. -/
def signerVerifyCard : Claim7 := { stood := { row := signerVerifyRow, standIns := [], harness := (true, "49f3418d4978ae6e8a70b1b70689be1e53c3897d69ea67f85779a9244ff8f5a2"), looks := false }, kinds := [], alts := [], laidByText := true, laidKinds := [.data], laidTests := true, laidLooks := .later }
def SignerVerifyCardSaid : Prop := Claim7.holds Tryd.pinned (.plain (OpenSpec.ofChange signerVerifySpec)) signerVerifyCard

/-- THE TIED CARD OF 'sealwrightlaw7.SignerForms'. -/
def signerFormsCard : Claim7 := { stood := { row := signerFormsRow, standIns := [], harness := (true, "49f3418d4978ae6e8a70b1b70689be1e53c3897d69ea67f85779a9244ff8f5a2"), looks := false }, kinds := [], alts := [], laidByText := true, laidKinds := [.data], laidTests := true, laidLooks := .later }
def SignerFormsCardSaid : Prop := Claim7.holds Tryd.pinned (.plain (OpenSpec.ofChange signerFormsSpec)) signerFormsCard

/-- THE TIED CARD OF 'sealwrightlaw7.SignerHeights'. -/
def signerHeightsCard : Claim7 := { stood := { row := signerHeightsRow, standIns := [], harness := (true, "49f3418d4978ae6e8a70b1b70689be1e53c3897d69ea67f85779a9244ff8f5a2"), looks := false }, kinds := [], alts := [], laidByText := true, laidKinds := [.data], laidTests := true, laidLooks := .later }
def SignerHeightsCardSaid : Prop := Claim7.holds Tryd.pinned (.plain (OpenSpec.ofChange signerHeightsSpec)) signerHeightsCard

/-- THE SECOND FORM's CARD OF 'sealwrightlaw7.SignerPublic'. -/
def signerPublicUptoCard : Claim7 := { stood := { row := signerPublicUptoRow, standIns := [], harness := (true, "49f3418d4978ae6e8a70b1b70689be1e53c3897d69ea67f85779a9244ff8f5a2"), looks := false }, kinds := [], alts := [], laidByText := true, laidKinds := [.data], laidTests := true, laidLooks := .later }
def SignerPublicUptoCardSaid : Prop := Claim7.holds Tryd.pinned (.plain (OpenSpec.upto signerPublicSpec)) signerPublicUptoCard

/-- THE SECOND FORM's CARD OF 'sealwrightlaw7.SignerSign'. -/
def signerSignUptoCard : Claim7 := { stood := { row := signerSignUptoRow, standIns := [], harness := (true, "49f3418d4978ae6e8a70b1b70689be1e53c3897d69ea67f85779a9244ff8f5a2"), looks := false }, kinds := [], alts := [], laidByText := true, laidKinds := [.data], laidTests := true, laidLooks := .later }
def SignerSignUptoCardSaid : Prop := Claim7.holds Tryd.pinned (.plain (OpenSpec.upto signerSignSpec)) signerSignUptoCard

/-- THE SECOND FORM's CARD OF 'sealwrightlaw7.SignerTrip'. -/
def signerTripUptoCard : Claim7 := { stood := { row := signerTripUptoRow, standIns := [], harness := (true, "49f3418d4978ae6e8a70b1b70689be1e53c3897d69ea67f85779a9244ff8f5a2"), looks := false }, kinds := [], alts := [], laidByText := true, laidKinds := [.data], laidTests := true, laidLooks := .later }
def SignerTripUptoCardSaid : Prop := Claim7.holds Tryd.pinned (.plain (OpenSpec.upto signerTripSpec)) signerTripUptoCard

/-- THE SECOND FORM's CARD OF 'sealwrightlaw7.SignerVerify'. -/
def signerVerifyUptoCard : Claim7 := { stood := { row := signerVerifyUptoRow, standIns := [], harness := (true, "49f3418d4978ae6e8a70b1b70689be1e53c3897d69ea67f85779a9244ff8f5a2"), looks := false }, kinds := [], alts := [], laidByText := true, laidKinds := [.data], laidTests := true, laidLooks := .later }
def SignerVerifyUptoCardSaid : Prop := Claim7.holds Tryd.pinned (.plain (OpenSpec.upto signerVerifySpec)) signerVerifyUptoCard

/-- THE SECOND FORM's CARD OF 'sealwrightlaw7.SignerForms'. -/
def signerFormsUptoCard : Claim7 := { stood := { row := signerFormsUptoRow, standIns := [], harness := (true, "49f3418d4978ae6e8a70b1b70689be1e53c3897d69ea67f85779a9244ff8f5a2"), looks := false }, kinds := [], alts := [], laidByText := true, laidKinds := [.data], laidTests := true, laidLooks := .later }
def SignerFormsUptoCardSaid : Prop := Claim7.holds Tryd.pinned (.plain (OpenSpec.upto signerFormsSpec)) signerFormsUptoCard

/-- THE SECOND FORM's CARD OF 'sealwrightlaw7.SignerHeights'. -/
def signerHeightsUptoCard : Claim7 := { stood := { row := signerHeightsUptoRow, standIns := [], harness := (true, "49f3418d4978ae6e8a70b1b70689be1e53c3897d69ea67f85779a9244ff8f5a2"), looks := false }, kinds := [], alts := [], laidByText := true, laidKinds := [.data], laidTests := true, laidLooks := .later }
def SignerHeightsUptoCardSaid : Prop := Claim7.holds Tryd.pinned (.plain (OpenSpec.upto signerHeightsSpec)) signerHeightsUptoCard
end Rows
end Go.Proofs.YtljkkejjnimjcaaDoor
