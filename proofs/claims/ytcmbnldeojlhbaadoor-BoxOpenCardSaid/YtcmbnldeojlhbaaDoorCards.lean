/-
  DERIVED. GIVEN WITH THE SEED: THE CARDS: each row of YtcmbnldeojlhbaaDoorRows.lean that lists a variable, with what it lists TIED to the program's text (the seventh form; the later family's looks); each row that meets fmt, with fmt's text TOLD by the authors' own Lean function (tested against real Go, not proved from fmt's source: count such statements apart). THE CARD IS WHAT COUNTS. Prove the row's statement (the work); the ties are given (YtcmbnldeojlhbaaDoorTie.lean); close each card by the builder's one call (the guide's Derived/Test/ToyasCard.lean, 'card_holds'). Laid BY PROGRAM, IN A SANDBOX (cutbox-door.mjs). By AI agents, Wed Nov 11 2026. No macro, syntax, notation, axiom, sorry.
-/
import Derived.Test.YtcmbnldeojlhbaaDoorRows
import GoSem.ClaimSeven
namespace Go.Proofs.YtcmbnldeojlhbaaDoor
namespace Rows

/-- THE TIED CARD OF 'sealwrightlaw4.BoxSeal'. -/
def boxSealCard : Claim7 := { stood := { row := boxSealRow, standIns := [], harness := (true, "651246e5de1b851fd814a67c4b7f06dac67f0915653fb4c338427b3beab2dacb"), looks := false }, kinds := [], alts := [], laidByText := true, laidKinds := [.data], laidTests := true, laidLooks := .later }
def BoxSealCardSaid : Prop := Claim7.holds Tryd.pinned (.plain (OpenSpec.ofChange boxSealSpec)) boxSealCard

/-- THE TIED CARD OF 'sealwrightlaw4.BoxTrip'. -/
def boxTripCard : Claim7 := { stood := { row := boxTripRow, standIns := [], harness := (true, "651246e5de1b851fd814a67c4b7f06dac67f0915653fb4c338427b3beab2dacb"), looks := false }, kinds := [], alts := [], laidByText := true, laidKinds := [.data], laidTests := true, laidLooks := .later }
def BoxTripCardSaid : Prop := Claim7.holds Tryd.pinned (.plain (OpenSpec.ofChange boxTripSpec)) boxTripCard

/-- THE TIED CARD OF 'sealwrightlaw4.BoxOpen'. -/
def boxOpenCard : Claim7 := { stood := { row := boxOpenRow, standIns := [], harness := (true, "651246e5de1b851fd814a67c4b7f06dac67f0915653fb4c338427b3beab2dacb"), looks := false }, kinds := [], alts := [], laidByText := true, laidKinds := [.data], laidTests := true, laidLooks := .later }
def BoxOpenCardSaid : Prop := Claim7.holds Tryd.pinned (.plain (OpenSpec.ofChange boxOpenSpec)) boxOpenCard

/-- THE TIED CARD OF 'sealwrightlaw4.BoxTampered'. -/
def boxTamperedCard : Claim7 := { stood := { row := boxTamperedRow, standIns := [], harness := (true, "651246e5de1b851fd814a67c4b7f06dac67f0915653fb4c338427b3beab2dacb"), looks := false }, kinds := [], alts := [], laidByText := true, laidKinds := [.data], laidTests := true, laidLooks := .later }
def BoxTamperedCardSaid : Prop := Claim7.holds Tryd.pinned (.plain (OpenSpec.ofChange boxTamperedSpec)) boxTamperedCard

/-- THE TIED CARD OF 'sealwrightlaw4.BoxKeys'. -/
def boxKeysCard : Claim7 := { stood := { row := boxKeysRow, standIns := [], harness := (true, "651246e5de1b851fd814a67c4b7f06dac67f0915653fb4c338427b3beab2dacb"), looks := false }, kinds := [], alts := [], laidByText := true, laidKinds := [.data], laidTests := true, laidLooks := .later }
def BoxKeysCardSaid : Prop := Claim7.holds Tryd.pinned (.plain (OpenSpec.ofChange boxKeysSpec)) boxKeysCard

/-- THE TIED CARD OF 'sealwrightlaw4.BoxLimits'. -/
def boxLimitsCard : Claim7 := { stood := { row := boxLimitsRow, standIns := [], harness := (true, "651246e5de1b851fd814a67c4b7f06dac67f0915653fb4c338427b3beab2dacb"), looks := false }, kinds := [], alts := [], laidByText := true, laidKinds := [.data], laidTests := true, laidLooks := .later }
def BoxLimitsCardSaid : Prop := Claim7.holds Tryd.pinned (.plain (OpenSpec.ofChange boxLimitsSpec)) boxLimitsCard

/-- THE TIED CARD OF 'sealwrightlaw4.BoxStream'. -/
def boxStreamCard : Claim7 := { stood := { row := boxStreamRow, standIns := [], harness := (true, "651246e5de1b851fd814a67c4b7f06dac67f0915653fb4c338427b3beab2dacb"), looks := false }, kinds := [], alts := [], laidByText := true, laidKinds := [.data], laidTests := true, laidLooks := .later }
def BoxStreamCardSaid : Prop := Claim7.holds Tryd.pinned (.plain (OpenSpec.ofChange boxStreamSpec)) boxStreamCard

/-- THE SECOND FORM's CARD OF 'sealwrightlaw4.BoxSeal'. -/
def boxSealUptoCard : Claim7 := { stood := { row := boxSealUptoRow, standIns := [], harness := (true, "651246e5de1b851fd814a67c4b7f06dac67f0915653fb4c338427b3beab2dacb"), looks := false }, kinds := [], alts := [], laidByText := true, laidKinds := [.data], laidTests := true, laidLooks := .later }
def BoxSealUptoCardSaid : Prop := Claim7.holds Tryd.pinned (.plain (OpenSpec.upto boxSealSpec)) boxSealUptoCard

/-- THE SECOND FORM's CARD OF 'sealwrightlaw4.BoxTrip'. -/
def boxTripUptoCard : Claim7 := { stood := { row := boxTripUptoRow, standIns := [], harness := (true, "651246e5de1b851fd814a67c4b7f06dac67f0915653fb4c338427b3beab2dacb"), looks := false }, kinds := [], alts := [], laidByText := true, laidKinds := [.data], laidTests := true, laidLooks := .later }
def BoxTripUptoCardSaid : Prop := Claim7.holds Tryd.pinned (.plain (OpenSpec.upto boxTripSpec)) boxTripUptoCard

/-- THE SECOND FORM's CARD OF 'sealwrightlaw4.BoxOpen'. -/
def boxOpenUptoCard : Claim7 := { stood := { row := boxOpenUptoRow, standIns := [], harness := (true, "651246e5de1b851fd814a67c4b7f06dac67f0915653fb4c338427b3beab2dacb"), looks := false }, kinds := [], alts := [], laidByText := true, laidKinds := [.data], laidTests := true, laidLooks := .later }
def BoxOpenUptoCardSaid : Prop := Claim7.holds Tryd.pinned (.plain (OpenSpec.upto boxOpenSpec)) boxOpenUptoCard

/-- THE SECOND FORM's CARD OF 'sealwrightlaw4.BoxTampered'. -/
def boxTamperedUptoCard : Claim7 := { stood := { row := boxTamperedUptoRow, standIns := [], harness := (true, "651246e5de1b851fd814a67c4b7f06dac67f0915653fb4c338427b3beab2dacb"), looks := false }, kinds := [], alts := [], laidByText := true, laidKinds := [.data], laidTests := true, laidLooks := .later }
def BoxTamperedUptoCardSaid : Prop := Claim7.holds Tryd.pinned (.plain (OpenSpec.upto boxTamperedSpec)) boxTamperedUptoCard

/-- THE SECOND FORM's CARD OF 'sealwrightlaw4.BoxKeys'. -/
def boxKeysUptoCard : Claim7 := { stood := { row := boxKeysUptoRow, standIns := [], harness := (true, "651246e5de1b851fd814a67c4b7f06dac67f0915653fb4c338427b3beab2dacb"), looks := false }, kinds := [], alts := [], laidByText := true, laidKinds := [.data], laidTests := true, laidLooks := .later }
def BoxKeysUptoCardSaid : Prop := Claim7.holds Tryd.pinned (.plain (OpenSpec.upto boxKeysSpec)) boxKeysUptoCard

/-- THE SECOND FORM's CARD OF 'sealwrightlaw4.BoxLimits'. -/
def boxLimitsUptoCard : Claim7 := { stood := { row := boxLimitsUptoRow, standIns := [], harness := (true, "651246e5de1b851fd814a67c4b7f06dac67f0915653fb4c338427b3beab2dacb"), looks := false }, kinds := [], alts := [], laidByText := true, laidKinds := [.data], laidTests := true, laidLooks := .later }
def BoxLimitsUptoCardSaid : Prop := Claim7.holds Tryd.pinned (.plain (OpenSpec.upto boxLimitsSpec)) boxLimitsUptoCard

/-- THE SECOND FORM's CARD OF 'sealwrightlaw4.BoxStream'. -/
def boxStreamUptoCard : Claim7 := { stood := { row := boxStreamUptoRow, standIns := [], harness := (true, "651246e5de1b851fd814a67c4b7f06dac67f0915653fb4c338427b3beab2dacb"), looks := false }, kinds := [], alts := [], laidByText := true, laidKinds := [.data], laidTests := true, laidLooks := .later }
def BoxStreamUptoCardSaid : Prop := Claim7.holds Tryd.pinned (.plain (OpenSpec.upto boxStreamSpec)) boxStreamUptoCard
end Rows
end Go.Proofs.YtcmbnldeojlhbaaDoor
