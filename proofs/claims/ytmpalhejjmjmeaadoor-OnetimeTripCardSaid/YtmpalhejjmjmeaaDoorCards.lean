/-
  DERIVED. GIVEN WITH THE SEED: THE CARDS: each row of YtmpalhejjmjmeaaDoorRows.lean that lists a variable, with what it lists TIED to the program's text (the seventh form; the later family's looks); each row that meets fmt, with fmt's text TOLD by the authors' own Lean function (tested against real Go, not proved from fmt's source: count such statements apart). THE CARD IS WHAT COUNTS. Prove the row's statement (the work); the ties are given (YtmpalhejjmjmeaaDoorTie.lean); close each card by the builder's one call (the guide's Derived/Test/ToyasCard.lean, 'card_holds'). Laid BY PROGRAM, IN A SANDBOX (cutbox-door.mjs). By AI agents, Wed Nov 11 2026. No macro, syntax, notation, axiom, sorry.
-/
import Derived.Test.YtmpalhejjmjmeaaDoorRows
import GoSem.ClaimSeven
namespace Go.Proofs.YtmpalhejjmjmeaaDoor
namespace Rows

/-- THE TIED CARD OF 'sealwrightlaw5.OnetimeDigits'. -/
def onetimeDigitsCard : Claim7 := { stood := { row := onetimeDigitsRow, standIns := [], harness := (true, "2c5194307283fa0e74f1cb08ece714f3e94f7da8adaa18989210d61b7ade68f5"), looks := false }, kinds := [], alts := [], laidByText := true, laidKinds := [.data], laidTests := true, laidLooks := .later }
def OnetimeDigitsCardSaid : Prop := Claim7.holds Tryd.pinned (.plain (OpenSpec.ofChange onetimeDigitsSpec)) onetimeDigitsCard

/-- THE TIED CARD OF 'sealwrightlaw5.OnetimeChecksum'. -/
def onetimeChecksumCard : Claim7 := { stood := { row := onetimeChecksumRow, standIns := [], harness := (true, "2c5194307283fa0e74f1cb08ece714f3e94f7da8adaa18989210d61b7ade68f5"), looks := false }, kinds := [], alts := [], laidByText := true, laidKinds := [.data], laidTests := true, laidLooks := .later }
def OnetimeChecksumCardSaid : Prop := Claim7.holds Tryd.pinned (.plain (OpenSpec.ofChange onetimeChecksumSpec)) onetimeChecksumCard

/-- THE TIED CARD OF 'sealwrightlaw5.OnetimePublic'. -/
def onetimePublicCard : Claim7 := { stood := { row := onetimePublicRow, standIns := [], harness := (true, "2c5194307283fa0e74f1cb08ece714f3e94f7da8adaa18989210d61b7ade68f5"), looks := false }, kinds := [], alts := [], laidByText := true, laidKinds := [.data], laidTests := true, laidLooks := .later }
def OnetimePublicCardSaid : Prop := Claim7.holds Tryd.pinned (.plain (OpenSpec.ofChange onetimePublicSpec)) onetimePublicCard

/-- THE TIED CARD OF 'sealwrightlaw5.OnetimeSign'. -/
def onetimeSignCard : Claim7 := { stood := { row := onetimeSignRow, standIns := [], harness := (true, "2c5194307283fa0e74f1cb08ece714f3e94f7da8adaa18989210d61b7ade68f5"), looks := false }, kinds := [], alts := [], laidByText := true, laidKinds := [.data], laidTests := true, laidLooks := .later }
def OnetimeSignCardSaid : Prop := Claim7.holds Tryd.pinned (.plain (OpenSpec.ofChange onetimeSignSpec)) onetimeSignCard

/-- THE TIED CARD OF 'sealwrightlaw5.OnetimeRecover'. -/
def onetimeRecoverCard : Claim7 := { stood := { row := onetimeRecoverRow, standIns := [], harness := (true, "2c5194307283fa0e74f1cb08ece714f3e94f7da8adaa18989210d61b7ade68f5"), looks := false }, kinds := [], alts := [], laidByText := true, laidKinds := [.data], laidTests := true, laidLooks := .later }
def OnetimeRecoverCardSaid : Prop := Claim7.holds Tryd.pinned (.plain (OpenSpec.ofChange onetimeRecoverSpec)) onetimeRecoverCard

/-- THE TIED CARD OF 'sealwrightlaw5.OnetimeTrip'. -/
def onetimeTripCard : Claim7 := { stood := { row := onetimeTripRow, standIns := [], harness := (true, "2c5194307283fa0e74f1cb08ece714f3e94f7da8adaa18989210d61b7ade68f5"), looks := false }, kinds := [], alts := [], laidByText := true, laidKinds := [.data], laidTests := true, laidLooks := .later }
def OnetimeTripCardSaid : Prop := Claim7.holds Tryd.pinned (.plain (OpenSpec.ofChange onetimeTripSpec)) onetimeTripCard

/-- THE TIED CARD OF 'sealwrightlaw5.OnetimeCross'. -/
def onetimeCrossCard : Claim7 := { stood := { row := onetimeCrossRow, standIns := [], harness := (true, "2c5194307283fa0e74f1cb08ece714f3e94f7da8adaa18989210d61b7ade68f5"), looks := false }, kinds := [], alts := [], laidByText := true, laidKinds := [.data], laidTests := true, laidLooks := .later }
def OnetimeCrossCardSaid : Prop := Claim7.holds Tryd.pinned (.plain (OpenSpec.ofChange onetimeCrossSpec)) onetimeCrossCard

/-- THE SECOND FORM's CARD OF 'sealwrightlaw5.OnetimeDigits'. -/
def onetimeDigitsUptoCard : Claim7 := { stood := { row := onetimeDigitsUptoRow, standIns := [], harness := (true, "2c5194307283fa0e74f1cb08ece714f3e94f7da8adaa18989210d61b7ade68f5"), looks := false }, kinds := [], alts := [], laidByText := true, laidKinds := [.data], laidTests := true, laidLooks := .later }
def OnetimeDigitsUptoCardSaid : Prop := Claim7.holds Tryd.pinned (.plain (OpenSpec.upto onetimeDigitsSpec)) onetimeDigitsUptoCard

/-- THE SECOND FORM's CARD OF 'sealwrightlaw5.OnetimeChecksum'. -/
def onetimeChecksumUptoCard : Claim7 := { stood := { row := onetimeChecksumUptoRow, standIns := [], harness := (true, "2c5194307283fa0e74f1cb08ece714f3e94f7da8adaa18989210d61b7ade68f5"), looks := false }, kinds := [], alts := [], laidByText := true, laidKinds := [.data], laidTests := true, laidLooks := .later }
def OnetimeChecksumUptoCardSaid : Prop := Claim7.holds Tryd.pinned (.plain (OpenSpec.upto onetimeChecksumSpec)) onetimeChecksumUptoCard

/-- THE SECOND FORM's CARD OF 'sealwrightlaw5.OnetimePublic'. -/
def onetimePublicUptoCard : Claim7 := { stood := { row := onetimePublicUptoRow, standIns := [], harness := (true, "2c5194307283fa0e74f1cb08ece714f3e94f7da8adaa18989210d61b7ade68f5"), looks := false }, kinds := [], alts := [], laidByText := true, laidKinds := [.data], laidTests := true, laidLooks := .later }
def OnetimePublicUptoCardSaid : Prop := Claim7.holds Tryd.pinned (.plain (OpenSpec.upto onetimePublicSpec)) onetimePublicUptoCard

/-- THE SECOND FORM's CARD OF 'sealwrightlaw5.OnetimeSign'. -/
def onetimeSignUptoCard : Claim7 := { stood := { row := onetimeSignUptoRow, standIns := [], harness := (true, "2c5194307283fa0e74f1cb08ece714f3e94f7da8adaa18989210d61b7ade68f5"), looks := false }, kinds := [], alts := [], laidByText := true, laidKinds := [.data], laidTests := true, laidLooks := .later }
def OnetimeSignUptoCardSaid : Prop := Claim7.holds Tryd.pinned (.plain (OpenSpec.upto onetimeSignSpec)) onetimeSignUptoCard

/-- THE SECOND FORM's CARD OF 'sealwrightlaw5.OnetimeRecover'. -/
def onetimeRecoverUptoCard : Claim7 := { stood := { row := onetimeRecoverUptoRow, standIns := [], harness := (true, "2c5194307283fa0e74f1cb08ece714f3e94f7da8adaa18989210d61b7ade68f5"), looks := false }, kinds := [], alts := [], laidByText := true, laidKinds := [.data], laidTests := true, laidLooks := .later }
def OnetimeRecoverUptoCardSaid : Prop := Claim7.holds Tryd.pinned (.plain (OpenSpec.upto onetimeRecoverSpec)) onetimeRecoverUptoCard

/-- THE SECOND FORM's CARD OF 'sealwrightlaw5.OnetimeTrip'. -/
def onetimeTripUptoCard : Claim7 := { stood := { row := onetimeTripUptoRow, standIns := [], harness := (true, "2c5194307283fa0e74f1cb08ece714f3e94f7da8adaa18989210d61b7ade68f5"), looks := false }, kinds := [], alts := [], laidByText := true, laidKinds := [.data], laidTests := true, laidLooks := .later }
def OnetimeTripUptoCardSaid : Prop := Claim7.holds Tryd.pinned (.plain (OpenSpec.upto onetimeTripSpec)) onetimeTripUptoCard

/-- THE SECOND FORM's CARD OF 'sealwrightlaw5.OnetimeCross'. -/
def onetimeCrossUptoCard : Claim7 := { stood := { row := onetimeCrossUptoRow, standIns := [], harness := (true, "2c5194307283fa0e74f1cb08ece714f3e94f7da8adaa18989210d61b7ade68f5"), looks := false }, kinds := [], alts := [], laidByText := true, laidKinds := [.data], laidTests := true, laidLooks := .later }
def OnetimeCrossUptoCardSaid : Prop := Claim7.holds Tryd.pinned (.plain (OpenSpec.upto onetimeCrossSpec)) onetimeCrossUptoCard
end Rows
end Go.Proofs.YtmpalhejjmjmeaaDoor
