/-
  NARROWER THAN 'FOR EVERY INPUT', by the rows' own cells (each row's printed sentence says how): OnetimeDigits: laid · OnetimeChecksum: laid · OnetimePublic: laid · OnetimeSign: laid · OnetimeRecover: laid · OnetimeTrip: laid · OnetimeCross: laid.
  DERIVED. THE GIVEN ROWS OF THIS SEAT. 7 by the template 'for every input the law returns true; each argument reads behind the call as it read before'; 0 by the template 'total and deterministic' (their statements: YtmpalhejjmjmeaaDoorTotals.lean).
  GIVEN WITH THE SEED: the statements are not yours to turn. If you find one false, say at which input.
  Laid BY PROGRAM, IN A SANDBOX (cutbox-rows.mjs): the forced cells as the released guide's own fill.sh prints them over the translation 23723333b4335b20… (all of the seat's roots in one cut). By AI agents, Wed Nov 11 2026. No macro, syntax, notation, axiom, sorry.
-/
import Derived.Test.YtmpalhejjmjmeaaDoorChecked
import GoSem.Claim
import GoSem.ClaimJoined
import GoSem.ClaimMapViews
import Derived.JoinedTies
import Derived.KernelRfl
namespace Go.Proofs.YtmpalhejjmjmeaaDoor
/- THE CELL 'sum', in the pinned program and in every row, IS THE sha256 OF THE DUMP (.gsa) THAT YtmpalhejjmjmeaaDoorProg.lean LOADS. Nothing in Lean hashes anything: it is a label: what it is worth is what the hold of that sum in a sandbox is worth. -/
noncomputable def Tryd.pinned : Pinned := { name := "ytmpalhejjmjmeaadoor", sum := "23723333b4335b20d899afb87697332aa555c3cc391b45281842894295b249f2", checked := Tryd.checked }
namespace Rows
def none {H : Type} : Left H := { results := [], args := [] }

/- WHAT THE LISTED PACKAGE-LEVEL VARIABLES READ AS WHEN THE CALL BEGINS. Each datum BY PROGRAM (the guide's laid-datum.mjs) off the statement by which the dump's own 'gosem.cut.vars' lays the variable. In a bare row this is a premise. The card (YtmpalhejjmjmeaaDoorCards.lean) ties it to the program's text. -/
def laid_sealwright_digest_constants256 {H : Type} : DataW H := .agg [.lit (.int .u32 1116352408), .lit (.int .u32 1899447441), .lit (.int .u32 3049323471), .lit (.int .u32 3921009573), .lit (.int .u32 961987163), .lit (.int .u32 1508970993), .lit (.int .u32 2453635748), .lit (.int .u32 2870763221), .lit (.int .u32 3624381080), .lit (.int .u32 310598401), .lit (.int .u32 607225278), .lit (.int .u32 1426881987), .lit (.int .u32 1925078388), .lit (.int .u32 2162078206), .lit (.int .u32 2614888103), .lit (.int .u32 3248222580), .lit (.int .u32 3835390401), .lit (.int .u32 4022224774), .lit (.int .u32 264347078), .lit (.int .u32 604807628), .lit (.int .u32 770255983), .lit (.int .u32 1249150122), .lit (.int .u32 1555081692), .lit (.int .u32 1996064986), .lit (.int .u32 2554220882), .lit (.int .u32 2821834349), .lit (.int .u32 2952996808), .lit (.int .u32 3210313671), .lit (.int .u32 3336571891), .lit (.int .u32 3584528711), .lit (.int .u32 113926993), .lit (.int .u32 338241895), .lit (.int .u32 666307205), .lit (.int .u32 773529912), .lit (.int .u32 1294757372), .lit (.int .u32 1396182291), .lit (.int .u32 1695183700), .lit (.int .u32 1986661051), .lit (.int .u32 2177026350), .lit (.int .u32 2456956037), .lit (.int .u32 2730485921), .lit (.int .u32 2820302411), .lit (.int .u32 3259730800), .lit (.int .u32 3345764771), .lit (.int .u32 3516065817), .lit (.int .u32 3600352804), .lit (.int .u32 4094571909), .lit (.int .u32 275423344), .lit (.int .u32 430227734), .lit (.int .u32 506948616), .lit (.int .u32 659060556), .lit (.int .u32 883997877), .lit (.int .u32 958139571), .lit (.int .u32 1322822218), .lit (.int .u32 1537002063), .lit (.int .u32 1747873779), .lit (.int .u32 1955562222), .lit (.int .u32 2024104815), .lit (.int .u32 2227730452), .lit (.int .u32 2361852424), .lit (.int .u32 2428436474), .lit (.int .u32 2756734187), .lit (.int .u32 3204031479), .lit (.int .u32 3329325298)]

/-- 'sealwrightlaw5.OnetimeDigits': WHATEVER THE INPUT: true; the input reads as it did. -/
def onetimeDigitsSpec : ChangeSpec := { name := "onetimeDigits", fn := fun _ => fun
  | [d] => { results := [.lit (.bool true)], args := [d] }
  | _ => none }
def onetimeDigitsRow : OpenClaim := { program := "ytmpalhejjmjmeaadoor", sum := "23723333b4335b20d899afb87697332aa555c3cc391b45281842894295b249f2", func := "sealwright/sealwrightlaw5.OnetimeDigits", spec := "onetimeDigits", unfollowed := true, recurses := true, named := ["sealwright/digest.constants256"], apart := false, laid := [("sealwright/digest.constants256", laid_sealwright_digest_constants256)] }
def OnetimeDigitsSaid : Prop := onetimeDigitsRow.holds Tryd.pinned (OpenSpec.ofChange onetimeDigitsSpec)

/-- ITS FALSE NEIGHBOUR: 'it returns false'. Refute it at one input. -/
def onetimeDigitsWrong : ChangeSpec := { name := "onetimeDigits", fn := fun _ => fun
  | [d] => { results := [.lit (.bool false)], args := [d] }
  | _ => none }
def OnetimeDigitsWrongFalsely : Prop := onetimeDigitsRow.holds Tryd.pinned (OpenSpec.ofChange onetimeDigitsWrong)

/-- 'sealwrightlaw5.OnetimeChecksum': WHATEVER THE INPUT: true; the input reads as it did. -/
def onetimeChecksumSpec : ChangeSpec := { name := "onetimeChecksum", fn := fun _ => fun
  | [d] => { results := [.lit (.bool true)], args := [d] }
  | _ => none }
def onetimeChecksumRow : OpenClaim := { program := "ytmpalhejjmjmeaadoor", sum := "23723333b4335b20d899afb87697332aa555c3cc391b45281842894295b249f2", func := "sealwright/sealwrightlaw5.OnetimeChecksum", spec := "onetimeChecksum", unfollowed := true, recurses := true, named := ["sealwright/digest.constants256"], apart := false, laid := [("sealwright/digest.constants256", laid_sealwright_digest_constants256)] }
def OnetimeChecksumSaid : Prop := onetimeChecksumRow.holds Tryd.pinned (OpenSpec.ofChange onetimeChecksumSpec)

/-- ITS FALSE NEIGHBOUR: 'it returns false'. Refute it at one input. -/
def onetimeChecksumWrong : ChangeSpec := { name := "onetimeChecksum", fn := fun _ => fun
  | [d] => { results := [.lit (.bool false)], args := [d] }
  | _ => none }
def OnetimeChecksumWrongFalsely : Prop := onetimeChecksumRow.holds Tryd.pinned (OpenSpec.ofChange onetimeChecksumWrong)

/-- 'sealwrightlaw5.OnetimePublic': WHATEVER THE INPUT: true; the input reads as it did. -/
def onetimePublicSpec : ChangeSpec := { name := "onetimePublic", fn := fun _ => fun
  | [d1, d2] => { results := [.lit (.bool true)], args := [d1, d2] }
  | _ => none }
def onetimePublicRow : OpenClaim := { program := "ytmpalhejjmjmeaadoor", sum := "23723333b4335b20d899afb87697332aa555c3cc391b45281842894295b249f2", func := "sealwright/sealwrightlaw5.OnetimePublic", spec := "onetimePublic", unfollowed := true, recurses := true, named := ["sealwright/digest.constants256"], apart := false, laid := [("sealwright/digest.constants256", laid_sealwright_digest_constants256)] }
def OnetimePublicSaid : Prop := onetimePublicRow.holds Tryd.pinned (OpenSpec.ofChange onetimePublicSpec)

/-- ITS FALSE NEIGHBOUR: 'it returns false'. Refute it at one input. -/
def onetimePublicWrong : ChangeSpec := { name := "onetimePublic", fn := fun _ => fun
  | [d1, d2] => { results := [.lit (.bool false)], args := [d1, d2] }
  | _ => none }
def OnetimePublicWrongFalsely : Prop := onetimePublicRow.holds Tryd.pinned (OpenSpec.ofChange onetimePublicWrong)

/-- 'sealwrightlaw5.OnetimeSign': WHATEVER THE INPUT: true; the input reads as it did. -/
def onetimeSignSpec : ChangeSpec := { name := "onetimeSign", fn := fun _ => fun
  | [d1, d2, d3] => { results := [.lit (.bool true)], args := [d1, d2, d3] }
  | _ => none }
def onetimeSignRow : OpenClaim := { program := "ytmpalhejjmjmeaadoor", sum := "23723333b4335b20d899afb87697332aa555c3cc391b45281842894295b249f2", func := "sealwright/sealwrightlaw5.OnetimeSign", spec := "onetimeSign", unfollowed := true, recurses := true, named := ["sealwright/digest.constants256"], apart := false, laid := [("sealwright/digest.constants256", laid_sealwright_digest_constants256)] }
def OnetimeSignSaid : Prop := onetimeSignRow.holds Tryd.pinned (OpenSpec.ofChange onetimeSignSpec)

/-- ITS FALSE NEIGHBOUR: 'it returns false'. Refute it at one input. -/
def onetimeSignWrong : ChangeSpec := { name := "onetimeSign", fn := fun _ => fun
  | [d1, d2, d3] => { results := [.lit (.bool false)], args := [d1, d2, d3] }
  | _ => none }
def OnetimeSignWrongFalsely : Prop := onetimeSignRow.holds Tryd.pinned (OpenSpec.ofChange onetimeSignWrong)

/-- 'sealwrightlaw5.OnetimeRecover': WHATEVER THE INPUT: true; the input reads as it did. -/
def onetimeRecoverSpec : ChangeSpec := { name := "onetimeRecover", fn := fun _ => fun
  | [d1, d2, d3, d4, d5, d6, d7] => { results := [.lit (.bool true)], args := [d1, d2, d3, d4, d5, d6, d7] }
  | _ => none }
def onetimeRecoverRow : OpenClaim := { program := "ytmpalhejjmjmeaadoor", sum := "23723333b4335b20d899afb87697332aa555c3cc391b45281842894295b249f2", func := "sealwright/sealwrightlaw5.OnetimeRecover", spec := "onetimeRecover", unfollowed := true, recurses := true, named := ["sealwright/digest.constants256"], apart := false, laid := [("sealwright/digest.constants256", laid_sealwright_digest_constants256)] }
def OnetimeRecoverSaid : Prop := onetimeRecoverRow.holds Tryd.pinned (OpenSpec.ofChange onetimeRecoverSpec)

/-- ITS FALSE NEIGHBOUR: 'it returns false'. Refute it at one input. -/
def onetimeRecoverWrong : ChangeSpec := { name := "onetimeRecover", fn := fun _ => fun
  | [d1, d2, d3, d4, d5, d6, d7] => { results := [.lit (.bool false)], args := [d1, d2, d3, d4, d5, d6, d7] }
  | _ => none }
def OnetimeRecoverWrongFalsely : Prop := onetimeRecoverRow.holds Tryd.pinned (OpenSpec.ofChange onetimeRecoverWrong)

/-- 'sealwrightlaw5.OnetimeTrip': WHATEVER THE INPUT: true; the input reads as it did. -/
def onetimeTripSpec : ChangeSpec := { name := "onetimeTrip", fn := fun _ => fun
  | [d1, d2, d3] => { results := [.lit (.bool true)], args := [d1, d2, d3] }
  | _ => none }
def onetimeTripRow : OpenClaim := { program := "ytmpalhejjmjmeaadoor", sum := "23723333b4335b20d899afb87697332aa555c3cc391b45281842894295b249f2", func := "sealwright/sealwrightlaw5.OnetimeTrip", spec := "onetimeTrip", unfollowed := true, recurses := true, named := ["sealwright/digest.constants256"], apart := false, laid := [("sealwright/digest.constants256", laid_sealwright_digest_constants256)] }
def OnetimeTripSaid : Prop := onetimeTripRow.holds Tryd.pinned (OpenSpec.ofChange onetimeTripSpec)

/-- ITS FALSE NEIGHBOUR: 'it returns false'. Refute it at one input. -/
def onetimeTripWrong : ChangeSpec := { name := "onetimeTrip", fn := fun _ => fun
  | [d1, d2, d3] => { results := [.lit (.bool false)], args := [d1, d2, d3] }
  | _ => none }
def OnetimeTripWrongFalsely : Prop := onetimeTripRow.holds Tryd.pinned (OpenSpec.ofChange onetimeTripWrong)

/-- 'sealwrightlaw5.OnetimeCross': WHATEVER THE INPUT: true; the input reads as it did. -/
def onetimeCrossSpec : ChangeSpec := { name := "onetimeCross", fn := fun _ => fun
  | [d1, d2] => { results := [.lit (.bool true)], args := [d1, d2] }
  | _ => none }
def onetimeCrossRow : OpenClaim := { program := "ytmpalhejjmjmeaadoor", sum := "23723333b4335b20d899afb87697332aa555c3cc391b45281842894295b249f2", func := "sealwright/sealwrightlaw5.OnetimeCross", spec := "onetimeCross", unfollowed := true, recurses := true, named := ["sealwright/digest.constants256"], apart := false, laid := [("sealwright/digest.constants256", laid_sealwright_digest_constants256)] }
def OnetimeCrossSaid : Prop := onetimeCrossRow.holds Tryd.pinned (OpenSpec.ofChange onetimeCrossSpec)

/-- ITS FALSE NEIGHBOUR: 'it returns false'. Refute it at one input. -/
def onetimeCrossWrong : ChangeSpec := { name := "onetimeCross", fn := fun _ => fun
  | [d1, d2] => { results := [.lit (.bool false)], args := [d1, d2] }
  | _ => none }
def OnetimeCrossWrongFalsely : Prop := onetimeCrossRow.holds Tryd.pinned (OpenSpec.ofChange onetimeCrossWrong)

/- THE SECOND FORM. 'bulk': how many values and letters a reading holds, each counted each time it is reached (what is shared counts as often as it is met; a slice's spare places count too). A statement '..UptoSaid' is the law's where the arguments, and the package variables that the reading takes, are together of bulk at most 1048576: NARROWER than '..Said'. Prove '..Said' where nothing that the law and all that it calls make is longer than what came in: it says more and counts as full. Else prove '..UptoSaid'. A law counts once. -/
mutual
def uptoBulk {H : Type} : DataW H → Nat
  | .lit (.string bytes) => bytes.length + 1
  | .lit _ => 1
  | .nil => 1
  | .ptr d => uptoBulk d + 1
  | .slice elems spare => uptoBulkAll elems + uptoBulkAll spare + 1
  | .agg parts => uptoBulkAll parts + 1
  | .iface _ d => uptoBulk d + 1
  | .map entries => uptoBulkEntries entries + 1
  | .held _ => 1
def uptoBulkAll {H : Type} : List (DataW H) → Nat
  | [] => 0
  | d :: r => uptoBulk d + uptoBulkAll r
def uptoBulkEntries {H : Type} : List (Lit × DataW H) → Nat
  | [] => 0
  | x :: r => uptoBulkEntry x + uptoBulkEntries r
def uptoBulkEntry {H : Type} : Lit × DataW H → Nat
  | (.string bytes, d) => bytes.length + uptoBulk d + 1
  | (_, d) => uptoBulk d + 1
 end
def uptoSmall : (H : Type) → List (DataW H) → Bool := fun _ ds => decide (uptoBulkAll ds ≤ 1048576)
def OpenSpec.upto (s : _root_.Go.ChangeSpec) : _root_.Go.OpenSpec := { _root_.Go.OpenSpec.ofChange s with cond := some uptoSmall }

/-- 'sealwrightlaw5.OnetimeDigits', WHERE WHAT IT READS IS OF BULK AT MOST 1048576: true; the input reads as it did. -/
def onetimeDigitsUptoRow : OpenClaim := { program := "ytmpalhejjmjmeaadoor", sum := "23723333b4335b20d899afb87697332aa555c3cc391b45281842894295b249f2", func := "sealwright/sealwrightlaw5.OnetimeDigits", spec := "onetimeDigits", unfollowed := true, recurses := true, named := ["sealwright/digest.constants256"], apart := false, laid := [("sealwright/digest.constants256", laid_sealwright_digest_constants256)], narrowed := true }
def OnetimeDigitsUptoSaid : Prop := onetimeDigitsUptoRow.holds Tryd.pinned (OpenSpec.upto onetimeDigitsSpec)

/-- 'sealwrightlaw5.OnetimeChecksum', WHERE WHAT IT READS IS OF BULK AT MOST 1048576: true; the input reads as it did. -/
def onetimeChecksumUptoRow : OpenClaim := { program := "ytmpalhejjmjmeaadoor", sum := "23723333b4335b20d899afb87697332aa555c3cc391b45281842894295b249f2", func := "sealwright/sealwrightlaw5.OnetimeChecksum", spec := "onetimeChecksum", unfollowed := true, recurses := true, named := ["sealwright/digest.constants256"], apart := false, laid := [("sealwright/digest.constants256", laid_sealwright_digest_constants256)], narrowed := true }
def OnetimeChecksumUptoSaid : Prop := onetimeChecksumUptoRow.holds Tryd.pinned (OpenSpec.upto onetimeChecksumSpec)

/-- 'sealwrightlaw5.OnetimePublic', WHERE WHAT IT READS IS OF BULK AT MOST 1048576: true; the input reads as it did. -/
def onetimePublicUptoRow : OpenClaim := { program := "ytmpalhejjmjmeaadoor", sum := "23723333b4335b20d899afb87697332aa555c3cc391b45281842894295b249f2", func := "sealwright/sealwrightlaw5.OnetimePublic", spec := "onetimePublic", unfollowed := true, recurses := true, named := ["sealwright/digest.constants256"], apart := false, laid := [("sealwright/digest.constants256", laid_sealwright_digest_constants256)], narrowed := true }
def OnetimePublicUptoSaid : Prop := onetimePublicUptoRow.holds Tryd.pinned (OpenSpec.upto onetimePublicSpec)

/-- 'sealwrightlaw5.OnetimeSign', WHERE WHAT IT READS IS OF BULK AT MOST 1048576: true; the input reads as it did. -/
def onetimeSignUptoRow : OpenClaim := { program := "ytmpalhejjmjmeaadoor", sum := "23723333b4335b20d899afb87697332aa555c3cc391b45281842894295b249f2", func := "sealwright/sealwrightlaw5.OnetimeSign", spec := "onetimeSign", unfollowed := true, recurses := true, named := ["sealwright/digest.constants256"], apart := false, laid := [("sealwright/digest.constants256", laid_sealwright_digest_constants256)], narrowed := true }
def OnetimeSignUptoSaid : Prop := onetimeSignUptoRow.holds Tryd.pinned (OpenSpec.upto onetimeSignSpec)

/-- 'sealwrightlaw5.OnetimeRecover', WHERE WHAT IT READS IS OF BULK AT MOST 1048576: true; the input reads as it did. -/
def onetimeRecoverUptoRow : OpenClaim := { program := "ytmpalhejjmjmeaadoor", sum := "23723333b4335b20d899afb87697332aa555c3cc391b45281842894295b249f2", func := "sealwright/sealwrightlaw5.OnetimeRecover", spec := "onetimeRecover", unfollowed := true, recurses := true, named := ["sealwright/digest.constants256"], apart := false, laid := [("sealwright/digest.constants256", laid_sealwright_digest_constants256)], narrowed := true }
def OnetimeRecoverUptoSaid : Prop := onetimeRecoverUptoRow.holds Tryd.pinned (OpenSpec.upto onetimeRecoverSpec)

/-- 'sealwrightlaw5.OnetimeTrip', WHERE WHAT IT READS IS OF BULK AT MOST 1048576: true; the input reads as it did. -/
def onetimeTripUptoRow : OpenClaim := { program := "ytmpalhejjmjmeaadoor", sum := "23723333b4335b20d899afb87697332aa555c3cc391b45281842894295b249f2", func := "sealwright/sealwrightlaw5.OnetimeTrip", spec := "onetimeTrip", unfollowed := true, recurses := true, named := ["sealwright/digest.constants256"], apart := false, laid := [("sealwright/digest.constants256", laid_sealwright_digest_constants256)], narrowed := true }
def OnetimeTripUptoSaid : Prop := onetimeTripUptoRow.holds Tryd.pinned (OpenSpec.upto onetimeTripSpec)

/-- 'sealwrightlaw5.OnetimeCross', WHERE WHAT IT READS IS OF BULK AT MOST 1048576: true; the input reads as it did. -/
def onetimeCrossUptoRow : OpenClaim := { program := "ytmpalhejjmjmeaadoor", sum := "23723333b4335b20d899afb87697332aa555c3cc391b45281842894295b249f2", func := "sealwright/sealwrightlaw5.OnetimeCross", spec := "onetimeCross", unfollowed := true, recurses := true, named := ["sealwright/digest.constants256"], apart := false, laid := [("sealwright/digest.constants256", laid_sealwright_digest_constants256)], narrowed := true }
def OnetimeCrossUptoSaid : Prop := onetimeCrossUptoRow.holds Tryd.pinned (OpenSpec.upto onetimeCrossSpec)

end Rows
end Go.Proofs.YtmpalhejjmjmeaaDoor
