/-
  NARROWER THAN 'FOR EVERY INPUT', by the rows' own cells (each row's printed sentence says how): SignerPublic: laid · SignerSign: laid · SignerTrip: laid · SignerVerify: laid · SignerForms: laid · SignerHeights: laid.
  DERIVED. THE GIVEN ROWS OF THIS SEAT. 6 by the template 'for every input the law returns true; each argument reads behind the call as it read before'; 0 by the template 'total and deterministic' (their statements: YtljkkejjnimjcaaDoorTotals.lean).
  GIVEN WITH THE SEED: the statements are not yours to turn. If you find one false, say at which input.
  Laid BY PROGRAM, IN A SANDBOX (cutbox-rows.mjs): the forced cells as the released guide's own fill.sh prints them over the translation 046d6114e2cb6e48… (all of the seat's roots in one cut). By AI agents, Wed Nov 11 2026. No macro, syntax, notation, axiom, sorry.
-/
import Derived.Test.YtljkkejjnimjcaaDoorChecked
import GoSem.Claim
import GoSem.ClaimJoined
import GoSem.ClaimMapViews
import Derived.JoinedTies
import Derived.KernelRfl
namespace Go.Proofs.YtljkkejjnimjcaaDoor
/- THE CELL 'sum', in the pinned program and in every row, IS THE sha256 OF THE DUMP (.gsa) THAT YtljkkejjnimjcaaDoorProg.lean LOADS. Nothing in Lean hashes anything: it is a label: what it is worth is what the hold of that sum in a sandbox is worth. -/
noncomputable def Tryd.pinned : Pinned := { name := "ytljkkejjnimjcaadoor", sum := "046d6114e2cb6e48bbf9203ea6b352fbb8722f22fb86339b9c205cad0e5ec399", checked := Tryd.checked }
namespace Rows
def none {H : Type} : Left H := { results := [], args := [] }

/- WHAT THE LISTED PACKAGE-LEVEL VARIABLES READ AS WHEN THE CALL BEGINS. Each datum BY PROGRAM (the guide's laid-datum.mjs) off the statement by which the dump's own 'gosem.cut.vars' lays the variable. In a bare row this is a premise. The card (YtljkkejjnimjcaaDoorCards.lean) ties it to the program's text. -/
def laid_sealwright_digest_constants256 {H : Type} : DataW H := .agg [.lit (.int .u32 1116352408), .lit (.int .u32 1899447441), .lit (.int .u32 3049323471), .lit (.int .u32 3921009573), .lit (.int .u32 961987163), .lit (.int .u32 1508970993), .lit (.int .u32 2453635748), .lit (.int .u32 2870763221), .lit (.int .u32 3624381080), .lit (.int .u32 310598401), .lit (.int .u32 607225278), .lit (.int .u32 1426881987), .lit (.int .u32 1925078388), .lit (.int .u32 2162078206), .lit (.int .u32 2614888103), .lit (.int .u32 3248222580), .lit (.int .u32 3835390401), .lit (.int .u32 4022224774), .lit (.int .u32 264347078), .lit (.int .u32 604807628), .lit (.int .u32 770255983), .lit (.int .u32 1249150122), .lit (.int .u32 1555081692), .lit (.int .u32 1996064986), .lit (.int .u32 2554220882), .lit (.int .u32 2821834349), .lit (.int .u32 2952996808), .lit (.int .u32 3210313671), .lit (.int .u32 3336571891), .lit (.int .u32 3584528711), .lit (.int .u32 113926993), .lit (.int .u32 338241895), .lit (.int .u32 666307205), .lit (.int .u32 773529912), .lit (.int .u32 1294757372), .lit (.int .u32 1396182291), .lit (.int .u32 1695183700), .lit (.int .u32 1986661051), .lit (.int .u32 2177026350), .lit (.int .u32 2456956037), .lit (.int .u32 2730485921), .lit (.int .u32 2820302411), .lit (.int .u32 3259730800), .lit (.int .u32 3345764771), .lit (.int .u32 3516065817), .lit (.int .u32 3600352804), .lit (.int .u32 4094571909), .lit (.int .u32 275423344), .lit (.int .u32 430227734), .lit (.int .u32 506948616), .lit (.int .u32 659060556), .lit (.int .u32 883997877), .lit (.int .u32 958139571), .lit (.int .u32 1322822218), .lit (.int .u32 1537002063), .lit (.int .u32 1747873779), .lit (.int .u32 1955562222), .lit (.int .u32 2024104815), .lit (.int .u32 2227730452), .lit (.int .u32 2361852424), .lit (.int .u32 2428436474), .lit (.int .u32 2756734187), .lit (.int .u32 3204031479), .lit (.int .u32 3329325298)]

/-- 'sealwrightlaw7.SignerPublic': WHATEVER THE INPUT: true; the input reads as it did. -/
def signerPublicSpec : ChangeSpec := { name := "signerPublic", fn := fun _ => fun
  | [d1, d2] => { results := [.lit (.bool true)], args := [d1, d2] }
  | _ => none }
def signerPublicRow : OpenClaim := { program := "ytljkkejjnimjcaadoor", sum := "046d6114e2cb6e48bbf9203ea6b352fbb8722f22fb86339b9c205cad0e5ec399", func := "sealwright/sealwrightlaw7.SignerPublic", spec := "signerPublic", unfollowed := true, recurses := true, named := ["sealwright/digest.constants256"], apart := false, laid := [("sealwright/digest.constants256", laid_sealwright_digest_constants256)] }
def SignerPublicSaid : Prop := signerPublicRow.holds Tryd.pinned (OpenSpec.ofChange signerPublicSpec)

/-- ITS FALSE NEIGHBOUR: 'it returns false'. Refute it at one input. -/
def signerPublicWrong : ChangeSpec := { name := "signerPublic", fn := fun _ => fun
  | [d1, d2] => { results := [.lit (.bool false)], args := [d1, d2] }
  | _ => none }
def SignerPublicWrongFalsely : Prop := signerPublicRow.holds Tryd.pinned (OpenSpec.ofChange signerPublicWrong)

/-- 'sealwrightlaw7.SignerSign': WHATEVER THE INPUT: true; the input reads as it did. -/
def signerSignSpec : ChangeSpec := { name := "signerSign", fn := fun _ => fun
  | [d1, d2, d3, d4] => { results := [.lit (.bool true)], args := [d1, d2, d3, d4] }
  | _ => none }
def signerSignRow : OpenClaim := { program := "ytljkkejjnimjcaadoor", sum := "046d6114e2cb6e48bbf9203ea6b352fbb8722f22fb86339b9c205cad0e5ec399", func := "sealwright/sealwrightlaw7.SignerSign", spec := "signerSign", unfollowed := true, recurses := true, named := ["sealwright/digest.constants256"], apart := false, laid := [("sealwright/digest.constants256", laid_sealwright_digest_constants256)] }
def SignerSignSaid : Prop := signerSignRow.holds Tryd.pinned (OpenSpec.ofChange signerSignSpec)

/-- ITS FALSE NEIGHBOUR: 'it returns false'. Refute it at one input. -/
def signerSignWrong : ChangeSpec := { name := "signerSign", fn := fun _ => fun
  | [d1, d2, d3, d4] => { results := [.lit (.bool false)], args := [d1, d2, d3, d4] }
  | _ => none }
def SignerSignWrongFalsely : Prop := signerSignRow.holds Tryd.pinned (OpenSpec.ofChange signerSignWrong)

/-- 'sealwrightlaw7.SignerTrip': WHATEVER THE INPUT: true; the input reads as it did. -/
def signerTripSpec : ChangeSpec := { name := "signerTrip", fn := fun _ => fun
  | [d1, d2, d3, d4] => { results := [.lit (.bool true)], args := [d1, d2, d3, d4] }
  | _ => none }
def signerTripRow : OpenClaim := { program := "ytljkkejjnimjcaadoor", sum := "046d6114e2cb6e48bbf9203ea6b352fbb8722f22fb86339b9c205cad0e5ec399", func := "sealwright/sealwrightlaw7.SignerTrip", spec := "signerTrip", unfollowed := true, recurses := true, named := ["sealwright/digest.constants256"], apart := false, laid := [("sealwright/digest.constants256", laid_sealwright_digest_constants256)] }
def SignerTripSaid : Prop := signerTripRow.holds Tryd.pinned (OpenSpec.ofChange signerTripSpec)

/-- ITS FALSE NEIGHBOUR: 'it returns false'. Refute it at one input. -/
def signerTripWrong : ChangeSpec := { name := "signerTrip", fn := fun _ => fun
  | [d1, d2, d3, d4] => { results := [.lit (.bool false)], args := [d1, d2, d3, d4] }
  | _ => none }
def SignerTripWrongFalsely : Prop := signerTripRow.holds Tryd.pinned (OpenSpec.ofChange signerTripWrong)

/-- 'sealwrightlaw7.SignerVerify': WHATEVER THE INPUT: true; the input reads as it did. -/
def signerVerifySpec : ChangeSpec := { name := "signerVerify", fn := fun _ => fun
  | [d1, d2, d3, d4, d5, d6, d7, d8] => { results := [.lit (.bool true)], args := [d1, d2, d3, d4, d5, d6, d7, d8] }
  | _ => none }
def signerVerifyRow : OpenClaim := { program := "ytljkkejjnimjcaadoor", sum := "046d6114e2cb6e48bbf9203ea6b352fbb8722f22fb86339b9c205cad0e5ec399", func := "sealwright/sealwrightlaw7.SignerVerify", spec := "signerVerify", unfollowed := true, recurses := true, named := ["sealwright/digest.constants256"], apart := false, laid := [("sealwright/digest.constants256", laid_sealwright_digest_constants256)] }
def SignerVerifySaid : Prop := signerVerifyRow.holds Tryd.pinned (OpenSpec.ofChange signerVerifySpec)

/-- ITS FALSE NEIGHBOUR: 'it returns false'. Refute it at one input. -/
def signerVerifyWrong : ChangeSpec := { name := "signerVerify", fn := fun _ => fun
  | [d1, d2, d3, d4, d5, d6, d7, d8] => { results := [.lit (.bool false)], args := [d1, d2, d3, d4, d5, d6, d7, d8] }
  | _ => none }
def SignerVerifyWrongFalsely : Prop := signerVerifyRow.holds Tryd.pinned (OpenSpec.ofChange signerVerifyWrong)

/-- 'sealwrightlaw7.SignerForms': WHATEVER THE INPUT: true; the input reads as it did. -/
def signerFormsSpec : ChangeSpec := { name := "signerForms", fn := fun _ => fun
  | [d1, d2, d3, d4, d5, d6] => { results := [.lit (.bool true)], args := [d1, d2, d3, d4, d5, d6] }
  | _ => none }
def signerFormsRow : OpenClaim := { program := "ytljkkejjnimjcaadoor", sum := "046d6114e2cb6e48bbf9203ea6b352fbb8722f22fb86339b9c205cad0e5ec399", func := "sealwright/sealwrightlaw7.SignerForms", spec := "signerForms", unfollowed := true, recurses := true, named := ["sealwright/digest.constants256"], apart := false, laid := [("sealwright/digest.constants256", laid_sealwright_digest_constants256)] }
def SignerFormsSaid : Prop := signerFormsRow.holds Tryd.pinned (OpenSpec.ofChange signerFormsSpec)

/-- ITS FALSE NEIGHBOUR: 'it returns false'. Refute it at one input. -/
def signerFormsWrong : ChangeSpec := { name := "signerForms", fn := fun _ => fun
  | [d1, d2, d3, d4, d5, d6] => { results := [.lit (.bool false)], args := [d1, d2, d3, d4, d5, d6] }
  | _ => none }
def SignerFormsWrongFalsely : Prop := signerFormsRow.holds Tryd.pinned (OpenSpec.ofChange signerFormsWrong)

/-- 'sealwrightlaw7.SignerHeights': WHATEVER THE INPUT: true; the input reads as it did. -/
def signerHeightsSpec : ChangeSpec := { name := "signerHeights", fn := fun _ => fun
  | [d1, d2] => { results := [.lit (.bool true)], args := [d1, d2] }
  | _ => none }
def signerHeightsRow : OpenClaim := { program := "ytljkkejjnimjcaadoor", sum := "046d6114e2cb6e48bbf9203ea6b352fbb8722f22fb86339b9c205cad0e5ec399", func := "sealwright/sealwrightlaw7.SignerHeights", spec := "signerHeights", unfollowed := true, recurses := true, named := ["sealwright/digest.constants256"], apart := false, laid := [("sealwright/digest.constants256", laid_sealwright_digest_constants256)] }
def SignerHeightsSaid : Prop := signerHeightsRow.holds Tryd.pinned (OpenSpec.ofChange signerHeightsSpec)

/-- ITS FALSE NEIGHBOUR: 'it returns false'. Refute it at one input. -/
def signerHeightsWrong : ChangeSpec := { name := "signerHeights", fn := fun _ => fun
  | [d1, d2] => { results := [.lit (.bool false)], args := [d1, d2] }
  | _ => none }
def SignerHeightsWrongFalsely : Prop := signerHeightsRow.holds Tryd.pinned (OpenSpec.ofChange signerHeightsWrong)

/- THE SECOND FORM. 'bulk': how many values and letters a reading holds, each counted each time it is reached (what is shared counts as often as it is met; a slice's spare places count too). A statement '..UptoSaid' is the law's where the arguments, and the package variables that the reading takes, are together of bulk at most 1048576: NARROWER than '..Said'. Prove '..Said' where nothing that the law and all that it calls make is longer than what came in: it says more and counts as full. Else prove '..UptoSaid'. A law counts once. -/
mutual
def uptoBulk {H : Type} : DataW H → Nat
  | .lit (.string bytes) => bytes.length + 1
  | .lit _ => 1
  | .nil => 1
  | .ptr d => uptoBulk d + 1
  | .slice elems spare => uptoBulkAll elems + uptoBulkAll spare + 1
  | .agg parts => uptoBulkAll parts + 1
  | .iface _ d => uptoBulk d + 1
  | .map entries => uptoBulkEntries entries + 1
  | .held _ => 1
def uptoBulkAll {H : Type} : List (DataW H) → Nat
  | [] => 0
  | d :: r => uptoBulk d + uptoBulkAll r
def uptoBulkEntries {H : Type} : List (Lit × DataW H) → Nat
  | [] => 0
  | x :: r => uptoBulkEntry x + uptoBulkEntries r
def uptoBulkEntry {H : Type} : Lit × DataW H → Nat
  | (.string bytes, d) => bytes.length + uptoBulk d + 1
  | (_, d) => uptoBulk d + 1
 end
def uptoSmall : (H : Type) → List (DataW H) → Bool := fun _ ds => decide (uptoBulkAll ds ≤ 1048576)
def OpenSpec.upto (s : _root_.Go.ChangeSpec) : _root_.Go.OpenSpec := { _root_.Go.OpenSpec.ofChange s with cond := some uptoSmall }

/-- 'sealwrightlaw7.SignerPublic', WHERE WHAT IT READS IS OF BULK AT MOST 1048576: true; the input reads as it did. -/
def signerPublicUptoRow : OpenClaim := { program := "ytljkkejjnimjcaadoor", sum := "046d6114e2cb6e48bbf9203ea6b352fbb8722f22fb86339b9c205cad0e5ec399", func := "sealwright/sealwrightlaw7.SignerPublic", spec := "signerPublic", unfollowed := true, recurses := true, named := ["sealwright/digest.constants256"], apart := false, laid := [("sealwright/digest.constants256", laid_sealwright_digest_constants256)], narrowed := true }
def SignerPublicUptoSaid : Prop := signerPublicUptoRow.holds Tryd.pinned (OpenSpec.upto signerPublicSpec)

/-- 'sealwrightlaw7.SignerSign', WHERE WHAT IT READS IS OF BULK AT MOST 1048576: true; the input reads as it did. -/
def signerSignUptoRow : OpenClaim := { program := "ytljkkejjnimjcaadoor", sum := "046d6114e2cb6e48bbf9203ea6b352fbb8722f22fb86339b9c205cad0e5ec399", func := "sealwright/sealwrightlaw7.SignerSign", spec := "signerSign", unfollowed := true, recurses := true, named := ["sealwright/digest.constants256"], apart := false, laid := [("sealwright/digest.constants256", laid_sealwright_digest_constants256)], narrowed := true }
def SignerSignUptoSaid : Prop := signerSignUptoRow.holds Tryd.pinned (OpenSpec.upto signerSignSpec)

/-- 'sealwrightlaw7.SignerTrip', WHERE WHAT IT READS IS OF BULK AT MOST 1048576: true; the input reads as it did. -/
def signerTripUptoRow : OpenClaim := { program := "ytljkkejjnimjcaadoor", sum := "046d6114e2cb6e48bbf9203ea6b352fbb8722f22fb86339b9c205cad0e5ec399", func := "sealwright/sealwrightlaw7.SignerTrip", spec := "signerTrip", unfollowed := true, recurses := true, named := ["sealwright/digest.constants256"], apart := false, laid := [("sealwright/digest.constants256", laid_sealwright_digest_constants256)], narrowed := true }
def SignerTripUptoSaid : Prop := signerTripUptoRow.holds Tryd.pinned (OpenSpec.upto signerTripSpec)

/-- 'sealwrightlaw7.SignerVerify', WHERE WHAT IT READS IS OF BULK AT MOST 1048576: true; the input reads as it did. -/
def signerVerifyUptoRow : OpenClaim := { program := "ytljkkejjnimjcaadoor", sum := "046d6114e2cb6e48bbf9203ea6b352fbb8722f22fb86339b9c205cad0e5ec399", func := "sealwright/sealwrightlaw7.SignerVerify", spec := "signerVerify", unfollowed := true, recurses := true, named := ["sealwright/digest.constants256"], apart := false, laid := [("sealwright/digest.constants256", laid_sealwright_digest_constants256)], narrowed := true }
def SignerVerifyUptoSaid : Prop := signerVerifyUptoRow.holds Tryd.pinned (OpenSpec.upto signerVerifySpec)

/-- 'sealwrightlaw7.SignerForms', WHERE WHAT IT READS IS OF BULK AT MOST 1048576: true; the input reads as it did. -/
def signerFormsUptoRow : OpenClaim := { program := "ytljkkejjnimjcaadoor", sum := "046d6114e2cb6e48bbf9203ea6b352fbb8722f22fb86339b9c205cad0e5ec399", func := "sealwright/sealwrightlaw7.SignerForms", spec := "signerForms", unfollowed := true, recurses := true, named := ["sealwright/digest.constants256"], apart := false, laid := [("sealwright/digest.constants256", laid_sealwright_digest_constants256)], narrowed := true }
def SignerFormsUptoSaid : Prop := signerFormsUptoRow.holds Tryd.pinned (OpenSpec.upto signerFormsSpec)

/-- 'sealwrightlaw7.SignerHeights', WHERE WHAT IT READS IS OF BULK AT MOST 1048576: true; the input reads as it did. -/
def signerHeightsUptoRow : OpenClaim := { program := "ytljkkejjnimjcaadoor", sum := "046d6114e2cb6e48bbf9203ea6b352fbb8722f22fb86339b9c205cad0e5ec399", func := "sealwright/sealwrightlaw7.SignerHeights", spec := "signerHeights", unfollowed := true, recurses := true, named := ["sealwright/digest.constants256"], apart := false, laid := [("sealwright/digest.constants256", laid_sealwright_digest_constants256)], narrowed := true }
def SignerHeightsUptoSaid : Prop := signerHeightsUptoRow.holds Tryd.pinned (OpenSpec.upto signerHeightsSpec)

end Rows
end Go.Proofs.YtljkkejjnimjcaaDoor
