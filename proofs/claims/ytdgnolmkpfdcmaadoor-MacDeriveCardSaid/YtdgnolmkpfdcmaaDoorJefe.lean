/-
  The code of a known message under a known key (RFC 4231, test case 2), computed.
-/
import Derived.Test.YtdgnolmkpfdcmaaDoorKey
namespace Go.Proofs.YtdgnolmkpfdcmaaDoor
open Go.RowKit

def jefe : List Int := [74, 101, 102, 101]
def whatDo : List Int := [119, 104, 97, 116, 32, 100, 111, 32, 121, 97, 32, 119, 97, 110, 116, 32, 102, 111, 114, 32, 110, 111, 116, 104, 105, 110, 103, 63]
set_option maxRecDepth 1000000 in
theorem mac_jefe : macI jefe whatDo = [91, 220, 193, 70, 191, 96, 117, 78, 106, 4, 36, 38, 8, 149, 117, 199, 90, 0, 63, 8, 157, 39, 57, 131, 157, 236, 88, 185, 100, 236, 56, 67] := by decide +kernel
end Go.Proofs.YtdgnolmkpfdcmaaDoor
