/-
  The statement's fact: a message in two parts. Of no program.
-/
import Derived.Test.YtgbbkdflnlagaaaDoorMimeTies
import Derived.ProofKit
namespace Go.Proofs.Mm
open Go.Proofs.Sq Go.Proofs.Hd

def partedT : Tx := [67, 111, 110, 116, 101, 110, 116, 45, 84, 121, 112, 101, 58, 32, 109, 117, 108, 116, 105, 112, 97, 114, 116, 47, 109, 105, 120, 101, 100, 59, 32, 98, 111, 117, 110, 100, 97, 114, 121, 61, 98, 13, 10, 13, 10, 45, 45, 98, 13, 10, 13, 10, 111, 110, 101, 13, 10, 45, 45, 98, 13, 10, 13, 10, 116, 119, 111, 13, 10, 45, 45, 98, 45, 45, 13, 10]
def mixedT : Tx := [109, 117, 108, 116, 105, 112, 97, 114, 116, 47, 109, 105, 120, 101, 100]
def partedP : Pt := .mk mixedT [98] 45 76 7 [.mk plainT [] 52 55 0 [], .mk plainT [] 64 67 0 []]
theorem parted_parse : parseP partedT = some partedP := by kernel_rfl
theorem parted_print : printP partedP = [40, 40, 34, 116, 101, 120, 116, 47, 112, 108, 97, 105, 110, 34, 32, 48, 32, 51, 41, 32, 40, 34, 116, 101, 120, 116, 47, 112, 108, 97, 105, 110, 34, 32, 48, 32, 51, 41, 32, 34, 109, 117, 108, 116, 105, 112, 97, 114, 116, 47, 109, 105, 120, 101, 100, 34, 41] := by kernel_rfl
end Go.Proofs.Mm
