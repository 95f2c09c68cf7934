/-
  The walks of the reference's Bytes32 and Text.
-/
import Derived.Test.YtkaaejfochdjcaaDoorHEq
namespace Go.Proofs.YtkaaejfochdjcaaDoor
open Go.RowKit
open Sha
set_option linter.unusedVariables false

end Go.Proofs.YtkaaejfochdjcaaDoor
