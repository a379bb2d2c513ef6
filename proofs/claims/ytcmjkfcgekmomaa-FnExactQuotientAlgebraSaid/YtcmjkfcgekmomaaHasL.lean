/-
  Contract: spec.l1Has. Conditions: the bounds that it names.
-/
import Derived.Test.YtcmjkfcgekmomaaIsAlg
namespace Go.Proofs.Ytcmjkfcgekmomaa
open Go.RowKit
set_option linter.unusedVariables false
set_option linter.unusedSimpArgs false


end Go.Proofs.Ytcmjkfcgekmomaa
