/-
  Contract: spec.l2Elements. Conditions: the bounds that it names.
-/
import Derived.Test.YtmlimbjpehjfnaaGood
namespace Go.Proofs.Ytmlimbjpehjfnaa
open Go.RowKit
set_option linter.unusedVariables false
set_option linter.unusedSimpArgs false


end Go.Proofs.Ytmlimbjpehjfnaa
