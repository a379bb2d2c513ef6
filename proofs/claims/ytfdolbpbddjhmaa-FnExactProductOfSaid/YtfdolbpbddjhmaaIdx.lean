/-
  Contract: impl.indexOfArgs: the place of a list of arguments in a table. Conditions: the bounds that it names.
-/
import Derived.Test.YtfdolbpbddjhmaaIdxM
import Derived.Test.YtfdolbpbddjhmaaIsAlg
namespace Go.Proofs.Ytfdolbpbddjhmaa
open Go.RowKit
set_option linter.unusedVariables false
set_option linter.unusedSimpArgs false


end Go.Proofs.Ytfdolbpbddjhmaa
