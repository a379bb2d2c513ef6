/-
  Contracts: impl.someElements and spec.l5Some: some elements of a valid algebra. Conditions: the bounds that each theorem names.
-/
import Derived.Test.YtcmjkfcgekmomaaAreE
import Derived.Test.YtcmjkfcgekmomaaSetB
import Derived.Test.YtcmjkfcgekmomaaIsAlg
import Derived.Test.YtcmjkfcgekmomaaElems
import Derived.Test.YtcmjkfcgekmomaaStep
namespace Go.Proofs.Ytcmjkfcgekmomaa
open Go.RowKit
set_option linter.unusedVariables false
set_option linter.unusedSimpArgs false

/-- Some elements of a valid algebra, at most 20. -/
def someB (z : Int) (fs : List OpD) (xs : List Int) : Bool := algOkB z fs && (decide (xs.length ≤ 20) && allIn z xs)
theorem someB_alg {z : Int} {fs : List OpD} {xs : List Int} (h : algOkB z fs = false) : someB z fs xs = false := by simp [someB, h]
theorem someB_long {z : Int} {fs : List OpD} {xs : List Int} (h : ¬ xs.length ≤ 20) : someB z fs xs = false := by simp [someB, h]
theorem someB_in {z : Int} {fs : List OpD} {xs : List Int} (h : algOkB z fs = true) (h2 : xs.length ≤ 20) : someB z fs xs = allIn z xs := by simp [someB, h, h2]
theorem someB_of {z : Int} {fs : List OpD} {xs : List Int} (h : someB z fs xs = true) : algOkB z fs = true ∧ xs.length ≤ 20 ∧ allIn z xs = true := by
  simp only [someB, Bool.and_eq_true, decide_eq_true_eq] at h
  exact h
theorem alg_dom {z : Int} {fs : List OpD} (h : algOkB z fs = true) : 1 ≤ z ∧ z ≤ 8 := (algOkB_of h).1



end Go.Proofs.Ytcmjkfcgekmomaa
