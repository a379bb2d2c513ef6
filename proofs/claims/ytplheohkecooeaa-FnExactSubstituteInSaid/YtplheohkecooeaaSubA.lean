/-
  Plain mathematics: the subterm at a place and the term with another one in its place. No condition.
-/
import Derived.Test.YtplheohkecooeaaTerm
namespace Go.Proofs.Ytplheohkecooeaa
open Go.RowKit
set_option linter.unusedVariables false
set_option linter.unusedSimpArgs false

/-- The subterm at a place, and a term with another one there. -/
def subA (fs : List OpD) (xs : List Int) (k : Nat) : List Int := (xs.take ((endA fs xs k).getD 0)).drop k
def valSubtermAt (z : Int) (fs : List OpD) (xs : List Int) (at_ : Int) : List Int × Bool := if isTermB z fs xs && decide (0 ≤ at_ ∧ at_ < (xs.length : Int)) then (subA fs xs at_.toNat, true) else ([], false)
theorem smallSubtermAt (z : Int) (fs : List OpD) (xs : List Int) (at_ : Int) : (valSubtermAt z fs xs at_).1.length ≤ 4194304 := by
  unfold valSubtermAt
  split
  · rename_i h
    simp only [Bool.and_eq_true] at h
    have := (isTermB_of h.1).2.1
    simp only [subA, List.length_drop, List.length_take]
    omega
  · simp
def repA (fs : List OpD) (xs : List Int) (k : Nat) (by_ : List Int) : List Int := xs.take k ++ by_ ++ xs.drop ((endA fs xs k).getD 0)
def valReplaceAt (z : Int) (fs : List OpD) (xs : List Int) (at_ : Int) (by_ : List Int) : List Int × Bool :=
  if (algOkB z fs && (termB fs xs && termB fs by_)) && decide (0 ≤ at_ ∧ at_ < (xs.length : Int)) then (if (repA fs xs at_.toNat by_).length ≤ 60 then (repA fs xs at_.toNat by_, true) else ([], false)) else ([], false)
theorem smallReplaceAt (z : Int) (fs : List OpD) (xs : List Int) (at_ : Int) (by_ : List Int) : (valReplaceAt z fs xs at_ by_).1.length ≤ 4194304 := by
  unfold valReplaceAt
  split
  · split
    · simp only; omega
    · simp
  · simp

end Go.Proofs.Ytplheohkecooeaa
