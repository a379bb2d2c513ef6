/-
  Plain mathematics: lists that are terms. No condition.
-/
import Derived.Test.YtplheohkecooeaaTerm
import Derived.Test.YtplheohkecooeaaLView
namespace Go.Proofs.Ytplheohkecooeaa
open Go.RowKit
set_option linter.unusedVariables false

/-- An algebra that is valid, and lists that are terms for it. -/
def areB (z : Int) (fs : List OpD) (xss : List (List Int)) : Bool := algOkB z fs && xss.all (termB fs)
theorem areB_one {z : Int} {fs : List OpD} {xs : List Int} : areB z fs [xs] = isTermB z fs xs := by simp [areB, isTermB]
theorem areB_two {z : Int} {fs : List OpD} {xs ys : List Int} : areB z fs [xs, ys] = (algOkB z fs && (termB fs xs && termB fs ys)) := by simp [areB]
theorem areB_succ {fs : List OpD} {xss : List (List Int)} {k : Nat} {xs : List Int} (hx : xss[k]? = some xs) (h : (xss.take k).all (termB fs) = true) (ht : termB fs xs = true) : (xss.take (k + 1)).all (termB fs) = true := by
  rw [List.take_add_one, hx, List.all_append, h]; simp [ht]
theorem areB_no {z : Int} {fs : List OpD} {xss : List (List Int)} {k : Nat} {xs : List Int} (hx : xss[k]? = some xs) (ht : termB fs xs = false) : areB z fs xss = false := by
  rw [← Bool.not_eq_true]
  intro ha
  unfold areB at ha
  simp only [Bool.and_eq_true] at ha
  have := List.all_eq_true.1 ha.2 xs (List.mem_of_getElem? hx)
  rw [ht] at this; cases this
theorem termB_long {fs : List OpD} {xs : List Int} (h : 60 < xs.length) : termB fs xs = false := by
  have h2 : ¬ xs.length ≤ 60 := by omega
  simp [termB, h2]
theorem termB_none {fs : List OpD} {xs : List Int} (h : endA fs xs 0 = none) : termB fs xs = false := by simp [termB, h]
theorem termB_part {fs : List OpD} {xs : List Int} {e : Nat} (h : endA fs xs 0 = some e) (h1 : ¬ e = xs.length) : termB fs xs = false := by simp [termB, h, h1]
theorem termB_yes {fs : List OpD} {xs : List Int} (h0 : xs.length ≤ 60) (h : endA fs xs 0 = some xs.length) : termB fs xs = true := by simp [termB, h, h0]

end Go.Proofs.Ytplheohkecooeaa
