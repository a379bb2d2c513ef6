/-
  Plain mathematics: the partition by equal values. No condition.
-/
import Derived.Test.YtcmjkfcgekmomaaPlM
namespace Go.Proofs.Ytcmjkfcgekmomaa
set_option linter.unusedVariables false
set_option linter.unusedSimpArgs false

def kerL (xs : List Int) : List Int := xs.map (plI xs)
theorem kerL_len (xs : List Int) : (kerL xs).length = xs.length := by simp [kerL]
theorem kerL_get {xs : List Int} {k : Nat} {x : Int} (h : xs[k]? = some x) : (kerL xs)[k]? = some (plI xs x) := by simp [kerL, h]
theorem kerL_take {xs : List Int} {k : Nat} {x : Int} (h : xs[k]? = some x) : (kerL xs).take (k + 1) = (kerL xs).take k ++ [plI xs x] := by
  rw [List.take_add_one, kerL_get h]; rfl

end Go.Proofs.Ytcmjkfcgekmomaa
