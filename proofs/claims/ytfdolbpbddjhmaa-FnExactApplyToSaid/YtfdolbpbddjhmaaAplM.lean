/-
  Plain mathematics: what ApplyTo tells. No condition.
-/
import Derived.Test.YtfdolbpbddjhmaaTplM
import Derived.Test.YtfdolbpbddjhmaaTakes
namespace Go.Proofs.Ytfdolbpbddjhmaa
open Go.RowKit
set_option linter.unusedVariables false
set_option linter.unusedSimpArgs false

def valApplyTo (z : Int) (fs : List OpD) (op : Int) (ls : List (List Int)) : List Int × Bool :=
  if takesB z fs op && (!((fs.getD op.toNat (0, [])).1 == 0) && (decide ((ls.length : Int) = (fs.getD op.toNat (0, [])).1) && tupsB z ((ls.getD 0 []).length : Int) ls)) then (appT z (fs.getD op.toNat (0, [])) ls (ls.getD 0 []).length, true) else ([], false)
theorem smallApplyTo (z : Int) (fs : List OpD) (op : Int) (ls : List (List Int)) : (valApplyTo z fs op ls).1.length ≤ 4194304 := by
  unfold valApplyTo
  split
  · rename_i h
    simp only [tupsB, inB, Bool.and_eq_true, decide_eq_true_eq] at h
    rw [appT_len]; omega
  · simp
theorem apl_no {z : Int} {fs : List OpD} {op : Int} (ls : List (List Int)) (h : takesB z fs op = false) : valApplyTo z fs op ls = ([], false) := by simp [valApplyTo, h]
theorem apl_getD {fs : List OpD} {k : Nat} {f : OpD} (hf : fs[k]? = some f) : fs.getD ((k : Int)).toNat (0, []) = f := by
  rw [Int.toNat_natCast, List.getD_eq_getElem?_getD, hf]; rfl
theorem apl_zero {z : Int} {fs : List OpD} {k : Nat} {f : OpD} (ls : List (List Int)) (hf : fs[k]? = some f) (h : f.1 = 0) : valApplyTo z fs (k : Int) ls = ([], false) := by
  rw [valApplyTo, apl_getD hf, h]; simp
theorem apl_len {z : Int} {fs : List OpD} {k : Nat} {f : OpD} {ls : List (List Int)} (hf : fs[k]? = some f) (h : (ls.length : Int) ≠ f.1) : valApplyTo z fs (k : Int) ls = ([], false) := by
  rw [valApplyTo, apl_getD hf]; simp [h]
theorem apl_tup {z : Int} {fs : List OpD} {k : Nat} {f : OpD} {ls : List (List Int)} {t : List Int} {r : Bool} (hk : takesB z fs (k : Int) = true) (hf : fs[k]? = some f) (h0 : f.1 ≠ 0) (h : (ls.length : Int) = f.1) (ht : ls[0]? = some t) (hr : tupsB z (t.length : Int) ls = r) : valApplyTo z fs (k : Int) ls = if r then (appT z f ls t.length, true) else ([], false) := by
  have e : ls.getD 0 [] = t := by rw [List.getD_eq_getElem?_getD, ht]; rfl
  rw [valApplyTo, apl_getD hf, hk, e, hr, decide_eq_true h]
  have : (f.1 == 0) = false := by simp [h0]
  rw [this]
  simp

end Go.Proofs.Ytfdolbpbddjhmaa
