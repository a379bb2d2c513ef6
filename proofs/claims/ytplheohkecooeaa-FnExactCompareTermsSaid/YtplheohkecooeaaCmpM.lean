/-
  Plain mathematics: the order of two terms. No condition.
-/
import Derived.Test.YtplheohkecooeaaTerm
namespace Go.Proofs.Ytplheohkecooeaa
open Go.RowKit
set_option linter.unusedVariables false

/-- The lexicographic order of two lists of numbers. -/
def cmpL : List Int → List Int → Int
  | [], [] => 0
  | [], _ :: _ => -1
  | _ :: _, [] => 1
  | a :: s, b :: t => if a < b then -1 else if b < a then 1 else cmpL s t
def lenC (s t : List Int) : Int := if s.length < t.length then -1 else if t.length < s.length then 1 else 0
def ordL (s t : List Int) : Int := if lenC s t = 0 then cmpL s t else lenC s t
def valCompareTerms (z : Int) (fs : List OpD) (s t : List Int) : Int × Bool := if algOkB z fs && (termB fs s && termB fs t) then (ordL s t, true) else (0, false)

theorem cmpL_eq {s t : List Int} {k : Nat} {x : Int} (h1 : s[k]? = some x) (h2 : t[k]? = some x) : cmpL (s.drop k) (t.drop k) = cmpL (s.drop (k + 1)) (t.drop (k + 1)) := by
  rw [drop_get h1, drop_get h2, cmpL, if_neg (by omega), if_neg (by omega)]
theorem cmpL_lt {s t : List Int} {k : Nat} {x y : Int} (h1 : s[k]? = some x) (h2 : t[k]? = some y) (h : x < y) : cmpL (s.drop k) (t.drop k) = -1 := by
  rw [drop_get h1, drop_get h2, cmpL, if_pos h]
theorem cmpL_gt {s t : List Int} {k : Nat} {x y : Int} (h1 : s[k]? = some x) (h2 : t[k]? = some y) (h : y < x) : cmpL (s.drop k) (t.drop k) = 1 := by
  rw [drop_get h1, drop_get h2, cmpL, if_neg (by omega), if_pos h]
theorem cmpL_both {s t : List Int} {k : Nat} (h1 : s.length ≤ k) (h2 : t.length ≤ k) : cmpL (s.drop k) (t.drop k) = 0 := by
  rw [List.drop_eq_nil_of_le h1, List.drop_eq_nil_of_le h2]; rfl
theorem cmpL_left {s t : List Int} {k : Nat} (h1 : s.length ≤ k) (h2 : k < t.length) : cmpL (s.drop k) (t.drop k) = -1 := by
  rw [List.drop_eq_nil_of_le h1, List.drop_eq_getElem_cons h2]; rfl
theorem cmpL_right {s t : List Int} {k : Nat} (h1 : k < s.length) (h2 : t.length ≤ k) : cmpL (s.drop k) (t.drop k) = 1 := by
  rw [List.drop_eq_nil_of_le h2, List.drop_eq_getElem_cons h1]; rfl
theorem cmpL_swap : ∀ (s t : List Int), cmpL t s = - cmpL s t
  | [], [] => rfl
  | [], _ :: _ => rfl
  | _ :: _, [] => rfl
  | a :: s, b :: t => by
    have ih := cmpL_swap s t
    simp only [cmpL]
    by_cases h1 : a < b
    · have h2 : ¬ b < a := by omega
      simp [h1, h2]
    · by_cases h2 : b < a
      · simp [h1, h2]
      · simp [h1, h2, ih]
theorem ordL_swap (s t : List Int) : ordL t s = - ordL s t := by
  have h := cmpL_swap s t
  unfold ordL lenC
  by_cases h1 : s.length < t.length
  · have h2 : ¬ t.length < s.length := by omega
    simp [h1, h2]
  · by_cases h2 : t.length < s.length
    · simp [h1, h2]
    · simp [h1, h2, h]
/-- s is before t. -/
def befB (s t : List Int) : Bool := ordL s t == -1
theorem ordL_len {s t : List Int} (h : s.length = t.length) : ordL s t = cmpL s t := by
  unfold ordL lenC
  have h1 : ¬ s.length < t.length := by omega
  have h2 : ¬ t.length < s.length := by omega
  simp [h1, h2]
theorem befB_lt {s t : List Int} (h : s.length < t.length) : befB s t = true := by
  simp [befB, ordL, lenC, h]
theorem befB_gt {s t : List Int} (h : t.length < s.length) : befB s t = false := by
  have h2 : ¬ s.length < t.length := by omega
  simp [befB, ordL, lenC, h, h2]
theorem cmpL_cases : ∀ (s t : List Int), cmpL s t = -1 ∨ cmpL s t = 0 ∨ cmpL s t = 1
  | [], [] => .inr (.inl rfl)
  | [], _ :: _ => .inl rfl
  | _ :: _, [] => .inr (.inr rfl)
  | a :: s, b :: t => by
    simp only [cmpL]
    split
    · exact .inl rfl
    · split
      · exact .inr (.inr rfl)
      · exact cmpL_cases s t
theorem ordL_cases (s t : List Int) : ordL s t = -1 ∨ ordL s t = 0 ∨ ordL s t = 1 := by
  unfold ordL lenC
  by_cases h1 : s.length < t.length
  · simp [h1]
  · by_cases h2 : t.length < s.length
    · simp [h1, h2]
    · simp [h1, h2]; exact cmpL_cases s t

end Go.Proofs.Ytplheohkecooeaa
