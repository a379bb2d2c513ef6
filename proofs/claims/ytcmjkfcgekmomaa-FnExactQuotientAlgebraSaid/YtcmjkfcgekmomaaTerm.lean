/-
  Plain mathematics on terms: how many terms a number has behind it, where a term ends, and what a list must be to be one. No condition.
-/
import Derived.Test.YtcmjkfcgekmomaaIdxM
import Derived.Test.YtcmjkfcgekmomaaIsAlg
namespace Go.Proofs.Ytcmjkfcgekmomaa
open Go.RowKit
set_option linter.unusedVariables false

/-- How many terms a number of a term has behind it, if it is one. -/
def beh (fs : List OpD) (x : Int) : Option Int :=
  if 0 ≤ x then (if x < 6 then some 0 else none) else (fs[(-1 - x).toNat]?).map (·.1)
/-- The place behind the last of m terms that begin with xs, where k numbers lie ahead. -/
def endN (fs : List OpD) : List Int → Int → Nat → Option Nat
  | [], _, _ => none
  | x :: r, m, k => match beh fs x with
    | none => none
    | some b => if m + (b - 1) = 0 then some (k + 1) else endN fs r (m + (b - 1)) (k + 1)
def endA (fs : List OpD) (xs : List Int) (k : Nat) : Option Nat := endN fs (xs.drop k) 1 k
def termB (fs : List OpD) (xs : List Int) : Bool := decide (xs.length ≤ 60) && (endA fs xs 0 == some xs.length)
def isTermB (z : Int) (fs : List OpD) (xs : List Int) : Bool := algOkB z fs && termB fs xs

theorem drop_get {α : Type} {xs : List α} {k : Nat} {x : α} (h : xs[k]? = some x) : xs.drop k = x :: xs.drop (k + 1) := by
  obtain ⟨hk, rfl⟩ := List.getElem?_eq_some_iff.1 h
  exact List.drop_eq_getElem_cons hk
theorem endN_stop {fs : List OpD} {xs : List Int} {k : Nat} {m : Int} (h : xs.length ≤ k) : endN fs (xs.drop k) m k = none := by
  rw [List.drop_eq_nil_of_le h]; rfl
theorem endN_bad {fs : List OpD} {xs : List Int} {k : Nat} {m x : Int} (h : xs[k]? = some x) (hb : beh fs x = none) : endN fs (xs.drop k) m k = none := by
  rw [drop_get h, endN, hb]
theorem endN_last {fs : List OpD} {xs : List Int} {k : Nat} {m x b : Int} (h : xs[k]? = some x) (hb : beh fs x = some b) (h0 : m + (b - 1) = 0) : endN fs (xs.drop k) m k = some (k + 1) := by
  rw [drop_get h, endN, hb]; simp [h0]
theorem endN_on {fs : List OpD} {xs : List Int} {k : Nat} {m x b : Int} (h : xs[k]? = some x) (hb : beh fs x = some b) (h0 : ¬ m + (b - 1) = 0) : endN fs (xs.drop k) m k = endN fs (xs.drop (k + 1)) (m + (b - 1)) (k + 1) := by
  rw [drop_get h, endN, hb]; simp [h0]

theorem beh_var {fs : List OpD} {x : Int} (h0 : 0 ≤ x) (h1 : x < 6) : beh fs x = some 0 := by simp [beh, h0, h1]
theorem beh_big {fs : List OpD} {x : Int} (h1 : 6 ≤ x) : beh fs x = none := by
  have h0 : 0 ≤ x := by omega
  have h2 : ¬ x < 6 := by omega
  simp [beh, h0, h2]
theorem beh_op {fs : List OpD} {x : Int} {j : Nat} {f : OpD} (h : x < 0) (hj : -1 - x = (j : Int)) (hf : fs[j]? = some f) : beh fs x = some f.1 := by
  have h0 : ¬ 0 ≤ x := by omega
  have h1 : (-1 - x).toNat = j := by omega
  simp [beh, h0, h1, hf]
theorem beh_noop {fs : List OpD} {x : Int} (h : x < 0) (hj : (fs.length : Int) ≤ -1 - x) : beh fs x = none := by
  have h0 : ¬ 0 ≤ x := by omega
  have h1 : fs[(-1 - x).toNat]? = none := List.getElem?_eq_none (by omega)
  simp [beh, h0, h1]
theorem beh_bd {z : Int} {fs : List OpD} {x b : Int} (hok : algOkB z fs = true) (h : beh fs x = some b) : 0 ≤ b ∧ b ≤ 3 := by
  unfold beh at h
  split at h
  · split at h
    · injection h with h; omega
    · cases h
  · obtain ⟨f, hf, rfl⟩ := Option.map_eq_some_iff.1 h
    have := (opOkB_of ((algOkB_of hok).2.2 f (List.mem_of_getElem? hf))).1
    omega

theorem endN_gt {fs : List OpD} : ∀ {xs : List Int} {m : Int} {k e : Nat}, endN fs xs m k = some e → k < e ∧ e ≤ k + xs.length
  | [], _, _, _, h => by cases h
  | x :: r, m, k, e, h => by
    rw [endN] at h
    cases hb : beh fs x with
    | none => rw [hb] at h; cases h
    | some b =>
      rw [hb] at h
      dsimp only at h
      split at h
      · injection h with h; simp; omega
      · have := endN_gt h; simp; omega
theorem endA_gt {fs : List OpD} {xs : List Int} {k e : Nat} (h : endA fs xs k = some e) : k < e ∧ e ≤ xs.length := by
  have h1 := endN_gt h
  rw [List.length_drop] at h1
  by_cases hk : k ≤ xs.length
  · omega
  · unfold endA at h; rw [endN_stop (by omega)] at h; cases h

/-- With fewer terms missing, the end comes no later. -/
theorem endN_less {z : Int} {fs : List OpD} (hok : algOkB z fs = true) : ∀ {xs : List Int} {m m' : Int} {k e : Nat}, endN fs xs m k = some e → 1 ≤ m' → m' ≤ m → ∃ e', endN fs xs m' k = some e' ∧ e' ≤ e
  | [], _, _, _, _, h, _, _ => by cases h
  | x :: r, m, m', k, e, h, h1, h2 => by
    rw [endN] at h ⊢
    cases hb : beh fs x with
    | none => rw [hb] at h; cases h
    | some b =>
      have hbd := beh_bd hok hb
      rw [hb] at h
      dsimp only at h ⊢
      split at h
      · injection h with h
        have : m' + (b - 1) = 0 := by omega
        rw [if_pos this]
        exact ⟨_, rfl, by omega⟩
      · have hg := endN_gt h
        by_cases h0 : m' + (b - 1) = 0
        · rw [if_pos h0]
          exact ⟨_, rfl, by omega⟩
        · rw [if_neg h0]
          exact endN_less hok h (by omega) (by omega)
/-- Ahead of the end some terms are missing. -/
theorem endN_mid {z : Int} {fs : List OpD} {xs : List Int} {e : Nat} (hok : algOkB z fs = true) (h : endA fs xs 0 = some e) : ∀ k, k < e → ∃ m : Int, 1 ≤ m ∧ endN fs (xs.drop k) m k = some e := by
  intro k
  induction k with
  | zero => intro _; exact ⟨1, by omega, h⟩
  | succ k ih =>
    intro hk
    obtain ⟨m, h1, h2⟩ := ih (by omega)
    have hlt : k < xs.length := by
      rcases Nat.lt_or_ge k xs.length with h3 | h3
      · exact h3
      · rw [endN_stop h3] at h2; cases h2
    have hx : xs[k]? = some (xs[k]'hlt) := List.getElem?_eq_getElem hlt
    cases hb : beh fs (xs[k]'hlt) with
    | none => rw [endN_bad hx hb] at h2; cases h2
    | some b =>
      have hbd := beh_bd hok hb
      by_cases h0 : m + (b - 1) = 0
      · rw [endN_last hx hb h0] at h2; injection h2 with h2; omega
      · rw [endN_on hx hb h0] at h2
        exact ⟨_, by omega, h2⟩
theorem isTermB_of {z : Int} {fs : List OpD} {xs : List Int} (h : isTermB z fs xs = true) : algOkB z fs = true ∧ xs.length ≤ 60 ∧ endA fs xs 0 = some xs.length := by
  unfold isTermB termB at h
  simp only [Bool.and_eq_true, decide_eq_true_eq, beq_iff_eq] at h
  exact ⟨h.1, h.2.1, h.2.2⟩
theorem term_pos {fs : List OpD} {xs : List Int} {e : Nat} (h : endA fs xs 0 = some e) : 0 < xs.length := by
  have := endA_gt h; omega
/-- At each place of a term a subterm begins. -/
theorem term_sub {z : Int} {fs : List OpD} {xs : List Int} (hok : algOkB z fs = true) (h : endA fs xs 0 = some xs.length) {k : Nat} (hk : k < xs.length) : ∃ e, endA fs xs k = some e ∧ k < e ∧ e ≤ xs.length := by
  obtain ⟨m, h1, h2⟩ := endN_mid hok h k hk
  obtain ⟨e, h3, h4⟩ := endN_less hok h2 (by omega : (1 : Int) ≤ 1) h1
  have h5 : endA fs xs k = some e := h3
  exact ⟨e, h5, endA_gt h5⟩
/-- Each number of a term is a variable or an operation. -/
theorem term_beh {z : Int} {fs : List OpD} {xs : List Int} (hok : algOkB z fs = true) (h : endA fs xs 0 = some xs.length) {k : Nat} {x : Int} (hx : xs[k]? = some x) : ∃ b, beh fs x = some b := by
  have hk : k < xs.length := (List.getElem?_eq_some_iff.1 hx).1
  obtain ⟨m, h1, h2⟩ := endN_mid hok h k hk
  cases hb : beh fs x with
  | none => rw [endN_bad hx hb] at h2; cases h2
  | some b => exact ⟨b, rfl⟩
theorem term_lt {z : Int} {fs : List OpD} {xs : List Int} (hok : algOkB z fs = true) (h : endA fs xs 0 = some xs.length) {k : Nat} {x : Int} (hx : xs[k]? = some x) : x < 6 ∧ -(fs.length : Int) ≤ x := by
  obtain ⟨b, hb⟩ := term_beh hok h hx
  unfold beh at hb
  split at hb
  · split at hb
    · exact ⟨by omega, by omega⟩
    · cases hb
  · obtain ⟨f, hf, rfl⟩ := Option.map_eq_some_iff.1 hb
    have := (List.getElem?_eq_some_iff.1 hf).1
    exact ⟨by omega, by omega⟩

end Go.Proofs.Ytcmjkfcgekmomaa
