/-
  Plain mathematics: tuples, and what an operation gives for some. No condition.
-/
import Derived.Test.YtfdolbpbddjhmaaIdxM
namespace Go.Proofs.Ytfdolbpbddjhmaa
open Go.RowKit
set_option linter.unusedVariables false
set_option linter.unusedSimpArgs false

def tupB (z k : Int) (t : List Int) : Bool := decide ((t.length : Int) = k) && allIn z t
def tupsB (z k : Int) (ls : List (List Int)) : Bool := ls.all (tupB z k) && inB 1 64 k
theorem tupB_of {z k : Int} {t : List Int} (h : tupB z k t = true) : (t.length : Int) = k ∧ allIn z t = true := by
  simpa [tupB] using h
theorem tups_get {z k : Int} {ls : List (List Int)} {j : Nat} {t : List Int} (h : ls.all (tupB z k) = true) (hj : ls[j]? = some t) : (t.length : Int) = k ∧ allIn z t = true :=
  tupB_of (List.all_eq_true.1 h t (List.mem_of_getElem? hj))
theorem all_take_succ {z k : Int} {ls : List (List Int)} {j : Nat} {t : List Int} (hj : ls[j]? = some t) (h : (ls.take j).all (tupB z k) = true) (ht : tupB z k t = true) : (ls.take (j + 1)).all (tupB z k) = true := by
  rw [List.take_add_one, hj, List.all_append, h]
  simp [ht]
theorem all_no {z k : Int} {ls : List (List Int)} {j : Nat} {t : List Int} (hj : ls[j]? = some t) (ht : tupB z k t = false) : tupsB z k ls = false := by
  have : ls.all (tupB z k) = false := by
    rw [← Bool.not_eq_true, List.all_eq_true]
    intro h
    have := h t (List.mem_of_getElem? hj)
    rw [ht] at this; cases this
  rw [tupsB, this]; rfl

/-- What stands at a place of some tuples. -/
def colL (ls : List (List Int)) (p : Nat) : List Int := ls.map (fun t => t.getD p 0)
theorem colL_len (ls : List (List Int)) (p : Nat) : (colL ls p).length = ls.length := by simp [colL]
theorem col_at {z : Int} {K p : Nat} {t : List Int} (h : (t.length : Int) = K) (ha : allIn z t = true) (hp : p < K) : ∃ x, t[p]? = some x ∧ t.getD p 0 = x ∧ 0 ≤ x ∧ x < z := by
  have hpl : p < t.length := by omega
  have h1 : t[p]? = some (t[p]'hpl) := List.getElem?_eq_getElem hpl
  obtain ⟨a, b⟩ := allIn_get ha h1
  exact ⟨_, h1, by rw [List.getD_eq_getElem?_getD, h1]; rfl, a, b⟩
theorem colL_get {ls : List (List Int)} {p j : Nat} {t : List Int} (hj : ls[j]? = some t) : (colL ls p)[j]? = some (t.getD p 0) := by simp [colL, hj]
theorem colL_in {z : Int} {K p : Nat} {ls : List (List Int)} (h : ls.all (tupB z K) = true) (hp : p < K) : allIn z (colL ls p) = true := by
  unfold allIn
  rw [List.all_eq_true]
  intro x hx
  obtain ⟨t, ht, rfl⟩ := List.mem_map.1 hx
  obtain ⟨a, b⟩ := tupB_of (List.all_eq_true.1 h t ht)
  obtain ⟨y, _, hy, y0, y1⟩ := col_at a b hp
  rw [hy]
  simp [y0, y1]
def appT (z : Int) (f : OpD) (ls : List (List Int)) (K : Nat) : List Int := (List.range K).map (fun p => atA z f (colL ls p))
theorem appT_len (z : Int) (f : OpD) (ls : List (List Int)) (K : Nat) : (appT z f ls K).length = K := by simp [appT]
theorem appT_succ (z : Int) (f : OpD) (ls : List (List Int)) (K : Nat) : appT z f ls (K + 1) = appT z f ls K ++ [atA z f (colL ls K)] := by simp [appT, List.range_succ]

end Go.Proofs.Ytfdolbpbddjhmaa
