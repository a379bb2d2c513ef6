/-
  Plain mathematics: the first place of an element in a list. No condition.
-/
import Derived.Test.YtcmjkfcgekmomaaPlain
namespace Go.Proofs.Ytcmjkfcgekmomaa
open Go.RowKit
set_option linter.unusedVariables false
set_option linter.unusedSimpArgs false

/-- The first place of an element in a list, or the list's length. -/
def ixP : List Int → Int → Nat
  | [], _ => 0
  | y :: r, x => if y = x then 0 else ixP r x + 1
theorem ixP_hit {x : Int} : ∀ {l : List Int} {q : Nat}, l[q]? = some x → (∀ (j : Nat) (y : Int), j < q → l[j]? = some y → y ≠ x) → ixP l x = q ∧ x ∈ l
  | [], q, h, _ => by simp at h
  | y :: r, 0, h, _ => by simp at h; subst h; simp [ixP]
  | y :: r, q + 1, h, hn => by
    have h0 := hn 0 y (by omega) rfl
    obtain ⟨h1, h2⟩ := ixP_hit (l := r) (q := q) (by simpa using h) fun j z hj hz => hn (j + 1) z (by omega) (by simpa using hz)
    exact ⟨by rw [ixP, if_neg h0, h1], List.mem_cons_of_mem _ h2⟩
theorem ixP_lt {x : Int} : ∀ {l : List Int}, x ∈ l → ixP l x < l.length
  | [], h => by cases h
  | y :: r, h => by
    rw [ixP]
    split
    · simp
    · rename_i h0
      rcases List.mem_cons.1 h with h | h
      · exact absurd h.symm h0
      · have := ixP_lt h; simp; omega
/-- The place of an element, or -1. -/
def plI (xs : List Int) (v : Int) : Int := if v ∈ xs then (ixP xs v : Int) else -1
theorem plI_bd (xs : List Int) (v : Int) : -1 ≤ plI xs v ∧ plI xs v < xs.length ∨ xs = [] := by
  unfold plI
  split
  · rename_i h; have := ixP_lt h; left; omega
  · cases xs with
    | nil => right; rfl
    | cons y r => left; simp; omega
theorem plI_hit {xs : List Int} {q : Nat} {v : Int} (h : xs[q]? = some v) (hn : ¬ v ∈ xs.take q) : plI xs v = (q : Int) := by
  obtain ⟨h1, h2⟩ := ixP_hit h fun j y hj hy e => hn (by
    subst e
    have : (xs.take q)[j]? = some y := by rw [List.getElem?_take, if_pos hj, hy]
    exact List.mem_of_getElem? this)
  rw [plI, if_pos h2, h1]
theorem plI_no {xs : List Int} {v : Int} (hn : ¬ v ∈ xs) : plI xs v = -1 := by rw [plI, if_neg hn]

end Go.Proofs.Ytcmjkfcgekmomaa
