/-
  Plain mathematics: one step of the renaming of variables. No condition.
-/
import Derived.Test.YtplheohkecooeaaNormM
namespace Go.Proofs.Ytplheohkecooeaa
open Go.RowKit
set_option linter.unusedVariables false

/-- The place of a number in a list, or the list's length. -/
def ixO : List Int → Int → Nat
  | [], _ => 0
  | y :: r, x => if y = x then 0 else ixO r x + 1
theorem ixO_hit {x : Int} : ∀ {l : List Int} {q : Nat}, l[q]? = some x → (∀ (j : Nat) (y : Int), j < q → l[j]? = some y → y ≠ x) → ixO l x = q ∧ x ∈ l
  | [], q, h, _ => by simp at h
  | y :: r, 0, h, _ => by simp at h; subst h; simp [ixO]
  | y :: r, q + 1, h, hn => by
    have h0 := hn 0 y (by omega) rfl
    obtain ⟨h1, h2⟩ := ixO_hit (l := r) (q := q) (by simpa using h) fun j z hj hz => hn (j + 1) z (by omega) (by simpa using hz)
    exact ⟨by rw [ixO, if_neg h0, h1], List.mem_cons_of_mem _ h2⟩
theorem ixO_new {x : Int} : ∀ {l : List Int}, (∀ (j : Nat) (y : Int), l[j]? = some y → y ≠ x) → ixO l x = l.length ∧ x ∉ l
  | [], _ => by simp [ixO]
  | y :: r, hn => by
    have h0 := hn 0 y rfl
    obtain ⟨h1, h2⟩ := ixO_new (l := r) fun j z hz => hn (j + 1) z (by simpa using hz)
    refine ⟨by rw [ixO, if_neg h0, h1]; simp, ?_⟩
    rw [List.mem_cons]
    rintro (h | h)
    · exact h0 h.symm
    · exact h2 h

theorem ixO_eq (x : Int) : ∀ l : List Int, l.idxOf x = ixO l x
  | [] => rfl
  | y :: r => by
    have ih := ixO_eq x r
    rw [List.idxOf_cons, ixO, ih]
    by_cases h : y = x
    · simp [h]
    · have h2 : (y == x) = false := by rw [beq_eq_false_iff_ne]; exact h
      simp [h, h2]

theorem norm_op {xs : List Int} {k : Nat} {x : Int} (hx : xs[k]? = some x) (h : x < 0) : normS (xs.take (k + 1)) = ((normS (xs.take k)).1, (normS (xs.take k)).2 ++ [x]) := by
  rw [normS_succ hx, normStep, if_pos h]
theorem norm_in {xs : List Int} {k q : Nat} {x : Int} (hx : xs[k]? = some x) (h : ¬ x < 0) (h1 : (normS (xs.take k)).1[q]? = some x) (h2 : ∀ (j : Nat) (y : Int), j < q → (normS (xs.take k)).1[j]? = some y → y ≠ x) : normS (xs.take (k + 1)) = ((normS (xs.take k)).1, (normS (xs.take k)).2 ++ [(q : Int)]) := by
  obtain ⟨h3, h4⟩ := ixO_hit h1 h2
  rw [normS_succ hx, normStep, if_neg h, if_pos h4, ixO_eq, h3]
theorem norm_new {xs : List Int} {k : Nat} {x : Int} (hx : xs[k]? = some x) (h : ¬ x < 0) (h1 : ∀ (j : Nat) (y : Int), (normS (xs.take k)).1[j]? = some y → y ≠ x) : normS (xs.take (k + 1)) = ((normS (xs.take k)).1 ++ [x], (normS (xs.take k)).2 ++ [((normS (xs.take k)).1.length : Int)]) := by
  obtain ⟨h3, h4⟩ := ixO_new h1
  rw [normS_succ hx, normStep, if_neg h, if_neg h4, ixO_eq, h3]

end Go.Proofs.Ytplheohkecooeaa
