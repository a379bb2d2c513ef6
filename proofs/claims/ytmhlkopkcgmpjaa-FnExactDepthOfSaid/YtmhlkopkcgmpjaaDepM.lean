/-
  Plain mathematics: the depth of a term. No condition.
-/
import Derived.Test.YtmhlkopkcgmpjaaFoldM
namespace Go.Proofs.Ytmhlkopkcgmpjaa
open Go.RowKit
set_option linter.unusedVariables false
set_option linter.unusedSimpArgs false

theorem partsN_fuel {fs : List OpD} {xs : List Int} (h : ∀ j, j < xs.length → ∃ e, endA fs xs j = some e ∧ j < e ∧ e ≤ xs.length) : ∀ {n n' k : Nat}, xs.length ≤ k + n → xs.length ≤ k + n' → partsN fs xs n k = partsN fs xs n' k
  | 0, 0, _, _, _ => rfl
  | 0, n' + 1, k, h1, h2 => by rw [partsN, partsN, if_neg (by omega)]
  | n + 1, 0, k, h1, h2 => by rw [partsN, partsN, if_neg (by omega)]
  | n + 1, n' + 1, k, h1, h2 => by
    rw [partsN, partsN]
    by_cases hk : k < xs.length
    · obtain ⟨e, h3, h4, h5⟩ := h k hk
      rw [if_pos hk, if_pos hk, h3, Option.getD_some, partsN_fuel h (n := n) (n' := n') (by omega) (by omega)]
    · rw [if_neg hk, if_neg hk]
/-- The terms behind one another from a place on. -/
def partsA (fs : List OpD) (xs : List Int) (k : Nat) : List (List Int) := partsN fs xs xs.length k
theorem partsA_end {fs : List OpD} {xs : List Int} {k : Nat} (h : xs.length ≤ k) : partsA fs xs k = [] := by
  unfold partsA
  cases hl : xs.length with
  | zero => rfl
  | succ n => rw [partsN, if_neg (by omega)]
theorem partsA_step {z : Int} {fs : List OpD} {xs : List Int} {k e : Nat} (hok : algOkB z fs = true) (h : endA fs xs 0 = some xs.length) (hk : k < xs.length) (he : endA fs xs k = some e) : partsA fs xs k = subA fs xs k :: partsA fs xs e := by
  obtain ⟨g1, g2⟩ := endA_gt he
  unfold partsA
  rw [show partsN fs xs xs.length k = partsN fs xs (xs.length + 1) k from partsN_fuel (fun j hj => term_sub hok h hj) (by omega) (by omega), partsN, if_pos hk, he, Option.getD_some]
/-- Each of them is a term. -/
theorem partsA_term {z : Int} {fs : List OpD} {xs : List Int} (hok : algOkB z fs = true) (h : endA fs xs 0 = some xs.length) : ∀ {n k : Nat} {y : List Int}, xs.length ≤ k + n → y ∈ partsA fs xs k → ∃ j, k ≤ j ∧ j < xs.length ∧ y = subA fs xs j
  | 0, k, y, h1, hy => by rw [partsA_end (by omega)] at hy; cases hy
  | n + 1, k, y, h1, hy => by
    by_cases hk : k < xs.length
    · obtain ⟨e, h3, h4, h5⟩ := term_sub hok h hk
      rw [partsA_step hok h hk h3] at hy
      rcases List.mem_cons.1 hy with rfl | hy
      · exact ⟨k, by omega, hk, rfl⟩
      · obtain ⟨j, j1, j2, j3⟩ := partsA_term hok h (n := n) (by omega) hy
        exact ⟨j, by omega, j2, j3⟩
    · rw [partsA_end (by omega)] at hy; cases hy

/-- The depth of a term. -/
def depLf (_ : Int) : Int := 0
def depNd (_ : Int) (vs : List Int) : Int := 1 + vs.foldl max 0
def depT (fs : List OpD) (xs : List Int) : Int := gT fs depLf depNd 0 xs
def valDepthOf (z : Int) (fs : List OpD) (xs : List Int) : Int × Bool := if isTermB z fs xs then (depT fs xs, true) else (0, false)
theorem dep_max {q : Int} : ∀ {vs : List Int} {a : Int}, (∀ v, v ∈ vs → v ≤ q) → a ≤ q → a ≤ vs.foldl max a ∧ vs.foldl max a ≤ q
  | [], a, _, h => ⟨by simp, by simpa using h⟩
  | v :: vs, a, h, ha => by
    rw [List.foldl_cons]
    have hv := h v (by simp)
    have := dep_max (vs := vs) (a := max a v) (fun y hy => h y (by simp [hy])) (by omega)
    omega
theorem dep_max_succ {vs : List Int} {k : Nat} {v : Int} (h : vs[k]? = some v) : (vs.take (k + 1)).foldl max 0 = max ((vs.take k).foldl max 0) v := by
  rw [List.take_add_one, h]
  simp
/-- No depth is greater than the count of the numbers. -/
theorem depS_bd (fs : List OpD) : ∀ xs : List Int, ∀ v, v ∈ gS fs depLf depNd xs → 0 ≤ v ∧ v ≤ xs.length
  | [], v, h => by simp [gS] at h
  | x :: r, v, h => by
    have ih := depS_bd fs r
    rw [show gS fs depLf depNd (x :: r) = gStep fs depLf depNd x (gS fs depLf depNd r) from rfl] at h
    rw [List.length_cons]
    unfold gStep at h
    split at h
    · rcases List.mem_cons.1 h with rfl | h
      · simp only [depLf]; omega
      · have := ih v h; omega
    · rcases List.mem_cons.1 h with rfl | h
      · have hf := dep_max (q := (r.length : Int)) (vs := (gS fs depLf depNd r).take (arN fs x)) (a := 0) (fun y hy => (ih y (List.mem_of_mem_take hy)).2) (by omega)
        rw [show ∀ vs, depNd x vs = 1 + vs.foldl max 0 from fun _ => rfl]
        omega
      · have := ih v (List.mem_of_mem_drop h); omega
theorem depT_bd (fs : List OpD) (xs : List Int) : 0 ≤ depT fs xs ∧ depT fs xs ≤ xs.length := by
  have h := depS_bd fs xs
  unfold depT gT
  cases hs : gS fs depLf depNd xs with
  | nil => simp
  | cons v s => exact h v (by rw [hs]; simp)
theorem depT_var {fs : List OpD} {xs : List Int} {x : Int} (hx : xs[0]? = some x) (h0 : 0 ≤ x) : depT fs xs = 0 := gT_var 0 hx h0
theorem depT_op {z : Int} {fs : List OpD} {xs : List Int} {x : Int} (hok : algOkB z fs = true) (h : endA fs xs 0 = some xs.length) (hx : xs[0]? = some x) (h0 : x < 0) : depT fs xs = 1 + ((partsA fs xs 1).map (depT fs)).foldl max 0 := gT_op 0 hok h hx h0 (Nat.le_refl _)

end Go.Proofs.Ytmhlkopkcgmpjaa
