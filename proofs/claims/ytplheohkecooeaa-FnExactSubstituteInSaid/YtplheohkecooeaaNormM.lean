/-
  Plain mathematics: variables of a term, and a term with its variables renamed in their order. No condition.
-/
import Derived.Test.YtplheohkecooeaaTerm
import Derived.Test.YtplheohkecooeaaSubA
import Derived.Test.YtplheohkecooeaaPut3
namespace Go.Proofs.Ytplheohkecooeaa
open Go.RowKit
set_option linter.unusedVariables false

theorem foldl_putR {xs : List Int} : ∀ {acc : List Int}, acc.Pairwise (· < ·) → (xs.foldl putR acc).Pairwise (· < ·) ∧ (∀ y, y ∈ xs.foldl putR acc ↔ y ∈ acc ∨ y ∈ xs) := by
  induction xs with
  | nil => intro acc h; exact ⟨h, fun y => by simp⟩
  | cons a l ih =>
    intro acc h
    obtain ⟨h1, h2⟩ := ih (acc := putR acc a) (putR_sorted h)
    refine ⟨h1, fun y => ?_⟩
    rw [List.foldl_cons, h2 y, mem_putR, List.mem_cons]
    constructor
    · rintro ((e | e) | e)
      · exact .inr (.inl e)
      · exact .inl e
      · exact .inr (.inr e)
    · rintro (e | e | e)
      · exact .inl (.inr e)
      · exact .inl (.inl e)
      · exact .inr e

/-- The variables of a term, in ascending order. -/
def varsL (xs : List Int) : List Int := ((List.range 6).map (fun j : Nat => (j : Int))).filter (fun v => xs.contains v)
/-- The same, put to their places one by one. -/
def varsF (xs : List Int) : List Int := (xs.filter (fun x => decide (0 ≤ x))).foldl putR []
theorem varsF_eq {xs : List Int} (h : ∀ x, x ∈ xs → x < 6) : varsF xs = varsL xs := by
  obtain ⟨h1, h2⟩ := foldl_putR (xs := xs.filter (fun x => decide (0 ≤ x))) (acc := []) List.Pairwise.nil
  refine sorted_ext h1 ?_ fun y => ?_
  · unfold varsL
    refine List.Pairwise.filter _ ?_
    rw [List.pairwise_map]
    exact (List.pairwise_lt_range (n := 6)).imp (fun h => by omega)
  · rw [show (xs.filter (fun x => decide (0 ≤ x))).foldl putR [] = varsF xs from rfl] at h2
    rw [h2 y]
    unfold varsL
    simp only [List.not_mem_nil, false_or, List.mem_filter, decide_eq_true_eq, List.mem_map, List.mem_range, List.contains_iff_mem]
    constructor
    · rintro ⟨hm, h0⟩
      have := h y hm
      exact ⟨⟨y.toNat, by omega, by omega⟩, hm⟩
    · rintro ⟨⟨j, hj, rfl⟩, hm⟩
      exact ⟨hm, by omega⟩
theorem varsF_op {xs : List Int} {k : Nat} {x : Int} (hx : xs[k]? = some x) (h : x < 0) : varsF (xs.take (k + 1)) = varsF (xs.take k) := by
  unfold varsF
  rw [List.take_add_one, hx, List.filter_append]
  have h0 : ¬ 0 ≤ x := by omega
  simp [h0]
theorem varsF_var {xs : List Int} {k : Nat} {x : Int} (hx : xs[k]? = some x) (h : 0 ≤ x) : varsF (xs.take (k + 1)) = putR (varsF (xs.take k)) x := by
  unfold varsF
  rw [List.take_add_one, hx, List.filter_append]
  simp [h, List.foldl_append]
theorem varsL_len (xs : List Int) : (varsL xs).length ≤ 6 := by
  unfold varsL
  exact Nat.le_trans (List.length_filter_le _ _) (by simp)
theorem putR_le (xs : List Int) (x : Int) : (putR xs x).length ≤ xs.length + 1 := by
  induction xs with
  | nil => simp [putR]
  | cons a l ih =>
    rw [putR]
    split
    · simp; omega
    · split
      · simp
      · simp
theorem foldl_le (xs : List Int) : ∀ acc : List Int, (xs.foldl putR acc).length ≤ acc.length + xs.length := by
  induction xs with
  | nil => intro acc; simp
  | cons a l ih => intro acc; have := ih (putR acc a); have := putR_le acc a; simp; omega
theorem varsF_le (xs : List Int) : (varsF xs).length ≤ xs.length := by
  have h1 := foldl_le (xs.filter (fun x => decide (0 ≤ x))) []
  have h2 := List.length_filter_le (fun x : Int => decide (0 ≤ x)) xs
  simp only [List.length_nil, Nat.zero_add] at h1
  unfold varsF
  omega
def valVarsOf (z : Int) (fs : List OpD) (xs : List Int) : List Int × Bool := if isTermB z fs xs then (varsL xs, true) else ([], false)
theorem smallVarsOf (z : Int) (fs : List OpD) (xs : List Int) : (valVarsOf z fs xs).1.length ≤ 4194304 := by
  unfold valVarsOf
  split
  · have := varsL_len xs; simp only; omega
  · simp

/-- One step of the renaming: the variables met so far, the numbers written. -/
def normStep (s : List Int × List Int) (x : Int) : List Int × List Int :=
  if x < 0 then (s.1, s.2 ++ [x]) else (if x ∈ s.1 then s.1 else s.1 ++ [x], s.2 ++ [(s.1.idxOf x : Int)])
def normS (xs : List Int) : List Int × List Int := xs.foldl normStep ([], [])
theorem normS_succ {xs : List Int} {k : Nat} {x : Int} (hx : xs[k]? = some x) : normS (xs.take (k + 1)) = normStep (normS (xs.take k)) x := by
  rw [List.take_add_one, hx]; simp [normS, List.foldl_append]
theorem normS_len (xs : List Int) : (normS xs).2.length = xs.length ∧ (normS xs).1.length ≤ xs.length := by
  have h : ∀ (ys : List Int) (s : List Int × List Int), (ys.foldl normStep s).2.length = s.2.length + ys.length ∧ (ys.foldl normStep s).1.length ≤ s.1.length + ys.length := by
    intro ys
    induction ys with
    | nil => intro s; simp
    | cons y ys ih =>
      intro s
      obtain ⟨h1, h2⟩ := ih (normStep s y)
      rw [List.foldl_cons]
      have h3 : (normStep s y).2.length = s.2.length + 1 ∧ (normStep s y).1.length ≤ s.1.length + 1 := by
        unfold normStep
        split
        · exact ⟨by simp, by simp⟩
        · refine ⟨by simp, ?_⟩
          dsimp only
          split
          · omega
          · simp
      simp only [List.length_cons]
      omega
  simpa [normS] using h xs ([], [])
def valNormalVars (z : Int) (fs : List OpD) (xs : List Int) : List Int × Bool := if isTermB z fs xs then ((normS xs).2, true) else ([], false)
theorem smallNormalVars (z : Int) (fs : List OpD) (xs : List Int) : (valNormalVars z fs xs).1.length ≤ 4194304 := by
  unfold valNormalVars
  split
  · rename_i h
    have := (isTermB_of h).2.1
    have := (normS_len xs).1
    simp only
    omega
  · simp

end Go.Proofs.Ytplheohkecooeaa
