/-
  Plain mathematics: the stack of the depths. No condition.
-/
import Derived.Test.YtmhlkopkcgmpjaaDepM
namespace Go.Proofs.Ytmhlkopkcgmpjaa
open Go.RowKit
set_option linter.unusedVariables false
set_option linter.unusedSimpArgs false

abbrev dS (fs : List OpD) (xs : List Int) : List Int := gS fs depLf depNd xs
theorem dS_drop {fs : List OpD} {xs : List Int} {k : Nat} {x : Int} (h : xs[k]? = some x) : dS fs (xs.drop k) = gStep fs depLf depNd x (dS fs (xs.drop (k + 1))) := by
  rw [drop_get h]; rfl
theorem dS_end {fs : List OpD} {xs : List Int} {k : Nat} (h : xs.length ≤ k) : dS fs (xs.drop k) = [] := by
  rw [List.drop_eq_nil_of_le h]; rfl
theorem dStep_len {fs : List OpD} {s : List Int} {x b : Int} (hb : beh fs x = some b) (h0 : 0 ≤ b) (h : b ≤ s.length) : ((gStep fs depLf depNd x s).length : Int) = s.length - (b - 1) := by
  unfold beh at hb
  unfold gStep arN
  split at hb
  · rename_i hx
    split at hb
    · injection hb with hb; subst hb
      rw [if_pos hx]; simp
    · cases hb
  · rename_i hx
    rw [if_neg hx]
    obtain ⟨f, hf, rfl⟩ := Option.map_eq_some_iff.1 hb
    have hg : fs.getD (-1 - x).toNat (0, []) = f := by rw [List.getD_eq_getElem?_getD, hf]; rfl
    rw [hg]
    simp only [List.length_cons, List.length_drop]
    omega
/-- As many values stand on the stack as terms are missing ahead. -/
theorem dS_len {z : Int} {fs : List OpD}  (hok : algOkB z fs = true) : ∀ {xs : List Int} {m : Int} {k : Nat}, 1 ≤ m → endN fs xs m k = some (k + xs.length) → ((dS fs xs).length : Int) = m
  | [], _, _, _, h => by cases h
  | x :: r, m, k, hm, h => by
    rw [endN] at h
    cases hb : beh fs x with
    | none => rw [hb] at h; cases h
    | some b =>
      have hbd := beh_bd hok hb
      rw [hb] at h
      dsimp only at h
      have hs : dS fs (x :: r) = gStep fs depLf depNd x (dS fs r) := rfl
      split at h
      · injection h with h
        have hr : r = [] := List.eq_nil_of_length_eq_zero (by rw [List.length_cons] at h; omega)
        subst hr
        rw [hs, dStep_len hb hbd.1 (by simp [dS, gS]; omega)]
        simp [dS, gS]; omega
      · have ih := dS_len  hok (by omega) (show endN fs r (m + (b - 1)) (k + 1) = some (k + 1 + r.length) by rw [h]; simp; omega)
        rw [hs, dStep_len hb hbd.1 (by omega)]
        omega
theorem dS_at {z : Int} {fs : List OpD} {xs : List Int} (hok : algOkB z fs = true) (h : endA fs xs 0 = some xs.length) {k : Nat} (hk : k < xs.length) : ∃ m : Int, 1 ≤ m ∧ endN fs (xs.drop k) m k = some xs.length ∧ ((dS fs (xs.drop k)).length : Int) = m := by
  obtain ⟨m, h1, h2⟩ := endN_mid hok h k hk
  refine ⟨m, h1, h2, dS_len (k := k) hok h1 ?_⟩
  rw [h2, List.length_drop]; congr 1; omega
/-- Ahead of a number there are the values behind it. -/
theorem dS_room {z : Int} {fs : List OpD} {xs : List Int} {k : Nat} {x b : Int} (hok : algOkB z fs = true) (h : endA fs xs 0 = some xs.length) (hx : xs[k]? = some x) (hb : beh fs x = some b) :
    b ≤ (dS fs (xs.drop (k + 1))).length ∧ ((dS fs (xs.drop k)).length : Int) = (dS fs (xs.drop (k + 1))).length - (b - 1) := by
  have hk := (List.getElem?_eq_some_iff.1 hx).1
  have hbd := beh_bd hok hb
  obtain ⟨m, h1, h2, h3⟩ := dS_at  hok h hk
  have h4 : b ≤ (dS fs (xs.drop (k + 1))).length := by
    by_cases h0 : m + (b - 1) = 0
    · have : b = 0 := by omega
      omega
    · rw [endN_on hx hb h0] at h2
      have hg := endN_gt h2
      rw [List.length_drop] at hg
      have := dS_len  hok (by omega : (1 : Int) ≤ m + (b - 1)) (show endN fs (xs.drop (k + 1)) (m + (b - 1)) (k + 1) = some (k + 1 + (xs.drop (k + 1)).length) by rw [h2, List.length_drop]; congr 1; omega)
      omega
  exact ⟨h4, by rw [dS_drop hx, dStep_len hb hbd.1 h4]⟩
theorem dS_one {z : Int} {fs : List OpD} {xs : List Int} (hok : algOkB z fs = true) (h : endA fs xs 0 = some xs.length) : (dS fs xs).length = 1 := by
  have hp := term_pos h
  have := dS_len  hok (by omega : (1 : Int) ≤ 1) (show endN fs xs 1 0 = some (0 + xs.length) by rw [Nat.zero_add]; exact h)
  omega
/-- The stack never outgrows the numbers. -/
theorem dS_le (fs : List OpD)  : ∀ xs : List Int, (dS fs xs).length ≤ xs.length
  | [] => by simp [dS, gS]
  | x :: r => by
    have ih := dS_le fs r
    have hs : dS fs (x :: r) = gStep fs depLf depNd x (dS fs r) := rfl
    rw [hs]
    unfold gStep arN
    split <;> simp <;> omega


end Go.Proofs.Ytmhlkopkcgmpjaa
