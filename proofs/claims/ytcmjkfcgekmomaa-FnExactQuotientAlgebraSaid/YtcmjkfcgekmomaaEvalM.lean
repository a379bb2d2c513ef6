/-
  Plain mathematics: the value of a term, reckoned from its end to its front. No condition.
-/
import Derived.Test.YtcmjkfcgekmomaaTerm
namespace Go.Proofs.Ytcmjkfcgekmomaa
open Go.RowKit
set_option linter.unusedVariables false

/-- One number more in front: what stands on the stack, the first one on top. -/
def evStep (z : Int) (fs : List OpD) (vs : List Int) (x : Int) (s : List Int) : List Int :=
  if 0 ≤ x then vs.getD x.toNat 0 :: s else
    atA z (fs.getD (-1 - x).toNat (0, [])) (s.take (fs.getD (-1 - x).toNat (0, [])).1.toNat) :: s.drop (fs.getD (-1 - x).toNat (0, [])).1.toNat
def evS (z : Int) (fs : List OpD) (vs : List Int) (xs : List Int) : List Int := xs.foldr (evStep z fs vs) []
def evT (z : Int) (fs : List OpD) (vs : List Int) (xs : List Int) : Int := (evS z fs vs xs).headD 0
theorem evS_drop {z : Int} {fs : List OpD} {vs xs : List Int} {k : Nat} {x : Int} (h : xs[k]? = some x) : evS z fs vs (xs.drop k) = evStep z fs vs x (evS z fs vs (xs.drop (k + 1))) := by
  rw [drop_get h]; rfl
theorem evS_end {z : Int} {fs : List OpD} {vs xs : List Int} {k : Nat} (h : xs.length ≤ k) : evS z fs vs (xs.drop k) = [] := by
  rw [List.drop_eq_nil_of_le h]; rfl
theorem evStep_len {z : Int} {fs : List OpD} {vs s : List Int} {x b : Int} (hb : beh fs x = some b) (h0 : 0 ≤ b) (h : b ≤ s.length) : ((evStep z fs vs x s).length : Int) = s.length - (b - 1) := by
  unfold beh at hb
  unfold evStep
  split at hb
  · rename_i hx
    split at hb
    · injection hb with hb; subst hb
      rw [if_pos hx]; simp
    · cases hb
  · rename_i hx
    rw [if_neg hx]
    obtain ⟨f, hf, rfl⟩ := Option.map_eq_some_iff.1 hb
    have hg : fs.getD (-1 - x).toNat (0, []) = f := by rw [List.getD_eq_getElem?_getD, hf]; rfl
    rw [hg]
    simp only [List.length_cons, List.length_drop]
    omega
/-- As many values stand on the stack as terms are missing ahead. -/
theorem evS_len {z : Int} {fs : List OpD} {vs : List Int} (hok : algOkB z fs = true) : ∀ {xs : List Int} {m : Int} {k : Nat}, 1 ≤ m → endN fs xs m k = some (k + xs.length) → ((evS z fs vs xs).length : Int) = m
  | [], _, _, _, h => by cases h
  | x :: r, m, k, hm, h => by
    rw [endN] at h
    cases hb : beh fs x with
    | none => rw [hb] at h; cases h
    | some b =>
      have hbd := beh_bd hok hb
      rw [hb] at h
      dsimp only at h
      have hs : evS z fs vs (x :: r) = evStep z fs vs x (evS z fs vs r) := rfl
      split at h
      · injection h with h
        have hr : r = [] := List.eq_nil_of_length_eq_zero (by rw [List.length_cons] at h; omega)
        subst hr
        rw [hs, evStep_len hb hbd.1 (by simp [evS]; omega)]
        simp [evS]; omega
      · have ih := evS_len (vs := vs) hok (by omega) (show endN fs r (m + (b - 1)) (k + 1) = some (k + 1 + r.length) by rw [h]; simp; omega)
        rw [hs, evStep_len hb hbd.1 (by omega)]
        omega
theorem evS_at {z : Int} {fs : List OpD} {vs xs : List Int} (hok : algOkB z fs = true) (h : endA fs xs 0 = some xs.length) {k : Nat} (hk : k < xs.length) : ∃ m : Int, 1 ≤ m ∧ endN fs (xs.drop k) m k = some xs.length ∧ ((evS z fs vs (xs.drop k)).length : Int) = m := by
  obtain ⟨m, h1, h2⟩ := endN_mid hok h k hk
  refine ⟨m, h1, h2, evS_len (k := k) hok h1 ?_⟩
  rw [h2, List.length_drop]; congr 1; omega
/-- Ahead of a number there are the values behind it. -/
theorem evS_room {z : Int} {fs : List OpD} {vs xs : List Int} {k : Nat} {x b : Int} (hok : algOkB z fs = true) (h : endA fs xs 0 = some xs.length) (hx : xs[k]? = some x) (hb : beh fs x = some b) :
    b ≤ (evS z fs vs (xs.drop (k + 1))).length ∧ ((evS z fs vs (xs.drop k)).length : Int) = (evS z fs vs (xs.drop (k + 1))).length - (b - 1) := by
  have hk := (List.getElem?_eq_some_iff.1 hx).1
  have hbd := beh_bd hok hb
  obtain ⟨m, h1, h2, h3⟩ := evS_at (vs := vs) hok h hk
  have h4 : b ≤ (evS z fs vs (xs.drop (k + 1))).length := by
    by_cases h0 : m + (b - 1) = 0
    · have : b = 0 := by omega
      omega
    · rw [endN_on hx hb h0] at h2
      have hg := endN_gt h2
      rw [List.length_drop] at hg
      have := evS_len (vs := vs) hok (by omega : (1 : Int) ≤ m + (b - 1)) (show endN fs (xs.drop (k + 1)) (m + (b - 1)) (k + 1) = some (k + 1 + (xs.drop (k + 1)).length) by rw [h2, List.length_drop]; congr 1; omega)
      omega
  exact ⟨h4, by rw [evS_drop hx, evStep_len hb hbd.1 h4]⟩
theorem evS_one {z : Int} {fs : List OpD} {vs xs : List Int} (hok : algOkB z fs = true) (h : endA fs xs 0 = some xs.length) : (evS z fs vs xs).length = 1 := by
  have hp := term_pos h
  have := evS_len (vs := vs) hok (by omega : (1 : Int) ≤ 1) (show endN fs xs 1 0 = some (0 + xs.length) by rw [Nat.zero_add]; exact h)
  omega
/-- The stack never outgrows the numbers. -/
theorem evS_le (z : Int) (fs : List OpD) (vs : List Int) : ∀ xs : List Int, (evS z fs vs xs).length ≤ xs.length
  | [] => by simp [evS]
  | x :: r => by
    have ih := evS_le z fs vs r
    have hs : evS z fs vs (x :: r) = evStep z fs vs x (evS z fs vs r) := rfl
    rw [hs]
    unfold evStep
    split <;> simp <;> omega

end Go.Proofs.Ytcmjkfcgekmomaa
