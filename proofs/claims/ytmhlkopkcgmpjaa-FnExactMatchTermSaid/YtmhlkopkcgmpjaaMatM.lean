/-
  Plain mathematics: a pattern held against a term. No condition.
-/
import Derived.Test.YtmhlkopkcgmpjaaSubA
import Derived.Test.YtmhlkopkcgmpjaaLL
namespace Go.Proofs.Ytmhlkopkcgmpjaa
open Go.RowKit
set_option linter.unusedVariables false
set_option linter.unusedSimpArgs false

/-- With p terms more missing, the rest begins where the first ones end. -/
theorem endN_more {z : Int} {fs : List OpD} (hok : algOkB z fs = true) : ∀ {l : List Int} {q p : Int} {k e E : Nat}, 1 ≤ q → 0 ≤ p → endN fs l q k = some e → endN fs l (q + p) k = some E → (p = 0 ∧ E = e) ∨ (0 < p ∧ endN fs (l.drop (e - k)) p e = some E)
  | [], _, _, _, _, _, _, _, h, _ => by cases h
  | x :: r, q, p, k, e, E, hq, hp, h, h2 => by
    rw [endN] at h h2
    cases hb : beh fs x with
    | none => rw [hb] at h; cases h
    | some b =>
      have hbd := beh_bd hok hb
      rw [hb] at h h2
      dsimp only at h h2
      by_cases h0 : q + (b - 1) = 0
      · rw [if_pos h0] at h
        injection h with h
        subst h
        by_cases hp0 : p = 0
        · rw [if_pos (by omega)] at h2
          injection h2 with h2
          exact .inl ⟨hp0, h2.symm⟩
        · rw [if_neg (by omega)] at h2
          refine .inr ⟨by omega, ?_⟩
          rw [show k + 1 - k = 1 by omega, List.drop_one, List.tail_cons, show p = q + p + (b - 1) by omega]
          exact h2
      · rw [if_neg h0] at h
        have hg := endN_gt h
        by_cases h3 : q + p + (b - 1) = 0
        · omega
        · rw [if_neg h3] at h2
          rcases endN_more hok (q := q + (b - 1)) (p := p) (by omega) hp h (by rw [show q + (b - 1) + p = q + p + (b - 1) by omega]; exact h2) with h4 | ⟨h4, h5⟩
          · exact .inl h4
          · refine .inr ⟨h4, ?_⟩
            rw [show e - k = (e - (k + 1)) + 1 by omega, List.drop_succ_cons]
            exact h5

/-- What the pattern's rest tells of the term from a place on: the place behind, and the lists for the variables. -/
def matF (fs : List OpD) (t : List Int) : List Int → Nat → (Nat → List Int) → Option (Nat × (Nat → List Int))
  | [], at_, F => some (at_, F)
  | x :: p, at_, F =>
    if x < 0 then (if t[at_]? = some x then matF fs t p (at_ + 1) F else none)
    else if F x.toNat = [] ∨ F x.toNat = subA fs t at_ then matF fs t p (at_ + (subA fs t at_).length) (upd F x.toNat (subA fs t at_))
    else none
def valMatchTerm (z : Int) (fs : List OpD) (ps t : List Int) : List (List Int) × Bool :=
  if algOkB z fs && (termB fs ps && termB fs t) then
    (match matF fs t ps 0 (fun _ => []) with
      | some (_, F) => ((List.range 6).map F, true)
      | none => ([], false))
  else ([], false)
theorem matF_op {fs : List OpD} {t ps : List Int} {k at_ : Nat} {F : Nat → List Int} {x : Int} (h : ps[k]? = some x) (h0 : x < 0) (ht : t[at_]? = some x) : matF fs t (ps.drop k) at_ F = matF fs t (ps.drop (k + 1)) (at_ + 1) F := by
  rw [drop_get h, matF, if_pos h0, if_pos ht]
theorem matF_op_no {fs : List OpD} {t ps : List Int} {k at_ : Nat} {F : Nat → List Int} {x : Int} (h : ps[k]? = some x) (h0 : x < 0) (ht : ¬ t[at_]? = some x) : matF fs t (ps.drop k) at_ F = none := by
  rw [drop_get h, matF, if_pos h0, if_neg ht]
theorem matF_var {fs : List OpD} {t ps : List Int} {k at_ v : Nat} {F : Nat → List Int} (h : ps[k]? = some (v : Int)) (hF : F v = [] ∨ F v = subA fs t at_) : matF fs t (ps.drop k) at_ F = matF fs t (ps.drop (k + 1)) (at_ + (subA fs t at_).length) (upd F v (subA fs t at_)) := by
  rw [drop_get h, matF, if_neg (by omega), Int.toNat_natCast, if_pos hF]
theorem matF_var_no {fs : List OpD} {t ps : List Int} {k at_ v : Nat} {F : Nat → List Int} (h : ps[k]? = some (v : Int)) (hF : ¬ (F v = [] ∨ F v = subA fs t at_)) : matF fs t (ps.drop k) at_ F = none := by
  rw [drop_get h, matF, if_neg (by omega), Int.toNat_natCast, if_neg hF]
theorem matF_end {fs : List OpD} {t ps : List Int} {k at_ : Nat} {F : Nat → List Int} (h : ps.length ≤ k) : matF fs t (ps.drop k) at_ F = some (at_, F) := by
  rw [List.drop_eq_nil_of_le h]; rfl

/-- At place k of the pattern and place at_ of the term the same number of terms are missing: none at the ends of both. -/
def EvenT (fs : List OpD) (ps t : List Int) (k at_ : Nat) : Prop :=
  (k = ps.length ∧ at_ = t.length) ∨ ∃ μ : Int, 1 ≤ μ ∧ endN fs (ps.drop k) μ k = some ps.length ∧ endN fs (t.drop at_) μ at_ = some t.length
theorem EvenT.start {fs : List OpD} {ps t : List Int} (h1 : endA fs ps 0 = some ps.length) (h2 : endA fs t 0 = some t.length) : EvenT fs ps t 0 0 := .inr ⟨1, by omega, h1, h2⟩
theorem EvenT.room {fs : List OpD} {ps t : List Int} {k at_ : Nat} (h : EvenT fs ps t k at_) (hk : k < ps.length) : at_ < t.length := by
  rcases h with ⟨h1, _⟩ | ⟨μ, _, _, h2⟩
  · omega
  · rcases Nat.lt_or_ge at_ t.length with h3 | h3
    · exact h3
    · rw [endN_stop h3] at h2; cases h2
theorem EvenT.op {z : Int} {fs : List OpD} {ps t : List Int} {k at_ : Nat} {x : Int} (hok : algOkB z fs = true) (h : EvenT fs ps t k at_) (hx : ps[k]? = some x) (ht : t[at_]? = some x) : EvenT fs ps t (k + 1) (at_ + 1) := by
  have hk := (List.getElem?_eq_some_iff.1 hx).1
  rcases h with ⟨h1, _⟩ | ⟨μ, h0, h1, h2⟩
  · omega
  · cases hb : beh fs x with
    | none => rw [endN_bad hx hb] at h1; cases h1
    | some b =>
      by_cases hz : μ + (b - 1) = 0
      · rw [endN_last hx hb hz] at h1
        rw [endN_last ht hb hz] at h2
        injection h1 with h1
        injection h2 with h2
        exact .inl ⟨h1, h2⟩
      · rw [endN_on hx hb hz] at h1
        rw [endN_on ht hb hz] at h2
        have hbd := beh_bd hok hb
        exact .inr ⟨μ + (b - 1), by omega, h1, h2⟩
theorem EvenT.var {z : Int} {fs : List OpD} {ps t : List Int} {k at_ v e : Nat} (hok : algOkB z fs = true) (h : EvenT fs ps t k at_) (hx : ps[k]? = some (v : Int)) (he : endA fs t at_ = some e) : EvenT fs ps t (k + 1) e := by
  have hk := (List.getElem?_eq_some_iff.1 hx).1
  rcases h with ⟨h1, _⟩ | ⟨μ, h0, h1, h2⟩
  · omega
  · cases hb : beh fs (v : Int) with
    | none => rw [endN_bad hx hb] at h1; cases h1
    | some b =>
      obtain rfl : b = 0 := by
        unfold beh at hb
        rw [if_pos (by omega)] at hb
        split at hb
        · injection hb with hb; omega
        · cases hb
      have hm := endN_more hok (q := 1) (p := μ - 1) (by omega) (by omega) he (by rw [show (1 : Int) + (μ - 1) = μ by omega]; exact h2)
      by_cases hz : μ + (0 - 1) = 0
      · rw [endN_last hx hb hz] at h1
        injection h1 with h1
        rcases hm with ⟨_, h3⟩ | ⟨h3, _⟩
        · exact .inl ⟨h1, h3.symm⟩
        · omega
      · rw [endN_on hx hb hz] at h1
        rcases hm with ⟨h3, _⟩ | ⟨_, h3⟩
        · omega
        · have hg := endA_gt he
          rw [List.drop_drop, show at_ + (e - at_) = e by omega] at h3
          exact .inr ⟨μ - 1, by omega, by rw [show μ - 1 = μ + (0 - 1) by omega]; exact h1, h3⟩

theorem matF_len {fs : List OpD} {t : List Int} {B : Nat} : ∀ {ps : List Int} {at_ : Nat} {F : Nat → List Int} {r : Nat × (Nat → List Int)}, (∀ v, (F v).length ≤ B) → t.length ≤ B → matF fs t ps at_ F = some r → ∀ v, (r.2 v).length ≤ B
  | [], at_, F, r, hF, _, h, v => by
    rw [matF] at h; injection h with h; subst h; exact hF v
  | x :: p, at_, F, r, hF, hB, h, v => by
    rw [matF] at h
    split at h
    · split at h
      · exact matF_len hF hB h v
      · cases h
    · split at h
      · refine matF_len (fun u => ?_) hB h v
        by_cases hu : u = x.toNat
        · subst hu; rw [upd_same]; unfold subA; rw [List.length_drop, List.length_take]; omega
        · rw [upd_other hu]; exact hF u
      · cases h

end Go.Proofs.Ytmhlkopkcgmpjaa
