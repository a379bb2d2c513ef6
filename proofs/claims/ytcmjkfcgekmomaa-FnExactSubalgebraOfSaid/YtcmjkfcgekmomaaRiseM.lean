/-
  Plain mathematics: a list is the ascending list of its set exactly if it rises; which lists are subuniverses. No condition.
-/
import Derived.Test.YtcmjkfcgekmomaaSetM
namespace Go.Proofs.Ytcmjkfcgekmomaa
set_option linter.unusedVariables false
set_option linter.unusedSimpArgs false

theorem listK_congr {s t : Nat} : ∀ n : Nat, (∀ k, k < n → s.testBit k = t.testBit k) → listK s n = listK t n := by
  intro n
  induction n with
  | zero => intro _; rfl
  | succ n ih =>
    intro h
    have h1 := h n (by omega)
    cases hb : s.testBit n with
    | true => rw [listK_yes hb, listK_yes (h1 ▸ hb), ih fun k hk => h k (by omega)]
    | false => rw [listK_no hb, listK_no (h1 ▸ hb), ih fun k hk => h k (by omega)]
theorem listK_add {s x n : Nat} (hs : s < 2 ^ x) (hx : x < n) : listK (s ||| 2 ^ x) n = listK s n ++ [(x : Int)] := by
  have h1 : (s ||| 2 ^ x) < 2 ^ (x + 1) := or_lt (lt_mono hs (by omega)) (pow_lt_of (by omega))
  rw [listK_more h1 (by omega : x + 1 ≤ n), listK_yes (by rw [Nat.testBit_or, bit_pow]; simp), listK_more hs (by omega : x ≤ n)]
  congr 1
  exact listK_congr x fun k hk => by
    rw [Nat.testBit_or, bit_pow]
    have : ¬ x = k := by omega
    simp [this]
theorem listK_pair (s n : Nat) : (listK s n).Pairwise (· < ·) := by
  induction n with
  | zero => exact List.Pairwise.nil
  | succ n ih =>
    cases hb : s.testBit n with
    | true =>
      rw [listK_yes hb, List.pairwise_append]
      refine ⟨ih, List.pairwise_singleton _ _, fun a ha b hb2 => ?_⟩
      rw [List.mem_singleton] at hb2
      obtain ⟨j, hj, rfl, _⟩ := (mem_listK s n a).1 ha
      omega
    | false => rw [listK_no hb]; exact ih
theorem allIn_take {z : Int} {xs : List Int} (k : Nat) (h : allIn z xs = true) : allIn z (xs.take k) = true := by
  unfold allIn at h ⊢
  rw [List.all_eq_true] at h ⊢
  exact fun x hx => h x (List.mem_of_mem_take hx)
theorem pair_list {z : Int} {xs : List Int} {n : Nat} (hz : z ≤ (n : Int)) (ha : allIn z xs = true) (hp : xs.Pairwise (· < ·)) : ∀ k, k ≤ xs.length → listK (setN (xs.take k)) n = xs.take k := by
  intro k
  induction k with
  | zero => intro _; rw [List.take_zero]; have h : ∀ n : Nat, listK 0 n = [] := fun n => by
              induction n with
              | zero => rfl
              | succ n ih => rw [listK_no (Nat.zero_testBit n), ih]
            exact h n
  | succ k ih =>
    intro hk
    have hx : xs[k]? = some (xs[k]'(by omega)) := List.getElem?_eq_getElem (by omega)
    obtain ⟨x0, x1⟩ := allIn_get ha hx
    have hlt : setN (xs.take k) < 2 ^ (xs[k]'(by omega)).toNat := by
      apply lt_of_bits
      intro j hj
      rw [setN_bit_iff (allIn_take k ha)] at hj
      obtain ⟨i, hi, he⟩ := List.getElem_of_mem hj
      rw [List.length_take] at hi
      rw [List.getElem_take] at he
      have h2 := (List.pairwise_iff_getElem.1 hp) i k (by omega) (by omega) (by omega)
      omega
    rw [setN_succ hx, listK_add hlt (by omega), ih (by omega), List.take_add_one, hx, Option.toList_some]
    congr 1
    simp; omega

/-- The list is the ascending list of some elements. -/
def riseB (z : Int) (xs : List Int) : Bool := allIn z xs && decide (listK (setN xs) 8 = xs)
theorem riseB_iff {z : Int} {xs : List Int} (hz : z ≤ 8) : riseB z xs = true ↔ allIn z xs = true ∧ xs.Pairwise (· < ·) := by
  unfold riseB
  rw [Bool.and_eq_true, decide_eq_true_eq]
  constructor
  · rintro ⟨h1, h2⟩; exact ⟨h1, by rw [← h2]; exact listK_pair _ _⟩
  · rintro ⟨h1, h2⟩
    have h3 := pair_list (n := 8) hz h1 h2 xs.length (Nat.le_refl _)
    rw [List.take_length] at h3
    exact ⟨h1, h3⟩
theorem riseB_nil {z : Int} (hz : z ≤ 8) : riseB z [] = true := (riseB_iff hz).2 ⟨rfl, List.Pairwise.nil⟩
theorem riseB_first {z : Int} {xs : List Int} {x : Int} (hz : z ≤ 8) (hx : xs[0]? = some x) (h0 : 0 ≤ x) (h1 : x < z) : riseB z (xs.take 1) = true := by
  rw [List.take_add_one, List.take_zero, hx]
  exact (riseB_iff hz).2 ⟨by simp [allIn, h0, h1], List.pairwise_singleton _ _⟩
theorem riseB_next {z : Int} {xs : List Int} {k : Nat} {x y : Int} (hz : z ≤ 8) (h : riseB z (xs.take (k + 1)) = true) (hy : xs[k]? = some y) (hx : xs[k + 1]? = some x) (h0 : 0 ≤ x) (h1 : x < z) (hlt : y < x) : riseB z (xs.take (k + 1 + 1)) = true := by
  obtain ⟨ha, hp⟩ := (riseB_iff hz).1 h
  refine (riseB_iff hz).2 ?_
  rw [List.take_add_one (i := k + 1), hx, Option.toList_some]
  refine ⟨?_, ?_⟩
  · unfold allIn at ha ⊢
    rw [List.all_append, ha]; simp [h0, h1]
  · rw [List.pairwise_append]
    refine ⟨hp, List.pairwise_singleton _ _, fun a ha2 b hb => ?_⟩
    rw [List.mem_singleton] at hb
    subst hb
    obtain ⟨i, hi, he⟩ := List.getElem_of_mem ha2
    have hkl : k < (xs.take (k + 1)).length := by
      have := (List.getElem?_eq_some_iff.1 hx).1
      rw [List.length_take]; omega
    have hyk : (xs.take (k + 1))[k]'hkl = y := by
      rw [List.getElem_take]
      have := (List.getElem?_eq_some_iff.1 hy).2
      exact this
    rw [List.length_take] at hi
    by_cases hik : i = k
    · subst hik; omega
    · have h2 := (List.pairwise_iff_getElem.1 hp) i k (by rw [List.length_take]; omega) hkl (by omega)
      omega
theorem riseB_out {z : Int} {xs : List Int} {k : Nat} {x : Int} (hx : xs[k]? = some x) (h : ¬ (0 ≤ x ∧ x < z)) : riseB z xs = false := by
  unfold riseB
  have : allIn z xs = false := by
    rw [← Bool.not_eq_true]
    intro ha
    exact h (allIn_get ha hx)
  rw [this]; rfl
theorem riseB_fall {z : Int} {xs : List Int} {k : Nat} {x y : Int} (hz : z ≤ 8) (hy : xs[k]? = some y) (hx : xs[k + 1]? = some x) (h : ¬ y < x) : riseB z xs = false := by
  rw [← Bool.not_eq_true]
  intro hr
  obtain ⟨_, hp⟩ := (riseB_iff hz).1 hr
  obtain ⟨h1, h2⟩ := List.getElem?_eq_some_iff.1 hy
  obtain ⟨h3, h4⟩ := List.getElem?_eq_some_iff.1 hx
  have := (List.pairwise_iff_getElem.1 hp) k (k + 1) h1 h3 (by omega)
  omega

/-- A list is a subuniverse of a valid algebra. -/
def isSubB (z : Int) (fs : List OpD) (xs : List Int) : Bool := riseB z xs && decide (stepN z fs (setN xs) = setN xs)
theorem isSubB_rise {z : Int} {fs : List OpD} {xs : List Int} (h : riseB z xs = false) : isSubB z fs xs = false := by simp [isSubB, h]
theorem isSubB_step {z : Int} {fs : List OpD} {xs : List Int} (h : riseB z xs = true) : isSubB z fs xs = decide (stepN z fs (setN xs) = setN xs) := by simp [isSubB, h]
theorem isSubB_of {z : Int} {fs : List OpD} {xs : List Int} (h : isSubB z fs xs = true) : allIn z xs = true ∧ listK (setN xs) 8 = xs ∧ stepN z fs (setN xs) = setN xs := by
  unfold isSubB riseB at h
  simp only [Bool.and_eq_true, decide_eq_true_eq] at h
  exact ⟨h.1.1, h.1.2, h.2⟩
/-- The model asks for the closure. -/
theorem isSub_close {z : Int} {fs : List OpD} {xs : List Int} (hok : algOkB z fs = true) (h : riseB z xs = true) : decide (listK (closeN z fs (setN xs)) 8 = xs) = isSubB z fs xs := by
  rw [isSubB_step h]
  unfold riseB at h
  simp only [Bool.and_eq_true, decide_eq_true_eq] at h
  obtain ⟨ha, hl⟩ := h
  have hz := (algOkB_of hok).1
  have hs : setN xs < 2 ^ z.toNat := setN_lt ha (by omega)
  have hs8 : setN xs < 2 ^ 8 := lt_mono hs (by omega)
  have hc8 : closeN z fs (setN xs) < 2 ^ 8 := closeN_lt hok (by omega) hs8
  have key : listK (closeN z fs (setN xs)) 8 = xs ↔ stepN z fs (setN xs) = setN xs := by
    rw [← closeN_self hok hs]
    constructor
    · intro h1; exact listK_inj hc8 hs8 (h1.trans hl.symm)
    · intro h1; rw [h1]; exact hl
  by_cases h1 : stepN z fs (setN xs) = setN xs
  · rw [decide_eq_true h1, decide_eq_true (key.2 h1)]
  · rw [decide_eq_false h1, decide_eq_false fun h2 => h1 (key.1 h2)]

end Go.Proofs.Ytcmjkfcgekmomaa
