/-
  Plain mathematics: sets of elements as bits, their lists, the values of operations within a set, and the closed set that some elements generate. No condition.
-/
import Derived.Test.YtcmjkfcgekmomaaDigM
namespace Go.Proofs.Ytcmjkfcgekmomaa
set_option linter.unusedVariables false
set_option linter.unusedSimpArgs false

/-- The set of some elements. -/
def setN (xs : List Int) : Nat := xs.foldl (fun s x => s ||| 2 ^ x.toNat) 0
theorem setN_succ {xs : List Int} {k : Nat} {x : Int} (hx : xs[k]? = some x) : setN (xs.take (k + 1)) = setN (xs.take k) ||| 2 ^ x.toNat := by
  unfold setN
  rw [List.take_add_one, hx, Option.toList_some, List.foldl_append]; rfl
theorem setN_snoc (xs : List Int) (x : Int) : setN (xs ++ [x]) = setN xs ||| 2 ^ x.toNat := by simp [setN, List.foldl_append]
theorem setN_all {xs : List Int} {k : Nat} (h : xs.length ≤ k) : setN (xs.take k) = setN xs := by rw [List.take_of_length_le h]
theorem bit_pow (j k : Nat) : (2 ^ j).testBit k = decide (j = k) := Nat.testBit_two_pow
theorem foldl_bit (xs : List Int) (s k : Nat) : (xs.foldl (fun s x => s ||| 2 ^ x.toNat) s).testBit k = (s.testBit k || xs.any fun x => decide (x.toNat = k)) := by
  induction xs generalizing s with
  | nil => simp
  | cons x r ih => rw [List.foldl_cons, ih, Nat.testBit_or, bit_pow, List.any_cons, Bool.or_assoc]
theorem setN_bit (xs : List Int) (k : Nat) : (setN xs).testBit k = xs.any fun x => decide (x.toNat = k) := by
  unfold setN; rw [foldl_bit]; simp
theorem setN_bit_iff {z : Int} {xs : List Int} (ha : allIn z xs = true) (k : Nat) : (setN xs).testBit k = true ↔ (k : Int) ∈ xs := by
  rw [setN_bit, List.any_eq_true]
  constructor
  · rintro ⟨x, hx, hk⟩
    have h0 := List.all_eq_true.1 ha x hx
    have hk2 : x.toNat = k := of_decide_eq_true hk
    have h1 : 0 ≤ x ∧ x < z := of_decide_eq_true h0
    have : (k : Int) = x := by omega
    rw [this]; exact hx
  · intro h; exact ⟨_, h, by simp⟩
theorem lt_of_bits {s n : Nat} (h : ∀ k, s.testBit k = true → k < n) : s < 2 ^ n :=
  Nat.lt_pow_two_of_testBit s fun i hi => by
    cases hb : s.testBit i with
    | false => rfl
    | true => have := h i hb; omega
theorem bit_of_lt {s n k : Nat} (h : s < 2 ^ n) (hk : n ≤ k) : s.testBit k = false :=
  Nat.testBit_lt_two_pow (Nat.lt_of_lt_of_le h (Nat.pow_le_pow_right (by decide) hk))
theorem set_ext {s t n : Nat} (hs : s < 2 ^ n) (ht : t < 2 ^ n) (h : ∀ k, k < n → s.testBit k = t.testBit k) : s = t := by
  apply Nat.eq_of_testBit_eq
  intro k
  by_cases hk : k < n
  · exact h k hk
  · rw [bit_of_lt hs (by omega), bit_of_lt ht (by omega)]
theorem pow_lt_of {x n : Nat} (h : x < n) : 2 ^ x < 2 ^ n := Nat.pow_lt_pow_right (by decide) h
theorem or_lt {s t n : Nat} (h1 : s < 2 ^ n) (h2 : t < 2 ^ n) : s ||| t < 2 ^ n := Nat.or_lt_two_pow h1 h2
theorem setN_lt {z : Int} {xs : List Int} {n : Nat} (ha : allIn z xs = true) (hz : z ≤ (n : Int)) : setN xs < 2 ^ n := by
  apply lt_of_bits
  intro k hk
  rw [setN_bit_iff ha] at hk
  have h1 : 0 ≤ (k : Int) ∧ (k : Int) < z := of_decide_eq_true (List.all_eq_true.1 ha _ hk)
  omega
theorem lt_mono {s n m : Nat} (h : s < 2 ^ n) (hm : n ≤ m) : s < 2 ^ m := Nat.lt_of_lt_of_le h (Nat.pow_le_pow_right (by decide) hm)

/-- The elements of a set that are less than a number, in ascending order. -/
def listK (s : Nat) : Nat → List Int
  | 0 => []
  | k + 1 => if s.testBit k then listK s k ++ [(k : Int)] else listK s k
theorem listK_yes {s k : Nat} (h : s.testBit k = true) : listK s (k + 1) = listK s k ++ [(k : Int)] := by simp [listK, h]
theorem listK_no {s k : Nat} (h : s.testBit k = false) : listK s (k + 1) = listK s k := by simp [listK, h]
theorem listK_le (s k : Nat) : (listK s k).length ≤ k := by
  induction k with
  | zero => simp [listK]
  | succ k ih =>
    cases h : s.testBit k with
    | true => rw [listK_yes h]; simp; omega
    | false => rw [listK_no h]; omega
theorem mem_listK (s k : Nat) (x : Int) : x ∈ listK s k ↔ ∃ j : Nat, j < k ∧ x = (j : Int) ∧ s.testBit j = true := by
  induction k with
  | zero => simp [listK]
  | succ k ih =>
    cases h : s.testBit k with
    | true =>
      rw [listK_yes h, List.mem_append, ih, List.mem_singleton]
      constructor
      · rintro (⟨j, hj, hx, hb⟩ | hx)
        · exact ⟨j, by omega, hx, hb⟩
        · exact ⟨k, by omega, hx, h⟩
      · rintro ⟨j, hj, hx, hb⟩
        by_cases hjk : j = k
        · subst hjk; exact .inr hx
        · exact .inl ⟨j, by omega, hx, hb⟩
    | false =>
      rw [listK_no h, ih]
      constructor
      · rintro ⟨j, hj, hx, hb⟩; exact ⟨j, by omega, hx, hb⟩
      · rintro ⟨j, hj, hx, hb⟩
        have : j ≠ k := by rintro rfl; rw [h] at hb; cases hb
        exact ⟨j, by omega, hx, hb⟩
theorem mem_listK_nat (s k j : Nat) : (j : Int) ∈ listK s k ↔ j < k ∧ s.testBit j = true := by
  rw [mem_listK]
  constructor
  · rintro ⟨i, hi, hx, hb⟩
    obtain rfl : j = i := by omega
    exact ⟨hi, hb⟩
  · rintro ⟨h1, h2⟩; exact ⟨j, h1, rfl, h2⟩
theorem listK_more {s n k : Nat} (h : s < 2 ^ n) (hk : n ≤ k) : listK s k = listK s n := by
  induction k with
  | zero => rw [show n = 0 by omega]
  | succ k ih =>
    by_cases hn : n = k + 1
    · rw [hn]
    · rw [listK_no (bit_of_lt h (by omega)), ih (by omega)]
theorem listK_inj {s t n : Nat} (hs : s < 2 ^ n) (ht : t < 2 ^ n) (h : listK s n = listK t n) : s = t := by
  apply set_ext hs ht
  intro k hk
  have h1 := mem_listK_nat s n k
  have h2 := mem_listK_nat t n k
  rw [h] at h1
  have h3 := h1.symm.trans h2
  simp only [hk, true_and] at h3
  cases hb : s.testBit k <;> cases hc : t.testBit k <;> simp_all
theorem listK_in {s : Nat} {n : Nat} {z : Int} (hz : (n : Int) ≤ z) : allIn z (listK s n) = true := by
  unfold allIn
  rw [List.all_eq_true]
  intro x hx
  obtain ⟨j, hj, rfl, _⟩ := (mem_listK s n x).1 hx
  exact decide_eq_true ⟨by omega, by omega⟩
theorem set_list {s n : Nat} (h : s < 2 ^ n) : setN (listK s n) = s := by
  have h2 : setN (listK s n) < 2 ^ n := setN_lt (z := (n : Int)) (listK_in (Int.le_refl _)) (Int.le_refl _)
  apply set_ext h2 h
  intro k hk
  have h3 := setN_bit_iff (z := (n : Int)) (listK_in (s := s) (Int.le_refl _)) k
  rw [mem_listK_nat] at h3
  simp only [hk, true_and] at h3
  cases hb : (setN (listK s n)).testBit k <;> cases hc : s.testBit k <;> simp_all

/-- One set without the elements of another one. -/
def diffN (s t : Nat) : Nat := (BitVec.ofNat 64 s &&& ~~~(BitVec.ofNat 64 t)).toNat
theorem diffN_bit {s t k : Nat} (hs : s < 2 ^ 8) : (diffN s t).testBit k = (s.testBit k && !t.testBit k) := by
  unfold diffN
  rw [BitVec.testBit_toNat, BitVec.getLsbD_and, BitVec.getLsbD_not, BitVec.getLsbD_ofNat, BitVec.getLsbD_ofNat]
  by_cases hk : k < 64
  · simp [hk]
  · have : s.testBit k = false := bit_of_lt hs (by omega)
    simp [this]
theorem diffN_lt {s t n : Nat} (hs : s < 2 ^ n) (hn : n ≤ 8) : diffN s t < 2 ^ n := by
  apply lt_of_bits
  intro k hk
  rw [diffN_bit (lt_mono hs hn)] at hk
  rcases Nat.lt_or_ge k n with h | h
  · exact h
  · rw [bit_of_lt hs h] at hk; simp at hk
theorem diffN_zero {s t : Nat} (hs : s < 2 ^ 8) : diffN s t = 0 ↔ t ||| s = t := by
  constructor
  · intro h
    apply Nat.eq_of_testBit_eq
    intro k
    have h2 := diffN_bit (t := t) (k := k) hs
    rw [h, Nat.zero_testBit] at h2
    rw [Nat.testBit_or]
    cases hb : s.testBit k <;> cases hc : t.testBit k <;> simp_all
  · intro h
    apply Nat.eq_of_testBit_eq
    intro k
    rw [diffN_bit hs, Nat.zero_testBit]
    have h2 : (t ||| s).testBit k = t.testBit k := by rw [h]
    rw [Nat.testBit_or] at h2
    cases hb : s.testBit k <;> cases hc : t.testBit k <;> simp_all
theorem or_diff {s t : Nat} (hs : s < 2 ^ 8) : t ||| diffN s t = t ||| s := by
  apply Nat.eq_of_testBit_eq
  intro k
  rw [Nat.testBit_or, Nat.testBit_or, diffN_bit hs]
  cases s.testBit k <;> cases t.testBit k <;> rfl

/-- Are all arguments of a place in a set? -/
def hasA (s : Nat) (z : Int) : Nat → Int → Bool
  | 0, _ => true
  | r + 1, at_ => s.testBit (at_ % z).toNat && hasA s z r (at_ / z)
theorem hasA_digs (s : Nat) (z : Int) (r : Nat) (at_ : Int) : (digs z r at_).all (fun x => s.testBit x.toNat) = hasA s z r at_ := by
  induction r generalizing at_ with
  | zero => rfl
  | succ r ih => rw [digs, List.all_append, ih, hasA, Bool.and_comm]; simp
theorem all_succ {s : Nat} {xs : List Int} {k : Nat} {x : Int} (hx : xs[k]? = some x) : (xs.take (k + 1)).all (fun x => s.testBit x.toNat) = ((xs.take k).all (fun x => s.testBit x.toNat) && s.testBit x.toNat) := by
  rw [List.take_add_one, hx, Option.toList_some, List.all_append]; simp

/-- The values of an operation at its first places whose arguments are in a set. -/
def valT (s : Nat) (z : Int) (f : OpD) : Nat → Nat
  | 0 => 0
  | k + 1 => if hasA s z f.1.toNat (k : Int) then valT s z f k ||| 2 ^ (f.2.getD k 0).toNat else valT s z f k
/-- The values of the first operations. -/
def valO (s : Nat) (z : Int) (fs : List OpD) : Nat → Nat
  | 0 => 0
  | j + 1 => valO s z fs j ||| valT s z (fs.getD j (0, [])) (fs.getD j (0, [])).2.length
theorem valT_yes {s : Nat} {z : Int} {f : OpD} {k : Nat} {x : Int} (h : hasA s z f.1.toNat (k : Int) = true) (hx : f.2[k]? = some x) : valT s z f (k + 1) = valT s z f k ||| 2 ^ x.toNat := by
  rw [valT, if_pos h, List.getD_eq_getElem?_getD, hx]; rfl
theorem valT_no {s : Nat} {z : Int} {f : OpD} {k : Nat} (h : hasA s z f.1.toNat (k : Int) = false) : valT s z f (k + 1) = valT s z f k := by
  rw [valT, h]; rfl
theorem valO_succ {s : Nat} {z : Int} {fs : List OpD} {j : Nat} {f : OpD} (h : fs[j]? = some f) : valO s z fs (j + 1) = valO s z fs j ||| valT s z f f.2.length := by
  rw [valO, List.getD_eq_getElem?_getD, h]; rfl
theorem valT_lt {s : Nat} {z : Int} {f : OpD} {n : Nat} (hok : opOkB z f = true) (hz : z ≤ (n : Int)) : ∀ k, k ≤ f.2.length → valT s z f k < 2 ^ n := by
  intro k
  induction k with
  | zero => intro _; exact Nat.two_pow_pos n
  | succ k ih =>
    intro hk
    have hx : f.2[k]? = some (f.2[k]'(by omega)) := List.getElem?_eq_getElem (by omega)
    cases h : hasA s z f.1.toNat (k : Int) with
    | true =>
      rw [valT_yes h hx]
      have := allIn_get (opOkB_of hok).2.2 hx
      exact or_lt (ih (by omega)) (pow_lt_of (by omega))
    | false => rw [valT_no h]; exact ih (by omega)
theorem valO_lt {s : Nat} {z : Int} {fs : List OpD} {n : Nat} (hok : algOkB z fs = true) (hz : z ≤ (n : Int)) : ∀ j, j ≤ fs.length → valO s z fs j < 2 ^ n := by
  intro j
  induction j with
  | zero => intro _; exact Nat.two_pow_pos n
  | succ j ih =>
    intro hj
    have hf : fs[j]? = some (fs[j]'(by omega)) := List.getElem?_eq_getElem (by omega)
    rw [valO_succ hf]
    exact or_lt (ih (by omega)) (valT_lt ((algOkB_of hok).2.2 _ (List.mem_of_getElem? hf)) hz _ (Nat.le_refl _))

/-- A set with all values within it. -/
def stepN (z : Int) (fs : List OpD) (s : Nat) : Nat := s ||| valO s z fs fs.length
def stepK (z : Int) (fs : List OpD) (s : Nat) : Nat → Nat
  | 0 => s
  | k + 1 => stepN z fs (stepK z fs s k)
/-- The set that some elements generate. -/
def closeN (z : Int) (fs : List OpD) (s : Nat) : Nat := stepK z fs s (z.toNat + 1)
theorem stepN_lt {z : Int} {fs : List OpD} {s n : Nat} (hok : algOkB z fs = true) (hz : z ≤ (n : Int)) (hs : s < 2 ^ n) : stepN z fs s < 2 ^ n :=
  or_lt hs (valO_lt hok hz _ (Nat.le_refl _))
theorem stepK_lt {z : Int} {fs : List OpD} {s n : Nat} (hok : algOkB z fs = true) (hz : z ≤ (n : Int)) (hs : s < 2 ^ n) (k : Nat) : stepK z fs s k < 2 ^ n := by
  induction k with
  | zero => exact hs
  | succ k ih => exact stepN_lt hok hz ih
theorem stepN_sub {z : Int} {fs : List OpD} {s k : Nat} (h : s.testBit k = true) : (stepN z fs s).testBit k = true := by
  unfold stepN; rw [Nat.testBit_or, h]; rfl
theorem stepK_sub {z : Int} {fs : List OpD} {s k j : Nat} (h : s.testBit k = true) : (stepK z fs s j).testBit k = true := by
  induction j with
  | zero => exact h
  | succ j ih => exact stepN_sub ih
theorem stepK_fix {z : Int} {fs : List OpD} {s k : Nat} (h : stepN z fs (stepK z fs s k) = stepK z fs s k) : ∀ j, k ≤ j → stepK z fs s j = stepK z fs s k := by
  intro j
  induction j with
  | zero => intro hk; rw [show k = 0 by omega]
  | succ j ih =>
    intro hk
    by_cases hkj : k = j + 1
    · rw [hkj]
    · rw [stepK, ih (by omega), h]
theorem listK_sub_len {s t : Nat} : ∀ n : Nat, (∀ k, k < n → s.testBit k = true → t.testBit k = true) → (listK s n).length ≤ (listK t n).length := by
  intro n
  induction n with
  | zero => intro _; simp [listK]
  | succ n ih =>
    intro h
    have h1 := ih fun k hk => h k (by omega)
    cases hb : s.testBit n with
    | true =>
      have hc := h n (by omega) hb
      rw [listK_yes hb, listK_yes hc]; simp; omega
    | false =>
      rw [listK_no hb]
      cases hc : t.testBit n with
      | true => rw [listK_yes hc]; simp; omega
      | false => rw [listK_no hc]; omega
theorem listK_lt_len {s t : Nat} : ∀ n : Nat, s < 2 ^ n → t < 2 ^ n → (∀ k, s.testBit k = true → t.testBit k = true) → s ≠ t → (listK s n).length < (listK t n).length := by
  intro n hs ht h hne
  have hex : ∃ k, k < n ∧ s.testBit k ≠ t.testBit k := by
    apply Classical.byContradiction
    intro hno
    apply hne
    apply set_ext hs ht
    intro k hk
    apply Classical.byContradiction
    intro hk2
    exact hno ⟨k, hk, hk2⟩
  obtain ⟨k, hk, hkk⟩ := hex
  have key : ∀ m : Nat, k < m → (listK s m).length < (listK t m).length := by
    intro m
    induction m with
    | zero => intro h; omega
    | succ m ih =>
      intro hm
      by_cases hkm : k = m
      · subst hkm
        have h1 := listK_sub_len (s := s) (t := t) k fun j _ => h j
        have hb : s.testBit k = false := by
          cases hb : s.testBit k with
          | false => rfl
          | true => rw [hb, h k hb] at hkk; exact absurd rfl hkk
        have hc : t.testBit k = true := by
          cases hc : t.testBit k with
          | true => rfl
          | false => rw [hb, hc] at hkk; exact absurd rfl hkk
        rw [listK_no hb, listK_yes hc]; simp; omega
      · have h1 := ih (by omega)
        cases hb : s.testBit m with
        | true => rw [listK_yes hb, listK_yes (h m hb)]; simp; omega
        | false =>
          rw [listK_no hb]
          cases hc : t.testBit m with
          | true => rw [listK_yes hc]; simp; omega
          | false => rw [listK_no hc]; omega
  exact key n hk
/-- Each round that is not the last one adds an element. -/
theorem stepK_grow {z : Int} {fs : List OpD} {s n : Nat} (hok : algOkB z fs = true) (hz : z ≤ (n : Int)) (hs : s < 2 ^ n) (k : Nat) : stepN z fs (stepK z fs s k) = stepK z fs s k ∨ k < (listK (stepK z fs s (k + 1)) n).length := by
  induction k with
  | zero =>
    by_cases h : stepN z fs (stepK z fs s 0) = stepK z fs s 0
    · exact .inl h
    · refine .inr ?_
      have := listK_lt_len n (stepK_lt hok hz hs 0) (stepK_lt hok hz hs (0 + 1)) (fun k hk => stepN_sub hk) (fun e => h e.symm)
      omega
  | succ k ih =>
    by_cases h : stepN z fs (stepK z fs s (k + 1)) = stepK z fs s (k + 1)
    · exact .inl h
    · refine .inr ?_
      rcases ih with h1 | h1
      · exfalso
        apply h
        have : stepK z fs s (k + 1) = stepK z fs s k := h1
        rw [this]; exact h1
      · have := listK_lt_len n (stepK_lt hok hz hs (k + 1)) (stepK_lt hok hz hs (k + 1 + 1)) (fun k hk => stepN_sub hk) (fun e => h e.symm)
        omega
theorem stepK_bound {z : Int} {fs : List OpD} {s n : Nat} (hok : algOkB z fs = true) (hz : z ≤ (n : Int)) (hs : s < 2 ^ n) {k : Nat} (h : stepN z fs (stepK z fs s k) ≠ stepK z fs s k) : k < n := by
  rcases stepK_grow hok hz hs k with h1 | h1
  · exact absurd h1 h
  · have := listK_le (stepK z fs s (k + 1)) n; omega
theorem closeN_lt {z : Int} {fs : List OpD} {s n : Nat} (hok : algOkB z fs = true) (hz : z ≤ (n : Int)) (hs : s < 2 ^ n) : closeN z fs s < 2 ^ n := stepK_lt hok hz hs _
theorem closeN_fix {z : Int} {fs : List OpD} {s : Nat} (hok : algOkB z fs = true) (hs : s < 2 ^ z.toNat) : stepN z fs (closeN z fs s) = closeN z fs s := by
  apply Classical.byContradiction
  intro h
  have := stepK_bound (n := z.toNat) hok (by have := (algOkB_of hok).1; omega) hs h
  omega
/-- Where a round adds nothing, all is there. -/
theorem closeN_of {z : Int} {fs : List OpD} {s k : Nat} (hok : algOkB z fs = true) (hs : s < 2 ^ z.toNat) (h : stepN z fs (stepK z fs s k) = stepK z fs s k) : stepK z fs s k = closeN z fs s := by
  rcases Nat.le_total k (z.toNat + 1) with hk | hk
  · exact (stepK_fix h _ hk).symm
  · exact stepK_fix (closeN_fix hok hs) _ hk
theorem closeN_self {z : Int} {fs : List OpD} {s : Nat} (hok : algOkB z fs = true) (hs : s < 2 ^ z.toNat) : closeN z fs s = s ↔ stepN z fs s = s := by
  constructor
  · intro h
    have := closeN_fix hok hs
    rw [h] at this; exact this
  · intro h; exact (closeN_of (k := 0) hok hs h).symm
theorem isIn_step {z : Int} {fs : List OpD} {s n : Nat} (hok : algOkB z fs = true) (hz : z ≤ (n : Int)) (hn : n ≤ 8) : diffN (valO s z fs fs.length) s = 0 ↔ stepN z fs s = s :=
  diffN_zero (lt_mono (valO_lt hok hz _ (Nat.le_refl _)) hn)

end Go.Proofs.Ytcmjkfcgekmomaa
