/-
  Plain mathematics: the translated pairs of two elements in the order of the tables, partitions that are compatible with the operations. No condition.
-/
import Derived.Test.YtcmjkfcgekmomaaDigM
import Derived.Test.YtcmjkfcgekmomaaPartM
namespace Go.Proofs.Ytcmjkfcgekmomaa
open Go.RowKit
set_option linter.unusedVariables false
set_option linter.unusedSimpArgs false

/-- A number below eight. -/
def f8 (x : Int) : Fin 8 := ⟨x.toNat % 8, Nat.mod_lt _ (by decide)⟩
theorem f8_val {x : Int} (h0 : 0 ≤ x) (h8 : x < 8) : (((f8 x).val : Nat) : Int) = x := by
  show ((x.toNat % 8 : Nat) : Int) = x
  omega
theorem f8_nat {x : Int} (h0 : 0 ≤ x) (h8 : x < 8) : (f8 x).val = x.toNat := by
  show x.toNat % 8 = x.toNat
  omega
def opAt (fs : List OpD) (k : Nat) : OpD := fs.getD k (0, [])
theorem opAt_get {fs : List OpD} {k : Nat} {f : OpD} (h : fs[k]? = some f) : opAt fs k = f := by unfold opAt; rw [List.getD_eq_getElem?_getD, h]; rfl

/-- The pair at a place of the table, where the argument of weight st is s in the one and t in the other. -/
def prT (f : OpD) (st s t i : Nat) : Fin 8 × Fin 8 := (f8 (gI f.2 i), f8 (gI f.2 (i + t * st - s * st)))
/-- The pairs of one place of the arguments, up to a place of the table. -/
def plT (z : Nat) (f : OpD) (st s t : Nat) : Nat → List (Fin 8 × Fin 8)
  | 0 => []
  | m + 1 => plT z f st s t m ++ (if m / st % z = s then [prT f st s t m] else [])
theorem plT_yes {z : Nat} {f : OpD} {st s t m : Nat} (h : m / st % z = s) : plT z f st s t (m + 1) = plT z f st s t m ++ [prT f st s t m] := by rw [plT, if_pos h]
theorem plT_no {z : Nat} {f : OpD} {st s t m : Nat} (h : ¬ m / st % z = s) : plT z f st s t (m + 1) = plT z f st s t m := by rw [plT, if_neg h, List.append_nil]
theorem plT_skip {z : Nat} {f : OpD} {st s t m : Nat} : ∀ d, (∀ i, m ≤ i → i < m + d → ¬ i / st % z = s) → plT z f st s t (m + d) = plT z f st s t m
  | 0, _ => rfl
  | d + 1, h => by
    rw [← Nat.add_assoc, plT_no (h (m + d) (by omega) (by omega))]
    exact plT_skip d fun i h1 h2 => h i h1 (by omega)
theorem plT_pre {z : Nat} {f : OpD} {st s t m : Nat} : ∀ d, plT z f st s t m <+: plT z f st s t (m + d)
  | 0 => List.prefix_refl _
  | d + 1 => (plT_pre d).trans (by rw [← Nat.add_assoc, plT]; exact List.prefix_append _ _)
theorem plT_mem {z : Nat} {f : OpD} {st s t : Nat} {q : Fin 8 × Fin 8} : ∀ {m : Nat}, q ∈ plT z f st s t m ↔ ∃ i, i < m ∧ i / st % z = s ∧ q = prT f st s t i
  | 0 => by simp [plT]
  | m + 1 => by
    rw [plT, List.mem_append, plT_mem (m := m)]
    constructor
    · rintro (⟨i, h1, h2, h3⟩ | h)
      · exact ⟨i, by omega, h2, h3⟩
      · by_cases hs : m / st % z = s
        · rw [if_pos hs] at h
          exact ⟨m, by omega, hs, by simpa using h⟩
        · rw [if_neg hs] at h
          cases h
    · rintro ⟨i, h1, h2, h3⟩
      by_cases hi : i < m
      · exact .inl ⟨i, hi, h2, h3⟩
      · obtain rfl : i = m := by omega
        right
        rw [if_pos h2, h3]
        simp

/-- The pairs of the first places of the arguments of an operation. -/
def opT (z : Nat) (f : OpD) (s t : Nat) : Nat → List (Fin 8 × Fin 8)
  | 0 => []
  | j + 1 => opT z f s t j ++ plT z f (z ^ j) s t f.2.length
theorem opT_pre {z : Nat} {f : OpD} {s t j : Nat} : ∀ d, opT z f s t j <+: opT z f s t (j + d)
  | 0 => List.prefix_refl _
  | d + 1 => (opT_pre d).trans (by rw [← Nat.add_assoc, opT]; exact List.prefix_append _ _)
theorem opT_mem {z : Nat} {f : OpD} {s t : Nat} {q : Fin 8 × Fin 8} : ∀ {m : Nat}, q ∈ opT z f s t m ↔ ∃ j, j < m ∧ q ∈ plT z f (z ^ j) s t f.2.length
  | 0 => by simp [opT]
  | m + 1 => by
    rw [opT, List.mem_append, opT_mem (m := m)]
    constructor
    · rintro (⟨j, h1, h2⟩ | h)
      · exact ⟨j, by omega, h2⟩
      · exact ⟨m, by omega, h⟩
    · rintro ⟨j, h1, h2⟩
      by_cases hj : j < m
      · exact .inl ⟨j, hj, h2⟩
      · obtain rfl : j = m := by omega
        exact .inr h2

/-- The pairs of the first operations. -/
def alT (z : Nat) (fs : List OpD) (s t : Nat) : Nat → List (Fin 8 × Fin 8)
  | 0 => []
  | k + 1 => alT z fs s t k ++ opT z (opAt fs k) s t (opAt fs k).1.toNat
theorem alT_pre {z : Nat} {fs : List OpD} {s t k : Nat} : ∀ d, alT z fs s t k <+: alT z fs s t (k + d)
  | 0 => List.prefix_refl _
  | d + 1 => (alT_pre d).trans (by rw [← Nat.add_assoc, alT]; exact List.prefix_append _ _)
theorem alT_mem {z : Nat} {fs : List OpD} {s t : Nat} {q : Fin 8 × Fin 8} : ∀ {m : Nat}, q ∈ alT z fs s t m ↔ ∃ k, k < m ∧ q ∈ opT z (opAt fs k) s t (opAt fs k).1.toNat
  | 0 => by simp [alT]
  | m + 1 => by
    rw [alT, List.mem_append, alT_mem (m := m)]
    constructor
    · rintro (⟨j, h1, h2⟩ | h)
      · exact ⟨j, by omega, h2⟩
      · exact ⟨m, by omega, h⟩
    · rintro ⟨j, h1, h2⟩
      by_cases hj : j < m
      · exact .inl ⟨j, hj, h2⟩
      · obtain rfl : j = m := by omega
        exact .inr h2
/-- What has come, up to a place of the table, is the beginning of them all. -/
theorem alT_at {z : Nat} {fs : List OpD} {s t k j m n : Nat} (hk : k < n) (hj : j < (opAt fs k).1.toNat) (hm : m ≤ (opAt fs k).2.length) :
    alT z fs s t k ++ (opT z (opAt fs k) s t j ++ plT z (opAt fs k) (z ^ j) s t m) <+: alT z fs s t n := by
  have h1 : plT z (opAt fs k) (z ^ j) s t m <+: plT z (opAt fs k) (z ^ j) s t (opAt fs k).2.length := by
    have h := plT_pre (z := z) (f := opAt fs k) (st := z ^ j) (s := s) (t := t) (m := m) ((opAt fs k).2.length - m)
    rwa [show m + ((opAt fs k).2.length - m) = (opAt fs k).2.length by omega] at h
  have h2 : opT z (opAt fs k) s t j ++ plT z (opAt fs k) (z ^ j) s t m <+: opT z (opAt fs k) s t (opAt fs k).1.toNat := by
    refine ((List.prefix_append_right_inj _).2 h1).trans ?_
    have h := opT_pre (z := z) (f := opAt fs k) (s := s) (t := t) (j := j + 1) ((opAt fs k).1.toNat - (j + 1))
    rwa [show j + 1 + ((opAt fs k).1.toNat - (j + 1)) = (opAt fs k).1.toNat by omega, opT] at h
  refine ((List.prefix_append_right_inj _).2 h2).trans ?_
  have h := alT_pre (z := z) (fs := fs) (s := s) (t := t) (k := k + 1) (n - (k + 1))
  rwa [show k + 1 + (n - (k + 1)) = n by omega, alT] at h

/-- The digit of a place. -/
theorem dig_at {z st q d r : Nat} (hst : 0 < st) (hr : r < st) (hd : d < z) : ((q * z + d) * st + r) / st % z = d := by
  rw [Nat.mul_comm (q * z + d) st, Nat.mul_add_div hst, Nat.div_eq_of_lt hr, Nat.add_zero, Nat.mul_comm q z, Nat.mul_add_mod]
  exact Nat.mod_eq_of_lt hd
theorem dig_form {z st i : Nat} (hst : 0 < st) : i = (i / st / z * z + i / st % z) * st + i % st := by
  have h1 := Nat.div_add_mod i st
  have h2 := Nat.div_add_mod (i / st) z
  rw [Nat.mul_comm] at h1
  rw [Nat.mul_comm] at h2
  rw [h2]
  exact h1.symm

/-- A partition is compatible. -/
def okT (p : Nat → Int) (q : Fin 8 × Fin 8) : Bool := p q.1.val == p q.2.val
def compK (z : Nat) (fs : List OpD) (p : Nat → Int) : Nat → Bool
  | 0 => true
  | x + 1 => compK z fs p x && (alT z fs (p x).toNat x fs.length).all (okT p)
theorem compK_get {z : Nat} {fs : List OpD} {p : Nat → Int} : ∀ {m : Nat}, compK z fs p m = true ↔ ∀ x, x < m → (alT z fs (p x).toNat x fs.length).all (okT p) = true
  | 0 => by simp [compK]
  | m + 1 => by
    rw [compK, Bool.and_eq_true, compK_get (m := m)]
    constructor
    · rintro ⟨h1, h2⟩ x hx
      by_cases hxm : x < m
      · exact h1 x hxm
      · obtain rfl : x = m := by omega
        exact h2
    · intro h
      exact ⟨fun x hx => h x (by omega), h m (by omega)⟩
theorem compK_no {z : Nat} {fs : List OpD} {p : Nat → Int} {x m : Nat} (hx : x < m) (h : (alT z fs (p x).toNat x fs.length).all (okT p) = false) : compK z fs p m = false := by
  rw [← Bool.not_eq_true, compK_get]
  intro h2
  rw [h2 x hx] at h
  cases h

/-- The digits of a list of arguments, and one of them in another's place. -/
theorem dg_get (z : Nat) : ∀ (m at_ q : Nat), q < m → (digs z m at_)[q]? = some (((at_ / z ^ (m - 1 - q) % z : Nat)) : Int)
  | 0, _, _, h => absurd h (by omega)
  | m + 1, at_, q, h => by
    rw [digs]
    have hl := digs_len (z : Int) m ((at_ : Int) / z)
    by_cases hq : q < m
    · rw [List.getElem?_append_left (by omega), ← Int.natCast_ediv, dg_get z m (at_ / z) q hq, Nat.div_div_eq_div_mul, show m + 1 - 1 - q = (m - 1 - q) + 1 by omega, Nat.pow_succ', ]
    · obtain rfl : q = m := by omega
      rw [List.getElem?_append_right (by omega), hl, Nat.sub_self, show q + 1 - 1 - q = 0 by omega, Nat.pow_zero, Nat.div_one, ← Int.natCast_emod]
      rfl
theorem dg_set (z : Nat) (hz : 1 ≤ z) : ∀ (m at_ q : Nat) (v : Nat), q < m → at_ < z ^ m → idxA z ((digs z m at_).set q (v : Int)) + (((at_ / z ^ (m - 1 - q) % z) * z ^ (m - 1 - q) : Nat) : Int) = ((at_ + v * z ^ (m - 1 - q) : Nat) : Int)
  | 0, _, _, _, h, _ => absurd h (by omega)
  | m + 1, at_, q, v, h, hat => by
    rw [digs]
    have hl := digs_len (z : Int) m ((at_ : Int) / z)
    have hd : at_ / z < z ^ m := by
      rw [Nat.div_lt_iff_lt_mul (by omega), ← Nat.pow_succ]; exact hat
    have hdm := Nat.div_add_mod at_ z
    by_cases hq : q < m
    · have ih := dg_set z hz m (at_ / z) q v hq hd
      rw [List.set_append_left _ _ (by omega), idxA_snoc, ← Int.natCast_ediv, ← Int.natCast_emod]
      rw [Nat.div_div_eq_div_mul, show z * z ^ (m - 1 - q) = z ^ (m + 1 - 1 - q) by rw [show m + 1 - 1 - q = (m - 1 - q) + 1 by omega, Nat.pow_succ']] at ih
      have hp : z ^ (m + 1 - 1 - q) = z ^ (m - 1 - q) * z := by rw [show m + 1 - 1 - q = (m - 1 - q) + 1 by omega, Nat.pow_succ]
      obtain ⟨D, hD⟩ : ∃ D, at_ / z ^ (m + 1 - 1 - q) % z = D := ⟨_, rfl⟩
      obtain ⟨I, hI⟩ : ∃ I, idxA (z : Int) ((digs (z : Int) m ((at_ / z : Nat) : Int)).set q (v : Int)) = I := ⟨_, rfl⟩
      rw [hD] at ih ⊢
      rw [hI] at ih ⊢
      rw [hp]
      have ih2 : (I + ((D * z ^ (m - 1 - q) : Nat) : Int)) * (z : Int) = ((at_ / z + v * z ^ (m - 1 - q) : Nat) : Int) * (z : Int) := by rw [ih]
      rw [Int.add_mul, ← Int.natCast_mul, ← Int.natCast_mul, Nat.add_mul, Nat.mul_assoc, Nat.mul_assoc, Nat.mul_comm (at_ / z) z] at ih2
      omega
    · obtain rfl : q = m := by omega
      rw [List.set_append_right _ _ (by omega), hl, Nat.sub_self, List.set_cons_zero, idxA_snoc, show q + 1 - 1 - q = 0 by omega, Nat.pow_zero, Nat.div_one, Nat.mul_one, Nat.mul_one, ← Int.natCast_ediv]
      have hpw : ∀ k : Nat, powI (z : Int) k = ((z ^ k : Nat) : Int) := by
        intro k
        induction k with
        | zero => rfl
        | succ k ih => rw [powI, ih, ← Int.natCast_mul, Nat.pow_succ]
      rw [idx_digs (z := (z : Int)) (by omega) q ((at_ / z : Nat) : Int) (Int.natCast_nonneg _) (by rw [hpw]; exact Int.ofNat_lt.2 hd), ← Int.natCast_mul, Nat.mul_comm]
      omega
theorem powI_nat (z : Nat) : ∀ k : Nat, powI (z : Int) k = ((z ^ k : Nat) : Int)
  | 0 => rfl
  | k + 1 => by rw [powI, powI_nat z k, ← Int.natCast_mul, Nat.pow_succ]

end Go.Proofs.Ytcmjkfcgekmomaa
