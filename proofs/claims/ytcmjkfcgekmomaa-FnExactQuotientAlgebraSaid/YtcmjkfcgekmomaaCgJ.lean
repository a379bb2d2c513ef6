/-
  TrnM, CngM, HeldI, TrA, TrI, Mrks, CmpI, CgO, PshS, CgS in one text. Conditions: as each theorem names them.
-/
import Derived.Test.YtcmjkfcgekmomaaDigM
import Derived.Test.YtcmjkfcgekmomaaPartM
import Derived.OrdersIn
import Derived.OrdersHeld
import Derived.Test.YtcmjkfcgekmomaaStep
import Derived.RangeFuncWrites
import Derived.RangeFuncBound
import Derived.RangeFuncCalls
import Derived.RangeFuncBox
import Derived.RangeFuncLeaves
import Derived.Shelf.Abstract
import Derived.OwnWalkIn
import Derived.TacticsInMore
import Derived.LoopNIn
import Derived.LoopIn
import Derived.Test.YtcmjkfcgekmomaaBuilt
import Derived.Test.YtcmjkfcgekmomaaRange
import Derived.Test.YtcmjkfcgekmomaaPartK
import Derived.Deep.RegionHeld3
import Derived.Test.YtcmjkfcgekmomaaPartL
import Derived.Test.YtcmjkfcgekmomaaPartO
import Derived.Test.YtcmjkfcgekmomaaDigs
import Derived.Test.YtcmjkfcgekmomaaIdxV
import Derived.Test.YtcmjkfcgekmomaaSmL
namespace Go.Proofs.Ytcmjkfcgekmomaa
section
open Go.RowKit
set_option linter.unusedVariables false
set_option linter.unusedSimpArgs false

/-- A number below eight. -/
def f8 (x : Int) : Fin 8 := ⟨x.toNat % 8, Nat.mod_lt _ (by decide)⟩
theorem f8_val {x : Int} (h0 : 0 ≤ x) (h8 : x < 8) : (((f8 x).val : Nat) : Int) = x := by
  show ((x.toNat % 8 : Nat) : Int) = x
  omega
theorem f8_nat {x : Int} (h0 : 0 ≤ x) (h8 : x < 8) : (f8 x).val = x.toNat := by
  show x.toNat % 8 = x.toNat
  omega
def opAt (fs : List OpD) (k : Nat) : OpD := fs.getD k (0, [])
theorem opAt_get {fs : List OpD} {k : Nat} {f : OpD} (h : fs[k]? = some f) : opAt fs k = f := by unfold opAt; rw [List.getD_eq_getElem?_getD, h]; rfl

/-- The pair at a place of the table, where the argument of weight st is s in the one and t in the other. -/
def prT (f : OpD) (st s t i : Nat) : Fin 8 × Fin 8 := (f8 (gI f.2 i), f8 (gI f.2 (i + t * st - s * st)))
/-- The pairs of one place of the arguments, up to a place of the table. -/
def plT (z : Nat) (f : OpD) (st s t : Nat) : Nat → List (Fin 8 × Fin 8)
  | 0 => []
  | m + 1 => plT z f st s t m ++ (if m / st % z = s then [prT f st s t m] else [])
theorem plT_yes {z : Nat} {f : OpD} {st s t m : Nat} (h : m / st % z = s) : plT z f st s t (m + 1) = plT z f st s t m ++ [prT f st s t m] := by rw [plT, if_pos h]
theorem plT_no {z : Nat} {f : OpD} {st s t m : Nat} (h : ¬ m / st % z = s) : plT z f st s t (m + 1) = plT z f st s t m := by rw [plT, if_neg h, List.append_nil]
theorem plT_skip {z : Nat} {f : OpD} {st s t m : Nat} : ∀ d, (∀ i, m ≤ i → i < m + d → ¬ i / st % z = s) → plT z f st s t (m + d) = plT z f st s t m
  | 0, _ => rfl
  | d + 1, h => by
    rw [← Nat.add_assoc, plT_no (h (m + d) (by omega) (by omega))]
    exact plT_skip d fun i h1 h2 => h i h1 (by omega)
theorem plT_pre {z : Nat} {f : OpD} {st s t m : Nat} : ∀ d, plT z f st s t m <+: plT z f st s t (m + d)
  | 0 => List.prefix_refl _
  | d + 1 => (plT_pre d).trans (by rw [← Nat.add_assoc, plT]; exact List.prefix_append _ _)
theorem plT_mem {z : Nat} {f : OpD} {st s t : Nat} {q : Fin 8 × Fin 8} : ∀ {m : Nat}, q ∈ plT z f st s t m ↔ ∃ i, i < m ∧ i / st % z = s ∧ q = prT f st s t i
  | 0 => by simp [plT]
  | m + 1 => by
    rw [plT, List.mem_append, plT_mem (m := m)]
    constructor
    · rintro (⟨i, h1, h2, h3⟩ | h)
      · exact ⟨i, by omega, h2, h3⟩
      · by_cases hs : m / st % z = s
        · rw [if_pos hs] at h
          exact ⟨m, by omega, hs, by simpa using h⟩
        · rw [if_neg hs] at h
          cases h
    · rintro ⟨i, h1, h2, h3⟩
      by_cases hi : i < m
      · exact .inl ⟨i, hi, h2, h3⟩
      · obtain rfl : i = m := by omega
        right
        rw [if_pos h2, h3]
        simp

/-- The pairs of the first places of the arguments of an operation. -/
def opT (z : Nat) (f : OpD) (s t : Nat) : Nat → List (Fin 8 × Fin 8)
  | 0 => []
  | j + 1 => opT z f s t j ++ plT z f (z ^ j) s t f.2.length
theorem opT_pre {z : Nat} {f : OpD} {s t j : Nat} : ∀ d, opT z f s t j <+: opT z f s t (j + d)
  | 0 => List.prefix_refl _
  | d + 1 => (opT_pre d).trans (by rw [← Nat.add_assoc, opT]; exact List.prefix_append _ _)
theorem opT_mem {z : Nat} {f : OpD} {s t : Nat} {q : Fin 8 × Fin 8} : ∀ {m : Nat}, q ∈ opT z f s t m ↔ ∃ j, j < m ∧ q ∈ plT z f (z ^ j) s t f.2.length
  | 0 => by simp [opT]
  | m + 1 => by
    rw [opT, List.mem_append, opT_mem (m := m)]
    constructor
    · rintro (⟨j, h1, h2⟩ | h)
      · exact ⟨j, by omega, h2⟩
      · exact ⟨m, by omega, h⟩
    · rintro ⟨j, h1, h2⟩
      by_cases hj : j < m
      · exact .inl ⟨j, hj, h2⟩
      · obtain rfl : j = m := by omega
        exact .inr h2

/-- The pairs of the first operations. -/
def alT (z : Nat) (fs : List OpD) (s t : Nat) : Nat → List (Fin 8 × Fin 8)
  | 0 => []
  | k + 1 => alT z fs s t k ++ opT z (opAt fs k) s t (opAt fs k).1.toNat
theorem alT_pre {z : Nat} {fs : List OpD} {s t k : Nat} : ∀ d, alT z fs s t k <+: alT z fs s t (k + d)
  | 0 => List.prefix_refl _
  | d + 1 => (alT_pre d).trans (by rw [← Nat.add_assoc, alT]; exact List.prefix_append _ _)
theorem alT_mem {z : Nat} {fs : List OpD} {s t : Nat} {q : Fin 8 × Fin 8} : ∀ {m : Nat}, q ∈ alT z fs s t m ↔ ∃ k, k < m ∧ q ∈ opT z (opAt fs k) s t (opAt fs k).1.toNat
  | 0 => by simp [alT]
  | m + 1 => by
    rw [alT, List.mem_append, alT_mem (m := m)]
    constructor
    · rintro (⟨j, h1, h2⟩ | h)
      · exact ⟨j, by omega, h2⟩
      · exact ⟨m, by omega, h⟩
    · rintro ⟨j, h1, h2⟩
      by_cases hj : j < m
      · exact .inl ⟨j, hj, h2⟩
      · obtain rfl : j = m := by omega
        exact .inr h2
/-- What has come, up to a place of the table, is the beginning of them all. -/
theorem alT_at {z : Nat} {fs : List OpD} {s t k j m n : Nat} (hk : k < n) (hj : j < (opAt fs k).1.toNat) (hm : m ≤ (opAt fs k).2.length) :
    alT z fs s t k ++ (opT z (opAt fs k) s t j ++ plT z (opAt fs k) (z ^ j) s t m) <+: alT z fs s t n := by
  have h1 : plT z (opAt fs k) (z ^ j) s t m <+: plT z (opAt fs k) (z ^ j) s t (opAt fs k).2.length := by
    have h := plT_pre (z := z) (f := opAt fs k) (st := z ^ j) (s := s) (t := t) (m := m) ((opAt fs k).2.length - m)
    rwa [show m + ((opAt fs k).2.length - m) = (opAt fs k).2.length by omega] at h
  have h2 : opT z (opAt fs k) s t j ++ plT z (opAt fs k) (z ^ j) s t m <+: opT z (opAt fs k) s t (opAt fs k).1.toNat := by
    refine ((List.prefix_append_right_inj _).2 h1).trans ?_
    have h := opT_pre (z := z) (f := opAt fs k) (s := s) (t := t) (j := j + 1) ((opAt fs k).1.toNat - (j + 1))
    rwa [show j + 1 + ((opAt fs k).1.toNat - (j + 1)) = (opAt fs k).1.toNat by omega, opT] at h
  refine ((List.prefix_append_right_inj _).2 h2).trans ?_
  have h := alT_pre (z := z) (fs := fs) (s := s) (t := t) (k := k + 1) (n - (k + 1))
  rwa [show k + 1 + (n - (k + 1)) = n by omega, alT] at h

/-- The digit of a place. -/
theorem dig_at {z st q d r : Nat} (hst : 0 < st) (hr : r < st) (hd : d < z) : ((q * z + d) * st + r) / st % z = d := by
  rw [Nat.mul_comm (q * z + d) st, Nat.mul_add_div hst, Nat.div_eq_of_lt hr, Nat.add_zero, Nat.mul_comm q z, Nat.mul_add_mod]
  exact Nat.mod_eq_of_lt hd
theorem dig_form {z st i : Nat} (hst : 0 < st) : i = (i / st / z * z + i / st % z) * st + i % st := by
  have h1 := Nat.div_add_mod i st
  have h2 := Nat.div_add_mod (i / st) z
  rw [Nat.mul_comm] at h1
  rw [Nat.mul_comm] at h2
  rw [h2]
  exact h1.symm

/-- A partition is compatible. -/
def okT (p : Nat → Int) (q : Fin 8 × Fin 8) : Bool := p q.1.val == p q.2.val
def compK (z : Nat) (fs : List OpD) (p : Nat → Int) : Nat → Bool
  | 0 => true
  | x + 1 => compK z fs p x && (alT z fs (p x).toNat x fs.length).all (okT p)
theorem compK_get {z : Nat} {fs : List OpD} {p : Nat → Int} : ∀ {m : Nat}, compK z fs p m = true ↔ ∀ x, x < m → (alT z fs (p x).toNat x fs.length).all (okT p) = true
  | 0 => by simp [compK]
  | m + 1 => by
    rw [compK, Bool.and_eq_true, compK_get (m := m)]
    constructor
    · rintro ⟨h1, h2⟩ x hx
      by_cases hxm : x < m
      · exact h1 x hxm
      · obtain rfl : x = m := by omega
        exact h2
    · intro h
      exact ⟨fun x hx => h x (by omega), h m (by omega)⟩
theorem compK_no {z : Nat} {fs : List OpD} {p : Nat → Int} {x m : Nat} (hx : x < m) (h : (alT z fs (p x).toNat x fs.length).all (okT p) = false) : compK z fs p m = false := by
  rw [← Bool.not_eq_true, compK_get]
  intro h2
  rw [h2 x hx] at h
  cases h

/-- The digits of a list of arguments, and one of them in another's place. -/
theorem dg_get (z : Nat) : ∀ (m at_ q : Nat), q < m → (digs z m at_)[q]? = some (((at_ / z ^ (m - 1 - q) % z : Nat)) : Int)
  | 0, _, _, h => absurd h (by omega)
  | m + 1, at_, q, h => by
    rw [digs]
    have hl := digs_len (z : Int) m ((at_ : Int) / z)
    by_cases hq : q < m
    · rw [List.getElem?_append_left (by omega), ← Int.natCast_ediv, dg_get z m (at_ / z) q hq, Nat.div_div_eq_div_mul, show m + 1 - 1 - q = (m - 1 - q) + 1 by omega, Nat.pow_succ', ]
    · obtain rfl : q = m := by omega
      rw [List.getElem?_append_right (by omega), hl, Nat.sub_self, show q + 1 - 1 - q = 0 by omega, Nat.pow_zero, Nat.div_one, ← Int.natCast_emod]
      rfl
theorem dg_set (z : Nat) (hz : 1 ≤ z) : ∀ (m at_ q : Nat) (v : Nat), q < m → at_ < z ^ m → idxA z ((digs z m at_).set q (v : Int)) + (((at_ / z ^ (m - 1 - q) % z) * z ^ (m - 1 - q) : Nat) : Int) = ((at_ + v * z ^ (m - 1 - q) : Nat) : Int)
  | 0, _, _, _, h, _ => absurd h (by omega)
  | m + 1, at_, q, v, h, hat => by
    rw [digs]
    have hl := digs_len (z : Int) m ((at_ : Int) / z)
    have hd : at_ / z < z ^ m := by
      rw [Nat.div_lt_iff_lt_mul (by omega), ← Nat.pow_succ]; exact hat
    have hdm := Nat.div_add_mod at_ z
    by_cases hq : q < m
    · have ih := dg_set z hz m (at_ / z) q v hq hd
      rw [List.set_append_left _ _ (by omega), idxA_snoc, ← Int.natCast_ediv, ← Int.natCast_emod]
      rw [Nat.div_div_eq_div_mul, show z * z ^ (m - 1 - q) = z ^ (m + 1 - 1 - q) by rw [show m + 1 - 1 - q = (m - 1 - q) + 1 by omega, Nat.pow_succ']] at ih
      have hp : z ^ (m + 1 - 1 - q) = z ^ (m - 1 - q) * z := by rw [show m + 1 - 1 - q = (m - 1 - q) + 1 by omega, Nat.pow_succ]
      obtain ⟨D, hD⟩ : ∃ D, at_ / z ^ (m + 1 - 1 - q) % z = D := ⟨_, rfl⟩
      obtain ⟨I, hI⟩ : ∃ I, idxA (z : Int) ((digs (z : Int) m ((at_ / z : Nat) : Int)).set q (v : Int)) = I := ⟨_, rfl⟩
      rw [hD] at ih ⊢
      rw [hI] at ih ⊢
      rw [hp]
      have ih2 : (I + ((D * z ^ (m - 1 - q) : Nat) : Int)) * (z : Int) = ((at_ / z + v * z ^ (m - 1 - q) : Nat) : Int) * (z : Int) := by rw [ih]
      rw [Int.add_mul, ← Int.natCast_mul, ← Int.natCast_mul, Nat.add_mul, Nat.mul_assoc, Nat.mul_assoc, Nat.mul_comm (at_ / z) z] at ih2
      omega
    · obtain rfl : q = m := by omega
      rw [List.set_append_right _ _ (by omega), hl, Nat.sub_self, List.set_cons_zero, idxA_snoc, show q + 1 - 1 - q = 0 by omega, Nat.pow_zero, Nat.div_one, Nat.mul_one, Nat.mul_one, ← Int.natCast_ediv]
      have hpw : ∀ k : Nat, powI (z : Int) k = ((z ^ k : Nat) : Int) := by
        intro k
        induction k with
        | zero => rfl
        | succ k ih => rw [powI, ih, ← Int.natCast_mul, Nat.pow_succ]
      rw [idx_digs (z := (z : Int)) (by omega) q ((at_ / z : Nat) : Int) (Int.natCast_nonneg _) (by rw [hpw]; exact Int.ofNat_lt.2 hd), ← Int.natCast_mul, Nat.mul_comm]
      omega
theorem powI_nat (z : Nat) : ∀ k : Nat, powI (z : Int) k = ((z ^ k : Nat) : Int)
  | 0 => rfl
  | k + 1 => by rw [powI, powI_nat z k, ← Int.natCast_mul, Nat.pow_succ]
end

section
open Go.RowKit
set_option linter.unusedVariables false
set_option linter.unusedSimpArgs false

theorem joinF_keep {g : Nat → Int} {x y a b : Nat} (h : g a = g b) : joinF g x y a = joinF g x y b := by unfold joinF; rw [h]
theorem joinF_tie (g : Nat → Int) (x y : Nat) : joinF g x y x = joinF g x y y := by unfold joinF; split <;> split <;> omega
theorem joinF_same {g : Nat → Int} {x y : Nat} (h : g x = g y) : joinF g x y = g := by
  funext z; unfold joinF; split <;> omega

/-- The value where one argument gives way to the least one of its block. -/
def othL (z : Nat) (f : OpD) (p : Nat → Int) (a q : Nat) : List Int := (digs z f.1.toNat a).set q (p ((digs z f.1.toNat a).getD q 0).toNat)
def othA (z : Nat) (f : OpD) (p : Nat → Int) (a q : Nat) : Int := atA z f (othL z f p a q)
def pu1 (z : Nat) (f : OpD) (p : Nat → Int) (a : Nat) (g : Nat → Int) : Nat → Nat → Int
  | 0 => g
  | q + 1 => joinF (pu1 z f p a g q) (gI f.2 a).toNat (othA z f p a q).toNat
def pu2 (z : Nat) (f : OpD) (p : Nat → Int) (g : Nat → Int) : Nat → Nat → Int
  | 0 => g
  | a + 1 => pu1 z f p a (pu2 z f p g a) f.1.toNat
def pu3 (z : Nat) (fs : List OpD) (p : Nat → Int) (g : Nat → Int) : Nat → Nat → Int
  | 0 => g
  | k + 1 => pu2 z (opAt fs k) p (pu3 z fs p g k) (opAt fs k).2.length
def pushF (z : Nat) (fs : List OpD) (p : Nat → Int) : Nat → Int := pu3 z fs p p fs.length

theorem pu1_keep {z : Nat} {f : OpD} {p : Nat → Int} {a : Nat} {g : Nat → Int} {u v : Nat} (h : g u = g v) : ∀ n, pu1 z f p a g n u = pu1 z f p a g n v
  | 0 => h
  | n + 1 => joinF_keep (pu1_keep h n)
theorem pu2_keep {z : Nat} {f : OpD} {p : Nat → Int} {g : Nat → Int} {u v : Nat} (h : g u = g v) : ∀ n, pu2 z f p g n u = pu2 z f p g n v
  | 0 => h
  | n + 1 => pu1_keep (pu2_keep h n) _
theorem pu3_keep {z : Nat} {fs : List OpD} {p : Nat → Int} {g : Nat → Int} {u v : Nat} (h : g u = g v) : ∀ n, pu3 z fs p g n u = pu3 z fs p g n v
  | 0 => h
  | n + 1 => pu2_keep (pu3_keep h n) _
theorem pu1_tie {z : Nat} {f : OpD} {p : Nat → Int} {a : Nat} {g : Nat → Int} {q : Nat} : ∀ {n}, q < n → pu1 z f p a g n (gI f.2 a).toNat = pu1 z f p a g n (othA z f p a q).toNat
  | 0, h => absurd h (by omega)
  | n + 1, h => by
    by_cases hq : q < n
    · exact joinF_keep (pu1_tie hq)
    · obtain rfl : q = n := by omega
      exact joinF_tie _ _ _
theorem pu2_tie {z : Nat} {f : OpD} {p : Nat → Int} {g : Nat → Int} {a q : Nat} (hq : q < f.1.toNat) : ∀ {n}, a < n → pu2 z f p g n (gI f.2 a).toNat = pu2 z f p g n (othA z f p a q).toNat
  | 0, h => absurd h (by omega)
  | n + 1, h => by
    by_cases ha : a < n
    · exact pu1_keep (pu2_tie hq ha) _
    · obtain rfl : a = n := by omega
      exact pu1_tie hq
theorem pu3_tie {z : Nat} {fs : List OpD} {p : Nat → Int} {g : Nat → Int} {k a q : Nat} (ha : a < (opAt fs k).2.length) (hq : q < (opAt fs k).1.toNat) : ∀ {n}, k < n → pu3 z fs p g n (gI (opAt fs k).2 a).toNat = pu3 z fs p g n (othA z (opAt fs k) p a q).toNat
  | 0, h => absurd h (by omega)
  | n + 1, h => by
    by_cases hk : k < n
    · exact pu2_keep (pu3_tie ha hq hk) _
    · obtain rfl : k = n := by omega
      exact pu2_tie hq ha
theorem pu1_same {z : Nat} {f : OpD} {p : Nat → Int} {a : Nat} {g : Nat → Int} : ∀ n, (∀ q, q < n → g (gI f.2 a).toNat = g (othA z f p a q).toNat) → pu1 z f p a g n = g
  | 0, _ => rfl
  | n + 1, h => by rw [pu1, pu1_same n fun q hq => h q (by omega), joinF_same (h n (by omega))]
theorem pu2_same {z : Nat} {f : OpD} {p : Nat → Int} {g : Nat → Int} : ∀ n, (∀ a, a < n → ∀ q, q < f.1.toNat → g (gI f.2 a).toNat = g (othA z f p a q).toNat) → pu2 z f p g n = g
  | 0, _ => rfl
  | n + 1, h => by rw [pu2, pu2_same n fun a ha => h a (by omega), pu1_same _ (h n (by omega))]
theorem pu3_same {z : Nat} {fs : List OpD} {p : Nat → Int} {g : Nat → Int} : ∀ n, (∀ k, k < n → ∀ a, a < (opAt fs k).2.length → ∀ q, q < (opAt fs k).1.toNat → g (gI (opAt fs k).2 a).toNat = g (othA z (opAt fs k) p a q).toNat) → pu3 z fs p g n = g
  | 0, _ => rfl
  | n + 1, h => by rw [pu3, pu3_same n fun a ha => h a (by omega), pu2_same _ (h n (by omega))]

/-- For arguments that differ at one place only, where they are in one block, values are in one block. -/
def compP (z : Nat) (fs : List OpD) (p : Nat → Int) : Prop :=
  ∀ k, k < fs.length → ∀ a, a < (opAt fs k).2.length → ∀ q, q < (opAt fs k).1.toNat → p (gI (opAt fs k).2 a).toNat = p (othA z (opAt fs k) p a q).toNat

theorem opAt_ok {z : Int} {fs : List OpD} (h : algOkB z fs = true) {k : Nat} (hk : k < fs.length) : opOkB z (opAt fs k) = true := by
  have hf : fs[k]? = some (fs[k]'hk) := List.getElem?_eq_getElem hk
  rw [opAt_get hf]
  exact (algOkB_of h).2.2 _ (List.mem_of_getElem? hf)
theorem tab_bd {z : Nat} {f : OpD} (h : opOkB (z : Int) f = true) {i : Nat} (hi : i < f.2.length) : 0 ≤ gI f.2 i ∧ gI f.2 i < z := allIn_get (opOkB_of h).2.2 (get_gI rfl hi)
theorem tab_len {z : Nat} {f : OpD} (h : opOkB (z : Int) f = true) : f.2.length = z ^ f.1.toNat := by
  have h2 := (opOkB_of h).2.1
  rw [powI_nat] at h2
  exact Int.ofNat_inj.1 h2
theorem oth_in {z : Nat} {f : OpD} {p : Nat → Int} {a q : Nat} (hz : 1 ≤ z) (hp : ∀ x, x < z → 0 ≤ p x ∧ p x < z) (hq : q < f.1.toNat) : allIn (z : Int) (othL z f p a q) = true := by
  have hd := dg_get z f.1.toNat a q hq
  have h0 : a / z ^ (f.1.toNat - 1 - q) % z < z := Nat.mod_lt _ (by omega)
  have h1 := hp _ h0
  unfold allIn othL
  rw [List.all_eq_true]
  intro x hx
  rcases List.mem_or_eq_of_mem_set hx with h | h
  · exact List.all_eq_true.1 (digs_in (z := (z : Int)) (by omega) f.1.toNat a) x h
  · subst h
    rw [List.getD_eq_getElem?_getD, hd]
    simp only [Option.getD_some, Int.toNat_natCast]
    simp; omega
theorem oth_len {z : Nat} {f : OpD} {p : Nat → Int} {a q : Nat} : (othL z f p a q).length = f.1.toNat := by unfold othL; rw [List.length_set, digs_len]
theorem oth_bd {z : Nat} {f : OpD} {p : Nat → Int} {a q : Nat} (hz : 1 ≤ z) (hok : opOkB (z : Int) f = true) (hp : ∀ x, x < z → 0 ≤ p x ∧ p x < z) (hq : q < f.1.toNat) : 0 ≤ othA z f p a q ∧ othA z f p a q < z := by
  have h := at_get (z := (z : Int)) (by omega) hok (by rw [oth_len]; have := (opOkB_of hok).1; omega) (oth_in (a := a) hz hp hq)
  exact allIn_get (opOkB_of hok).2.2 h.2.2
/-- The place of the other arguments. -/
theorem oth_at {z : Nat} {f : OpD} {p : Nat → Int} {a q : Nat} (hz : 1 ≤ z) (hok : opOkB (z : Int) f = true) (hp : ∀ x, x < z → 0 ≤ p x ∧ p x < z) (hq : q < f.1.toNat) (ha : a < f.2.length) :
    othA z f p a q = gI f.2 (a + (p (a / z ^ (f.1.toNat - 1 - q) % z)).toNat * z ^ (f.1.toNat - 1 - q) - (a / z ^ (f.1.toNat - 1 - q) % z) * z ^ (f.1.toNat - 1 - q)) := by
  have hd := dg_get z f.1.toNat a q hq
  have h0 : a / z ^ (f.1.toNat - 1 - q) % z < z := Nat.mod_lt _ (by omega)
  have h1 := hp _ h0
  rw [tab_len hok] at ha
  have hs := dg_set z hz f.1.toNat a q (p (a / z ^ (f.1.toNat - 1 - q) % z)).toNat hq ha
  have e : othL z f p a q = (digs z f.1.toNat a).set q (((p (a / z ^ (f.1.toNat - 1 - q) % z)).toNat : Nat) : Int) := by
    unfold othL
    rw [List.getD_eq_getElem?_getD, hd, Option.getD_some, Int.toNat_natCast, Int.toNat_of_nonneg h1.1]
  unfold othA atA gI
  rw [e]
  congr 1
  omega

theorem form_lt {z st M Q d d' r : Nat} (hst : 0 < st) (hr : r < st) (h : (Q * z + d) * st + r < M * z * st) (hd' : d' < z) : (Q * z + d') * st + r < M * z * st := by
  have h1 : Q * z + d < M * z := by
    rcases Nat.lt_or_ge (Q * z + d) (M * z) with h2 | h2
    · exact h2
    · have := Nat.mul_le_mul_right st h2
      omega
  have h2 : Q < M := by
    rcases Nat.lt_or_ge Q M with h2 | h2
    · exact h2
    · have := Nat.mul_le_mul_right z h2
      omega
  have h3 : (Q + 1) * z ≤ M * z := Nat.mul_le_mul_right z h2
  rw [Nat.add_mul, Nat.one_mul] at h3
  have h4 : (Q * z + d' + 1) * st ≤ M * z * st := Nat.mul_le_mul_right st (by omega)
  rw [Nat.add_mul, Nat.one_mul] at h4
  omega
/-- One digit in another's place: where it leads, what stands there, and the way back. -/
theorem dig_move {z m j i d' : Nat} (hz : 1 ≤ z) (hj : j < m) (hi : i < z ^ m) (hd : d' < z) :
    i + d' * z ^ j - (i / z ^ j % z) * z ^ j < z ^ m ∧ (i + d' * z ^ j - (i / z ^ j % z) * z ^ j) / z ^ j % z = d' ∧
    i + d' * z ^ j - (i / z ^ j % z) * z ^ j + (i / z ^ j % z) * z ^ j - d' * z ^ j = i := by
  have hst : 0 < z ^ j := Nat.pow_pos (by omega)
  have hf := dig_form (z := z) (st := z ^ j) (i := i) hst
  have hr : i % z ^ j < z ^ j := Nat.mod_lt _ hst
  obtain ⟨st, hs⟩ : ∃ st, z ^ j = st := ⟨_, rfl⟩
  have hm : z ^ m = z ^ (m - 1 - j) * z * st := by
    rw [← hs, ← Nat.pow_succ, ← Nat.pow_add]
    congr 1
    omega
  rw [hs] at hst hf hr ⊢
  obtain ⟨Q, hQ⟩ : ∃ Q, i / st / z = Q := ⟨_, rfl⟩
  obtain ⟨d, hdd⟩ : ∃ d, i / st % z = d := ⟨_, rfl⟩
  obtain ⟨r, hrr⟩ : ∃ r, i % st = r := ⟨_, rfl⟩
  rw [hQ, hdd, hrr] at hf
  rw [hrr] at hr
  rw [hdd]
  have e : i + d' * st - d * st = (Q * z + d') * st + r := by
    rw [hf, Nat.add_mul, Nat.add_mul]; omega
  rw [e]
  refine ⟨?_, dig_at hst hr hd, ?_⟩
  · rw [hm] at hi ⊢
    rw [hf] at hi
    exact form_lt hst hr hi hd
  · rw [hf, Nat.add_mul, Nat.add_mul]; omega

theorem comp_iff {z : Nat} {fs : List OpD} {p : Nat → Int} (hz : 1 ≤ z) (h8 : z ≤ 8) (hok : algOkB (z : Int) fs = true) (hp : ∀ x, x < z → 0 ≤ p x ∧ p x < z) : compK z fs p z = true ↔ compP z fs p := by
  have hval : ∀ k, k < fs.length → ∀ i, i < (opAt fs k).2.length → (f8 (gI (opAt fs k).2 i)).val = (gI (opAt fs k).2 i).toNat := fun k hk i hi => by
    have := tab_bd (opAt_ok hok hk) hi
    exact f8_nat this.1 (by omega)
  rw [compK_get]
  constructor
  · intro h k hk a ha q hq
    have hko := opAt_ok hok hk
    have hL := tab_len hko
    obtain ⟨m, hm⟩ : ∃ m, (opAt fs k).1.toNat = m := ⟨_, rfl⟩
    have hat := oth_at hz hko hp hq ha
    rw [hm] at hL hq hat
    obtain ⟨j, hj⟩ : ∃ j, m - 1 - q = j := ⟨_, rfl⟩
    rw [hj] at hat
    have hx : a / z ^ j % z < z := Nat.mod_lt _ (by omega)
    obtain ⟨p0, p1⟩ := hp _ hx
    rw [hL] at ha
    obtain ⟨h1, h2, h3⟩ := dig_move (z := z) (m := m) (j := j) (i := a) (d' := (p (a / z ^ j % z)).toNat) hz (by omega) ha (by omega)
    obtain ⟨x, hxe⟩ : ∃ x, a / z ^ j % z = x := ⟨_, rfl⟩
    rw [hxe] at hat hx p0 p1 h1 h2 h3
    obtain ⟨i, hi⟩ : ∃ i, a + (p x).toNat * z ^ j - x * z ^ j = i := ⟨_, rfl⟩
    rw [hi] at hat h1 h2 h3
    have hall := List.all_eq_true.1 (h x hx) (prT (opAt fs k) (z ^ j) (p x).toNat x i) (alT_mem.2 ⟨k, hk, opT_mem.2 ⟨j, by rw [hm]; omega, plT_mem.2 ⟨i, by rw [hL]; exact h1, h2, rfl⟩⟩⟩)
    simp only [okT, prT, h3, beq_iff_eq] at hall
    rw [hval k hk i (by rw [hL]; exact h1), hval k hk a (by rw [hL]; exact ha)] at hall
    rw [hat]
    exact hall.symm
  · intro h x hx
    rw [List.all_eq_true]
    intro q hq
    obtain ⟨k, hk, hq⟩ := alT_mem.1 hq
    obtain ⟨j, hj, hq⟩ := opT_mem.1 hq
    obtain ⟨i, hi, hdg, rfl⟩ := plT_mem.1 hq
    have hko := opAt_ok hok hk
    have hL := tab_len hko
    obtain ⟨m, hm⟩ : ∃ m, (opAt fs k).1.toNat = m := ⟨_, rfl⟩
    rw [hm] at hL hj
    have hi2 := hi
    rw [hL] at hi
    obtain ⟨h1, h2, h3⟩ := dig_move (z := z) (m := m) (j := j) (i := i) (d' := x) hz (by omega) hi hx
    rw [hdg] at h1 h2 h3
    obtain ⟨a, ha⟩ : ∃ a, i + x * z ^ j - (p x).toNat * z ^ j = a := ⟨_, rfl⟩
    rw [ha] at h1 h2 h3
    have hc := h k hk a (by rw [hL]; exact h1) (m - 1 - j) (by rw [hm]; omega)
    rw [oth_at hz hko hp (by rw [hm]; omega) (by rw [hL]; exact h1), hm, show m - 1 - (m - 1 - j) = j by omega, h2, h3] at hc
    simp only [okT, prT, ha, beq_iff_eq]
    rw [hval k hk i hi2, hval k hk a (by rw [hL]; exact h1)]
    exact hc.symm

/-- A list is a congruence of an algebra. -/
def congB (z : Nat) (fs : List OpD) (xs : List Int) : Bool := partB (z : Int) xs && compK z fs (gI xs) z
theorem part_bd {z : Nat} {xs : List Int} (h : partB (z : Int) xs = true) : ∀ x, x < z → 0 ≤ gI xs x ∧ gI xs x < z := fun x hx => by
  obtain ⟨h1, h2⟩ := partB_of h
  have := (okAll_get h2 (k := x) (by omega)).1
  omega
theorem push_iff {z : Nat} {fs : List OpD} {xs : List Int} (hz : 1 ≤ z) (h8 : z ≤ 8) (hok : algOkB (z : Int) fs = true) (hp : partB (z : Int) xs = true) : (lstP z (pushF z fs (gI xs)) == xs) = compK z fs (gI xs) z := by
  have hl : xs.length = z := by have := (partB_of hp).1; omega
  rw [Bool.eq_iff_iff, comp_iff hz h8 hok (part_bd hp), beq_iff_eq]
  constructor
  · intro h k hk a ha q hq
    have hko := opAt_ok hok hk
    have h1 := tab_bd hko ha
    have h2 := oth_bd (a := a) hz hko (part_bd hp) hq
    have h3 : ∀ x, x < z → pushF z fs (gI xs) x = gI xs x := fun x hx => by
      have := gI_lstP (pushF z fs (gI xs)) hx
      rw [h] at this
      exact this.symm
    rw [← h3 _ (show (gI (opAt fs k).2 a).toNat < z by omega), ← h3 _ (show (othA z (opAt fs k) (gI xs) a q).toNat < z by omega)]
    exact pu3_tie ha hq hk
  · intro h
    unfold pushF
    rw [pu3_same _ h, ← hl, lstP_gI]
theorem pu1_bd {z n : Nat} {f : OpD} {p : Nat → Int} {a : Nat} {g : Nat → Int} {k : Nat} (hg : 0 ≤ g k) : True := trivial
end

section
set_option linter.unusedVariables false
variable {F : Fence} {n : Nat} {P : Program} {ops : Array Oper} {Q : Exit → Act → World → Prop} {md : Region.Mode} {S : World → Prop}

/-- The state behind an operation: its temporary, and what it defers. -/
def Behind (o : Oper) (a a' : Act) : Prop := ∃ u ds, a' = ({ a with defers := ds } : Act).put o.dst u
/-- Taken first: it yields v in every world that meets S, and calls nothing. -/
def Takes (P : Program) (ops : Array Oper) (S : World → Prop) (o : Oper) (v : Value) (a : Act) : Prop := YieldsIf P ops S o v a ∧ ∀ w, o.about P w a.eval = none

theorem Takes.behind {oi oj : Oper} {v : Value} {a a' : Act} (h : Takes P ops S oi v a) (hs : ∀ cs b, oi.op ≠ .select cs b) (hd : ∀ d, oj.dst = some d → d ∉ oi.looksAt ops) (hb : Behind oj a a') : Takes P ops S oi v a' := by
  obtain ⟨u, ds, rfl⟩ := hb
  have e1 : execOp (({ a with defers := ds } : Act).put oj.dst u).eval oi = execOp a.eval oi := execOp_put oi hs { a with defers := ds } oj.dst u hd
  have e2 : Region.wanted oi (yielded ops (({ a with defers := ds } : Act).put oj.dst u).tmps) = Region.wanted oi (yielded ops a.tmps) := wanted_put oi { a with defers := ds } oj.dst u hd
  exact ⟨h.1.of_same e1 e2, fun w => (about_put (P := P) (ops := ops) oi w { a with defers := ds } oj.dst u hd).trans (h.2 w)⟩
theorem Takes.run {i : Nat} {o : Oper} {v : Value} {a : Act} {w : World} {K : Act → World → Prop} (h : Takes P ops S o v a) (hro : F.round = none) (hi : ops[i]? = some o) (hS : S w) (hK : K (a.put o.dst v) w) : wpOpIn F n P ops Q i K a w := by
  have hab : ∀ f, o.about P w a.eval = some f → F.fn f := fun f e => by rw [h.2 w] at e; cases e
  unfold wpOpIn
  rw [hi]
  rcases h.1 with ⟨hw, hv⟩ | ⟨hw, rfl⟩
  · simp only [hw, if_true, Oper.wpIn, hro, Oper.semAt_none, hv w hS, Oper.uponIn]; exact ⟨hab, hK⟩
  · simp only [hw, Bool.false_eq_true, if_false]; exact ⟨hab, hK⟩

/-- Whether one's value is there already is all the same to the other one. -/
theorem wpOpIn_swap {j : Nat} {oi oj : Oper} {v : Value} (hro : F.round = none) (hj : ops[j]? = some oj) (hap : oi.apart ops oj = true) (hsj : ∀ cs b, oj.op ≠ .select cs b)
    (hQ : ∀ c a w, Q (.panic c) (a.put oi.dst v) w → Q (.panic c) a w) {K : Act → World → Prop} {a : Act} {w : World}
    (h : wpOpIn F n P ops Q j K (a.put oi.dst v) w) : wpOpIn F n P ops Q j (fun a' w' => Behind oj a a' ∧ K (a'.put oi.dst v) w') a w := by
  obtain ⟨h1, h2, _⟩ := Oper.apart_spec hap
  have val : ∀ (u : Value) (w' : World), K ((a.put oi.dst v).put oj.dst u) w' → Behind oj a (a.put oj.dst u) ∧ K ((a.put oj.dst u).put oi.dst v) w' := fun u w' hk =>
    ⟨⟨u, a.defers, rfl⟩, by rw [← Act.put_comm a v u h2]; exact hk⟩
  unfold wpOpIn at h ⊢
  rw [hj] at h ⊢
  dsimp only at h ⊢
  rw [wanted_put oj a oi.dst v h1, about_put oj w a oi.dst v h1] at h
  by_cases hw : Region.wanted oj (yielded ops a.tmps) = true
  · rw [if_pos hw] at h ⊢
    unfold Oper.wpIn at h ⊢
    rw [about_put oj w a oi.dst v h1, hro, Oper.semAt_none, execOp_put oj hsj a oi.dst v h1] at h
    rw [hro, Oper.semAt_none]
    obtain ⟨hf, h⟩ := h
    refine ⟨hf, ?_⟩
    generalize (execOp a.eval oj).run P w = r at h
    rcases r with ⟨x, w'⟩ | ⟨x, w'⟩
    · cases x with
      | value u => exact val u w' h
      | skip => exact val undef w' h
      | defer d => exact ⟨⟨undef, d :: a.defers, rfl⟩, by rw [← Act.put_comm _ v undef h2, ← Act.put_defers]; exact h⟩
      | enter f args =>
        exact ⟨h.1, CallsIn.mono h.2 fun e w2 he => by
          cases e with
          | returned u => exact val u w2 he
          | panicked c => exact hQ _ _ _ he
          | outgrown => exact he⟩
      | row row args => exact ⟨h.1, RowsIn.mono h.2 fun u w2 he => val u w2 he⟩
      | round l f tmps assign body =>
        exact ⟨h.1, RoundIn.mono h.2 fun e w2 he => by
          cases e with
          | returned u => exact val u w2 he
          | panicked c => exact hQ _ _ _ he
          | outgrown => exact he⟩
      | _ => exact False.elim h
    · cases x with
      | panic c => exact hQ _ _ _ h
      | _ => exact h
  · rw [if_neg hw] at h ⊢
    exact ⟨h.1, val undef w h.2⟩

/-- Members of the chain other than i wait for a member, and none has come up: so none of them comes up ahead of i. -/
def chainB (md : Region.Mode) (ops : Array Oper) (listed : Array Bool) (i : Nat) (ch : List Nat) : Bool :=
  ch.all fun p => !(listed.getD p true) && (p == i || (match ops[p]? with | some o => o.after.any (fun e => Region.binds md e && ch.contains e.on) | none => true))
theorem chain_out {listed : Array Bool} {i j : Nat} {oj : Oper} {ch : List Nat} (h : chainB md ops listed i ch = true) (hji : j ≠ i) (hoj : ops[j]? = some oj) (hr : ∀ e ∈ oj.after, Region.binds md e = true → listed.getD e.on false = true) : j ∉ ch := by
  intro hm
  have h1 := List.all_eq_true.1 h j hm
  rw [hoj] at h1
  simp only [Bool.and_eq_true, Bool.or_eq_true, beq_iff_eq, Array.any_eq_true', List.contains_iff_mem] at h1
  rcases h1.2 with h2 | ⟨e, he, hb, hc⟩
  · exact hji h2
  · have h3 := hr e he hb
    have h4 := List.all_eq_true.1 h e.on hc
    simp only [Bool.and_eq_true, Bool.not_eq_true'] at h4
    have h5 := h4.1
    rw [Array.getD_eq_getD_getElem?] at h5 h3
    cases hx : listed[e.on]? with
    | none => rw [hx] at h3; cases h3
    | some b => rw [hx] at h3 h5; cases b <;> simp at h3 h5
theorem chain_set {listed : Array Bool} {i j : Nat} {ch : List Nat} (h : chainB md ops listed i ch = true) (hj : j ∉ ch) : chainB md ops (listed.setIfInBounds j true) i ch = true := by
  unfold chainB at h ⊢
  rw [List.all_eq_true] at h ⊢
  intro p hp
  have hne : j ≠ p := fun e => hj (e ▸ hp)
  rw [getD_set_ne true hne]
  exact h p hp

/-- Whatever order is picked, up to operation c; S is shown behind each operation ahead of it. -/
def wpAnyS (F : Fence) (n : Nat) (P : Program) (md : Region.Mode) (ops : Array Oper) (Q : Exit → Act → World → Prop) (S : World → Prop) (c : Nat) : Nat → Array Bool → Act → World → Prop
  | 0, listed, a, w => Region.ready md ops listed = [] ∧ Q .normal a w
  | fuel + 1, listed, a, w => (Region.ready md ops listed = [] → Q .normal a w) ∧
    ∀ i ∈ Region.ready md ops listed, wpOpIn F n P ops Q i (fun a' w' => if i = c then wpAnyIn F n P md ops Q fuel (listed.setIfInBounds i true) a' w' else S w' ∧ wpAnyS F n P md ops Q S c fuel (listed.setIfInBounds i true) a' w') a w
theorem wpAnyS.any {c : Nat} : ∀ (fuel : Nat) (listed : Array Bool) (a : Act) (w : World), wpAnyS F n P md ops Q S c fuel listed a w → wpAnyIn F n P md ops Q fuel listed a w
  | 0, _, _, _, h => h
  | fuel + 1, _, _, _, h => ⟨h.1, fun i hi => wpOpIn_mono (fun a' w' k => by
      by_cases hc : i = c
      · rw [if_pos hc] at k; exact k
      · rw [if_neg hc] at k; exact wpAnyS.any fuel _ a' w' k.2) (h.2 i hi)⟩

theorem wpAnyS_first {i c : Nat} {oi : Oper} {v : Value} {ch : List Nat} (hro : F.round = none) (hi : ops[i]? = some oi) (hic : i ≠ c) (hcc : c ∈ ch) (hsel : ∀ (j : Nat) (o : Oper) cs b, ops[j]? = some o → o.op ≠ .select cs b)
    (hQ : ∀ c a w, Q (.panic c) (a.put oi.dst v) w → Q (.panic c) a w) : ∀ (fuel : Nat) (listed : Array Bool) (a : Act) (w : World),
      (∀ j oj, ops[j]? = some oj → j ≠ i → listed.getD j true = false → (∀ e ∈ oj.after, Region.binds md e = true → e.on ≠ i) → oi.apart ops oj = true) →
      chainB md ops listed i ch = true → i ∈ Region.ready md ops listed → Takes P ops S oi v a → S w →
      wpAnyS F n P md ops Q S c fuel (listed.setIfInBounds i true) (a.put oi.dst v) w → wpAnyS F n P md ops Q S c (fuel + 1) listed a w
  | 0, listed, a, w, _, _, hr, hy, hS, H => by
    refine ⟨fun e => (by rw [e] at hr; cases hr), fun j hj => ?_⟩
    by_cases hji : j = i
    · subst hji; exact hy.run hro hi hS (by rw [if_neg hic]; exact ⟨hS, H⟩)
    · have h0 := ready_mono hj hji
      rw [H.1] at h0; cases h0
  | fuel + 1, listed, a, w, hfree, hch, hr, hy, hS, H => by
    refine ⟨fun e => (by rw [e] at hr; cases hr), fun j hj => ?_⟩
    by_cases hji : j = i
    · subst hji; exact hy.run hro hi hS (by rw [if_neg hic]; exact ⟨hS, H⟩)
    obtain ⟨hun, oj, hoj, hall⟩ := mem_ready.1 hj
    have hjc : j ∉ ch := chain_out hch hji hoj fun e he hb => hall e he hb
    have hne : j ≠ c := fun e => hjc (e ▸ hcc)
    have hno : ∀ e ∈ oj.after, Region.binds md e = true → e.on ≠ i := fun e he hb heq => by
      have k1 := hall e he hb
      have k0 := (mem_ready.1 hr).1
      rw [heq] at k1
      rcases Nat.lt_or_ge i listed.size with h' | h'
      · simp [h'] at k0 k1; rw [k0] at k1; cases k1
      · simp [Array.getElem?_eq_none h'] at k1
    have hap := hfree j oj hoj hji hun hno
    have h2 := wpOpIn_swap hro hoj hap (fun cs b => hsel j oj cs b hoj) hQ (H.2 j (ready_mono hj hji))
    refine wpOpIn_mono (fun a' w' k => ?_) h2
    rw [if_neg hne] at k ⊢
    refine ⟨k.2.1, ?_⟩
    refine wpAnyS_first hro hi hic hcc hsel hQ fuel _ a' w' (fun m om hm hmi hmu hmo => hfree m om hm hmi ?_ hmo) (chain_set hch hjc) (ready_mono hr (Ne.symm hji))
      (hy.behind (fun cs b => hsel i oi cs b hi) (Oper.apart_spec hap).2.2 k.1) k.2.1 ?_
    · by_cases hjm : j = m
      · subst hjm; exact hun
      · rw [getD_set_ne true hjm] at hmu; exact hmu
    · rw [Array.setIfInBounds_comm _ _ hji]
      exact k.2.2

theorem wpAnyS_take {i c : Nat} {oi : Oper} {v : Value} {fuel : Nat} {listed : Array Bool} {a : Act} {w : World} (ch : List Nat) (hro : F.round = none) (hi : ops[i]? = some oi) (hic : i ≠ c) (hcc : c ∈ ch)
    (hs : Region.noSelect ops = true) (hf : Region.free md ops listed i = true) (hch : chainB md ops listed i ch = true) (hr : (Region.ready md ops listed).contains i = true)
    (hQ : ∀ c a w, Q (.panic c) (a.put oi.dst v) w → Q (.panic c) a w) (hy : YieldsIf P ops S oi v a) (hb : ∀ w, oi.about P w a.eval = none) (hS : S w)
    (h : wpAnyS F n P md ops Q S c fuel (listed.setIfInBounds i true) (a.put oi.dst v) w) : wpAnyS F n P md ops Q S c (fuel + 1) listed a w :=
  wpAnyS_first hro hi hic hcc (Region.noSelect_spec hs) hQ fuel listed a w (Region.free_spec hi hf) hch (by simpa using hr) ⟨hy, hb⟩ hS h
/-- Operation c, alone. -/
theorem wpAnyS_call {c : Nat} {o : Oper} {fuel : Nat} {listed : Array Bool} {a : Act} {w : World} (hr : Region.ready md ops listed = [c]) (ho : ops[c]? = some o) (hw : Region.wanted o (yielded ops a.tmps) = true)
    (h : ∀ K : Act → World → Prop, (∀ a' w', wpAnyIn F n P md ops Q fuel (listed.setIfInBounds c true) a' w' → K a' w') → Oper.wpIn F n P o a w K Q) : wpAnyS F n P md ops Q S c (fuel + 1) listed a w := by
  refine ⟨fun e => (by rw [hr] at e; cases e), fun j hj => ?_⟩
  rw [hr] at hj
  obtain rfl : j = c := by simpa using hj
  refine wpOpIn_step ho fun K hK => ?_
  rw [if_pos hw]
  exact h K fun a' w' h1 => hK _ _ (by rw [if_pos rfl]; exact h1)
theorem wpIn_region_S {id : Nat} {a : Act} {w : World} (S : World → Prop) (c : Nat) (hm : P.follows .mixedOrders = true)
    (h : wpAnyS F n P .any ops Q S c ops.size (Array.replicate ops.size false) a { w with drawn := w.drawn + 1 }) : (Code.region id ops true).wpIn F n P Q a w :=
  wpIn_region_any hm (wpAnyS.any _ _ _ _ h)
end

section
open Go.RowKit Go.Shelf
set_option linter.unusedVariables false
set_option linter.unusedSimpArgs false
attribute [local go_sem] Oper.semAt_some

theorem translations_any (z : Int) (ao : Option Addr) (n c : Nat) (s t : Int) (w : World) :
    Calls Try.prog 141 #[.agg #[.int .i64 z, .slice ao n c], .int .i64 s, .int .i64 t] w fun e w' =>
      e = .returned (.func (.func 149) #[] #[.pointer (some ⟨w.heap.size, 0, none⟩), .pointer (some ⟨w.heap.size + 1, 0, none⟩), .pointer (some ⟨w.heap.size + 1 + 1, 0, none⟩)]) ∧
      w' = ((w.alloc (.cells #[.int .i64 z, .slice ao n c] 31)).alloc (.cells #[.int .i64 s] 3)).alloc (.cells #[.int .i64 t] 3) := by
  have hmf : ∀ (fn : Fn) (first cap : Array Value) (w : World), (Instr.makeFunc fn first cap).run Try.prog w = .ok (.func fn first cap) w := fun _ _ _ _ => rfl
  go_enter Try.func141, Try.ntmps141
  go_wp2
  go_ret
  exact ⟨rfl, rfl⟩

/-- What a round keeps: what lies below B, the three boxes from X on, and every operation that lies alone. -/
structure KeepT (B X : Nat) (W W' : World) : Prop where
  bel : Below B W W'
  size : W.heap.size ≤ W'.heap.size
  box : ∀ j, X ≤ j → j < X + 3 → W'.heap[j]? = W.heap[j]?
  op : ∀ (j : Nat) (a : Array Value) (f : Nat × Nat), W.heap[j]? = some (Obj.cells a 66 f) → W'.heap[j]? = some (Obj.cells a 66 f)
theorem KeepT.refl (B X : Nat) (W : World) : KeepT B X W W := ⟨Below.refl _ _, Nat.le_refl _, fun _ _ _ => rfl, fun _ _ _ h => h⟩
theorem KeepT.trans {B X : Nat} {A C D : World} (h : KeepT B X A C) (k : KeepT B X C D) : KeepT B X A D :=
  ⟨h.bel.trans k.bel, Nat.le_trans h.size k.size, fun j h1 h2 => (k.box j h1 h2).trans (h.box j h1 h2), fun j a f e => k.op j a f (h.op j a f e)⟩
theorem KeepT.alloc {B X : Nat} {A C : World} (h : KeepT B X A C) (hB : B ≤ C.heap.size) (hX : X + 3 ≤ C.heap.size) (o : Obj) : KeepT B X A (C.alloc o) :=
  ⟨h.bel.alloc hB o, by have := h.size; simp; omega, fun j h1 h2 => (Below.heap_alloc _ _ _ (by omega)).trans (h.box j h1 h2), fun j a f e => by
    have h2 := h.op j a f e
    exact (Below.heap_alloc _ _ _ (by have := (Array.getElem?_eq_some_iff.1 h2).1; omega)).trans h2⟩
theorem KeepT.drew {B X : Nat} {A C : World} (h : KeepT B X A C) : KeepT B X A C.drew := ⟨h.bel.drew, h.size, h.box, h.op⟩
theorem KeepT.put {B X : Nat} {w : World} (hB : B ≤ w.heap.size) (hX : X + 3 ≤ w.heap.size) (W : World) (l : Nat) (o o' : Obj) (hl : w.heap.size ≤ l) (h : W.heap[l]? = some o) (hc : o.isCells = false) (hw : o.isWalk = false) : KeepT B X W (W.putObj l o') :=
  ⟨belowK_b (w := w) hB W l o o' hl h hc hw, by simp [World.putObj], fun j h1 h2 => World.putObj_heap_other (by omega), fun j a f e => by
    by_cases hj : j = l
    · subst hj; rw [e] at h; injection h with h; subst h; cases hc
    · rw [World.putObj_heap_other hj]; exact e⟩
/-- What is told of a pair. -/
def encT (q : Fin 8 × Fin 8) : Array Value := #[.int .i64 ((q.1.val : Nat) : Int), .int .i64 ((q.2.val : Nat) : Int)]

theorem two_set {w : World} {B : Nat} {a b u v : Value} {ty : TypeId} (h : w.heap[B]? = some (.cells #[a, b] ty (0, 0))) : ((w.setCell ⟨B, 0, none⟩ u).setCell ⟨B, 1, none⟩ v).heap[B]? = some (.cells #[u, v] ty (0, 0)) := by
  simp [World.setCell, Array.getElem?_modify, h]
theorem world_ext {A C : World} (h1 : A.heap = C.heap) (h2 : A.tape = C.tape) (h3 : A.drawn = C.drawn) (h4 : A.os = C.os) (h5 : A.output = C.output) : A = C := by
  cases A; cases C; simp_all
theorem alloc_set2 (w : World) (a b u v : Value) (ty : TypeId) : ((w.alloc (.cells #[a, b] ty)).setCell ⟨w.heap.size, 0, none⟩ u).setCell ⟨w.heap.size, 1, none⟩ v = w.alloc (.cells #[u, v] ty) := by
  have hs : (((w.alloc (.cells #[a, b] ty)).setCell ⟨w.heap.size, 0, none⟩ u).setCell ⟨w.heap.size, 1, none⟩ v).heap.size = w.heap.size + 1 := by simp [World.setCell]
  refine world_ext ?_ rfl rfl rfl rfl
  apply Array.ext_getElem?
  intro i
  by_cases hi : i = w.heap.size
  · subst hi
    rw [heap_alloc_new w (.cells #[u, v] ty)]
    exact two_set (heap_alloc_new w (.cells #[a, b] ty))
  · by_cases hl : i < w.heap.size
    · rw [Below.heap_setCell _ _ _ _ hi, Below.heap_setCell _ _ _ _ hi, Below.heap_alloc _ _ _ hl, Below.heap_alloc _ _ _ hl]
    · rw [Array.getElem?_eq_none (by omega), Array.getElem?_eq_none (by simp; omega)]
/-- Ahead of the first place with digit s in a row of z digits; behind the last one. -/
theorem row_dig {z st i e : Nat} (hst : 1 ≤ st) (h1 : i * (z * st) ≤ e) (h2 : e < (i + 1) * (z * st)) : e / st % z = (e - i * (z * st)) / st := by
  have e1 : e = st * (z * i) + (e - i * (z * st)) := by
    have h : i * (z * st) = st * (z * i) := by rw [← Nat.mul_assoc, Nat.mul_comm (i * z) st, Nat.mul_comm i z]
    omega
  have h3 : (e - i * (z * st)) / st < z := by
    rw [Nat.div_lt_iff_lt_mul (by omega)]
    rw [Nat.succ_mul] at h2
    omega
  have h4 : e / st = z * i + (e - i * (z * st)) / st := by
    conv => lhs; rw [e1]
    rw [Nat.mul_add_div (by omega)]
  rw [h4, Nat.mul_add_mod, Nat.mod_eq_of_lt h3]
theorem skip_low {z st s i e : Nat} (hst : 1 ≤ st) (hs : s < z) (h1 : i * (z * st) ≤ e) (h2 : e < i * (z * st) + s * st) : ¬ e / st % z = s := by
  have h3 : (i + 1) * (z * st) = i * (z * st) + z * st := Nat.succ_mul _ _
  have h4 : s * st ≤ z * st := Nat.mul_le_mul_right st (by omega)
  rw [row_dig hst h1 (by omega)]
  have h5 : (e - i * (z * st)) / st < s := by rw [Nat.div_lt_iff_lt_mul (by omega)]; omega
  omega
theorem skip_high {z st s i e : Nat} (hst : 1 ≤ st) (hs : s < z) (h1 : i * (z * st) + s * st + st ≤ e) (h2 : e < (i + 1) * (z * st)) : ¬ e / st % z = s := by
  rw [row_dig hst (by omega) h2]
  have h5 : s + 1 ≤ (e - i * (z * st)) / st := by rw [Nat.le_div_iff_mul_le (by omega), Nat.succ_mul]; omega
  omega
theorem grown_drew (W : World) : W.grownBy W.drew none := ⟨rfl, rfl, rfl, Nat.le_refl _, fun _ _ _ => rfl⟩
end

section
open Go.RowKit Go.Shelf
set_option linter.unusedVariables false
set_option linter.unusedSimpArgs false
attribute [local go_sem] Oper.semAt_some

/-- The three boxes. -/
structure TrB (W : World) (X z nn c s t : Nat) (ao : Option Addr) : Prop where
  a : W.heap[X]? = some (.cells #[.int .i64 (z : Int), .slice ao nn c] 31 (0, 0))
  s : W.heap[X + 1]? = some (.cells #[.int .i64 (s : Int)] 3 (0, 0))
  t : W.heap[X + 2]? = some (.cells #[.int .i64 (t : Int)] 3 (0, 0))
theorem TrB.keep {W W' : World} {X z nn c s t B : Nat} {ao : Option Addr} (h : TrB W X z nn c s t ao) (k : KeepT B X W W') : TrB W' X z nn c s t ao :=
  ⟨(k.box X (by omega) (by omega)).trans h.a, (k.box (X + 1) (by omega) (by omega)).trans h.s, (k.box (X + 2) (by omega) (by omega)).trans h.t⟩
theorem TrB.cells {W : World} {X z nn c s t : Nat} {ao : Option Addr} (h : TrB W X z nn c s t ao) : W.cell? ⟨X, 0, none⟩ = some (.int .i64 (z : Int)) ∧ W.cell? ⟨X, 1, none⟩ = some (.slice ao nn c) ∧ W.cell? ⟨X + 1, 0, none⟩ = some (.int .i64 (s : Int)) ∧ W.cell? ⟨X + 2, 0, none⟩ = some (.int .i64 (t : Int)) :=
  ⟨(box_cells h.a).1, (box_cells h.a).2.1, Boxed.cell (t := 3) h.s, Boxed.cell (t := 3) h.t⟩

theorem pow_le_8 {z j : Nat} (hz : z ≤ 8) (hj : j ≤ 2) : z ^ j ≤ 64 := by
  have h1 : z ^ j ≤ 8 ^ j := Nat.pow_le_pow_left hz j
  have h2 : (8 : Nat) ^ j ≤ 8 ^ 2 := Nat.pow_le_pow_right (by decide) hj
  omega
theorem mul_bd {a b p q : Nat} (ha : a ≤ p) (hb : b ≤ q) : a * b ≤ p * q := Nat.mul_le_mul ha hb

set_option maxRecDepth 100000 in
set_option maxHeartbeats 8000000 in
theorem trn_seq (n X B z nn c s t lo hi : Nat) (ao : Option Addr) (fs : List OpD) (w : World) (hX : X + 3 ≤ w.heap.size) (hB : B ≤ w.heap.size) (hv : OView w lo hi ao nn fs) (hhi : hi ≤ B) (hok : algOkB (z : Int) fs = true) (hs : s < z) (ht : t < z)
    (hb : TrB w X z nn c s t ao) :
    SeqStopsK Fence.wide n Try.prog 149 #[.pointer (some ⟨X, 0, none⟩), .pointer (some ⟨X + 1, 0, none⟩), .pointer (some ⟨X + 2, 0, none⟩)] encT (KeepT B X) (fun xs => xs = alT z fs s t nn) (fun pre => pre <+: alT z fs s t nn) (alT z fs s t nn).length w := by
  intro l J Jx W hW hJ hJx hY hJ0
  have HTb : Hid (TrB W X z nn c s t ao) := ⟨(hW.block X (by omega)).trans hb.a, (hW.block (X + 1) (by omega)).trans hb.s, (hW.block (X + 2) (by omega)).trans hb.t⟩
  have HV := Lib.hid (hv.kept (Kept.of_below hW (by omega)))
  have hsz : w.heap.size ≤ W.heap.size := hW.size
  obtain ⟨cz, ca, cs, ct⟩ := HTb.out.cells
  obtain ⟨⟨hz1, hz8⟩, hn4, hall⟩ := algOkB_of hok
  have hnl := hv.1
  have HAll := Lib.hid hall
  have HJ := Lib.hid hJ
  have HY := Lib.hid hY
  have HJ0 : Hid (J (alT z fs s t 0) W) := hJ0
  have HK0 := Lib.hid (KeepT.refl B X W)
  clear hb hv hW hok hall hJ hY hJ0 hJx
  refine callsIn_of_wp Try.func149 rfl trivial ?_ rfl
  simp only [Try.ntmps149, List.size_toArray, List.length_cons, List.length_nil, Nat.reduceAdd, Nat.reduceSub, Array.replicate_succ, Array.replicate_zero, List.push_toArray, List.append_toArray, List.nil_append, List.cons_append]
  gi_wp2
  gi_loopw [6, 7, 8, 9, 13] (fun _ _ _ _ i wr => ∃ k : Nat, k ≤ nn ∧ i = .int .i64 (k : Int) ∧ Hid (J (alT z fs s t k) wr) ∧ Hid (KeepT B X W wr)) (fun _ _ _ _ i _ => nn - (intOf i).toNat)
  case atStart => exact ⟨0, Nat.zero_le _, rfl, HJ0, HK0⟩
  case round =>
    obtain ⟨k, hk, rfl, HJk, HK⟩ := hrel
    clear cz ca cs ct
    by_cases hlt : k < nn
    · have hkn : (k : Int) < (nn : Int) := by omega
      obtain ⟨b, o, rfl, _, hbh, hc⟩ := (HV.out.kept (Kept.of_below HK.out.bel hhi)).at_ (by omega)
      obtain ⟨f, hf⟩ := get_of_lt HV.out.1 hlt
      obtain ⟨ta, m, tc, c0, c1, hmt, htc, hvt⟩ := hc k f hf
      have hokf := HAll.out f (List.mem_of_getElem? hf)
      have hL := tab_len hokf
      have hml := hvt.1
      obtain ⟨ar, har⟩ : ∃ ar : Nat, f.1 = (ar : Int) := ⟨f.1.toNat, by have := (opOkB_of hokf).1; omega⟩
      have har3 : ar ≤ 3 := by have := (opOkB_of hokf).1; omega
      rw [har] at c0
      have hpow : 0 < z ^ ar := Nat.pow_pos (by omega)
      have hm1 : 1 ≤ m := by rw [← hml, hL, har]; exact hpow
      have hm512 : m ≤ 512 := by have := (place_bd (z := (z : Int)) (by omega) hz8 hokf).1; omega
      obtain ⟨bt, ot, rfl, _, hbth, hct⟩ := hvt.at_ (by omega)
      have HCt := Lib.hid hct
      have HEf := Lib.hid (opAt_get hf)
      have HMl := Lib.hid hml
      have HL := Lib.hid (show m = z ^ ar by rw [← hml, hL, har]; rfl)
      have HOkf := Lib.hid hokf
      have HAr := Lib.hid har
      have HBlk := Lib.hid (fun (W' : World) (hW' : Below B wr W') (i : Nat) (y : Int) (hy : f.2[i]? = some y) => (hW'.cell (p := ⟨bt, ot + i, none⟩) (show bt < B by omega)).trans (hct i y hy))
      obtain ⟨cz, ca, cs, ct⟩ := (HTb.out.keep HK.out).cells
      have hszr : W.heap.size ≤ wr.heap.size := HK.out.size
      clear hc hf hvt hct hokf hL hml har hpow hbth hmt htc
      gi_wp2
      obtain ⟨F, hF⟩ : ∃ F, F = wr.heap.size := ⟨_, rfl⟩
      obtain ⟨w1, hw1⟩ : ∃ w1, w1 = wr.alloc (.cells #[.int .i64 (ar : Int), .slice (some ⟨bt, ot, none⟩) m tc] 66) := ⟨_, rfl⟩
      have HF1 : Hid (w1.heap[F]? = some (.cells #[.int .i64 (ar : Int), .slice (some ⟨bt, ot, none⟩) m tc] 66 (0, 0))) := by unfold Hid; rw [hw1, hF]; exact heap_alloc_new _ _
      have HK1 : Hid (KeepT B X W w1) := by unfold Hid; rw [hw1]; exact HK.out.alloc (by omega) (by omega) _
      have HJ1 : Hid (J (alT z fs s t k ++ opT z f s t 0) w1) := by
        unfold Hid; rw [opT, List.append_nil, hw1]
        exact HJ.out _ _ _ none HJk.out (World.grownBy_alloc wr _ none) (by simp)
      have HB1 : Hid (Below B wr w1) := by unfold Hid; rw [hw1]; exact (Below.refl _ _).alloc (by omega) _
      rw [← hw1, ← hF]
      clear hw1 hF cz ca cs ct c0 c1
      gi_loopw [7, 8, 9, 19] (fun sv _ _ i wp => ∃ j st : Nat, j ≤ ar ∧ i = .int .i64 (j : Int) ∧ sv = .int .i64 (st : Int) ∧ Hid (st = z ^ j) ∧ Hid (J (alT z fs s t k ++ opT z f s t j) wp) ∧ Hid (KeepT B X W wp) ∧ Hid (wp.heap[F]? = some (.cells #[.int .i64 (ar : Int), .slice (some ⟨bt, ot, none⟩) m tc] 66 (0, 0))) ∧ Hid (Below B wr wp)) (fun _ _ _ i _ => ar - (intOf i).toNat)
      case atStart => exact ⟨0, 1, Nat.zero_le _, rfl, rfl, rfl, HJ1, HK1, HF1, HB1⟩
      case round =>
        rename World => wp
        obtain ⟨j, st, hj, rfl, rfl, HSt, HJp, HKp, HFp, HBp⟩ := hrel
        clear HJ1 HK1 HF1 HB1
        obtain ⟨f0, f1, _⟩ := box_cells HFp.out
        obtain ⟨cz, ca, cs, ct⟩ := (HTb.out.keep HKp.out).cells
        by_cases hltj : j < ar
        · have hjn : (j : Int) < (ar : Int) := by omega
          have hst64 : st ≤ 64 := by rw [HSt.out]; exact pow_le_8 (by omega) (by omega)
          have hst1 : 1 ≤ st := by rw [HSt.out]; exact Nat.pow_pos (by omega)
          obtain ⟨M, hM⟩ : ∃ M, M = z ^ (ar - 1 - j) := ⟨_, rfl⟩
          have hzp : z ^ ar = z ^ (ar - 1 - j) * (z * z ^ j) := by rw [← Nat.pow_succ', ← Nat.pow_add]; congr 1; omega
          have HMm : Hid (m = M * (z * st)) := by unfold Hid; rw [HL.out, hM, HSt.out]; exact hzp
          obtain ⟨zs, hzs⟩ : ∃ zs, z * st = zs := ⟨_, rfl⟩
          obtain ⟨ss, hss⟩ : ∃ ss, s * st = ss := ⟨_, rfl⟩
          have hss1 : ss + st ≤ zs := by rw [← hss, ← hzs]; have := Nat.mul_le_mul_right st hs; rw [Nat.succ_mul] at this; exact this
          have hzs1 : zs ≤ 512 := by rw [← hzs]; exact mul_bd (p := 8) (q := 64) (by omega) hst64
          have iss : (s : Int) * (st : Int) = (ss : Int) := by rw [← hss, Int.natCast_mul]
          have izs : (z : Int) * (st : Int) = (zs : Int) := by rw [← hzs, Int.natCast_mul]
          have izs2 : (st : Int) * (z : Int) = (zs : Int) := by rw [Int.mul_comm]; exact izs
          have HJ2 : Hid (J (alT z fs s t k ++ (opT z f s t j ++ plT z f st s t 0)) wp) := by unfold Hid; rw [plT, List.append_nil]; exact HJp.out
          have HZs := Lib.hid hzs
          have HSs := Lib.hid hss
          clear hM hzp hzs hss
          gi_wp2
          gi_loopw [8, 9] (fun a8 _ ws => ∃ i q : Nat, a8 = .int .i64 (q : Int) ∧ q ≤ 1024 ∧ Hid (i ≤ M ∧ q = ss + i * zs) ∧ Hid (J (alT z fs s t k ++ (opT z f s t j ++ plT z f st s t (i * zs))) ws) ∧ Hid (KeepT B X W ws) ∧ Hid (ws.heap[F]? = some (.cells #[.int .i64 (ar : Int), .slice (some ⟨bt, ot, none⟩) m tc] 66 (0, 0))) ∧ Hid (Below B wr ws)) (fun a8 _ _ => 2000 - (intOf a8).toNat)
          case atStart => exact ⟨0, ss, by simp only [iss], by omega, ⟨Nat.zero_le _, by simp⟩, by unfold Hid; rw [Nat.zero_mul]; exact HJ2.out, HKp, HFp, HBp⟩
          case round =>
            rename World => ws
            obtain ⟨i, q, rfl, hq, HIq, HJs, HKs, HFs, HBs⟩ := hrel
            clear HJ2 cz ca cs ct f0 f1
            obtain ⟨f0, f1, _⟩ := box_cells HFs.out
            obtain ⟨cz, ca, cs, ct⟩ := (HTb.out.keep HKs.out).cells
            obtain ⟨hiM, hqe⟩ := HIq.out
            by_cases hqm : q < m
            · have hqn : (q : Int) < (m : Int) := by omega
              have hiM2 : i < M := by
                rcases Nat.lt_or_ge i M with h | h
                · exact h
                · have h2 := Nat.mul_le_mul_right zs h
                  have h3 := HMm.out
                  rw [HZs.out] at h3
                  omega
              have hnext : (i + 1) * zs ≤ m := by
                have h3 := HMm.out
                rw [HZs.out] at h3
                rw [h3]; exact Nat.mul_le_mul_right zs hiM2
              rw [Nat.succ_mul] at hnext
              have HNx := Lib.hid hnext
              have HQe := Lib.hid hqe
              have HJ3 : Hid (J (alT z fs s t k ++ (opT z f s t j ++ plT z f st s t (q + 0))) ws) := by
                unfold Hid
                rw [Nat.add_zero, hqe, Nat.add_comm, plT_skip ss (fun e h1 h2 => ?_)]
                · exact HJs.out
                · have h3 := skip_low (z := z) (st := st) (s := s) (i := i) (e := e) hst1 hs (by rw [HZs.out]; exact h1) (by rw [HZs.out, HSs.out]; exact h2)
                  exact h3
              clear hiM hqe hiM2 hnext
              gi_wp2
              gi_loopw [9] (fun a9 wq => ∃ r p : Nat, r ≤ st ∧ a9 = .int .i64 (p : Int) ∧ p = q + r ∧ Hid (J (alT z fs s t k ++ (opT z f s t j ++ plT z f st s t (q + r))) wq) ∧ Hid (KeepT B X W wq) ∧ Hid (wq.heap[F]? = some (.cells #[.int .i64 (ar : Int), .slice (some ⟨bt, ot, none⟩) m tc] 66 (0, 0))) ∧ Hid (Below B wr wq)) (fun a9 _ => 2000 - (intOf a9).toNat)
              case atStart => exact ⟨0, q, Nat.zero_le _, rfl, rfl, HJ3, HKs, HFs, HBs⟩
              case round =>
                rename World => wq
                obtain ⟨r, p, hr, rfl, hp, HJq, HKq, HFq, HBq⟩ := hrel
                clear HJ3 cz ca cs ct f0 f1
                obtain ⟨f0, f1, _⟩ := box_cells HFq.out
                obtain ⟨cz, ca, cs, ct⟩ := (HTb.out.keep HKq.out).cells
                by_cases hrst : r < st
                · have hpn : (p : Int) < (q : Int) + (st : Int) := by omega
                  have hdig : p / st % z = s := by
                    have h_ := dig_at (z := z) (st := st) (q := i) (d := s) (r := r) hst1 hrst hs
                    rw [show (i * z + s) * st + r = p by rw [hp, HQe.out, Nat.add_mul, Nat.mul_assoc, HZs.out, HSs.out]; omega] at h_
                    exact h_
                  have hpm : p < m := by have := HNx.out; have := HQe.out; omega
                  obtain ⟨i2, hi2⟩ : ∃ i2, p + t * st - s * st = i2 := ⟨_, rfl⟩
                  have hmv := dig_move (z := z) (m := ar) (j := j) (i := p) (d' := t) (by omega) hltj (by rw [← HL.out]; exact hpm) ht
                  rw [← HSt.out, hdig, hi2, ← HL.out] at hmv
                  have hi2m : i2 < m := hmv.1
                  have hps : s * st ≤ p := by rw [HSs.out]; have := HQe.out; omega
                  have HE : Hid ((p : Int) + ((t : Int) - (s : Int)) * (st : Int) = (i2 : Int)) := by
                    unfold Hid
                    rw [Int.sub_mul, ← Int.natCast_mul, ← Int.natCast_mul]
                    omega
                  have hb1 : -4096 ≤ ((t : Int) - (s : Int)) * (st : Int) ∧ ((t : Int) - (s : Int)) * (st : Int) ≤ 4096 := by
                    have := HE.out
                    omega
                  obtain ⟨hb1, hb2⟩ := hb1
                  have hw1 : IntKind.i64.wrap ((t : Int) - (s : Int)) = (t : Int) - (s : Int) := by rw [IntKind.wrap_i64]; omega
                  have hw2 : IntKind.i64.wrap (((t : Int) - (s : Int)) * (st : Int)) = ((t : Int) - (s : Int)) * (st : Int) := by rw [IntKind.wrap_i64]; omega
                  have hw3 : IntKind.i64.wrap ((p : Int) + ((t : Int) - (s : Int)) * (st : Int)) = (i2 : Int) := by rw [HE.out, IntKind.wrap_i64]; omega
                  obtain ⟨y1, hy1⟩ : ∃ y1, gI f.2 p = y1 := ⟨_, rfl⟩
                  obtain ⟨y2, hy2⟩ : ∃ y2, gI f.2 i2 = y2 := ⟨_, rfl⟩
                  have hg1 := get_gI HMl.out hpm
                  have hg2 := get_gI HMl.out hi2m
                  rw [hy1] at hg1
                  rw [hy2] at hg2
                  have ey1 := HBlk.out _ HBq.out _ _ hg1
                  have ey2 := HBlk.out _ HBq.out _ _ hg2
                  have hbd1 := tab_bd HOkf.out (i := p) (by rw [HMl.out]; exact hpm)
                  have hbd2 := tab_bd HOkf.out (i := i2) (by rw [HMl.out]; exact hi2m)
                  rw [hy1] at hbd1
                  rw [hy2] at hbd2
                  have hx : encT (prT f st s t p) = #[.int .i64 y1, .int .i64 y2] := by
                    unfold encT prT
                    rw [hi2, hy1, hy2, f8_val hbd1.1 (by omega), f8_val hbd2.1 (by omega)]
                  have hpre : alT z fs s t k ++ (opT z f s t j ++ plT z f st s t (q + r)) ++ [prT f st s t p] <+: alT z fs s t nn := by
                    have h_ := alT_at (z := z) (fs := fs) (s := s) (t := t) (k := k) (j := j) (m := p + 1) (n := nn) hlt (by rw [HEf.out, HAr.out]; exact hltj) (by rw [HEf.out, HMl.out]; exact hpm)
                    rw [HEf.out, ← HSt.out, plT_yes hdig, ← List.append_assoc, ← List.append_assoc, hp] at h_
                    rw [hp, ← List.append_assoc]
                    exact h_
                  have HPre := Lib.hid hpre
                  have hyr := HY.out _ (prT f st s t p) wq.drew (HJ.out _ _ _ none HJq.out (grown_drew wq) (by simp)) (by have := hpre.length_le; simp at this ⊢; omega)
                  rw [hx] at hyr
                  obtain ⟨fn, tmps, assign, body, hy, hR⟩ := hyr
                  have HR := Lib.hid hR
                  have HDig := Lib.hid hdig
                  have hi2n : (i2 : Int) < (m : Int) := by omega
                  have hpmn : (p : Int) < (m : Int) := by omega
                  have hS0 : (fun W_ => W_.cell? ⟨F, 1, none⟩ = some (.slice (some ⟨bt, ot, none⟩) m tc) ∧ W_.cell? ⟨X + 1, 0, none⟩ = some (.int .i64 (s : Int)) ∧ W_.cell? ⟨X + 2, 0, none⟩ = some (.int .i64 (t : Int)) ∧ W_.cell? ⟨bt, ot + p, none⟩ = some (.int .i64 y1) ∧ W_.cell? ⟨bt, ot + i2, none⟩ = some (.int .i64 y2)) wq.drew := ⟨f1, cs, ct, ey1, ey2⟩
                  have HPe := Lib.hid hp
                  clear hp hx hpre hR hg1 hg2 hy1 hy2 hi2 hmv hdig hbd1 hbd2
                  gi_wp2
                  refine wpIn_region_S (fun W_ => W_.cell? ⟨F, 1, none⟩ = some (.slice (some ⟨bt, ot, none⟩) m tc) ∧ W_.cell? ⟨X + 1, 0, none⟩ = some (.int .i64 (s : Int)) ∧ W_.cell? ⟨X + 2, 0, none⟩ = some (.int .i64 (t : Int)) ∧ W_.cell? ⟨bt, ot + p, none⟩ = some (.int .i64 y1) ∧ W_.cell? ⟨bt, ot + i2, none⟩ = some (.int .i64 y2)) 17 (by kernel_rfl) ?_
                  refine wpAnyS_take (i := 0) (oi := ⟨_, _, _, _, _, _⟩) (v := ?_) [0, 17] rfl rfl (by decide) (by decide) (by kernel_rfl) (by kernel_rfl) (by kernel_rfl) (by kernel_rfl) (fun _ _ _ h => h) (Or.inl ⟨rfl, ?_⟩) (fun _ => rfl) hS0 ?_
                  rotate_left 1
                  · intro w_ hSw; (try dsimp only at hSw); go_simp; (try with_reducible rfl)
                  (try simp only [Act.put, List.setIfInBounds_toArray, List.set_cons_zero, List.set_cons_succ])
                  refine wpAnyS_take (i := 1) (oi := ⟨_, _, _, _, _, _⟩) (v := ?_) [1, 2, 4, 5, 17] rfl rfl (by decide) (by decide) (by kernel_rfl) (by kernel_rfl) (by kernel_rfl) (by kernel_rfl) (fun _ _ _ h => h) (Or.inl ⟨rfl, ?_⟩) (fun _ => rfl) hS0 ?_
                  rotate_left 1
                  · intro w_ hSw; (try dsimp only at hSw); go_simp; (try with_reducible rfl)
                  (try simp only [Act.put, List.setIfInBounds_toArray, List.set_cons_zero, List.set_cons_succ])
                  refine wpAnyS_take (i := 2) (oi := ⟨_, _, _, _, _, _⟩) (v := ?_) [2, 4, 5, 17] rfl rfl (by decide) (by decide) (by kernel_rfl) (by kernel_rfl) (by kernel_rfl) (by kernel_rfl) (fun _ _ _ h => h) (Or.inl ⟨rfl, ?_⟩) (fun _ => rfl) hS0 ?_
                  rotate_left 1
                  · intro w_ hSw; (try dsimp only at hSw); go_simp; (try with_reducible rfl)
                  (try simp only [Act.put, List.setIfInBounds_toArray, List.set_cons_zero, List.set_cons_succ])
                  refine wpAnyS_take (i := 3) (oi := ⟨_, _, _, _, _, _⟩) (v := ?_) [3, 4, 5, 17] rfl rfl (by decide) (by decide) (by kernel_rfl) (by kernel_rfl) (by kernel_rfl) (by kernel_rfl) (fun _ _ _ h => h) (Or.inl ⟨rfl, ?_⟩) (fun _ => rfl) hS0 ?_
                  rotate_left 1
                  · intro w_ hSw; (try dsimp only at hSw); go_simp; (try with_reducible rfl)
                  (try simp only [Act.put, List.setIfInBounds_toArray, List.set_cons_zero, List.set_cons_succ])
                  refine wpAnyS_take (i := 4) (oi := ⟨_, _, _, _, _, _⟩) (v := ?_) [4, 5, 17] rfl rfl (by decide) (by decide) (by kernel_rfl) (by kernel_rfl) (by kernel_rfl) (by kernel_rfl) (fun _ _ _ h => h) (Or.inl ⟨rfl, ?_⟩) (fun _ => rfl) hS0 ?_
                  rotate_left 1
                  · intro w_ hSw; (try dsimp only at hSw); go_simp; (try with_reducible rfl)
                  (try simp only [Act.put, List.setIfInBounds_toArray, List.set_cons_zero, List.set_cons_succ])
                  refine wpAnyS_take (i := 5) (oi := ⟨_, _, _, _, _, _⟩) (v := ?_) [5, 17] rfl rfl (by decide) (by decide) (by kernel_rfl) (by kernel_rfl) (by kernel_rfl) (by kernel_rfl) (fun _ _ _ h => h) (Or.inl ⟨rfl, ?_⟩) (fun _ => rfl) hS0 ?_
                  rotate_left 1
                  · intro w_ hSw; (try dsimp only at hSw); go_simp; (try with_reducible rfl)
                  (try simp only [Act.put, List.setIfInBounds_toArray, List.set_cons_zero, List.set_cons_succ])
                  refine wpAnyS_take (i := 6) (oi := ⟨_, _, _, _, _, _⟩) (v := ?_) [6, 7, 15, 16, 17] rfl rfl (by decide) (by decide) (by kernel_rfl) (by kernel_rfl) (by kernel_rfl) (by kernel_rfl) (fun _ _ _ h => h) (Or.inl ⟨rfl, ?_⟩) (fun _ => rfl) hS0 ?_
                  rotate_left 1
                  · intro w_ hSw; (try dsimp only at hSw); go_simp; (try with_reducible rfl)
                  (try simp only [Act.put, List.setIfInBounds_toArray, List.set_cons_zero, List.set_cons_succ])
                  refine wpAnyS_take (i := 7) (oi := ⟨_, _, _, _, _, _⟩) (v := ?_) [7, 15, 16, 17] rfl rfl (by decide) (by decide) (by kernel_rfl) (by kernel_rfl) (by kernel_rfl) (by kernel_rfl) (fun _ _ _ h => h) (Or.inl ⟨rfl, ?_⟩) (fun _ => rfl) hS0 ?_
                  rotate_left 1
                  · intro w_ hSw; (try dsimp only at hSw); go_simp; (try with_reducible rfl)
                  (try simp only [Act.put, List.setIfInBounds_toArray, List.set_cons_zero, List.set_cons_succ])
                  refine wpAnyS_take (i := 8) (oi := ⟨_, _, _, _, _, _⟩) (v := ?_) [8, 14, 15, 16, 17] rfl rfl (by decide) (by decide) (by kernel_rfl) (by kernel_rfl) (by kernel_rfl) (by kernel_rfl) (fun _ _ _ h => h) (Or.inl ⟨rfl, ?_⟩) (fun _ => rfl) hS0 ?_
                  rotate_left 1
                  · intro w_ hSw; (try dsimp only at hSw); go_simp; (try with_reducible rfl)
                  (try simp only [Act.put, List.setIfInBounds_toArray, List.set_cons_zero, List.set_cons_succ])
                  refine wpAnyS_take (i := 9) (oi := ⟨_, _, _, _, _, _⟩) (v := ?_) [9, 11, 13, 14, 15, 16, 17] rfl rfl (by decide) (by decide) (by kernel_rfl) (by kernel_rfl) (by kernel_rfl) (by kernel_rfl) (fun _ _ _ h => h) (Or.inl ⟨rfl, ?_⟩) (fun _ => rfl) hS0 ?_
                  rotate_left 1
                  · intro w_ hSw; (try dsimp only at hSw); go_simp; (try with_reducible rfl)
                  (try simp only [Act.put, List.setIfInBounds_toArray, List.set_cons_zero, List.set_cons_succ])
                  refine wpAnyS_take (i := 10) (oi := ⟨_, _, _, _, _, _⟩) (v := ?_) [10, 11, 13, 14, 15, 16, 17] rfl rfl (by decide) (by decide) (by kernel_rfl) (by kernel_rfl) (by kernel_rfl) (by kernel_rfl) (fun _ _ _ h => h) (Or.inl ⟨rfl, ?_⟩) (fun _ => rfl) hS0 ?_
                  rotate_left 1
                  · intro w_ hSw; (try dsimp only at hSw); go_simp; (try with_reducible rfl)
                  (try simp only [Act.put, List.setIfInBounds_toArray, List.set_cons_zero, List.set_cons_succ])
                  refine wpAnyS_take (i := 11) (oi := ⟨_, _, _, _, _, _⟩) (v := ?_) [11, 13, 14, 15, 16, 17] rfl rfl (by decide) (by decide) (by kernel_rfl) (by kernel_rfl) (by kernel_rfl) (by kernel_rfl) (fun _ _ _ h => h) (Or.inl ⟨rfl, ?_⟩) (fun _ => rfl) hS0 ?_
                  rotate_left 1
                  · intro w_ hSw; (try dsimp only at hSw); go_simp; (try with_reducible rfl)
                  (try simp only [Act.put, List.setIfInBounds_toArray, List.set_cons_zero, List.set_cons_succ])
                  refine wpAnyS_take (i := 12) (oi := ⟨_, _, _, _, _, _⟩) (v := ?_) [12, 13, 14, 15, 16, 17] rfl rfl (by decide) (by decide) (by kernel_rfl) (by kernel_rfl) (by kernel_rfl) (by kernel_rfl) (fun _ _ _ h => h) (Or.inl ⟨rfl, ?_⟩) (fun _ => rfl) hS0 ?_
                  rotate_left 1
                  · intro w_ hSw; (try dsimp only at hSw); go_simp; (try with_reducible rfl)
                  (try simp only [Act.put, List.setIfInBounds_toArray, List.set_cons_zero, List.set_cons_succ])
                  refine wpAnyS_take (i := 13) (oi := ⟨_, _, _, _, _, _⟩) (v := ?_) [13, 14, 15, 16, 17] rfl rfl (by decide) (by decide) (by kernel_rfl) (by kernel_rfl) (by kernel_rfl) (by kernel_rfl) (fun _ _ _ h => h) (Or.inl ⟨rfl, ?_⟩) (fun _ => rfl) hS0 ?_
                  rotate_left 1
                  · intro w_ hSw; (try dsimp only at hSw); go_simp; (try with_reducible rfl)
                  (try simp only [Act.put, List.setIfInBounds_toArray, List.set_cons_zero, List.set_cons_succ])
                  refine wpAnyS_take (i := 14) (oi := ⟨_, _, _, _, _, _⟩) (v := ?_) [14, 15, 16, 17] rfl rfl (by decide) (by decide) (by kernel_rfl) (by kernel_rfl) (by kernel_rfl) (by kernel_rfl) (fun _ _ _ h => h) (Or.inl ⟨rfl, ?_⟩) (fun _ => rfl) hS0 ?_
                  rotate_left 1
                  · intro w_ hSw; (try dsimp only at hSw); go_simp; (try with_reducible rfl)
                  (try simp only [Act.put, List.setIfInBounds_toArray, List.set_cons_zero, List.set_cons_succ])
                  (try simp only [HE.out])
                  refine wpAnyS_take (i := 15) (oi := ⟨_, _, _, _, _, _⟩) (v := ?_) [15, 16, 17] rfl rfl (by decide) (by decide) (by kernel_rfl) (by kernel_rfl) (by kernel_rfl) (by kernel_rfl) (fun _ _ _ h => h) (Or.inl ⟨rfl, ?_⟩) (fun _ => rfl) hS0 ?_
                  rotate_left 1
                  · intro w_ hSw; (try dsimp only at hSw); go_simp; (try with_reducible rfl)
                  (try simp only [Act.put, List.setIfInBounds_toArray, List.set_cons_zero, List.set_cons_succ])
                  refine wpAnyS_take (i := 16) (oi := ⟨_, _, _, _, _, _⟩) (v := ?_) [16, 17] rfl rfl (by decide) (by decide) (by kernel_rfl) (by kernel_rfl) (by kernel_rfl) (by kernel_rfl) (fun _ _ _ h => h) (Or.inl ⟨rfl, ?_⟩) (fun _ => rfl) hS0 ?_
                  rotate_left 1
                  · intro w_ hSw; (try dsimp only at hSw); go_simp; (try with_reducible rfl)
                  (try simp only [Act.put, List.setIfInBounds_toArray, List.set_cons_zero, List.set_cons_succ])
                  refine wpAnyS_call (o := ⟨_, _, _, _, _, _⟩) (by kernel_rfl) rfl rfl (fun K hK => ?_)
                  change Oper.wpIn _ _ _ _ _ wq.drew _ _
                  unfold Oper.wpIn
                  refine ⟨fun _ _ => trivial, ?_⟩
                  go_simp
                  refine ⟨fun h => (by cases h), ?_⟩
                  refine HR.out.mono ?_
                  rintro e W3 (⟨rfl, hJ3, hk3⟩ | ⟨rfl, hJx3⟩)
                  · have HKn : Hid (KeepT B X W W3) := (HKq.out.drew).trans hk3
                    have HFn : Hid (W3.heap[F]? = some (.cells #[.int .i64 (ar : Int), .slice (some ⟨bt, ot, none⟩) m tc] 66 (0, 0))) := hk3.op F _ _ HFq.out
                    have HBn : Hid (Below B wr W3) := (HBq.out.drew).trans hk3.bel
                    have HJn : Hid (J (alT z fs s t k ++ (opT z f s t j ++ plT z f st s t (q + (r + 1)))) W3) := by
                      unfold Hid
                      rw [← Nat.add_assoc, plT_yes (by rw [← HPe.out]; exact HDig.out), ← List.append_assoc, ← List.append_assoc, ← HPe.out]
                      rw [← HPe.out, ← List.append_assoc] at hJ3
                      exact hJ3
                    clear hJ3 hk3
                    refine hK _ _ ?_
                    (try simp only [Act.put, List.setIfInBounds_toArray, List.set_cons_zero, List.set_cons_succ])
                    refine wpAnyIn_take (i := 18) (oi := ⟨_, _, _, _, _, _⟩) (v := ?_) rfl rfl (by kernel_rfl) (by kernel_rfl) (by kernel_rfl) (fun _ _ _ h => h) ⟨Or.inl ⟨by rfl, ?_⟩, fun _ => rfl⟩ ?_
                    rotate_left 1
                    · intro w_; go_simp; (try with_reducible rfl)
                    (try simp only [Act.put, List.setIfInBounds_toArray, List.set_cons_zero, List.set_cons_succ])
                    refine wpAnyIn_done (by kernel_rfl) ?_ _
                    gi_wp2
                    go_roundw
                    case rel => exact ⟨r + 1, p + 1, by omega, by go_num, by have := HPe.out; omega, HJn, HKn, HFn, HBn⟩
                    case measure => simp [intOf]; omega
                  · refine hK _ _ ?_
                    (try simp only [Act.put, List.setIfInBounds_toArray, List.set_cons_zero, List.set_cons_succ])
                    refine wpAnyIn_take (i := 18) (oi := ⟨_, _, _, _, _, _⟩) (v := ?_) rfl rfl (by kernel_rfl) (by kernel_rfl) (by kernel_rfl) (fun _ _ _ h => h) ⟨Or.inl ⟨by rfl, ?_⟩, fun _ => rfl⟩ ?_
                    rotate_left 1
                    · intro w_; go_simp; (try with_reducible rfl)
                    (try simp only [Act.put, List.setIfInBounds_toArray, List.set_cons_zero, List.set_cons_succ])
                    refine wpAnyIn_done (by kernel_rfl) ?_ _
                    gi_wp2
                    refine bodyPost_ret (results_none rfl _ _ _) rfl ?_
                    exact ⟨⟨_, rfl⟩, .inr ⟨_, HPre.out, hJx3⟩⟩
                · have hpn : ¬ (p : Int) < (q : Int) + (st : Int) := by omega
                  obtain rfl : r = st := by omega
                  have HJ4 : Hid (J (alT z fs s t k ++ (opT z f s t j ++ plT z f r s t ((i + 1) * zs))) wq) := by
                    unfold Hid
                    have h1 := HQe.out
                    rw [Nat.succ_mul, show i * zs + zs = (q + r) + (i * zs + zs - (q + r)) by omega, plT_skip (i * zs + zs - (q + r)) (fun e h1 h2 => ?_)]
                    · exact HJq.out
                    · exact skip_high (z := z) (st := r) (s := s) (i := i) (e := e) hst1 hs (by rw [HZs.out, HSs.out]; omega) (by rw [HZs.out, Nat.succ_mul]; omega)
                  have HI4 : Hid (i + 1 ≤ M ∧ q + zs = ss + (i + 1) * zs) := by
                    unfold Hid
                    have h1 := HQe.out
                    have h2 := HNx.out
                    have h3 := HMm.out
                    rw [HZs.out] at h3
                    refine ⟨?_, by rw [Nat.succ_mul]; omega⟩
                    rcases Nat.lt_or_ge i M with h | h
                    · exact h
                    · have h5 := Nat.mul_le_mul_right zs h
                      omega
                  have HPe := Lib.hid hp
                  clear hp
                  gi_wp2
                  go_roundw
                  case rel => exact ⟨i + 1, q + zs, by go_num, by omega, HI4, HJ4, HKq, HFq, HBq⟩
                  case measure => simp [intOf]; omega
            · have hqn : ¬ (q : Int) < (m : Int) := by omega
              have HJ5 : Hid (J (alT z fs s t k ++ opT z f s t (j + 1)) ws) := by
                unfold Hid
                have h3 := HMm.out
                rw [HZs.out] at h3
                have hi : i = M := by
                  rcases Nat.lt_or_ge i M with h | h
                  · have h5 := Nat.mul_le_mul_right zs h
                    rw [Nat.succ_mul] at h5
                    omega
                  · omega
                rw [opT, ← HSt.out, HMl.out, h3, ← hi]
                exact HJs.out
              have HS5 : Hid (zs = z ^ (j + 1)) := by unfold Hid; rw [← HZs.out, HSt.out, Nat.pow_succ']
              clear hqe hiM
              gi_wp2
              go_roundw
              case rel => exact ⟨j + 1, zs, by omega, by go_num, by go_num, HS5, HJ5, HKs, HFs, HBs⟩
              case measure => simp [intOf]; omega
        · have hjn : ¬ (j : Int) < (ar : Int) := by omega
          obtain rfl : j = ar := by omega
          have HJ6 : Hid (J (alT z fs s t (k + 1)) wp) := by
            unfold Hid
            rw [alT, HEf.out, HAr.out, Int.toNat_natCast]
            exact HJp.out
          gi_wp2
          go_roundw
          case rel => exact ⟨k + 1, by omega, by go_num, HJ6, HKp⟩
          case measure => simp [intOf]; omega
    · have hkn : ¬ (k : Int) < (nn : Int) := by omega
      obtain rfl : k = nn := by omega
      gi_wp2
      go_end0
      exact ⟨⟨_, rfl⟩, .inl HJk.out⟩
end

section
open Go.RowKit
set_option linter.unusedVariables false
variable {F : Fence} {n : Nat} {P : Program}

/-- The marks of ranges that have ended: their blocks lie from n0 on, each once. -/
def Marks (n0 : Nat) (W : World) : List Deferred → Prop
  | [] => True
  | d :: ds => (∃ D, d = { target := .collected D, args := #[] } ∧ n0 ≤ D ∧ W.heap[D]? = some (.deferred (some [])) ∧ ∀ d' ∈ ds, d'.target ≠ .collected D) ∧ Marks n0 W ds
theorem Marks.same {n0 : Nat} {W W' : World} : ∀ {ds : List Deferred}, Marks n0 W ds → (∀ D, n0 ≤ D → (∃ d ∈ ds, d.target = .collected D) → W.heap[D]? = some (.deferred (some [])) → W'.heap[D]? = some (.deferred (some []))) → Marks n0 W' ds
  | [], _, _ => trivial
  | d :: ds, ⟨⟨D, e, h1, h2, h3⟩, h4⟩, hk => ⟨⟨D, e, h1, hk D h1 ⟨d, List.mem_cons_self, by rw [e]⟩ h2, h3⟩, h4.same fun D' k1 k2 k3 => hk D' k1 (by obtain ⟨d', m, t⟩ := k2; exact ⟨d', List.mem_cons_of_mem _ m, t⟩) k3⟩
theorem Marks.lt {n0 : Nat} {W : World} {D : Nat} : ∀ {ds : List Deferred}, Marks n0 W ds → (∃ d ∈ ds, d.target = .collected D) → D < W.heap.size
  | [], _, ⟨_, m, _⟩ => by cases m
  | d :: ds, ⟨⟨D', e, h1, h2, h3⟩, h4⟩, ⟨d', m, t⟩ => by
    rcases List.mem_cons.1 m with rfl | m
    · rw [e] at t
      injection t with t
      subst t
      exact (Array.getElem?_eq_some_iff.1 h2).1
    · exact h4.lt ⟨d', m, t⟩
theorem Marks.kept {n0 R : Nat} {W W' : World} {ds : List Deferred} (h : Marks n0 W ds) (hk : ∀ j, j < W.heap.size → j ≠ R → W'.heap[j]? = W.heap[j]?) (hR : ∀ o, W.heap[R]? = some o → o.isCells = true) : Marks n0 W' ds :=
  h.same fun D _ hm hd => by
    have hl := h.lt hm
    refine (hk D hl ?_).trans hd
    intro e
    subst e
    have := hR _ hd
    cases this
theorem Marks.push {n0 D : Nat} {W0 W : World} {ds : List Deferred} (h : Marks n0 W ds) (h0 : Marks n0 W0 ds) (hD : W0.heap.size ≤ D) (hn : n0 ≤ D) (hd : W.heap[D]? = some (.deferred (some []))) : Marks n0 W ({ target := .collected D, args := #[] } :: ds) :=
  ⟨⟨D, rfl, hn, hd, fun d' m t => by have := h0.lt ⟨d', m, t⟩; omega⟩, h⟩

theorem leaves_marks {fn : Func} {tmps : Array Value} {R : Ending → World → Prop} {n0 : Nat} : ∀ {ds : List Deferred} {W : World}, Marks n0 W ds → n0 ≤ W.heap.size →
    (∀ W', Below n0 W W' → (∀ (j : Nat) (o : Obj), W.heap[j]? = some o → o.isCells = true → W'.heap[j]? = some o) → LeavesInM F n P fn tmps R [] .returning W') → LeavesInM F n P fn tmps R ds .returning W
  | [], W, _, _, h => h W (Below.refl _ _) fun _ _ e _ => e
  | d :: ds, W, ⟨⟨D, e, h1, h2, h3⟩, h4⟩, hn, h => by
    subst e
    refine ⟨by simp, .inl ⟨D, _, rfl, run_takeDeferred h2, ?_⟩⟩
    have hlt := (Array.getElem?_eq_some_iff.1 h2).1
    have hb : Below n0 W (W.putObj D (.deferred none)) := (Below.refl n0 W).grown (grownBy_putObj' W D _) (by omega) (fun k e => by cases e; omega)
    refine leaves_marks (h4.same fun D' _ hm hd => ?_) (by simp [World.putObj]; omega) fun W' hW' hc => h W' (hb.trans hW') fun j o ho hoc => hc j o ?_ hoc
    · rw [World.putObj_heap_other]
      · exact hd
      · intro e
        subst e
        obtain ⟨d', m, t⟩ := hm
        exact h3 d' m t
    · rw [World.putObj_heap_other]
      · exact ho
      · intro e
        subst e
        rw [h2] at ho
        injection ho with ho
        subst ho
        cases hoc
end

section
open Go.RowKit Go.Shelf
set_option linter.unusedVariables false
set_option linter.unusedSimpArgs false
attribute [local go_sem] Oper.semAt_some

theorem wpIn_noPanic {F : Fence} {n : Nat} {P : Program} {c : Code} {Q : Exit → Act → World → Prop} {a : Act} {w : World} (h : c.wpIn F n P (NoPanic Q) a w) : c.wpIn F n P Q a w :=
  wpIn_mono h fun e a w hp => by cases e <;> first | exact hp | exact hp.elim

set_option maxRecDepth 100000 in
set_option maxHeartbeats 8000000 in
theorem isComp_any (lo hi z nn c : Nat) (ao : Option Addr) (fs : List OpD) (f : Nat → Int) (w : World) (hv : OView w lo hi ao nn fs) (hhi : hi ≤ w.heap.size) (hok : algOkB (z : Int) fs = true) (hf : ∀ x, x < z → 0 ≤ f x ∧ f x < z) :
    Calls Try.prog 117 #[.agg #[.int .i64 (z : Int), .slice ao nn c], .agg (arrV f)] w fun e w' => e = .returned (.bool (compK z fs f z)) ∧ Below w.heap.size w w' := by
  obtain ⟨⟨hz1, hz8⟩, hn4, hall⟩ := algOkB_of hok
  obtain ⟨w3, hw3⟩ : ∃ w3, w3 = ((w.alloc (.cells #[.int .i64 (z : Int), .slice ao nn c] 31)).alloc (.cells (arrV f) 70)).alloc (.cells #[.bool false] 4) := ⟨_, rfl⟩
  have HA0 : Hid (w3.heap[w.heap.size]? = some (.cells #[.int .i64 (z : Int), .slice ao nn c] 31 (0, 0))) := by
    unfold Hid; rw [hw3, Below.heap_alloc _ _ _ (by simp; omega), Below.heap_alloc _ _ _ (by simp)]; exact heap_alloc_new _ _
  have HP0 : Hid (ArrAt w3 (w.heap.size + 1) f) := by
    unfold Hid; rw [hw3]
    have h := ArrAt.new (w.alloc (.cells #[.int .i64 (z : Int), .slice ao nn c] 31)) f
    simp only [World.size_alloc] at h
    exact h.alloc _
  have HR0 : Hid (w3.heap[w.heap.size + 1 + 1]? = some (.cells #[.bool false] 4 (0, 0))) := by
    unfold Hid; rw [hw3]
    have h := heap_alloc_new ((w.alloc (.cells #[.int .i64 (z : Int), .slice ao nn c] 31)).alloc (.cells (arrV f) 70)) (.cells #[.bool false] 4)
    simp only [World.size_alloc] at h
    exact h
  have HB0 : Hid (Below w.heap.size w w3) := by unfold Hid; rw [hw3]; exact below_then (below_then (below_alloc _ _) (below_alloc _ _)) (below_alloc _ _)
  have hs3 : w3.heap.size = w.heap.size + 1 + 1 + 1 := by rw [hw3]; simp
  have HV := Lib.hid hv
  have HOk := Lib.hid hok
  have HFb := Lib.hid hf
  obtain ⟨cz0, ca0, _⟩ := box_cells HA0.out
  clear hv hok hf hall
  refine (callsIn_wide (n := 6)).1 ?_
  refine callsIn_of_wp_marks Try.func117 rfl trivial ?_ rfl
  simp only [Try.ntmps117, List.size_toArray, List.length_cons, List.length_nil, Nat.reduceAdd, Nat.reduceSub, Array.replicate_succ, Array.replicate_zero, List.push_toArray, List.append_toArray, List.nil_append, List.cons_append]
  gi_wp2
  rw [← hw3]
  have HK0 : Hid (compK z fs f 0 = true) := rfl
  clear hw3 cz0 ca0
  refine wpIn_loop (fun a' W => ∃ (k : Nat) (u5 u6 u7 u11 u12 u13 u14 u15 u16 u17 u18 u19 u20 u21 u22 u23 u24 u25 u26 u27 u28 : Value) (ds : List Deferred), (k ≤ z ∧ Hid (Marks w.heap.size W ds) ∧ Hid (compK z fs f k = true) ∧ Hid (W.heap[w.heap.size]? = some (.cells #[.int .i64 (z : Int), .slice ao nn c] 31 (0, 0))) ∧ Hid (ArrAt W (w.heap.size + 1) f) ∧ Hid (W.heap[w.heap.size + 1 + 1]? = some (.cells #[.bool false] 4 (0, 0))) ∧ Hid (Below w.heap.size w W)) ∧ a' = { tmps := #[.agg #[.int .i64 (z : Int), .slice ao nn c], .agg (arrV f), .pointer (some ⟨w.heap.size, 0, none⟩), .pointer (some ⟨w.heap.size + 1, 0, none⟩), .pointer (some ⟨w.heap.size + 1 + 1, 0, none⟩), u5, u6, u7, .pointer (some ⟨w.heap.size, 0, none⟩), .int .i64 (z : Int), .int .i64 (k : Int), u11, u12, u13, u14, u15, u16, u17, u18, u19, u20, u21, u22, u23, u24, u25, u26, u27, u28], defers := ds }) (fun a' _ => z - (intOf (a'.tmps.getD 10 undef)).toNat) ?start ?round
  case start => exact ⟨0, _, _, _, _, _, _, _, _, _, _, _, _, _, _, _, _, _, _, _, _, _, [], ⟨Nat.zero_le _, trivial, HK0, HA0, HP0, HR0, HB0⟩, rfl⟩
  case round =>
    rintro a' W ⟨k, u5, u6, u7, u11, u12, u13, u14, u15, u16, u17, u18, u19, u20, u21, u22, u23, u24, u25, u26, u27, u28, ds, ⟨hk, HMk, HC, HA, HP, HR, HB⟩, rfl⟩
    clear HK0 HA0 HP0 HR0 HB0
    obtain ⟨cz, ca, _⟩ := box_cells HA.out
    have hRlt := (Array.getElem?_eq_some_iff.1 HR.out).1
    by_cases hlt : k < z
    · have hkn : (k : Int) < (z : Int) := by omega
      have hk8 : (k : Int) < 8 := by omega
      obtain ⟨g0, g1⟩ := HFb.out k hlt
      obtain ⟨sk, hsk⟩ : ∃ sk : Nat, f k = (sk : Int) := ⟨(f k).toNat, by omega⟩
      have ek := HP.out.cell (k := k) (by omega)
      rw [hsk] at ek g1
      have hskz : sk < z := by omega
      have HSk := Lib.hid hsk
      have hS0 : (fun W_ => W_.cell? ⟨w.heap.size, 0, none⟩ = some (.int .i64 (z : Int)) ∧ W_.cell? ⟨w.heap.size, 1, none⟩ = some (.slice ao nn c) ∧ W_.cell? ⟨w.heap.size + 1, k, none⟩ = some (.int .i64 (sk : Int))) W.drew := ⟨cz, ca, ek⟩
      clear hsk g0 g1
      gi_wp2
      refine wpIn_noPanic ?_
      refine wpIn_region_S (fun W_ => W_.cell? ⟨w.heap.size, 0, none⟩ = some (.int .i64 (z : Int)) ∧ W_.cell? ⟨w.heap.size, 1, none⟩ = some (.slice ao nn c) ∧ W_.cell? ⟨w.heap.size + 1, k, none⟩ = some (.int .i64 (sk : Int))) 5 (by kernel_rfl) ?_
      refine wpAnyS_take (i := 0) (oi := ⟨_, _, _, _, _, _⟩) (v := ?_) [0, 5] rfl rfl (by decide) (by decide) (by kernel_rfl) (by kernel_rfl) (by kernel_rfl) (by kernel_rfl) (fun _ _ _ h => h) (Or.inl ⟨rfl, ?_⟩) (fun _ => rfl) hS0 ?_
      rotate_left 1
      · intro w_ hSw; (try dsimp only at hSw); go_simp; (try with_reducible rfl)
      (try simp only [Act.put, List.setIfInBounds_toArray, List.set_cons_zero, List.set_cons_succ])
      refine wpAnyS_take (i := 1) (oi := ⟨_, _, _, _, _, _⟩) (v := ?_) [1, 2, 3, 5] rfl rfl (by decide) (by decide) (by kernel_rfl) (by kernel_rfl) (by kernel_rfl) (by kernel_rfl) (fun _ _ _ h => h) (Or.inl ⟨rfl, ?_⟩) (fun _ => rfl) hS0 ?_
      rotate_left 1
      · intro w_ hSw; (try dsimp only at hSw); go_simp; (try with_reducible rfl)
      (try simp only [Act.put, List.setIfInBounds_toArray, List.set_cons_zero, List.set_cons_succ])
      refine wpAnyS_take (i := 2) (oi := ⟨_, _, _, _, _, _⟩) (v := ?_) [2, 3, 5] rfl rfl (by decide) (by decide) (by kernel_rfl) (by kernel_rfl) (by kernel_rfl) (by kernel_rfl) (fun _ _ _ h => h) (Or.inl ⟨rfl, ?_⟩) (fun _ => rfl) hS0 ?_
      rotate_left 1
      · intro w_ hSw; (try dsimp only at hSw); go_simp; (try with_reducible rfl)
      (try simp only [Act.put, List.setIfInBounds_toArray, List.set_cons_zero, List.set_cons_succ])
      refine wpAnyS_take (i := 3) (oi := ⟨_, _, _, _, _, _⟩) (v := ?_) [3, 5] rfl rfl (by decide) (by decide) (by kernel_rfl) (by kernel_rfl) (by kernel_rfl) (by kernel_rfl) (fun _ _ _ h => h) (Or.inl ⟨rfl, ?_⟩) (fun _ => rfl) hS0 ?_
      rotate_left 1
      · intro w_ hSw; (try dsimp only at hSw); go_simp; (try with_reducible rfl)
      (try simp only [Act.put, List.setIfInBounds_toArray, List.set_cons_zero, List.set_cons_succ])
      refine wpAnyS_take (i := 4) (oi := ⟨_, _, _, _, _, _⟩) (v := ?_) [4, 5] rfl rfl (by decide) (by decide) (by kernel_rfl) (by kernel_rfl) (by kernel_rfl) (by kernel_rfl) (fun _ _ _ h => h) (Or.inl ⟨rfl, ?_⟩) (fun _ => rfl) hS0 ?_
      rotate_left 1
      · intro w_ hSw; (try dsimp only at hSw); go_simp; (try with_reducible rfl)
      (try simp only [Act.put, List.setIfInBounds_toArray, List.set_cons_zero, List.set_cons_succ])
      refine wpAnyS_call (o := ⟨_, _, _, _, _, _⟩) (by kernel_rfl) rfl rfl (fun K hK => ?_)
      change Oper.wpIn _ _ _ _ _ W.drew _ _
      unfold Oper.wpIn
      refine ⟨fun _ _ => trivial, ?_⟩
      go_simp
      refine (callsIn_wide.2 (translations_any (z : Int) ao nn c (sk : Int) (k : Int) W.drew)).mono ?_
      rintro e w' ⟨rfl, rfl⟩
      refine hK _ _ ?_
      (try simp only [Act.put, List.setIfInBounds_toArray, List.set_cons_zero, List.set_cons_succ])
      refine wpAnyIn_done (by kernel_rfl) ?_ _
      refine NoPanic.normal ?_
      gi_wp2
      obtain ⟨X, hX⟩ : ∃ X, X = W.heap.size := ⟨_, rfl⟩
      obtain ⟨W5, hW5⟩ : ∃ W5, W5 = ((W.drew.alloc (.cells #[.int .i64 (z : Int), .slice ao nn c] 31)).alloc (.cells #[.int .i64 (sk : Int)] 3)).alloc (.cells #[.int .i64 (k : Int)] 3) := ⟨_, rfl⟩
      have hs5 : W5.heap.size = X + 3 := by rw [hW5, hX]; simp
      have HT5 : Hid (TrB W5 X z nn c sk k ao) := by
        unfold Hid
        rw [hW5, hX]
        refine ⟨?_, ?_, ?_⟩
        · rw [Below.heap_alloc _ _ _ (by simp; omega), Below.heap_alloc _ _ _ (by simp)]; exact heap_alloc_new W.drew _
        · rw [Below.heap_alloc _ _ _ (by simp)]
          have h := heap_alloc_new (W.drew.alloc (.cells #[.int .i64 (z : Int), .slice ao nn c] 31)) (.cells #[.int .i64 (sk : Int)] 3)
          simp only [World.size_alloc] at h
          exact h
        · have h := heap_alloc_new ((W.drew.alloc (.cells #[.int .i64 (z : Int), .slice ao nn c] 31)).alloc (.cells #[.int .i64 (sk : Int)] 3)) (.cells #[.int .i64 (k : Int)] 3)
          simp only [World.size_alloc] at h
          exact h
      have HB5 : Hid (Below W.heap.size W W5) := by unfold Hid; rw [hW5]; exact ((((Below.refl _ W).drew).alloc (Nat.le_refl _) _).alloc (by simp) _).alloc (by simp; omega) _
      have hBw : Below w.heap.size w W5 := HB.out.trans (HB5.out.mono HB.out.size)
      have HB6 := Lib.hid hBw
      have hsX : w.heap.size + 3 ≤ X := by rw [hX]; omega
      rw [← hW5]
      (try simp only [World.size_drew])
      rw [← hX]
      have hseq := trn_seq 5 X w.heap.size z nn c sk k lo hi ao fs W5 (by omega) (by omega) (HV.out.kept (Kept.of_below hBw hhi)) hhi HOk.out hskz hlt HT5.out
      clear hW5 hX cz ca ek hS0 hBw
      have HP5 : Hid (ArrAt W5 (w.heap.size + 1) f) := HP.out.below HB5.out HP.out.lt
      have HR5 : Hid (W5.heap[w.heap.size + 1 + 1]? = some (.cells #[.bool false] 4 (0, 0))) := (HB5.out.block _ hRlt).trans HR.out
      have HA5 : Hid (W5.heap[w.heap.size]? = some (.cells #[.int .i64 (z : Int), .slice ao nn c] 31 (0, 0))) := (HB5.out.block _ (by omega)).trans HA.out
      have HM5 : Hid (Marks w.heap.size W5 ds) := HMk.out.same fun D _ hm hd => (HB5.out.block D (HMk.out.lt hm)).trans hd
      refine wpIn_rangeFunc_ownG rfl (by decide) (gf := 149) (lb := #[.pointer (some ⟨X, 0, none⟩), .pointer (some ⟨X + 1, 0, none⟩), .pointer (some ⟨X + 2, 0, none⟩)]) rfl trivial (enters_of Try.func149 (by kernel_rfl) rfl)
        hseq KeepT.trans (fun W l o o' h1 h2 h3 h4 => KeepT.put (w := W5) (by omega) (by omega) W l o o' h1 h2 h3 h4) (Below.refl _ _) (fun _ => rfl)
        (fun pre W1 => Below W5.heap.size W5 W1 ∧ pre.all (okT f) = true)
        (fun cd pre W1 => cd = .ret ∧ pre.all (okT f) = false ∧ W5.heap.size ≤ W1.heap.size ∧ (∀ j, j < W5.heap.size → j ≠ w.heap.size + 1 + 1 → W1.heap[j]? = W5.heap[j]?) ∧ W1.heap[w.heap.size + 1 + 1]? = some (.cells #[.bool false] 4 (0, 0)) ∧ Below w.heap.size W5 W1)
        ?hI ?hIx ⟨Below.refl _ _, rfl⟩ (fun q => { tmps := #[.agg #[.int .i64 (z : Int), .slice ao nn c], .agg (arrV f), .pointer (some ⟨w.heap.size, 0, none⟩), .pointer (some ⟨w.heap.size + 1, 0, none⟩), .pointer (some ⟨w.heap.size + 1 + 1, 0, none⟩), .int .i64 (k : Int), .int .i64 ((q.1.val : Nat) : Int), .int .i64 ((q.2.val : Nat) : Int), .pointer (some ⟨w.heap.size, 0, none⟩), .int .i64 (z : Int), .int .i64 (k : Int), .bool true, .int .i64 (k : Int), .agg #[.int .i64 (z : Int), .slice ao nn c], .int .i64 (k : Int), .pointer (some ⟨w.heap.size + 1, k, none⟩), .int .i64 (sk : Int), .int .i64 (k : Int), .func (.func 149) #[] #[.pointer (some ⟨X, 0, none⟩), .pointer (some ⟨X + 1, 0, none⟩), .pointer (some ⟨X + 1 + 1, 0, none⟩)], .int .i64 ((q.1.val : Nat) : Int), .int .i64 ((q.2.val : Nat) : Int), u21, u22, u23, u24, u25, u26, u27, u28], defers := [] }) ?assign ?body ?done ?stop
      case hI =>
        intro s A C row hs hg hr
        exact ⟨ownFrom_below (w₀ := W5) (Nat.le_refl _) (Nat.le_refl _) s A C row hs.1 hg hr, hs.2⟩
      case hIx =>
        intro cd s A C row hs hg hr
        obtain ⟨h1, h2, h3, h4, h5, h6⟩ := hs
        have hne : ∀ j, j < W5.heap.size → some j ≠ row := fun j hj e => by have := (hr j e.symm).1; omega
        refine ⟨h1, h2, Nat.le_trans h3 hg.size, fun j hj hjn => (hg.block j (by omega) (hne j hj)).trans (h4 j hj hjn), (hg.block _ (by omega) (hne _ (by omega))).trans h5, ownFrom_below (w₀ := W5) (n₀ := w.heap.size) (by omega) (by omega) s A C row h6 hg hr⟩
      case assign =>
        intro l q W1 K hK
        unfold encT
        gi_wp2
        exact hK
      case body =>
        rintro l pre q W1 ⟨hb1, hall1⟩ hlen
        have q1 := q.1.isLt
        have q2 := q.2.isLt
        have HPb := Lib.hid (HP5.out.below hb1 (by omega))
        have e1 := HPb.out.cell q1
        have e2 := HPb.out.cell q2
        have hRb : W1.heap[w.heap.size + 1 + 1]? = some (.cells #[.bool false] 4 (0, 0)) := (hb1.block _ (by omega)).trans HR5.out
        have e3 : W1.cell? ⟨w.heap.size + 1 + 1, 0, none⟩ = some (.bool false) := Boxed.cell (t := 4) hRb
        have e4 : W1.frozen? ⟨w.heap.size + 1 + 1, 0, none⟩ = false := Boxed.frozen (t := 4) (v := .bool false) hRb
        have HRb := Lib.hid hRb
        have HB1 := Lib.hid hb1
        have HAl := Lib.hid hall1
        obtain ⟨i1, hi1⟩ : ∃ i1 : Nat, q.1.val = i1 := ⟨_, rfl⟩
        obtain ⟨i2, hi2⟩ : ∃ i2 : Nat, q.2.val = i2 := ⟨_, rfl⟩
        have hok1 : okT f q = (f i1 == f i2) := by unfold okT; rw [hi1, hi2]
        rw [hi1] at e1 q1 ⊢
        rw [hi2] at e2 q2 ⊢
        obtain ⟨v1, hv1⟩ : ∃ v1, f i1 = v1 := ⟨_, rfl⟩
        obtain ⟨v2, hv2⟩ : ∃ v2, f i2 = v2 := ⟨_, rfl⟩
        rw [hv1] at e1
        rw [hv2] at e2
        rw [hv1, hv2] at hok1
        have q1n : (i1 : Int) < 8 := by omega
        have q2n : (i2 : Int) < 8 := by omega
        have HOk1 := Lib.hid hok1
        clear hv1 hv2 hok1 hi1 hi2 hRb hb1 hall1
        by_cases hvv : v1 = v2
        · have hne : (v1 != v2) = false := by simp [hvv]
          have HVV := Lib.hid hvv
          clear hvv
          gi_wp2
          refine wpIn_region_round rfl l (by kernel_rfl) (by kernel_rfl) (by kernel_rfl) ?_
          repeat (gi_big_quiet_step (fail))
          refine wpQuietIn_nil ?_
          intro _ hw'
          obtain ⟨g1, hw''⟩ := hw'
          subst hw''
          gi_wp2
          refine ⟨⟨Nat.le_refl _, fun _ _ _ h _ => h⟩, ⟨below_drewN (Below.refl _ _) g1, Nat.le_refl _, fun _ _ _ => rfl, fun _ _ _ h => h⟩, below_drewN HB1.out g1, ?_⟩
          rw [List.all_append, HAl.out, Bool.true_and, List.all_cons, List.all_nil, Bool.and_true, HOk1.out, HVV.out]
          simp
        · have hne : (v1 != v2) = true := by simp [hvv]
          have HVV := Lib.hid hvv
          clear hvv
          gi_wp2
          refine wpIn_region_round rfl l (by kernel_rfl) (by kernel_rfl) (by kernel_rfl) ?_
          repeat (gi_big_quiet_step (fail))
          refine wpQuietIn_nil ?_
          intro _ hw'
          obtain ⟨g1, hw''⟩ := hw'
          subst hw''
          gi_wp2
          have hRn : (W1.drewN g1).heap[w.heap.size + 1 + 1]? = some (.cells #[.bool false] 4 (0, 0)) := HRb.out
          have hset := Boxed.set (t := 4) (.bool false) hRn
          have hoth : ∀ j, j ≠ w.heap.size + 1 + 1 → ((W1.drewN g1).setCell ⟨w.heap.size + 1 + 1, 0, none⟩ (.bool false)).heap[j]? = W1.heap[j]? := fun j hj => Below.heap_setCell _ _ _ _ hj
          have hszs : ((W1.drewN g1).setCell ⟨w.heap.size + 1 + 1, 0, none⟩ (.bool false)).heap.size = W1.heap.size := by simp [World.setCell]
          have hb2 := HB1.out
          refine ⟨⟨by rw [hszs]; exact Nat.le_refl _, fun j o hj h _ => (hoth j (by omega)).trans h⟩, rfl, ?_, by rw [hszs]; exact hb2.size, fun j hj hjn => (hoth j hjn).trans (hb2.block j hj), hset, ?_⟩
          · rw [List.all_append, List.all_cons, List.all_nil, Bool.and_true, HOk1.out]
            have := HVV.out
            simp [this]
          · exact (below_drewN (hb2.mono (by omega)) g1).setCell (p := ⟨w.heap.size + 1 + 1, 0, none⟩) (by show w.heap.size ≤ w.heap.size + 1 + 1; omega) _
      case done =>
        rintro D xs W1 hD rfl ⟨hb1, hall1⟩ hd
        have HC1 : Hid (compK z fs f (k + 1) = true) := by
          unfold Hid
          rw [compK, HC.out, Bool.true_and, HSk.out, Int.toNat_natCast, HV.out.1]
          exact hall1
        have HM1 : Hid (Marks w.heap.size W1 ({ target := .collected D, args := #[] } :: ds)) :=
          Marks.push (HM5.out.same fun D' _ hm hd' => (hb1.block D' (HM5.out.lt hm)).trans hd') HM5.out hD (by omega) hd
        have HA1 := Lib.hid ((hb1.block _ (by omega)).trans HA5.out)
        have HP1 := Lib.hid (HP5.out.below hb1 (by omega))
        have HR1 := Lib.hid ((hb1.block _ (by omega)).trans HR5.out)
        have HB1 := Lib.hid (HB6.out.trans (hb1.mono (by omega)))
        clear hb1 hall1 hd hseq
        gi_wp2
        refine ⟨⟨k + 1, _, _, _, _, _, _, _, _, _, _, _, _, _, _, _, _, _, _, _, _, _, _, ⟨by omega, HM1, HC1, HA1, HP1, HR1, HB1⟩, by congr 4⟩, ?_⟩
        simp [intOf]; omega
      case stop =>
        rintro D cd pre W1 hD hSp ⟨rfl, hall1, hsz1, hsame, hres, hbel⟩ hd
        have hMk : Marks w.heap.size W1 ({ target := .collected D, args := #[] } :: ds) :=
          Marks.push (HM5.out.kept (R := w.heap.size + 1 + 1) hsame (fun o ho => by rw [HR5.out] at ho; injection ho with ho; subst ho; rfl)) HM5.out hD (by omega) hd
        have HC1 : Hid (compK z fs f z = false) := by
          unfold Hid
          refine compK_no hlt ?_
          rw [HSk.out, Int.toNat_natCast, HV.out.1]
          obtain ⟨post, hpost⟩ := hSp
          rw [← hpost, List.all_append, hall1, Bool.false_and]
        have hbw := HB6.out.trans hbel
        clear hseq
        gi_wp2
        refine leaves_marks hMk (by omega) fun W' hW' hc => ?_
        have hr := hc _ _ hres rfl
        have er : W'.cell? ⟨w.heap.size + 1 + 1, 0, none⟩ = some (.bool false) := Boxed.cell (t := 4) hr
        exact ⟨.bool false, by simp [results, Try.results117, go_sem, er], by rw [HC1.out], hbw.trans hW'⟩
    · have hkn : ¬ (k : Int) < (z : Int) := by omega
      obtain rfl : k = z := by omega
      have e3 : W.cell? ⟨w.heap.size + 1 + 1, 0, none⟩ = some (.bool false) := Boxed.cell (t := 4) HR.out
      have e4 : W.frozen? ⟨w.heap.size + 1 + 1, 0, none⟩ = false := Boxed.frozen (t := 4) (v := .bool false) HR.out
      gi_wp2
      have hset := Boxed.set (t := 4) (.bool true) HR.out
      have hoth : ∀ j, j ≠ w.heap.size + 1 + 1 → (W.setCell ⟨w.heap.size + 1 + 1, 0, none⟩ (.bool true)).heap[j]? = W.heap[j]? := fun j hj => Below.heap_setCell _ _ _ _ hj
      have hbw := HB.out.setCell (p := ⟨w.heap.size + 1 + 1, 0, none⟩) (by show w.heap.size ≤ w.heap.size + 1 + 1; omega) (.bool true)
      refine leaves_marks (HMk.out.kept (R := w.heap.size + 1 + 1) (fun j _ hj => hoth j hj) (fun o ho => by rw [HR.out] at ho; injection ho with ho; subst ho; rfl)) (hbw.size) fun W' hW' hc => ?_
      have hr := hc _ _ hset rfl
      have er : W'.cell? ⟨w.heap.size + 1 + 1, 0, none⟩ = some (.bool true) := Boxed.cell (t := 4) hr
      exact ⟨.bool true, by simp [results, Try.results117, go_sem, er], by rw [HC.out], hbw.trans hW'⟩
end

section
open Go.RowKit
set_option linter.unusedVariables false
set_option linter.unusedSimpArgs false

theorem gI_bd {z : Nat} {f : OpD} (hz : 1 ≤ z) (h : opOkB (z : Int) f = true) (j : Nat) : 0 ≤ gI f.2 j ∧ gI f.2 j < z := by
  by_cases hj : j < f.2.length
  · exact tab_bd h hj
  · have : gI f.2 j = 0 := by unfold gI; rw [List.getD_eq_getElem?_getD, List.getElem?_eq_none (by omega)]; rfl
    omega
theorem compK_congr {z : Nat} {fs : List OpD} {p p' : Nat → Int} (hz : 1 ≤ z) (h8 : z ≤ 8) (hok : algOkB (z : Int) fs = true) (h : ∀ x, x < z → p x = p' x) : ∀ m, m ≤ z → compK z fs p m = compK z fs p' m
  | 0, _ => rfl
  | m + 1, hm => by
    rw [compK, compK, compK_congr hz h8 hok h m (by omega), h m (by omega)]
    congr 1
    rw [Bool.eq_iff_iff, List.all_eq_true, List.all_eq_true]
    have key : ∀ q ∈ alT z fs (p' m).toNat m fs.length, okT p q = okT p' q := fun q hq => by
      obtain ⟨k, hk, hq⟩ := alT_mem.1 hq
      obtain ⟨j, hj, hq⟩ := opT_mem.1 hq
      obtain ⟨i, hi, _, rfl⟩ := plT_mem.1 hq
      have hko := opAt_ok hok hk
      obtain ⟨a0, a1⟩ := gI_bd hz hko i
      obtain ⟨b0, b1⟩ := gI_bd hz hko (i + m * z ^ j - (p' m).toNat * z ^ j)
      unfold okT prT
      rw [f8_nat a0 (by omega), f8_nat b0 (by omega), h _ (by omega), h _ (by omega)]
    constructor
    · intro h1 q hq
      rw [← key q hq]; exact h1 q hq
    · intro h1 q hq
      rw [key q hq]; exact h1 q hq

/-- An algebra is valid and a list a congruence of it. -/
def cngB (z : Int) (fs : List OpD) (xs : List Int) : Bool := algOkB z fs && (partB z xs && compK z.toNat fs (gI xs) z.toNat)
theorem cngB_alg {z : Int} {fs : List OpD} {xs : List Int} (h : algOkB z fs = false) : cngB z fs xs = false := by simp [cngB, h]
theorem cngB_part {z : Int} {fs : List OpD} {xs : List Int} (h : partB z xs = false) : cngB z fs xs = false := by simp [cngB, h]
theorem cngB_comp {z : Nat} {fs : List OpD} {xs : List Int} (h : algOkB (z : Int) fs = true) (h2 : partB (z : Int) xs = true) : cngB (z : Int) fs xs = compK z fs (gI xs) z := by simp [cngB, h, h2]
theorem cngB_of {z : Int} {fs : List OpD} {xs : List Int} (h : cngB z fs xs = true) : algOkB z fs = true ∧ partB z xs = true ∧ compK z.toNat fs (gI xs) z.toNat = true := by
  simpa [cngB] using h

set_option maxHeartbeats 2000000 in
set_option maxRecDepth 100000 in
theorem congOf_any (lo hi : Nat) (z : Int) (ao : Option Addr) (c n : Nat) (fs : List OpD) (lo2 hi2 : Nat) (bo : Option Addr) (d m : Nat) (xs : List Int) (w : World) (hv : OView w lo hi ao n fs) (hhi : hi ≤ w.heap.size) (hs : ∀ (j : Nat) (f : OpD), fs[j]? = some f → f.2.length ≤ maxLen)
    (hx : IView w lo2 hi2 bo m xs) (hhi2 : hi2 ≤ w.heap.size) (hm : m ≤ maxLen) :
    Calls Try.prog 70 #[.agg #[.int .i64 z, .slice ao n c], .slice bo m d] w fun e w' => ResP w w' (cngB z fs xs) xs e := by
  obtain ⟨w0, hw0⟩ : ∃ w0, w0 = (w.alloc (.cells #[.int .i64 z, .slice ao n c] 31)).alloc (.cells (arrV fun _ => 0) 70) := ⟨_, rfl⟩
  have HX0 : Hid (w0.heap[w.heap.size]? = some (.cells #[.int .i64 z, .slice ao n c] 31 (0, 0))) := by
    unfold Hid; rw [hw0, Below.heap_alloc _ _ _ (by simp)]; exact heap_alloc_new _ _
  have HR0 : Hid (ArrAt w0 (w.heap.size + 1) fun _ => 0) := by
    unfold Hid; rw [hw0]
    have h := ArrAt.new (w.alloc (.cells #[.int .i64 z, .slice ao n c] 31)) fun _ => 0
    simp only [World.size_alloc] at h
    exact h
  have HB0 : Hid (Below w.heap.size w w0) := by unfold Hid; rw [hw0]; exact below_then (below_alloc _ _) (below_alloc _ _)
  have hz0 : w.heap.size + 1 < w0.heap.size := HR0.out.lt
  obtain ⟨cz0, ca0, _⟩ := box_cells HX0.out
  have HC1 := Lib.hid (fun (W : World) (hW : Below w.heap.size w W) => isAlg_any lo hi z ao c n fs W (hv.kept (Kept.of_below hW hhi)) (Nat.le_trans hhi hW.size) hs)
  have HC2 := Lib.hid (fun (W : World) (hW : Below w.heap.size w W) => partOf_any z m d bo xs lo2 hi2 W (hx.kept (Kept.of_below hW hhi2)) (Nat.le_trans hhi2 hW.size) hm)
  rw [hw0] at cz0 ca0
  have HV := Lib.hid hv
  clear hv hx hs hm
  cases hal : algOkB z fs with
  | false =>
    rw [cngB_alg hal]
    simp only [hal] at HC1
    clear hal
    go_enter Try.func70, Try.ntmps70
    go_wp2_with fail
    rw [show (w.alloc (.cells #[.int .i64 z, .slice ao n c] 31)).alloc (.cells #[.int .i64 0, .int .i64 0, .int .i64 0, .int .i64 0, .int .i64 0, .int .i64 0, .int .i64 0, .int .i64 0] 70) = w0 from hw0.symm]
    clear hw0
    refine (HC1.out _ HB0.out).mono ?_
    rintro e w1 ⟨rfl, q1⟩
    have HR1 := Lib.hid (HR0.out.below q1 (by omega))
    have HB1 := Lib.hid (HB0.out.trans (q1.mono HB0.out.size))
    have hz1 : w.heap.size + 1 < w1.heap.size := HR1.out.lt
    clear q1
    have HN := Lib.hid (HR1.out.setRow (f' := fun _ => 0))
    have HN2 := Lib.hid (below_setRow HB1.out (show w.heap.size ≤ w.heap.size + 1 by omega) (arrV fun _ => 0))
    go_wp2_with (refine st8 (f' := fun _ => 0) HR1.out rfl _ _ rfl rfl rfl ?_)
    refine bodyPost_ret (ret8b rfl _ _ _ _ rfl HN.out) rfl ⟨?_, HN2.out⟩
    rw [parF_no]; rfl
  | true =>
    obtain ⟨⟨z1, z8⟩, _, _⟩ := algOkB_of hal
    simp only [hal] at HC1
    have hpo : pOfB z xs = partB z xs := by simp [pOfB, inB_yes z1 z8]
    rw [hpo] at HC2
    unfold ResP at HC2
    obtain ⟨g, hg⟩ : ∃ g, parF (partB z xs) xs = g := ⟨_, rfl⟩
    rw [hg] at HC2
    cases hpt : partB z xs with
    | false =>
      rw [cngB_part hpt]
      simp only [hpt] at HC2
      clear hal hpt hpo hg z1 z8
      go_enter Try.func70, Try.ntmps70
      go_wp2_with fail
      rw [show (w.alloc (.cells #[.int .i64 z, .slice ao n c] 31)).alloc (.cells #[.int .i64 0, .int .i64 0, .int .i64 0, .int .i64 0, .int .i64 0, .int .i64 0, .int .i64 0, .int .i64 0] 70) = w0 from hw0.symm]
      clear hw0
      refine (HC1.out _ HB0.out).mono ?_
      rintro e w1 ⟨rfl, q1⟩
      have HR1 := Lib.hid (HR0.out.below q1 (by omega))
      have HB1 := Lib.hid (HB0.out.trans (q1.mono HB0.out.size))
      have hz1 : w.heap.size + 1 < w1.heap.size := HR1.out.lt
      have HX1 := Lib.hid (q1.block w.heap.size (by omega) |>.trans HX0.out)
      obtain ⟨cz, ca, _⟩ := box_cells HX1.out
      clear q1
      go_wp2_with fail
      refine (HC2.out _ HB1.out).mono ?_
      rintro e w2 ⟨rfl, q2⟩
      have HR2 := Lib.hid (HR1.out.below q2 (by omega))
      have HB2 := Lib.hid (HB1.out.trans (q2.mono HB1.out.size))
      have HX2 := Lib.hid ((q2.block w.heap.size (by omega)).trans HX1.out)
      have HA2 := Lib.hid (ArrAt.new w2 fun _ => 0)
      have hz2 : w.heap.size + 1 < w2.heap.size := HR2.out.lt
      clear q2 cz ca
      obtain ⟨w3, hw3⟩ : ∃ w3, w3 = (w2.alloc (.cells (arrV fun _ => 0) 70)).setRow w2.heap.size (arrV g) := ⟨_, rfl⟩
      have HA3 : Hid (ArrAt w3 w2.heap.size g) := by unfold Hid; rw [hw3]; exact HA2.out.setRow
      have HR3 : Hid (ArrAt w3 (w.heap.size + 1) fun _ => 0) := by unfold Hid; rw [hw3]; exact (HR2.out.alloc _).setRowOther (by omega) _
      have HB3 : Hid (Below w.heap.size w w3) := by unfold Hid; rw [hw3]; exact below_setRow (below_then HB2.out (below_alloc w2 _)) (by omega) _
      have HX3 : Hid (w3.heap[w.heap.size]? = some (.cells #[.int .i64 z, .slice ao n c] 31 (0, 0))) := by
        unfold Hid; rw [hw3]
        exact ((below_setRow (below_alloc w2 (.cells (arrV fun _ => 0) 70)) (Nat.le_refl _) (arrV g)).block _ (by omega)).trans HX2.out
      obtain ⟨cz, ca, _⟩ := box_cells HX3.out
      have hz3 : w2.heap.size < w3.heap.size := HA3.out.lt
      have HW3 := Lib.hid hw3
      clear hw3
      have HN := Lib.hid (HR3.out.setRow (f' := fun _ => 0))
      have HN2 := Lib.hid (below_setRow HB3.out (show w.heap.size ≤ w.heap.size + 1 by omega) (arrV fun _ => 0))
      go_wp2_with (first | (refine st8 (w := w2.alloc (.cells (arrV fun _ => 0) 70)) HA2.out rfl _ _ rfl rfl rfl ?_; rw [← HW3.out]) | (refine st8 (f' := fun _ => 0) HR3.out rfl _ _ rfl rfl rfl ?_))
      refine bodyPost_ret (ret8b rfl _ _ _ _ rfl HN.out) rfl ⟨?_, HN2.out⟩
      rw [parF_no]; rfl
    | true =>
      obtain ⟨zn, rfl⟩ : ∃ zn : Nat, z = (zn : Int) := ⟨z.toNat, by omega⟩
      have hge : g = extP xs := by rw [← hg, hpt, parF_yes]
      have hlz : xs.length = zn := by have := (partB_of hpt).1; omega
      have hcc : compK zn fs g zn = cngB (zn : Int) fs xs := by
        rw [cngB_comp hal hpt]
        exact compK_congr (by omega) (by omega) hal (fun x hx => by rw [hge]; exact extP_lt (by omega)) zn (Nat.le_refl _)
      have HC3 := Lib.hid (fun (W : World) (hW : Below w.heap.size w W) => isComp_any lo hi zn n c ao fs g W (HV.out.kept (Kept.of_below hW hhi)) (Nat.le_trans hhi hW.size) hal (fun x hx => by rw [hge, extP_lt (by omega)]; exact part_bd hpt x hx))
      rw [hcc] at HC3
      have HGe := Lib.hid hge
      simp only [hpt] at HC2
      obtain ⟨b, hb⟩ : ∃ b, cngB (zn : Int) fs xs = b := ⟨_, rfl⟩
      rw [hb] at HC3 ⊢
      clear hal hpt hpo hg hb z1 z8 hge hlz hcc
      go_enter Try.func70, Try.ntmps70
      go_wp2_with fail
      rw [show (w.alloc (.cells #[.int .i64 (zn : Int), .slice ao n c] 31)).alloc (.cells #[.int .i64 0, .int .i64 0, .int .i64 0, .int .i64 0, .int .i64 0, .int .i64 0, .int .i64 0, .int .i64 0] 70) = w0 from hw0.symm]
      clear hw0
      refine (HC1.out _ HB0.out).mono ?_
      rintro e w1 ⟨rfl, q1⟩
      have HR1 := Lib.hid (HR0.out.below q1 (by omega))
      have HB1 := Lib.hid (HB0.out.trans (q1.mono HB0.out.size))
      have hz1 : w.heap.size + 1 < w1.heap.size := HR1.out.lt
      have HX1 := Lib.hid (q1.block w.heap.size (by omega) |>.trans HX0.out)
      obtain ⟨cz, ca, _⟩ := box_cells HX1.out
      clear q1
      go_wp2_with fail
      refine (HC2.out _ HB1.out).mono ?_
      rintro e w2 ⟨rfl, q2⟩
      have HR2 := Lib.hid (HR1.out.below q2 (by omega))
      have HB2 := Lib.hid (HB1.out.trans (q2.mono HB1.out.size))
      have HX2 := Lib.hid ((q2.block w.heap.size (by omega)).trans HX1.out)
      have HA2 := Lib.hid (ArrAt.new w2 fun _ => 0)
      have hz2 : w.heap.size + 1 < w2.heap.size := HR2.out.lt
      clear q2 cz ca
      obtain ⟨w3, hw3⟩ : ∃ w3, w3 = (w2.alloc (.cells (arrV fun _ => 0) 70)).setRow w2.heap.size (arrV g) := ⟨_, rfl⟩
      have HA3 : Hid (ArrAt w3 w2.heap.size g) := by unfold Hid; rw [hw3]; exact HA2.out.setRow
      have HR3 : Hid (ArrAt w3 (w.heap.size + 1) fun _ => 0) := by unfold Hid; rw [hw3]; exact (HR2.out.alloc _).setRowOther (by omega) _
      have HB3 : Hid (Below w.heap.size w w3) := by unfold Hid; rw [hw3]; exact below_setRow (below_then HB2.out (below_alloc w2 _)) (by omega) _
      have HX3 : Hid (w3.heap[w.heap.size]? = some (.cells #[.int .i64 (zn : Int), .slice ao n c] 31 (0, 0))) := by
        unfold Hid; rw [hw3]
        exact ((below_setRow (below_alloc w2 (.cells (arrV fun _ => 0) 70)) (Nat.le_refl _) (arrV g)).block _ (by omega)).trans HX2.out
      obtain ⟨cz, ca, _⟩ := box_cells HX3.out
      have hz3 : w2.heap.size < w3.heap.size := HA3.out.lt
      have HW3 := Lib.hid hw3
      clear hw3
      go_wp2_with (first | (refine st8 (w := w2.alloc (.cells (arrV fun _ => 0) 70)) HA2.out rfl _ _ rfl rfl rfl ?_; rw [← HW3.out]) | (refine ld8w HA3.out rfl _ rfl rfl ?_))
      refine (HC3.out _ HB3.out).mono ?_
      rintro e w4 ⟨rfl, q4⟩
      have HR4 := Lib.hid (HR3.out.below q4 (by omega))
      have HA4 := Lib.hid (HA3.out.below q4 hz3)
      have HB4 := Lib.hid (HB3.out.trans (q4.mono HB3.out.size))
      clear q4 cz ca HW3
      cases b with
      | false =>
        have HN := Lib.hid (HR4.out.setRow (f' := fun _ => 0))
        have HN2 := Lib.hid (below_setRow HB4.out (show w.heap.size ≤ w.heap.size + 1 by omega) (arrV fun _ => 0))
        go_wp2_with (refine st8 (f' := fun _ => 0) HR4.out rfl _ _ rfl rfl rfl ?_)
        refine bodyPost_ret (ret8b rfl _ _ _ _ rfl HN.out) rfl ⟨?_, HN2.out⟩
        rw [parF_no]; rfl
      | true =>
        have HN := Lib.hid (HR4.out.setRow (f' := g))
        have HN2 := Lib.hid (below_setRow HB4.out (show w.heap.size ≤ w.heap.size + 1 by omega) (arrV g))
        go_wp2_with (first | (refine ld8 HA4.out rfl _ rfl rfl ?_) | (refine st8 HR4.out rfl _ _ rfl rfl rfl ?_))
        refine bodyPost_ret (ret8b rfl _ _ _ _ rfl HN.out) rfl ⟨?_, HN2.out⟩
        rw [parF_yes, HGe.out]; rfl

def valIsCongruence (z : Int) (fs : List OpD) (xs : List Int) : Bool × Bool := (cngB z fs xs, algOkB z fs)

set_option maxHeartbeats 1000000 in
set_option maxRecDepth 100000 in
theorem implIsCongruence (lo hi : Nat) (z : Int) (ao : Option Addr) (c n : Nat) (fs : List OpD) (lo2 hi2 : Nat) (bo : Option Addr) (d m : Nat) (xs : List Int) (w : World) (hv : OView w lo hi ao n fs) (hhi : hi ≤ w.heap.size) (hs : ∀ (j : Nat) (f : OpD), fs[j]? = some f → f.2.length ≤ maxLen)
    (hx : IView w lo2 hi2 bo m xs) (hhi2 : hi2 ≤ w.heap.size) (hm : m ≤ maxLen) :
    Calls Try.prog 31 #[.agg #[.int .i64 z, .slice ao n c], .slice bo m d] w fun e w' => e = .returned (.tuple #[.bool (valIsCongruence z fs xs).1, .bool (valIsCongruence z fs xs).2]) ∧ Below w.heap.size w w' := by
  have hB := below_alloc w (.cells #[.int .i64 z, .slice ao n c] 31)
  have HB := Lib.hid hB
  have HC1 := Lib.hid (isAlg_any lo hi z ao c n fs _ (hv.kept (Kept.of_below hB hhi)) (Nat.le_trans hhi hB.size) hs)
  have HC2 := Lib.hid (fun (W : World) (hW : Below w.heap.size w W) => congOf_any lo hi z ao c n fs lo2 hi2 bo d m xs W (hv.kept (Kept.of_below hW hhi)) (Nat.le_trans hhi hW.size) hs (hx.kept (Kept.of_below hW hhi2)) (Nat.le_trans hhi2 hW.size) hm)
  have hX0 : (w.alloc (.cells #[.int .i64 z, .slice ao n c] 31)).heap[w.heap.size]? = some (.cells #[.int .i64 z, .slice ao n c] 31 (0, 0)) := heap_alloc_new _ _
  have HX0 := Lib.hid hX0
  obtain ⟨cz0, ca0, _⟩ := box_cells hX0
  unfold valIsCongruence
  obtain ⟨b, hb⟩ : ∃ b, cngB z fs xs = b := ⟨_, rfl⟩
  unfold ResP at HC2
  obtain ⟨g, hg⟩ : ∃ g, parF b xs = g := ⟨_, rfl⟩
  simp only [hb, hg] at HC2
  clear hv hx hs hm hB hX0 hg
  cases hal : algOkB z fs with
  | false =>
    rw [cngB_alg hal]
    simp only [hal] at HC1
    clear hal hb
    go_enter Try.func31, Try.ntmps31
    go_wp2_with fail
    refine HC1.out.mono ?_
    rintro e w1 ⟨rfl, b1⟩
    have HB1 := Lib.hid (HB.out.trans (b1.mono HB.out.size))
    clear b1
    go_wp2_with fail
    go_ret2
    exact ⟨rfl, HB1.out⟩
  | true =>
    rw [hb]
    simp only [hal] at HC1
    clear hal hb
    go_enter Try.func31, Try.ntmps31
    go_wp2_with fail
    refine HC1.out.mono ?_
    rintro e w1 ⟨rfl, b1⟩
    have HB1 := Lib.hid (HB.out.trans (b1.mono HB.out.size))
    obtain ⟨cz, ca, _⟩ := box_cells ((b1.block w.heap.size (by simp)).trans HX0.out)
    clear b1 cz0 ca0
    go_wp2_with fail
    refine (HC2.out _ HB1.out).mono ?_
    rintro e w2 ⟨rfl, b2⟩
    have HB2 := Lib.hid (HB1.out.trans (b2.mono HB1.out.size))
    have HA2 := Lib.hid (ArrAt.new w2 fun _ => 0)
    have HB3 := Lib.hid (below_setRow (below_then HB2.out (below_alloc w2 (.cells (arrV fun _ => 0) 70))) HB2.out.size (arrV g))
    clear b2 cz ca
    go_wp2_with (refine st8 (w := w2.alloc (.cells (arrV fun _ => 0) 70)) HA2.out rfl _ _ rfl rfl rfl ?_)
    go_ret2
    exact ⟨rfl, HB3.out⟩
end

section
open Go.RowKit
set_option linter.unusedVariables false
set_option linter.unusedSimpArgs false

set_option maxRecDepth 100000 in
set_option maxHeartbeats 8000000 in
theorem l6Push_any (lo hi zn nn c lo2 hi2 m d : Nat) (ao bo : Option Addr) (fs : List OpD) (xs : List Int) (w : World) (hv : OView w lo hi ao nn fs) (hhi : hi ≤ w.heap.size) (hok : algOkB (zn : Int) fs = true)
    (hx : IView w lo2 hi2 bo m xs) (hhi2 : hi2 ≤ w.heap.size) (hmz : m = zn) (hb : ∀ x, x < zn → 0 ≤ gI xs x ∧ gI xs x < zn) :
    Calls Try.prog 114 #[.agg #[.int .i64 (zn : Int), .slice ao nn c], .slice bo m d] w fun e w' => NewInts w w' zn (lstP zn (pushF zn fs (gI xs))) e := by
  obtain rfl : zn = m := hmz.symm
  obtain ⟨⟨hw1, hw2⟩, hn4_, hall⟩ := algOkB_of hok
  have hn4 : nn ≤ 4 := by have := hv.1; omega
  have hz1 : 1 ≤ zn := by omega
  have hz8 : zn ≤ 8 := by omega
  have hB1 := below_alloc w (.cells #[.int .i64 (zn : Int), .slice ao nn c] 31)
  obtain ⟨pb, po, rfl, _, hpbh, hpc⟩ := hx.at_ (show 0 < zn by omega)
  have HOwn := Lib.hid (own_ints lo2 hi2 (some ⟨pb, po, none⟩) zn d xs (w.alloc (.cells #[.int .i64 (zn : Int), .slice ao nn c] 31)) (hx.kept (Kept.of_below hB1 hhi2)) (by omega) (by omega))
  have hlx := hx.1
  have cz0 : (w.alloc (.cells #[.int .i64 (zn : Int), .slice ao nn c] 31)).cell? ⟨w.heap.size, 0, none⟩ = some (.int .i64 (zn : Int)) := by simp
  have ca0 : (w.alloc (.cells #[.int .i64 (zn : Int), .slice ao nn c] 31)).cell? ⟨w.heap.size, 1, none⟩ = some (.slice ao nn c) := by simp
  obtain ⟨w1, hw1e⟩ : ∃ w1, w1 = w.alloc (.cells #[.int .i64 (zn : Int), .slice ao nn c] 31) := ⟨_, rfl⟩
  have hs1 : w1.heap.size = w.heap.size + 1 := by rw [hw1e]; simp
  rw [← hw1e] at HOwn hB1 cz0 ca0
  have HV := Lib.hid (hv.kept (Kept.of_below hB1 hhi))
  have HPc : Hid (∀ j, j < zn → w1.cell? ⟨pb, po + j, none⟩ = some (.int .i64 (gI xs j))) := fun j hj => (hB1.cell (p := ⟨pb, po + j, none⟩) (show pb < w.heap.size by omega)).trans (hpc j _ (get_gI hlx hj))
  obtain ⟨p, hpe⟩ : ∃ p, gI xs = p := ⟨_, rfl⟩
  have hxs : lstP zn p = xs := by rw [← hpe, ← hlx]; exact lstP_gI xs
  rw [hpe] at HPc hb ⊢
  have HBd := Lib.hid hb
  have HXs := Lib.hid hxs
  have HAll := Lib.hid hall
  have HOk := Lib.hid hok
  have HB01 := Lib.hid hB1
  have HW1 := Lib.hid hw1e
  clear hv hx hpc hb hxs hall hok hw1 hw2 hlx hB1 hpe
  unfold NewInts at HOwn ⊢
  go_enter Try.func114, Try.ntmps114
  go_wp2_with fail
  rw [← HW1.out]
  refine HOwn.out.mono ?_
  rintro e w2 ⟨g1, d1, rfl, ho, b1⟩
  have HO2 : Hid (w2.ownsRow (w.heap.size + 1) 3 1 (.slice (some ⟨g1, 0, none⟩) zn d1) zn ((lstP zn (pu3 zn fs p p 0)).map (Value.int .i64))) := by
    unfold Hid; rw [pu3, HXs.out, ← hs1]; exact ho
  have HB2 := Lib.hid b1
  obtain ⟨cz, ca⟩ : w2.cell? ⟨w.heap.size, 0, none⟩ = some (.int .i64 (zn : Int)) ∧ w2.cell? ⟨w.heap.size, 1, none⟩ = some (.slice ao nn c) := ⟨cell_b b1 cz0, cell_b b1 ca0⟩
  clear ho b1 HOwn
  go_wp2_with fail
  go_loopw [5, 6, 7, 8, 9, 10] (fun v i _ _ _ _ wr => ∃ k g dd : Nat, k ≤ nn ∧ i = .int .i64 (k : Int) ∧ v = .slice (some ⟨g, 0, none⟩) zn dd ∧ Hid (wr.ownsRow (w.heap.size + 1) 3 1 (.slice (some ⟨g, 0, none⟩) zn dd) zn ((lstP zn (pu3 zn fs p p k)).map (Value.int .i64))) ∧ Hid (Below w1.heap.size w1 wr)) (fun _ i _ _ _ _ _ => nn - (intOf i).toNat)
  case atStart => exact ⟨0, _, _, Nat.zero_le _, rfl, rfl, HO2, HB2⟩
  case round =>
    obtain ⟨k, g, dd, hk, rfl, rfl, HR, HBr⟩ := hrel
    clear HO2 HB2 cz ca
    have jz := cell_b HBr.out cz0
    have ja := cell_b HBr.out ca0
    by_cases hlt : k < nn
    · have hkn : (k : Int) < (nn : Int) := by omega
      obtain ⟨b, o, rfl, _, hbh, hc⟩ := HV.out.at_ (by omega)
      obtain ⟨f, hf⟩ := get_of_lt HV.out.1 hlt
      obtain ⟨ta, L, tc, c0, c1, hmt, htc, hvt⟩ := hc k f hf
      have hokf := HAll.out f (List.mem_of_getElem? hf)
      obtain ⟨ar, har⟩ : ∃ ar : Nat, f.1 = (ar : Int) := ⟨f.1.toNat, by have := (opOkB_of hokf).1; omega⟩
      have har3 : ar ≤ 3 := by have := (opOkB_of hokf).1; omega
      have hL512 : L ≤ 512 := by have := (place_bd (z := (zn : Int)) (by omega) (by omega) hokf).1; have := hvt.1; omega
      rw [har] at c0
      have hLn : 0 < L := by rw [← hvt.1, tab_len hokf]; exact Nat.pow_pos (by omega)
      obtain ⟨bt, ot, rfl, _, hbth, hct⟩ := hvt.at_ hLn
      have HLl := Lib.hid hvt.1
      have HCt := Lib.hid (fun (i : Nat) (hi : i < L) => hct i _ (get_gI hvt.1 hi))
      have HF := Lib.hid hf
      have HEf := Lib.hid (opAt_get hf)
      have HOkf := Lib.hid hokf
      have HAr := Lib.hid har
      have HC0 := Lib.hid c0
      have HC1 := Lib.hid c1
      obtain ⟨G, hG⟩ : ∃ G, pu3 zn fs p p k = G := ⟨_, rfl⟩
      have HG := Lib.hid hG
      rw [hG] at HR
      clear hc hf hvt hct hokf har hbth hmt htc hLn c0 c1 hG
      go_wp2_with fail
      go_loopw [5, 7, 8, 9, 10] (fun v i _ _ _ wi => ∃ a g dd : Nat, a ≤ L ∧ i = .int .i64 (a : Int) ∧ v = .slice (some ⟨g, 0, none⟩) zn dd ∧ Hid (wi.ownsRow (w.heap.size + 1) 3 1 (.slice (some ⟨g, 0, none⟩) zn dd) zn ((lstP zn (pu2 zn f p G a)).map (Value.int .i64))) ∧ Hid (Below w1.heap.size w1 wi)) (fun _ i _ _ _ _ => L - (intOf i).toNat)
      case atStart => exact ⟨0, _, _, Nat.zero_le _, rfl, rfl, HR, HBr⟩
      case round =>
        rename World => wi
        obtain ⟨a, g, dd, ha, rfl, rfl, HRi, HBi⟩ := hrel
        clear HR HBr jz ja
        have jz := cell_b HBi.out cz0
        have ja := cell_b HBi.out ca0
        have j0 := cell_b HBi.out HC0.out
        have j1 := cell_b HBi.out HC1.out
        by_cases hlta : a < L
        · have han : (a : Int) < (L : Int) := by omega
          have HArg := Lib.hid (fun (W : World) => argsSpec_any (zn : Int) (a : Int) ar har3 W (by omega) (by omega) (by omega) (by omega))
          go_wp2_with fail
          refine wp_region_noPanic ?_
          refine wp_region_held_drew (S := fun W_ => W_.cell? ⟨w.heap.size, 0, none⟩ = some (.int .i64 (zn : Int)) ∧ W_.cell? ⟨w.heap.size, 1, none⟩ = some (.slice (some ⟨b, o, none⟩) nn c) ∧ W_.cell? ⟨b, o + k * 2, none⟩ = some (.int .i64 (ar : Int))) (by kernel_rfl) ?_ (fun hHeld => ?_)
          · exact ⟨jz, ja, j0⟩
          refine wpAnyH_take (i := 0) (oi := ⟨_, _, _, _, _, _⟩) (v := ?_) rfl (by kernel_rfl) (by kernel_rfl) (by kernel_rfl) (fun _ _ _ h => h) (Or.inl ⟨rfl, ?_⟩) (by assumption) ?_
          rotate_left 1
          · intro w_ hSw; (try dsimp only at hSw); go_simp; (try with_reducible rfl)
          (try simp only [Act.put, List.setIfInBounds_toArray, List.set_cons_zero, List.set_cons_succ])
          refine wpAnyH_take (i := 1) (oi := ⟨_, _, _, _, _, _⟩) (v := ?_) rfl (by kernel_rfl) (by kernel_rfl) (by kernel_rfl) (fun _ _ _ h => h) (Or.inl ⟨rfl, ?_⟩) (by assumption) ?_
          rotate_left 1
          · intro w_ hSw; (try dsimp only at hSw); go_simp; (try with_reducible rfl)
          (try simp only [Act.put, List.setIfInBounds_toArray, List.set_cons_zero, List.set_cons_succ])
          refine wpAnyH_take (i := 2) (oi := ⟨_, _, _, _, _, _⟩) (v := ?_) rfl (by kernel_rfl) (by kernel_rfl) (by kernel_rfl) (fun _ _ _ h => h) (Or.inl ⟨rfl, ?_⟩) (by assumption) ?_
          rotate_left 1
          · intro w_ hSw; (try dsimp only at hSw); go_simp; (try with_reducible rfl)
          (try simp only [Act.put, List.setIfInBounds_toArray, List.set_cons_zero, List.set_cons_succ])
          refine wpAnyH_take (i := 3) (oi := ⟨_, _, _, _, _, _⟩) (v := ?_) rfl (by kernel_rfl) (by kernel_rfl) (by kernel_rfl) (fun _ _ _ h => h) (Or.inl ⟨rfl, ?_⟩) (by assumption) ?_
          rotate_left 1
          · intro w_ hSw; (try dsimp only at hSw); go_simp; (try with_reducible rfl)
          (try simp only [Act.put, List.setIfInBounds_toArray, List.set_cons_zero, List.set_cons_succ])
          refine wpAnyH_take (i := 4) (oi := ⟨_, _, _, _, _, _⟩) (v := ?_) rfl (by kernel_rfl) (by kernel_rfl) (by kernel_rfl) (fun _ _ _ h => h) (Or.inl ⟨rfl, ?_⟩) (by assumption) ?_
          rotate_left 1
          · intro w_ hSw; (try dsimp only at hSw); go_simp; (try with_reducible rfl)
          (try simp only [Act.put, List.setIfInBounds_toArray, List.set_cons_zero, List.set_cons_succ])
          refine wpAnyH_take (i := 5) (oi := ⟨_, _, _, _, _, _⟩) (v := ?_) rfl (by kernel_rfl) (by kernel_rfl) (by kernel_rfl) (fun _ _ _ h => h) (Or.inl ⟨rfl, ?_⟩) (by assumption) ?_
          rotate_left 1
          · intro w_ hSw; (try dsimp only at hSw); go_simp; (try with_reducible rfl)
          (try simp only [Act.put, List.setIfInBounds_toArray, List.set_cons_zero, List.set_cons_succ])
          refine wpAnyH_take (i := 6) (oi := ⟨_, _, _, _, _, _⟩) (v := ?_) rfl (by kernel_rfl) (by kernel_rfl) (by kernel_rfl) (fun _ _ _ h => h) (Or.inl ⟨rfl, ?_⟩) (by assumption) ?_
          rotate_left 1
          · intro w_ hSw; (try dsimp only at hSw); go_simp; (try with_reducible rfl)
          (try simp only [Act.put, List.setIfInBounds_toArray, List.set_cons_zero, List.set_cons_succ])
          refine wpAnyH_take (i := 7) (oi := ⟨_, _, _, _, _, _⟩) (v := ?_) rfl (by kernel_rfl) (by kernel_rfl) (by kernel_rfl) (fun _ _ _ h => h) (Or.inl ⟨rfl, ?_⟩) (by assumption) ?_
          rotate_left 1
          · intro w_ hSw; (try dsimp only at hSw); go_simp; (try with_reducible rfl)
          (try simp only [Act.put, List.setIfInBounds_toArray, List.set_cons_zero, List.set_cons_succ])
          refine wpAnyH_take (i := 8) (oi := ⟨_, _, _, _, _, _⟩) (v := ?_) rfl (by kernel_rfl) (by kernel_rfl) (by kernel_rfl) (fun _ _ _ h => h) (Or.inl ⟨rfl, ?_⟩) (by assumption) ?_
          rotate_left 1
          · intro w_ hSw; (try dsimp only at hSw); go_simp; (try with_reducible rfl)
          (try simp only [Act.put, List.setIfInBounds_toArray, List.set_cons_zero, List.set_cons_succ])
          refine wpAnyH_ready (rs := [9]) (by kernel_rfl) (by simp) ?_
          refine AllReadyH.cons (o := ⟨_, _, _, _, _, _⟩) rfl (fun K hK => ?_) AllReadyH.nil
          go_simp
          go_at_call 103
          refine (HArg.out _).mono ?_
          rintro e_ w5 ⟨rfl, rfl⟩
          refine hK.out _ _ ?_ (fun hHeld => ?_)
          · exact ⟨cell_b (below_alloc _ _) (show wi.drew.cell? _ = _ from jz), cell_b (below_alloc _ _) (show wi.drew.cell? _ = _ from ja), cell_b (below_alloc _ _) (show wi.drew.cell? _ = _ from j0)⟩
          clear hK K
          (try simp only [Act.put, List.setIfInBounds_toArray, List.set_cons_zero, List.set_cons_succ])
          refine wpAnyH_take (i := 10) (oi := ⟨_, _, _, _, _, _⟩) (v := ?_) rfl (by kernel_rfl) (by kernel_rfl) (by kernel_rfl) (fun _ _ _ h => h) (Or.inl ⟨rfl, ?_⟩) (by assumption) ?_
          rotate_left 1
          · intro w_ hSw; (try dsimp only at hSw); go_simp; (try with_reducible rfl)
          (try simp only [Act.put, List.setIfInBounds_toArray, List.set_cons_zero, List.set_cons_succ])
          refine wpAnyH_done (by kernel_rfl) ?_ _
          refine NoPanic.normal ?_
          obtain ⟨wA, hwA⟩ : ∃ wA, wA = wi.drew.alloc (.cells (digsArr (zn : Int) ar (a : Int)) 3) := ⟨_, rfl⟩
          obtain ⟨ga, hga⟩ : ∃ ga, ga = wi.heap.size := ⟨_, rfl⟩
          have HD0 : Hid (wA.heap[ga]? = some (.cells (digsArr (zn : Int) ar (a : Int)) 3 (0, 0))) := by unfold Hid; rw [hwA, hga]; exact heap_alloc_new wi.drew _
          have HBA : Hid (Below w1.heap.size w1 wA) := by unfold Hid; rw [hwA]; exact (HBi.out.drew).alloc HBi.out.size _
          obtain ⟨G2, hG2⟩ : ∃ G2, pu2 zn f p G a = G2 := ⟨_, rfl⟩
          have HG2 := Lib.hid hG2
          have HRA : Hid (wA.ownsRow (w.heap.size + 1) 3 1 (.slice (some ⟨g, 0, none⟩) zn dd) zn ((lstP zn (pu1 zn f p a G2 0)).map (Value.int .i64))) := by unfold Hid; rw [pu1, ← hG2, hwA]; exact (show wi.drew.ownsRow _ _ _ _ _ _ from HRi.out).alloc _
          (try simp only [World.size_drew])
          rw [← hwA, ← hga]
          clear hwA hga hG2 hHeld jz ja j0 j1
          go_wp2_with fail
          go_loopw [5, 9, 10] (fun v i _ wq => ∃ q g dd : Nat, q ≤ ar ∧ i = .int .i64 (q : Int) ∧ v = .slice (some ⟨g, 0, none⟩) zn dd ∧ Hid (wq.ownsRow (w.heap.size + 1) 3 1 (.slice (some ⟨g, 0, none⟩) zn dd) zn ((lstP zn (pu1 zn f p a G2 q)).map (Value.int .i64))) ∧ Hid (wq.heap[ga]? = some (.cells (digsArr (zn : Int) ar (a : Int)) 3 (0, 0))) ∧ Hid (Below w1.heap.size w1 wq)) (fun _ i _ _ => ar - (intOf i).toNat)
          case atStart => exact ⟨0, _, _, Nat.zero_le _, rfl, rfl, HRA, HD0, HBA⟩
          case round =>
            rename World => wq
            obtain ⟨q, g, dd, hq, rfl, rfl, HRq, HDq, HBq⟩ := hrel
            clear HRA HD0 HBA
            by_cases hltq : q < ar
            · have hqn : (q : Int) < (ar : Int) := by omega
              have hvd := digs_view (z := (zn : Int)) (at_ := (a : Int)) HDq.out
              have hOw := own_ints ga wq.heap.size (some ⟨ga, 0, none⟩) ar ar (digs (zn : Int) ar (a : Int)) wq hvd (by omega) (by omega)
              unfold NewInts at hOw
              have HOw := Lib.hid hOw
              clear hvd hOw
              go_wp2_with fail
              refine HOw.out.mono ?_
              rintro e w3 ⟨g3, d3, rfl, ho3, b3⟩
              have hgal : ga < wq.heap.size := (Array.getElem?_eq_some_iff.1 HDq.out).1
              have hD3 : w3.heap[ga]? = some (.cells (digsArr (zn : Int) ar (a : Int)) 3 (0, 0)) := (b3.block _ hgal).trans HDq.out
              have hdq := dg_get zn ar a q hltq
              obtain ⟨dq, hdqe⟩ : ∃ dq, a / zn ^ (ar - 1 - q) % zn = dq := ⟨_, rfl⟩
              have hdz : dq < zn := by rw [← hdqe]; exact Nat.mod_lt _ (by omega)
              rw [hdqe] at hdq
              have e1 : w3.cell? ⟨ga, q, none⟩ = some (.int .i64 (dq : Int)) := by
                rw [cell_of_row w3 ga q _ _ (0, 0) hD3]
                simp [digsArr, hdq]
              have HB3 := Lib.hid (HBq.out.trans (b3.mono HBq.out.size))
              obtain ⟨pv, hpv⟩ : ∃ pv, p dq = pv := ⟨_, rfl⟩
              have e2 := cell_b HB3.out (HPc.out dq hdz)
              rw [hpv] at e2
              have hdn : (dq : Int) < (zn : Int) := by omega
              obtain ⟨u0, hu0⟩ : ∃ u0, w3.cell? ⟨g3, q, none⟩ = some u0 := by
                have h_ := ho3.cellAt q (by omega)
                rw [h_]
                exact ⟨_, List.getElem?_eq_getElem (by rw [List.length_map, digs_len]; omega)⟩
              have hfr : w3.frozen? ⟨g3, q, none⟩ = false := ho3.frozenAt q
              have hst := (ho3.stored q (.int .i64 pv)).1
              have hg3 : wq.heap.size ≤ g3 := (ho3.lt g3 rfl).1
              rw [← List.map_set] at hst
              have hot : (digs (zn : Int) ar (a : Int)).set q pv = othL zn f p a q := by
                unfold othL
                rw [HAr.out, Int.toNat_natCast, List.getD_eq_getElem?_getD, hdq, Option.getD_some, Int.toNat_natCast, hpv]
              rw [hot] at hst
              have HST := Lib.hid hst
              have HB4 := Lib.hid (b3.setCell (p := ⟨g3, q, none⟩) hg3 (.int .i64 pv))
              clear hD3 hdq hdqe hpv hst hot ho3 b3
              go_wp2_with fail
              obtain ⟨w4, hw4⟩ : ∃ w4, w4 = w3.setCell ⟨g3, q, none⟩ (.int .i64 pv) := ⟨_, rfl⟩
              rw [← hw4] at HST HB4 ⊢
              clear hw4 e1 e2 hu0 hfr
              have HB5 := Lib.hid (HBq.out.trans (HB4.out.mono HBq.out.size))
              have kz := cell_b HB5.out cz0
              have ka := cell_b HB5.out ca0
              have k1 := cell_b HB5.out HC1.out
              have hta := tab_bd HOkf.out (i := a) (by rw [HLl.out]; exact hlta)
              have hqf : q < f.1.toNat := by rw [HAr.out]; omega
              have hoa := oth_bd (a := a) hz1 HOkf.out HBd.out hqf
              have hoi := oth_in (f := f) (a := a) hz1 HBd.out hqf
              obtain ⟨yn, hyn⟩ : ∃ yn : Nat, gI f.2 a = (yn : Int) := ⟨(gI f.2 a).toNat, by omega⟩
              obtain ⟨un, hun⟩ : ∃ un : Nat, othA zn f p a q = (un : Int) := ⟨(othA zn f p a q).toNat, by omega⟩
              have ky := cell_b HB5.out (HCt.out a hlta)
              rw [hyn] at ky hta
              rw [hun] at hoa
              have hVal := fun (W : World) (hW : Below w4.heap.size w4 W) => value_spec lo hi wq.heap.size w4.heap.size (zn : Int) (some ⟨b, o, none⟩) (some ⟨g3, 0, none⟩) c nn d3 ar k fs f (othL zn f p a q) W (HV.out.kept (Kept.of_below (HB5.out.trans (hW.mono HB5.out.size)) (by omega))) (by have := HB5.out.size; have := hW.size; omega) HOk.out HF.out
                ((OwnsInts.of_row HST.out).view.kept (Kept.of_below hW (Nat.le_refl _))) hW.size hoi (by rw [HAr.out])
              rw [show atA (zn : Int) f (othL zn f p a q) = (un : Int) from hun] at hVal
              have HVal := Lib.hid hVal
              have hUn := fun (W : World) (hW : Below w4.heap.size w4 W) => unite6_any (w.heap.size + 1) W.heap.size (some ⟨g, 0, none⟩) dd zn yn un (lstP zn (pu1 zn f p a G2 q)) W
                (IView.of_owns (HRq.out.kept (grown_of_below (HB4.out.trans (hW.mono HB4.out.size)) none) (own_em _)) (Nat.le_refl _)) (Nat.le_refl _) (by omega) (by omega) hz8
              rw [show lstP zn (joinF (gI (lstP zn (pu1 zn f p a G2 q))) yn un) = lstP zn (pu1 zn f p a G2 (q + 1)) from lstP_congr fun x hx => by
                rw [pu1, hyn, hun, Int.toNat_natCast, Int.toNat_natCast]
                exact joinF_congr (n := zn) (fun j hj => gI_lstP _ hj) (by omega) (by omega) hx] at hUn
              unfold NewInts at hUn
              have HUn := Lib.hid hUn
              have HB4w := Lib.hid HB4.out
              have HSw : Hid (w.heap.size + 1 ≤ w4.heap.size) := by unfold Hid; have := HB5.out.size; omega
              clear hVal hUn hyn hun hta hoa hoi hqf
              have HBw := HB5
              clear HB5
              go_wp2_with fail
              refine wp_region_noPanic ?_
              refine wp_region_held_drew (S := fun W_ => W_.cell? ⟨w.heap.size, 0, none⟩ = some (.int .i64 (zn : Int)) ∧ W_.cell? ⟨w.heap.size, 1, none⟩ = some (.slice (some ⟨b, o, none⟩) nn c) ∧ W_.cell? ⟨b, o + k * 2 + 1, none⟩ = some (.slice (some ⟨bt, ot, none⟩) L tc) ∧ W_.cell? ⟨bt, ot + a, none⟩ = some (.int .i64 (yn : Int))) (by kernel_rfl) ?_ (fun hHeld => ?_)
              · exact ⟨kz, ka, k1, ky⟩
              refine wpAnyH_take (i := 0) (oi := ⟨_, _, _, _, _, _⟩) (v := ?_) rfl (by kernel_rfl) (by kernel_rfl) (by kernel_rfl) (fun _ _ _ h => h) (Or.inl ⟨rfl, ?_⟩) (by assumption) ?_
              rotate_left 1
              · intro w_ hSw; (try dsimp only at hSw); go_simp; (try with_reducible rfl)
              (try simp only [Act.put, List.setIfInBounds_toArray, List.set_cons_zero, List.set_cons_succ])
              refine wpAnyH_take (i := 1) (oi := ⟨_, _, _, _, _, _⟩) (v := ?_) rfl (by kernel_rfl) (by kernel_rfl) (by kernel_rfl) (fun _ _ _ h => h) (Or.inl ⟨rfl, ?_⟩) (by assumption) ?_
              rotate_left 1
              · intro w_ hSw; (try dsimp only at hSw); go_simp; (try with_reducible rfl)
              (try simp only [Act.put, List.setIfInBounds_toArray, List.set_cons_zero, List.set_cons_succ])
              refine wpAnyH_take (i := 2) (oi := ⟨_, _, _, _, _, _⟩) (v := ?_) rfl (by kernel_rfl) (by kernel_rfl) (by kernel_rfl) (fun _ _ _ h => h) (Or.inl ⟨rfl, ?_⟩) (by assumption) ?_
              rotate_left 1
              · intro w_ hSw; (try dsimp only at hSw); go_simp; (try with_reducible rfl)
              (try simp only [Act.put, List.setIfInBounds_toArray, List.set_cons_zero, List.set_cons_succ])
              refine wpAnyH_take (i := 3) (oi := ⟨_, _, _, _, _, _⟩) (v := ?_) rfl (by kernel_rfl) (by kernel_rfl) (by kernel_rfl) (fun _ _ _ h => h) (Or.inl ⟨rfl, ?_⟩) (by assumption) ?_
              rotate_left 1
              · intro w_ hSw; (try dsimp only at hSw); go_simp; (try with_reducible rfl)
              (try simp only [Act.put, List.setIfInBounds_toArray, List.set_cons_zero, List.set_cons_succ])
              refine wpAnyH_take (i := 4) (oi := ⟨_, _, _, _, _, _⟩) (v := ?_) rfl (by kernel_rfl) (by kernel_rfl) (by kernel_rfl) (fun _ _ _ h => h) (Or.inl ⟨rfl, ?_⟩) (by assumption) ?_
              rotate_left 1
              · intro w_ hSw; (try dsimp only at hSw); go_simp; (try with_reducible rfl)
              (try simp only [Act.put, List.setIfInBounds_toArray, List.set_cons_zero, List.set_cons_succ])
              refine wpAnyH_take (i := 5) (oi := ⟨_, _, _, _, _, _⟩) (v := ?_) rfl (by kernel_rfl) (by kernel_rfl) (by kernel_rfl) (fun _ _ _ h => h) (Or.inl ⟨rfl, ?_⟩) (by assumption) ?_
              rotate_left 1
              · intro w_ hSw; (try dsimp only at hSw); go_simp; (try with_reducible rfl)
              (try simp only [Act.put, List.setIfInBounds_toArray, List.set_cons_zero, List.set_cons_succ])
              refine wpAnyH_take (i := 6) (oi := ⟨_, _, _, _, _, _⟩) (v := ?_) rfl (by kernel_rfl) (by kernel_rfl) (by kernel_rfl) (fun _ _ _ h => h) (Or.inl ⟨rfl, ?_⟩) (by assumption) ?_
              rotate_left 1
              · intro w_ hSw; (try dsimp only at hSw); go_simp; (try with_reducible rfl)
              (try simp only [Act.put, List.setIfInBounds_toArray, List.set_cons_zero, List.set_cons_succ])
              refine wpAnyH_take (i := 7) (oi := ⟨_, _, _, _, _, _⟩) (v := ?_) rfl (by kernel_rfl) (by kernel_rfl) (by kernel_rfl) (fun _ _ _ h => h) (Or.inl ⟨rfl, ?_⟩) (by assumption) ?_
              rotate_left 1
              · intro w_ hSw; (try dsimp only at hSw); go_simp; (try with_reducible rfl)
              (try simp only [Act.put, List.setIfInBounds_toArray, List.set_cons_zero, List.set_cons_succ])
              refine wpAnyH_take (i := 8) (oi := ⟨_, _, _, _, _, _⟩) (v := ?_) rfl (by kernel_rfl) (by kernel_rfl) (by kernel_rfl) (fun _ _ _ h => h) (Or.inl ⟨rfl, ?_⟩) (by assumption) ?_
              rotate_left 1
              · intro w_ hSw; (try dsimp only at hSw); go_simp; (try with_reducible rfl)
              (try simp only [Act.put, List.setIfInBounds_toArray, List.set_cons_zero, List.set_cons_succ])
              refine wpAnyH_take (i := 9) (oi := ⟨_, _, _, _, _, _⟩) (v := ?_) rfl (by kernel_rfl) (by kernel_rfl) (by kernel_rfl) (fun _ _ _ h => h) (Or.inl ⟨rfl, ?_⟩) (by assumption) ?_
              rotate_left 1
              · intro w_ hSw; (try dsimp only at hSw); go_simp; (try with_reducible rfl)
              (try simp only [Act.put, List.setIfInBounds_toArray, List.set_cons_zero, List.set_cons_succ])
              refine wpAnyH_take (i := 10) (oi := ⟨_, _, _, _, _, _⟩) (v := ?_) rfl (by kernel_rfl) (by kernel_rfl) (by kernel_rfl) (fun _ _ _ h => h) (Or.inl ⟨rfl, ?_⟩) (by assumption) ?_
              rotate_left 1
              · intro w_ hSw; (try dsimp only at hSw); go_simp; (try with_reducible rfl)
              (try simp only [Act.put, List.setIfInBounds_toArray, List.set_cons_zero, List.set_cons_succ])
              refine wpAnyH_take (i := 11) (oi := ⟨_, _, _, _, _, _⟩) (v := ?_) rfl (by kernel_rfl) (by kernel_rfl) (by kernel_rfl) (fun _ _ _ h => h) (Or.inl ⟨rfl, ?_⟩) (by assumption) ?_
              rotate_left 1
              · intro w_ hSw; (try dsimp only at hSw); go_simp; (try with_reducible rfl)
              (try simp only [Act.put, List.setIfInBounds_toArray, List.set_cons_zero, List.set_cons_succ])
              refine wpAnyH_take (i := 12) (oi := ⟨_, _, _, _, _, _⟩) (v := ?_) rfl (by kernel_rfl) (by kernel_rfl) (by kernel_rfl) (fun _ _ _ h => h) (Or.inl ⟨rfl, ?_⟩) (by assumption) ?_
              rotate_left 1
              · intro w_ hSw; (try dsimp only at hSw); go_simp; (try with_reducible rfl)
              (try simp only [Act.put, List.setIfInBounds_toArray, List.set_cons_zero, List.set_cons_succ])
              refine wpAnyH_ready (rs := [13]) (by kernel_rfl) (by simp) ?_
              refine AllReadyH.cons (o := ⟨_, _, _, _, _, _⟩) rfl (fun K hK => ?_) AllReadyH.nil
              go_simp
              go_at_call 105
              refine (HVal.out _ (below_drew _)).mono ?_
              rintro e_ w5 ⟨rfl, b5⟩
              have HB5 := Lib.hid (below_then (below_drew w4) b5)
              clear b5
              refine hK.out _ _ ?_ (fun hHeld => ?_)
              · exact ⟨cell_b HB5.out kz, cell_b HB5.out ka, cell_b HB5.out k1, cell_b HB5.out ky⟩
              clear hK K
              (try simp only [Act.put, List.setIfInBounds_toArray, List.set_cons_zero, List.set_cons_succ])
              refine wpAnyH_ready (rs := [14]) (by kernel_rfl) (by simp) ?_
              refine AllReadyH.cons (o := ⟨_, _, _, _, _, _⟩) rfl (fun K hK => ?_) AllReadyH.nil
              go_simp
              go_at_call 140
              refine (HUn.out _ HB5.out).mono ?_
              rintro e_ w6 ⟨g6, d6, rfl, ho6, b6⟩
              have HB6 := Lib.hid (HB5.out.trans (b6.mono HB5.out.size))
              have HO6 := Lib.hid (ownsRow_base ho6 (b' := w.heap.size + 1) (Nat.le_trans HSw.out HB5.out.size))
              clear ho6 b6
              refine hK.out _ _ ?_ (fun hHeld => ?_)
              · exact ⟨cell_b HB6.out kz, cell_b HB6.out ka, cell_b HB6.out k1, cell_b HB6.out ky⟩
              clear hK K
              (try simp only [Act.put, List.setIfInBounds_toArray, List.set_cons_zero, List.set_cons_succ])
              refine wpAnyH_take (i := 15) (oi := ⟨_, _, _, _, _, _⟩) (v := ?_) rfl (by kernel_rfl) (by kernel_rfl) (by kernel_rfl) (fun _ _ _ h => h) (Or.inl ⟨rfl, ?_⟩) (by assumption) ?_
              rotate_left 1
              · intro w_ hSw; (try dsimp only at hSw); go_simp; (try with_reducible rfl)
              (try simp only [Act.put, List.setIfInBounds_toArray, List.set_cons_zero, List.set_cons_succ])
              refine wpAnyH_done (by kernel_rfl) ?_ _
              refine NoPanic.normal ?_
              have HB7 := Lib.hid (HBw.out.trans (HB6.out.mono HBw.out.size))
              have HD7 := Lib.hid (((HB4w.out.trans (HB6.out.mono HB4w.out.size)).block _ hgal).trans HDq.out)
              clear hHeld kz ka k1 ky
              go_wp2_with fail
              go_roundw
              case rel => exact ⟨q + 1, g6, d6, by omega, by go_num, rfl, HO6, HD7, HB7⟩
              case measure => simp [intOf]; omega
            · have hqn : ¬ (q : Int) < (ar : Int) := by omega
              obtain rfl : q = ar := by omega
              have HR8 : Hid (wq.ownsRow (w.heap.size + 1) 3 1 (.slice (some ⟨g, 0, none⟩) zn dd) zn ((lstP zn (pu2 zn f p G (a + 1))).map (Value.int .i64))) := by
                unfold Hid; rw [pu2, HG2.out, HAr.out, Int.toNat_natCast]; exact HRq.out
              go_wp2_with fail
              go_roundw
              case rel => exact ⟨a + 1, g, dd, by omega, by go_num, rfl, HR8, HBq⟩
              case measure => simp [intOf]; omega
        · have han : ¬ (a : Int) < (L : Int) := by omega
          obtain rfl : a = L := by omega
          have HR9 : Hid (wi.ownsRow (w.heap.size + 1) 3 1 (.slice (some ⟨g, 0, none⟩) zn dd) zn ((lstP zn (pu3 zn fs p p (k + 1))).map (Value.int .i64))) := by
            unfold Hid; rw [pu3, HEf.out, HG.out, HLl.out]; exact HRi.out
          go_wp2_with fail
          go_roundw
          case rel => exact ⟨k + 1, g, dd, by omega, by go_num, rfl, HR9, HBi⟩
          case measure => simp [intOf]; omega
    · have hkn : ¬ (k : Int) < (nn : Int) := by omega
      obtain rfl : k = nn := by omega
      have HRE := Lib.hid (ownsRow_base HR.out (b' := w.heap.size) (Nat.le_succ _))
      have HBE := Lib.hid (HB01.out.trans (HBr.out.mono HB01.out.size))
      have HLn := Lib.hid HV.out.1
      go_wp2_with fail
      go_ret
      exact ⟨g, dd, rfl, by unfold pushF; rw [HLn.out]; exact HRE.out, HBE.out⟩
end

section
open Go.RowKit
set_option linter.unusedVariables false
set_option linter.unusedSimpArgs false

set_option maxHeartbeats 1000000 in
theorem l6Is_any (lo hi : Nat) (z : Int) (ao : Option Addr) (c n : Nat) (fs : List OpD) (lo2 hi2 : Nat) (bo : Option Addr) (d m : Nat) (xs : List Int) (w : World) (hv : OView w lo hi ao n fs) (hhi : hi ≤ w.heap.size) (hok : algOkB z fs = true)
    (hx : IView w lo2 hi2 bo m xs) (hhi2 : hi2 ≤ w.heap.size) (hm : m ≤ maxLen) :
    Calls Try.prog 68 #[.agg #[.int .i64 z, .slice ao n c], .slice bo m d] w fun e w' => e = .returned (.bool (cngB z fs xs)) ∧ Below w.heap.size w w' := by
  obtain ⟨⟨z1, z8⟩, _, _⟩ := algOkB_of hok
  have hB := below_alloc w (.cells #[.int .i64 z, .slice ao n c] 31)
  have HB := Lib.hid hB
  have hX0 : (w.alloc (.cells #[.int .i64 z, .slice ao n c] 31)).heap[w.heap.size]? = some (.cells #[.int .i64 z, .slice ao n c] 31 (0, 0)) := heap_alloc_new _ _
  obtain ⟨cz0, ca0, _⟩ := box_cells hX0
  have hx1 := hx.kept (Kept.of_below hB hhi2)
  have HP := Lib.hid (part6_q lo2 hi2 z bo d m xs _ _ hx1 ⟨0, rfl⟩ hm (inB_yes z1 z8))
  have hpo : pOfB z xs = partB z xs := by simp [pOfB, inB_yes z1 z8]
  rw [hpo] at HP
  cases hpt : partB z xs with
  | false =>
    rw [cngB_part hpt]
    simp only [hpt] at HP
    clear hv hx hm hok hB hX0 hx1 hpo hpt z1 z8
    go_enter Try.func68, Try.ntmps68
    go_wp2_with fail
    refine HP.out.mono ?_
    rintro e w1 ⟨rfl, q1⟩
    have HB1 := Lib.hid (below_drawn HB.out q1)
    clear q1
    go_wp2_with fail
    go_ret
    exact ⟨rfl, HB1.out⟩
  | true =>
    obtain ⟨zn, rfl⟩ : ∃ zn : Nat, z = (zn : Int) := ⟨z.toNat, by omega⟩
    have hmz : m = zn := by have := (partB_of hpt).1; have := hx.1; omega
    have hcc : decide (lstP zn (pushF zn fs (gI xs)) = xs) = cngB (zn : Int) fs xs := by
      rw [cngB_comp hok hpt, ← push_iff (by omega) (by omega) hok hpt, Bool.eq_iff_iff]
      simp
    obtain ⟨b, hb⟩ : ∃ b, cngB (zn : Int) fs xs = b := ⟨_, rfl⟩
    rw [hb] at hcc ⊢
    have HPu := Lib.hid (fun (W : World) (hW : Below w.heap.size w W) => l6Push_any lo hi zn n c lo2 hi2 m d ao bo fs xs W (hv.kept (Kept.of_below hW hhi)) (Nat.le_trans hhi hW.size) hok (hx.kept (Kept.of_below hW hhi2)) (Nat.le_trans hhi2 hW.size) hmz (part_bd hpt))
    have HSm := Lib.hid (fun (W0 W : World) (g e_ : Nat) (hW : Below w.heap.size w W0) (ho : W.ownsRow W0.heap.size 3 1 (.slice (some ⟨g, 0, none⟩) zn e_) zn ((lstP zn (pushF zn fs (gI xs))).map (Value.int .i64))) (b2 : Below W0.heap.size W0 W) =>
      l1Same_any W0.heap.size W.heap.size lo2 hi2 (some ⟨g, 0, none⟩) bo e_ zn d m (lstP zn (pushF zn fs (gI xs))) xs W (OwnsInts.of_row ho).view (hx.kept (Kept.of_below (hW.trans (b2.mono hW.size)) hhi2)) (by unfold maxLen; omega) hm)
    rw [hcc] at HSm
    unfold NewInts at HPu
    simp only [hpt] at HP
    clear hv hx hm hok hB hX0 hx1 hpo hpt z1 z8 hcc hb hmz
    go_enter Try.func68, Try.ntmps68
    go_wp2_with fail
    refine HP.out.mono ?_
    rintro e w1 ⟨rfl, q1⟩
    have HB1 := Lib.hid (below_drawn HB.out q1)
    have cz : w1.cell? ⟨w.heap.size, 0, none⟩ = some (.int .i64 (zn : Int)) := by obtain ⟨q, rfl⟩ := q1; exact cz0
    have ca : w1.cell? ⟨w.heap.size, 1, none⟩ = some (.slice ao n c) := by obtain ⟨q, rfl⟩ := q1; exact ca0
    clear q1 cz0 ca0
    go_wp2_with fail
    refine (HPu.out _ HB1.out).mono ?_
    rintro e w2 ⟨g, e_, rfl, ho, b2⟩
    have HO := Lib.hid ho
    have HB2' := Lib.hid b2
    have HB2 := Lib.hid (HB1.out.trans (b2.mono HB1.out.size))
    clear ho b2
    go_wp2_with fail
    refine (HSm.out _ _ _ _ HB1.out HO.out HB2'.out).mono ?_
    rintro e w3 ⟨rfl, q3⟩
    have HB3 := Lib.hid (below_drawn HB2.out q3)
    clear q3
    go_wp2_with fail
    go_ret
    exact ⟨rfl, HB3.out⟩

set_option maxHeartbeats 1000000 in
theorem specIsCongruence (lo hi : Nat) (z : Int) (ao : Option Addr) (c n : Nat) (fs : List OpD) (lo2 hi2 : Nat) (bo : Option Addr) (d m : Nat) (xs : List Int) (w : World) (hv : OView w lo hi ao n fs) (hhi : hi ≤ w.heap.size) (hs : ∀ (j : Nat) (f : OpD), fs[j]? = some f → f.2.length ≤ maxLen)
    (hx : IView w lo2 hi2 bo m xs) (hhi2 : hi2 ≤ w.heap.size) (hm : m ≤ maxLen) :
    Calls Try.prog 30 #[.agg #[.int .i64 z, .slice ao n c], .slice bo m d] w fun e w' => e = .returned (.tuple #[.bool (valIsCongruence z fs xs).1, .bool (valIsCongruence z fs xs).2]) ∧ Below w.heap.size w w' := by
  have hB := below_alloc w (.cells #[.int .i64 z, .slice ao n c] 31)
  have HB := Lib.hid hB
  have HC1 := Lib.hid (good_any lo hi z ao c n fs _ (hv.kept (Kept.of_below hB hhi)) (Nat.le_trans hhi hB.size) hs)
  have hX0 : (w.alloc (.cells #[.int .i64 z, .slice ao n c] 31)).heap[w.heap.size]? = some (.cells #[.int .i64 z, .slice ao n c] 31 (0, 0)) := heap_alloc_new _ _
  have HX0 := Lib.hid hX0
  obtain ⟨cz0, ca0, _⟩ := box_cells hX0
  unfold valIsCongruence
  cases hal : algOkB z fs with
  | false =>
    rw [cngB_alg hal]
    simp only [hal] at HC1
    clear hv hx hs hm hB hX0 hal
    go_enter Try.func30, Try.ntmps30
    go_wp2_with fail
    refine HC1.out.mono ?_
    rintro e w1 ⟨rfl, b1⟩
    have HB1 := Lib.hid (HB.out.trans (b1.mono HB.out.size))
    clear b1
    go_wp2_with fail
    go_ret2
    exact ⟨rfl, HB1.out⟩
  | true =>
    have HC2 := Lib.hid (fun (W : World) (hW : Below w.heap.size w W) => l6Is_any lo hi z ao c n fs lo2 hi2 bo d m xs W (hv.kept (Kept.of_below hW hhi)) (Nat.le_trans hhi hW.size) hal (hx.kept (Kept.of_below hW hhi2)) (Nat.le_trans hhi2 hW.size) hm)
    obtain ⟨b, hb⟩ : ∃ b, cngB z fs xs = b := ⟨_, rfl⟩
    rw [hb] at HC2 ⊢
    simp only [hal] at HC1
    clear hv hx hs hm hB hX0 hal hb
    go_enter Try.func30, Try.ntmps30
    go_wp2_with fail
    refine HC1.out.mono ?_
    rintro e w1 ⟨rfl, b1⟩
    have HB1 := Lib.hid (HB.out.trans (b1.mono HB.out.size))
    obtain ⟨cz, ca, _⟩ := box_cells ((b1.block w.heap.size (by simp)).trans HX0.out)
    clear b1 cz0 ca0
    go_wp2_with fail
    refine (HC2.out _ HB1.out).mono ?_
    rintro e w2 ⟨rfl, b2⟩
    have HB2 := Lib.hid (HB1.out.trans (b2.mono HB1.out.size))
    clear b2
    go_wp2_with fail
    go_ret2
    exact ⟨rfl, HB2.out⟩

set_option maxHeartbeats 1000000 in
theorem takes9_any (lo hi : Nat) (z : Int) (ao : Option Addr) (c n : Nat) (fs : List OpD) (lo2 hi2 : Nat) (bo : Option Addr) (d m : Nat) (xs : List Int) (w : World) (hv : OView w lo hi ao n fs) (hhi : hi ≤ w.heap.size) (hs : ∀ (j : Nat) (f : OpD), fs[j]? = some f → f.2.length ≤ maxLen)
    (hx : IView w lo2 hi2 bo m xs) (hhi2 : hi2 ≤ w.heap.size) (hm : m ≤ maxLen) :
    Calls Try.prog 71 #[.agg #[.int .i64 z, .slice ao n c], .slice bo m d] w fun e w' => e = .returned (.bool (cngB z fs xs)) ∧ Below w.heap.size w w' := by
  have hB := below_alloc w (.cells #[.int .i64 z, .slice ao n c] 31)
  have HB := Lib.hid hB
  have HC1 := Lib.hid (good_any lo hi z ao c n fs _ (hv.kept (Kept.of_below hB hhi)) (Nat.le_trans hhi hB.size) hs)
  have hX0 : (w.alloc (.cells #[.int .i64 z, .slice ao n c] 31)).heap[w.heap.size]? = some (.cells #[.int .i64 z, .slice ao n c] 31 (0, 0)) := heap_alloc_new _ _
  have HX0 := Lib.hid hX0
  obtain ⟨cz0, ca0, _⟩ := box_cells hX0
  cases hal : algOkB z fs with
  | false =>
    rw [cngB_alg hal]
    simp only [hal] at HC1
    clear hv hx hs hm hB hX0 hal
    go_enter Try.func71, Try.ntmps71
    go_wp2_with fail
    refine HC1.out.mono ?_
    rintro e w1 ⟨rfl, b1⟩
    have HB1 := Lib.hid (HB.out.trans (b1.mono HB.out.size))
    clear b1
    go_wp2_with fail
    go_ret
    exact ⟨rfl, HB1.out⟩
  | true =>
    have HC2 := Lib.hid (fun (W : World) (hW : Below w.heap.size w W) => l6Is_any lo hi z ao c n fs lo2 hi2 bo d m xs W (hv.kept (Kept.of_below hW hhi)) (Nat.le_trans hhi hW.size) hal (hx.kept (Kept.of_below hW hhi2)) (Nat.le_trans hhi2 hW.size) hm)
    obtain ⟨b, hb⟩ : ∃ b, cngB z fs xs = b := ⟨_, rfl⟩
    rw [hb] at HC2 ⊢
    simp only [hal] at HC1
    clear hv hx hs hm hB hX0 hal hb
    go_enter Try.func71, Try.ntmps71
    go_wp2_with fail
    refine HC1.out.mono ?_
    rintro e w1 ⟨rfl, b1⟩
    have HB1 := Lib.hid (HB.out.trans (b1.mono HB.out.size))
    obtain ⟨cz, ca, _⟩ := box_cells ((b1.block w.heap.size (by simp)).trans HX0.out)
    clear b1 cz0 ca0
    go_wp2_with fail
    refine (HC2.out _ HB1.out).mono ?_
    rintro e w2 ⟨rfl, b2⟩
    have HB2 := Lib.hid (HB1.out.trans (b2.mono HB1.out.size))
    clear b2
    go_wp2_with fail
    go_ret
    exact ⟨rfl, HB2.out⟩
end

end Go.Proofs.Ytcmjkfcgekmomaa
