/-
  Plain mathematics: when an algebra is valid. No condition.
-/
import Derived.Test.YtcmjkfcgekmomaaAlg
namespace Go.Proofs.Ytcmjkfcgekmomaa
open Go.RowKit
set_option linter.unusedVariables false

def inB (a b x : Int) : Bool := decide (a ≤ x ∧ x ≤ b)
theorem inB_yes {a b x : Int} (h1 : a ≤ x) (h2 : x ≤ b) : inB a b x = true := decide_eq_true ⟨h1, h2⟩
theorem inB_no {a b x : Int} (h : ¬ (a ≤ x ∧ x ≤ b)) : inB a b x = false := decide_eq_false h
def allIn (z : Int) (xs : List Int) : Bool := xs.all fun x => decide (0 ≤ x ∧ x < z)
theorem allIn_take_all {z : Int} {xs : List Int} {k : Nat} (hk : xs.length ≤ k) (h : allIn z (xs.take k) = true) : allIn z xs = true := by rwa [List.take_of_length_le hk] at h
theorem allIn_succ {z : Int} {xs : List Int} {k : Nat} {x : Int} (hx : xs[k]? = some x) (h : allIn z (xs.take k) = true) (h0 : 0 ≤ x) (h1 : x < z) : allIn z (xs.take (k + 1)) = true := by
  unfold allIn at h ⊢
  rw [List.take_add_one, hx, List.all_append, h]
  simp [h0, h1]
theorem allIn_no {z : Int} {xs : List Int} {k : Nat} {x : Int} (hx : xs[k]? = some x) (h : ¬ (0 ≤ x ∧ x < z)) : allIn z xs = false := by
  rw [← Bool.not_eq_true]
  intro ha
  have := List.all_eq_true.1 ha x (List.mem_of_getElem? hx)
  exact h (by simpa using this)
theorem allIn_get {z : Int} {xs : List Int} {k : Nat} {x : Int} (h : allIn z xs = true) (hx : xs[k]? = some x) : 0 ≤ x ∧ x < z := by
  have := List.all_eq_true.1 h x (List.mem_of_getElem? hx)
  simpa using this

def powI (z : Int) : Nat → Int
  | 0 => 1
  | k + 1 => powI z k * z
theorem powI_bd {z : Int} (h1 : 1 ≤ z) (h2 : z ≤ 8) {k : Nat} (hk : k ≤ 3) : 1 ≤ powI z k ∧ powI z k ≤ 512 := by
  have h3 : z = 1 ∨ z = 2 ∨ z = 3 ∨ z = 4 ∨ z = 5 ∨ z = 6 ∨ z = 7 ∨ z = 8 := by omega
  have h4 : k = 0 ∨ k = 1 ∨ k = 2 ∨ k = 3 := by omega
  rcases h3 with rfl | rfl | rfl | rfl | rfl | rfl | rfl | rfl <;> rcases h4 with rfl | rfl | rfl | rfl <;> simp [powI]
theorem powI_one (z : Int) : powI z 1 = z := by simp [powI]
theorem powI_two (z : Int) : powI z 2 = z * z := by simp [powI]

/-- An operation is valid for a size. -/
def opOkB (z : Int) (f : OpD) : Bool := inB 0 3 f.1 && (decide ((f.2.length : Int) = powI z f.1.toNat) && allIn z f.2)
theorem opOkB_arity {z : Int} {f : OpD} (h : inB 0 3 f.1 = false) : opOkB z f = false := by simp [opOkB, h]
theorem opOkB_len {z : Int} {f : OpD} (h : ¬ (f.2.length : Int) = powI z f.1.toNat) : opOkB z f = false := by simp [opOkB, h]
theorem opOkB_rest {z : Int} {f : OpD} (h : inB 0 3 f.1 = true) (h2 : (f.2.length : Int) = powI z f.1.toNat) : opOkB z f = allIn z f.2 := by simp [opOkB, h, h2]

/-- An algebra is valid. -/
def algOkB (z : Int) (fs : List OpD) : Bool := inB 1 8 z && (decide (fs.length ≤ 4) && fs.all (opOkB z))
theorem algOkB_size {z : Int} {fs : List OpD} (h : inB 1 8 z = false) : algOkB z fs = false := by simp [algOkB, h]
theorem algOkB_many {z : Int} {fs : List OpD} (h : 4 < fs.length) : algOkB z fs = false := by
  have : ¬ fs.length ≤ 4 := by omega
  simp [algOkB, this]
theorem algOkB_op {z : Int} {fs : List OpD} {k : Nat} {f : OpD} (hf : fs[k]? = some f) (h : opOkB z f = false) : algOkB z fs = false := by
  have : fs.all (opOkB z) = false := by
    rw [← Bool.not_eq_true, List.all_eq_true]
    intro ha
    have := ha f (List.mem_of_getElem? hf)
    rw [h] at this; cases this
  simp [algOkB, this]
theorem allOk_succ {z : Int} {fs : List OpD} {k : Nat} {f : OpD} (hf : fs[k]? = some f) (h : (fs.take k).all (opOkB z) = true) (h2 : opOkB z f = true) : (fs.take (k + 1)).all (opOkB z) = true := by
  rw [List.take_add_one, hf, List.all_append, h]; simp [h2]
theorem algOkB_yes {z : Int} {fs : List OpD} {k : Nat} (h1 : 1 ≤ z) (h2 : z ≤ 8) (h3 : fs.length ≤ 4) (hk : fs.length ≤ k) (h : (fs.take k).all (opOkB z) = true) : algOkB z fs = true := by
  rw [List.take_of_length_le hk] at h
  simp [algOkB, inB_yes h1 h2, h3, h]
theorem algOkB_of {z : Int} {fs : List OpD} (h : algOkB z fs = true) : (1 ≤ z ∧ z ≤ 8) ∧ fs.length ≤ 4 ∧ ∀ f ∈ fs, opOkB z f = true := by
  simp only [algOkB, inB, Bool.and_eq_true, decide_eq_true_eq, List.all_eq_true] at h
  exact ⟨h.1, h.2.1, h.2.2⟩
theorem opOkB_of {z : Int} {f : OpD} (h : opOkB z f = true) : (0 ≤ f.1 ∧ f.1 ≤ 3) ∧ (f.2.length : Int) = powI z f.1.toNat ∧ allIn z f.2 = true := by
  simp only [opOkB, inB, Bool.and_eq_true, decide_eq_true_eq] at h
  exact ⟨h.1, h.2.1, h.2.2⟩

end Go.Proofs.Ytcmjkfcgekmomaa
