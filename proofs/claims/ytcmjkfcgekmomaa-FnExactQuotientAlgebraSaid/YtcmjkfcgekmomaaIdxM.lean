/-
  Plain mathematics: the place of a list of arguments in a table. No condition.
-/
import Derived.Test.YtcmjkfcgekmomaaPlain
namespace Go.Proofs.Ytcmjkfcgekmomaa
open Go.RowKit
set_option linter.unusedVariables false
set_option linter.unusedSimpArgs false

def idxA (z : Int) (xs : List Int) : Int := xs.foldl (fun at_ x => at_ * z + x) 0
theorem idxA_nil (z : Int) : idxA z [] = 0 := rfl
theorem idxA_snoc (z : Int) (xs : List Int) (x : Int) : idxA z (xs ++ [x]) = idxA z xs * z + x := by simp [idxA, List.foldl_append]
theorem idxA_succ {z : Int} {xs : List Int} {k : Nat} {x : Int} (hx : xs[k]? = some x) : idxA z (xs.take (k + 1)) = idxA z (xs.take k) * z + x := by
  rw [List.take_add_one, hx, Option.toList_some, idxA_snoc]
theorem mul_step {i p z x : Int} (h0 : 0 ≤ i) (h1 : i < p) (hz : 1 ≤ z) (hx0 : 0 ≤ x) (hx1 : x < z) : 0 ≤ i * z ∧ 0 ≤ i * z + x ∧ i * z + x < p * z := by
  have h2 : 0 ≤ i * z := Int.mul_nonneg h0 (by omega)
  have h3 : i * z ≤ (p - 1) * z := Int.mul_le_mul_of_nonneg_right (by omega) (by omega)
  rw [Int.sub_mul, Int.one_mul] at h3
  omega
theorem idxA_bd {z : Int} {xs : List Int} (h1 : 1 ≤ z) (ha : allIn z xs = true) : ∀ k, k ≤ xs.length → 0 ≤ idxA z (xs.take k) ∧ idxA z (xs.take k) < powI z k := by
  intro k
  induction k with
  | zero => intro _; simp [idxA_nil, powI]
  | succ k ih =>
    intro hk
    obtain ⟨a, b⟩ := ih (by omega)
    have hx : xs[k]? = some (xs[k]'(by omega)) := List.getElem?_eq_getElem (by omega)
    obtain ⟨c, d⟩ := allIn_get ha hx
    rw [idxA_succ hx, powI]
    exact (mul_step a b h1 c d).2
/-- One step of the place, with the bounds that the walk wants. -/
theorem idx_step {z : Int} {xs : List Int} {k : Nat} {x : Int} (h1 : 1 ≤ z) (h2 : z ≤ 8) (ha : allIn z xs = true) (hl : xs.length ≤ 3) (hx : xs[k]? = some x) :
    0 ≤ x ∧ x < z ∧ 0 ≤ idxA z (xs.take k) * z ∧ idxA z (xs.take k) * z ≤ 4096 ∧ 0 ≤ idxA z (xs.take k) ∧ idxA z (xs.take k) ≤ 512 := by
  have hk : k < xs.length := (List.getElem?_eq_some_iff.1 hx).1
  obtain ⟨a, b⟩ := idxA_bd h1 ha k (by omega)
  obtain ⟨c, d⟩ := allIn_get ha hx
  obtain ⟨p1, p2⟩ := powI_bd h1 h2 (k := k) (by omega)
  have h3 : idxA z (xs.take k) * z ≤ idxA z (xs.take k) * 8 := Int.mul_le_mul_of_nonneg_left h2 a
  exact ⟨c, d, Int.mul_nonneg a (by omega), by omega, a, by omega⟩
theorem idx_all {z : Int} {xs : List Int} {k : Nat} (hk : xs.length ≤ k) : idxA z (xs.take k) = idxA z xs := by rw [List.take_of_length_le hk]

/-- What stands in a table for a list of arguments. -/
def atA (z : Int) (f : OpD) (xs : List Int) : Int := f.2.getD (idxA z xs).toNat 0
theorem at_get {z : Int} {f : OpD} {xs : List Int} (h1 : 1 ≤ z) (hok : opOkB z f = true) (hl : (xs.length : Int) = f.1) (ha : allIn z xs = true) :
    0 ≤ idxA z xs ∧ idxA z xs < f.2.length ∧ f.2[(idxA z xs).toNat]? = some (atA z f xs) := by
  obtain ⟨⟨a0, a1⟩, hlen, _⟩ := opOkB_of hok
  obtain ⟨b0, b1⟩ := idxA_bd h1 ha xs.length (Nat.le_refl _)
  rw [List.take_length] at b0 b1
  have hr : f.1.toNat = xs.length := by omega
  rw [hr] at hlen
  have hi : (idxA z xs).toNat < f.2.length := by omega
  refine ⟨b0, by omega, ?_⟩
  unfold atA
  rw [List.getD_eq_getElem?_getD, List.getElem?_eq_getElem hi]
  rfl

/-- What the places of an operation tell. -/
theorem place_bd {z : Int} {f : OpD} (h1 : 1 ≤ z) (h2 : z ≤ 8) (hok : opOkB z f = true) : f.2.length ≤ 512 ∧ f.1 = (f.1.toNat : Int) ∧ f.1.toNat ≤ 3 := by
  obtain ⟨⟨a0, a1⟩, hl, _⟩ := opOkB_of hok
  have := powI_bd h1 h2 (k := f.1.toNat) (by omega)
  omega

end Go.Proofs.Ytcmjkfcgekmomaa
