/-
  Contracts: slices.Index and spec.l5Place: the place of an element in a list. Conditions: the bounds that each theorem names.
-/
import Derived.Test.YtcioekhlhgkkiaaPlM
import Derived.Test.YtcioekhlhgkkiaaShelf
namespace Go.Proofs.Ytcioekhlhgkkiaa
open Go.RowKit
set_option linter.unusedVariables false
set_option linter.unusedSimpArgs false

theorem idxBy_ix (x : Int) : ∀ (l : List Int) (i : Nat), Lib.idxByFrom (fun x y : Int => x == y) x l i = if x ∈ l then ((i + ixP l x : Nat) : Int) else -1
  | [], i => by simp [Lib.idxByFrom]
  | y :: r, i => by
    rw [Lib.idxByFrom, ixP]
    by_cases h : x = y
    · simp [h]
    · have h2 : (x == y) = false := by rw [beq_eq_false_iff_ne]; exact h
      have h3 : ¬ y = x := fun e => h e.symm
      rw [h2, idxBy_ix x r (i + 1)]
      by_cases hm : x ∈ r
      · have hm2 : x ∈ y :: r := List.mem_cons_of_mem _ hm
        simp only [Bool.false_eq_true, if_false, if_pos hm, if_pos hm2, if_neg h3]
        omega
      · have hm2 : x ∉ y :: r := by rw [List.mem_cons]; rintro (e | e); exact h e; exact hm e
        simp only [Bool.false_eq_true, if_false, if_neg hm, if_neg hm2]
theorem place_impl (lo hi b o t vc : Nat) (l : List Int) (x : Int) (W : World) (h : IView W lo hi (some ⟨b, o, none⟩) t l) (h0 : 0 < t) (ht : t ≤ 1048576) :
    Calls Try.prog 72 #[.slice (some ⟨b, o, none⟩) t vc, .int .i64 x] W fun e w' => e = .returned (.int .i64 (plI l x)) ∧ w' = W := by
  have hl := h.1
  obtain ⟨b', o', he, _, _, hc⟩ := h.at_ h0
  cases he
  refine (Try.slices_Index (Value.int .i64) (fun x y => x == y) (EqlAt.int Try.prog 3 .i64) b o t vc l x W (by omega) (by omega) (fun j hj => by
    have hj' : j < l.length := hj
    rw [hc j _ (List.getElem?_eq_getElem hj'), getElem!_pos l j hj'])).mono fun e w' ⟨he, hw⟩ => ⟨?_, hw⟩
  rw [he, List.take_of_length_le (by omega), Lib.idxBy, idxBy_ix, plI]
  simp


end Go.Proofs.Ytcioekhlhgkkiaa
