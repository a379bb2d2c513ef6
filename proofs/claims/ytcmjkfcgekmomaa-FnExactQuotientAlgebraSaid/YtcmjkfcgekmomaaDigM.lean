/-
  Plain mathematics: the list of arguments that stands at a place of a table. No condition.
-/
import Derived.Test.YtcmjkfcgekmomaaIdxM
import Derived.Test.YtcmjkfcgekmomaaAlg
namespace Go.Proofs.Ytcmjkfcgekmomaa
open Go.RowKit
set_option linter.unusedVariables false
set_option linter.unusedSimpArgs false

def digs (z : Int) : Nat → Int → List Int
  | 0, _ => []
  | m + 1, at_ => digs z m (at_ / z) ++ [at_ % z]
theorem digs_len (z : Int) (m : Nat) (at_ : Int) : (digs z m at_).length = m := by
  induction m generalizing at_ with
  | zero => rfl
  | succ m ih => simp [digs, ih]
theorem digs_in {z : Int} (hz : 1 ≤ z) (m : Nat) (at_ : Int) : allIn z (digs z m at_) = true := by
  induction m generalizing at_ with
  | zero => rfl
  | succ m ih =>
    have h := ih (at_ / z)
    simp only [allIn, digs, List.all_append, Bool.and_eq_true] at h ⊢
    refine ⟨h, ?_⟩
    simp [Int.emod_nonneg _ (show z ≠ 0 by omega), Int.emod_lt_of_pos at_ (show 0 < z by omega)]
theorem idx_digs {z : Int} (hz : 1 ≤ z) (m : Nat) (at_ : Int) (h0 : 0 ≤ at_) (h1 : at_ < powI z m) : idxA z (digs z m at_) = at_ := by
  induction m generalizing at_ with
  | zero => simp [powI] at h1; simp [digs, idxA_nil]; omega
  | succ m ih =>
    have hd : at_ / z < powI z m := Int.ediv_lt_of_lt_mul (by omega) (by simpa [powI] using h1)
    rw [digs, idxA_snoc, ih (at_ / z) (Int.ediv_nonneg h0 (by omega)) hd, Int.mul_comm]
    exact Int.mul_ediv_add_emod at_ z
theorem digs_bd {z at_ : Int} (hz : 1 ≤ z) (h0 : 0 ≤ at_) : 0 ≤ at_ / z ∧ at_ / z ≤ at_ := ⟨Int.ediv_nonneg h0 (by omega), Int.ediv_le_self _ h0⟩
def digsArr (z : Int) (m : Nat) (at_ : Int) : Array Value := ((digs z m at_).map (Value.int .i64)).toArray
theorem digs_view {W : World} {g m : Nat} {z at_ : Int} {ty : TypeId} (hg : W.heap[g]? = some (.cells (digsArr z m at_) ty (0, 0))) : IView W g W.heap.size (some ⟨g, 0, none⟩) m (digs z m at_) := by
  refine ⟨digs_len z m at_, .inr ⟨g, 0, rfl, Nat.le_refl _, (Array.getElem?_eq_some_iff.1 hg).1, fun j x hx => ?_⟩⟩
  rw [cell_of_row W g (0 + j) _ ty (0, 0) hg, Nat.zero_add]
  simp [digsArr, hx]

end Go.Proofs.Ytcmjkfcgekmomaa
