/-
  Plain mathematics on lists of strings, and what it means that a slice reads as such a list. No condition.
-/
import Derived.Test.YtoljoifldlpinaaDoorProg
import Derived.Test.YtoljoifldlpinaaDoorStrPlain
import Derived.WalkKit
import Derived.Lib.Hide
import Derived.Lib.Join
import Derived.Deep.QuietTactic
import Derived.BigQuiet
import Derived.WalkSmall
import Derived.WalkLawsBesides
namespace Go.Proofs.YtoljoifldlpinaaDoor
open Go.RowKit

def blens (xs : List ByteArray) : Nat := (xs.map (·.size)).sum
theorem blens_succ {xs : List ByteArray} {k : Nat} {x : ByteArray} (h : xs[k]? = some x) : blens (xs.take (k + 1)) = blens (xs.take k) + x.size := by
  rw [List.take_add_one, h]; simp [blens]
theorem blens_take_le (xs : List ByteArray) (k : Nat) : blens (xs.take k) ≤ blens xs := by
  induction xs generalizing k with
  | nil => simp [blens]
  | cons y r ih =>
    cases k with
    | zero => simp [blens]
    | succ k =>
      have := ih k
      simp only [blens, List.take_succ_cons, List.map_cons, List.sum_cons] at this ⊢
      omega
theorem blens_all {xs : List ByteArray} {k : Nat} (h : xs.length ≤ k) : blens (xs.take k) = blens xs := by rw [List.take_of_length_le h]
theorem get_of_lt {xs : List ByteArray} {k n : Nat} (hn : xs.length = n) (h : k < n) : ∃ x, xs[k]? = some x := ⟨xs[k]'(by omega), List.getElem?_eq_getElem (by omega)⟩

/-- The slice '.slice ao n c' reads as the strings xs. -/
def View (w : World) (ao : Option Addr) (n : Nat) (xs : List ByteArray) : Prop :=
  xs.length = n ∧ (n = 0 ∨ ∃ b o, ao = some ⟨b, o, none⟩ ∧ b < w.heap.size ∧ ∀ j x, xs[j]? = some x → w.cell? ⟨b, o + j, none⟩ = some (.string x))

theorem View.below {w w' : World} {ao : Option Addr} {n : Nat} {xs : List ByteArray} (h : View w ao n xs) (hb : Below w.heap.size w w') : View w' ao n xs := by
  rcases h with ⟨h1, h2 | ⟨b, o, rfl, hlt, hc⟩⟩
  · exact ⟨h1, .inl h2⟩
  · exact ⟨h1, .inr ⟨b, o, rfl, by have := hb.size; omega, fun j x hx => (hb.cell (p := ⟨b, o + j, none⟩) hlt).trans (hc j x hx)⟩⟩

theorem View.of_owns {w : World} {B e g n cap : Nat} {xs : List ByteArray} (h : w.ownsRow B e 1 (.slice (some ⟨g, 0, none⟩) n cap) n (xs.map Value.string)) : View w (some ⟨g, 0, none⟩) n xs := by
  have hl : xs.length = n := by have := h.1; simpa using this
  refine ⟨hl, .inr ⟨g, 0, rfl, (h.lt g rfl).2, fun j x hx => ?_⟩⟩
  have hj : j < xs.length := (List.getElem?_eq_some_iff.1 hx).1
  rw [Nat.zero_add, h.cellAt j (by omega), List.getElem?_map, hx]; rfl

theorem below_drawn {B : Nat} {w w1 w2 : World} (h : Below B w w1) (hd : ∃ q, w2 = w1.drewN q) : Below B w w2 := by
  obtain ⟨q, rfl⟩ := hd
  exact below_drewN h q

end Go.Proofs.YtoljoifldlpinaaDoor
