/-
  Small facts on rows of the call's own. No condition.
-/
import Derived.Test.YtplheohkecooeaaSubP
namespace Go.Proofs.Ytplheohkecooeaa
open Go.RowKit
set_option linter.unusedVariables false
set_option linter.unusedSimpArgs false

theorem own_lt {w : World} {B g n c : Nat} {xs : List Value} {e : TypeId} {s : Nat} (h : w.ownsRow B e s (.slice (some ⟨g, 0, none⟩) n c) n xs) : B ≤ g ∧ g < w.heap.size := h.lt g rfl

theorem own_apart {g g2 n c : Nat} (h : g ≠ g2) : (Value.slice (some ⟨g, 0, none⟩) n c).ownBlock = none ∨ (Value.slice (some ⟨g, 0, none⟩) n c).ownBlock ≠ some g2 := .inr (by simp [Value.ownBlock]; exact h)

theorem own_at {w : World} {B g n c : Nat} {ys : List Int} (h : w.ownsRow B 3 1 (.slice (some ⟨g, 0, none⟩) n c) n (ys.map (Value.int .i64))) {j : Nat} {y : Int} (hy : ys[j]? = some y) : w.cell? ⟨g, j, none⟩ = some (.int .i64 y) := by
  have hl : ys.length = n := by have := h.1; simpa using this
  have hj : j < ys.length := (List.getElem?_eq_some_iff.1 hy).1
  rw [h.cellAt j (by omega), List.getElem?_map, hy]; rfl

/-- The row that grew lies apart from another one. -/
theorem apart_new {W : World} {g g1 g2 n c n1 c1 : Nat} {o : Obj} (h : g2 < W.heap.size) (h1 : g2 ≠ g1) (hat : (Value.slice (some ⟨g, 0, none⟩) n c).ownBlock = (Value.slice (some ⟨g1, 0, none⟩) n1 c1).ownBlock ∨ (Value.slice (some ⟨g, 0, none⟩) n c).ownBlock = some (W.alloc o).heap.size) : g2 ≠ g := by
  rcases hat with h | h
  · have : g = g1 := by simpa [Value.ownBlock] using h
    omega
  · have : g = W.heap.size + 1 := by simpa [Value.ownBlock] using h
    omega

end Go.Proofs.Ytplheohkecooeaa
