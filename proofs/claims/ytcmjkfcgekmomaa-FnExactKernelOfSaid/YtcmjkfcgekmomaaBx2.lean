/-
  Two algebras in boxes; when they are valid and of the same type. No condition.
-/
import Derived.Test.YtcmjkfcgekmomaaSame
namespace Go.Proofs.Ytcmjkfcgekmomaa
open Go.RowKit
set_option linter.unusedVariables false
set_option linter.unusedSimpArgs false

/-- Two algebras in boxes, one behind the other. -/
structure Bx2 (w w1 : World) (z : Int) (ao : Option Addr) (n c : Nat) (z1 : Int) (bo : Option Addr) (m d : Nat) : Prop where
  z0 : w1.cell? ⟨w.heap.size, 0, none⟩ = some (.int .i64 z)
  a0 : w1.cell? ⟨w.heap.size, 1, none⟩ = some (.slice ao n c)
  z1 : w1.cell? ⟨w.heap.size + 1, 0, none⟩ = some (.int .i64 z1)
  a1 : w1.cell? ⟨w.heap.size + 1, 1, none⟩ = some (.slice bo m d)
  bel : Below w.heap.size w w1
theorem Bx2.below {w w1 w2 : World} {z z1 : Int} {ao bo : Option Addr} {n c m d : Nat} (h : Bx2 w w1 z ao n c z1 bo m d) (b : Below w1.heap.size w1 w2) : Bx2 w w2 z ao n c z1 bo m d :=
  ⟨cell_b b h.z0, cell_b b h.a0, cell_b b h.z1, cell_b b h.a1, h.bel.trans (b.mono h.bel.size)⟩
theorem Bx2.far {w w1 w2 : World} {z z1 : Int} {ao bo : Option Addr} {n c m d : Nat} (h : Bx2 w w1 z ao n c z1 bo m d) (b : Below (w.heap.size + 2) w1 w2) : Bx2 w w2 z ao n c z1 bo m d :=
  ⟨(b.cell (p := ⟨_, _, none⟩) (by show w.heap.size < _; omega)).trans h.z0, (b.cell (p := ⟨_, _, none⟩) (by show w.heap.size < _; omega)).trans h.a0, (b.cell (p := ⟨_, _, none⟩) (by show w.heap.size + 1 < _; omega)).trans h.z1, (b.cell (p := ⟨_, _, none⟩) (by show w.heap.size + 1 < _; omega)).trans h.a1, h.bel.trans (b.mono (by omega))⟩
theorem bx2_new (w : World) (z : Int) (ao : Option Addr) (n c : Nat) (z1 : Int) (bo : Option Addr) (m d : Nat) (T : TypeId) : ∃ w1, w1 = ((w.alloc (.cells #[.int .i64 z, .slice ao n c] T)).alloc (.cells #[.int .i64 z1, .slice bo m d] T)) ∧ Bx2 w w1 z ao n c z1 bo m d ∧ w1.heap.size = w.heap.size + 1 + 1 :=
  ⟨_, rfl, ⟨cell_b (below_alloc _ _) (by simp), cell_b (below_alloc _ _) (by simp), by simp, by simp, below_then (below_alloc _ _) (below_alloc _ _)⟩, by simp⟩
/-- Two valid algebras of the same type. -/
def sameH (z z1 : Int) (fs gs : List OpD) : Bool := (valSameType z fs z1 gs).1
theorem sameH_of {z z1 : Int} {fs gs : List OpD} (h : sameH z z1 fs gs = true) : algOkB z fs = true ∧ algOkB z1 gs = true ∧ typeV fs = typeV gs := by
  unfold sameH valSameType at h
  split at h
  · rename_i h1
    simp only [Bool.and_eq_true] at h1
    exact ⟨h1.1, h1.2, of_decide_eq_true h⟩
  · cases h
end Go.Proofs.Ytcmjkfcgekmomaa
