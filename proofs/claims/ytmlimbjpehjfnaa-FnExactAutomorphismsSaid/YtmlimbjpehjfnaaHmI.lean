/-
  Contracts: impl.mapOf, impl.homOf. Conditions: the bounds that each theorem names.
-/
import Derived.Test.YtmlimbjpehjfnaaPmI
import Derived.Test.YtmlimbjpehjfnaaFltI
import Derived.Test.YtmlimbjpehjfnaaShelf
namespace Go.Proofs.Ytmlimbjpehjfnaa
open Go.RowKit
set_option linter.unusedVariables false
set_option linter.unusedSimpArgs false

/-- Two algebras in boxes, one behind the other. -/
structure Bx2 (w w1 : World) (z : Int) (ao : Option Addr) (n c : Nat) (z1 : Int) (bo : Option Addr) (m d : Nat) : Prop where
  z0 : w1.cell? ⟨w.heap.size, 0, none⟩ = some (.int .i64 z)
  a0 : w1.cell? ⟨w.heap.size, 1, none⟩ = some (.slice ao n c)
  z1 : w1.cell? ⟨w.heap.size + 1, 0, none⟩ = some (.int .i64 z1)
  a1 : w1.cell? ⟨w.heap.size + 1, 1, none⟩ = some (.slice bo m d)
  bel : Below w.heap.size w w1
theorem Bx2.below {w w1 w2 : World} {z z1 : Int} {ao bo : Option Addr} {n c m d : Nat} (h : Bx2 w w1 z ao n c z1 bo m d) (b : Below w1.heap.size w1 w2) : Bx2 w w2 z ao n c z1 bo m d :=
  ⟨cell_b b h.z0, cell_b b h.a0, cell_b b h.z1, cell_b b h.a1, h.bel.trans (b.mono h.bel.size)⟩
theorem Bx2.far {w w1 w2 : World} {z z1 : Int} {ao bo : Option Addr} {n c m d : Nat} (h : Bx2 w w1 z ao n c z1 bo m d) (b : Below (w.heap.size + 2) w1 w2) : Bx2 w w2 z ao n c z1 bo m d :=
  ⟨(b.cell (p := ⟨_, _, none⟩) (by show w.heap.size < _; omega)).trans h.z0, (b.cell (p := ⟨_, _, none⟩) (by show w.heap.size < _; omega)).trans h.a0, (b.cell (p := ⟨_, _, none⟩) (by show w.heap.size + 1 < _; omega)).trans h.z1, (b.cell (p := ⟨_, _, none⟩) (by show w.heap.size + 1 < _; omega)).trans h.a1, h.bel.trans (b.mono (by omega))⟩
theorem bx2_new (w : World) (z : Int) (ao : Option Addr) (n c : Nat) (z1 : Int) (bo : Option Addr) (m d : Nat) (T : TypeId) : ∃ w1, w1 = ((w.alloc (.cells #[.int .i64 z, .slice ao n c] T)).alloc (.cells #[.int .i64 z1, .slice bo m d] T)) ∧ Bx2 w w1 z ao n c z1 bo m d ∧ w1.heap.size = w.heap.size + 1 + 1 :=
  ⟨_, rfl, ⟨cell_b (below_alloc _ _) (by simp), cell_b (below_alloc _ _) (by simp), by simp, by simp, below_then (below_alloc _ _) (below_alloc _ _)⟩, by simp⟩
/-- The same with a zero array behind. -/
theorem bx3_new (w : World) (z : Int) (ao : Option Addr) (n c : Nat) (z1 : Int) (bo : Option Addr) (m d : Nat) : ∃ w1, w1 = (((w.alloc (.cells #[.int .i64 z, .slice ao n c] 31)).alloc (.cells #[.int .i64 z1, .slice bo m d] 31)).alloc (.cells #[.int .i64 0, .int .i64 0, .int .i64 0, .int .i64 0, .int .i64 0, .int .i64 0, .int .i64 0, .int .i64 0] 51)) ∧ Bx2 w w1 z ao n c z1 bo m d ∧ w1.heap.size = w.heap.size + 1 + 1 + 1 ∧ ArrAt w1 (w.heap.size + 1 + 1) fun _ => 0 := by
  obtain ⟨w0, h0, hb, hs⟩ := bx2_new w z ao n c z1 bo m d 31
  refine ⟨_, rfl, ?_, by simp, ?_⟩
  · rw [← h0]; exact hb.below (below_alloc _ _)
  · have h := ArrAt.new w0 fun _ => 0
    rw [hs, h0] at h
    exact h
/-- A call's array, stored in a block of its own. -/
theorem new_row (w : World) (f : Nat → Int) : ArrAt ((w.alloc (.cells (arrV fun _ => 0) 51)).setRow w.heap.size (arrV f)) w.heap.size f ∧ Below w.heap.size w ((w.alloc (.cells (arrV fun _ => 0) 51)).setRow w.heap.size (arrV f)) :=
  ⟨(ArrAt.new w fun _ => 0).setRow, below_setRow (below_alloc w _) (Nat.le_refl _) _⟩

/-- A list is a map; a homomorphism. -/
def mapB (z z1 : Int) (fs gs : List OpD) (xs : List Int) : Bool := sameH z z1 fs gs && (decide ((xs.length : Int) = z) && allIn z1 xs)
def homB (z z1 : Int) (fs gs : List OpD) (xs : List Int) : Bool := mapB z z1 fs gs xs && (faultV z z1 fs gs (arrL xs)).isNone
theorem allIn_pin (z1 : Int) (xs : List Int) : allIn z1 xs = (pinB z1 xs && !(xs.any fun y => (-1 : Int) == y)) := by
  unfold allIn pinB
  induction xs with
  | nil => rfl
  | cons x r ih =>
    rw [List.all_cons, List.all_cons, List.any_cons, ih]
    by_cases h : x = -1
    · subst h; simp
    · have h1 : ((-1 : Int) == x) = false := by simp; omega
      simp [h, h1, Bool.and_assoc]
theorem mapB_pm (z z1 : Int) (fs gs : List OpD) (xs : List Int) : mapB z z1 fs gs xs = (pmB z z1 fs gs xs && !(xs.any fun y => (-1 : Int) == y)) := by
  unfold mapB pmB
  rw [allIn_pin, Bool.and_assoc, Bool.and_assoc]
theorem mapB_of {z z1 : Int} {fs gs : List OpD} {xs : List Int} (h : mapB z z1 fs gs xs = true) : sameH z z1 fs gs = true ∧ (xs.length : Int) = z ∧ allIn z1 xs = true := by
  simpa [mapB] using h
theorem pmB_of {z z1 : Int} {fs gs : List OpD} {xs : List Int} (h : pmB z z1 fs gs xs = true) : sameH z z1 fs gs = true ∧ (xs.length : Int) = z ∧ pinB z1 xs = true := by
  simpa [pmB] using h
theorem homB_of {z z1 : Int} {fs gs : List OpD} {xs : List Int} (h : homB z z1 fs gs xs = true) : mapB z z1 fs gs xs = true ∧ faultV z z1 fs gs (arrL xs) = none := by
  simp only [homB, Bool.and_eq_true, Option.isNone_iff_eq_none] at h
  exact h
theorem full_of {z z1 : Int} {xs : List Int} (hl : (xs.length : Int) = z) (ha : allIn z1 xs = true) : Full z z1 (arrL xs) := fun k hk => by
  have hx : xs[k]? = some (xs[k]'(by omega)) := List.getElem?_eq_getElem (by omega)
  rw [arrL_get hx]
  exact allIn_get ha hx


section
variable (lo hi lo2 hi2 lo3 hi3 : Nat) (z z1 : Int) (ao bo co : Option Addr) (c n d m e l : Nat) (fs gs : List OpD) (xs : List Int) (w : World)


end

end Go.Proofs.Ytmlimbjpehjfnaa
