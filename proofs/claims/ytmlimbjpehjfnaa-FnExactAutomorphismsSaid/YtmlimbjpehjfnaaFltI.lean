/-
  Contract: impl.firstFault of partialMap. Conditions: the bounds that it names.
-/
import Derived.Test.YtmlimbjpehjfnaaPlcI
import Derived.Test.YtmlimbjpehjfnaaSame
namespace Go.Proofs.Ytmlimbjpehjfnaa
open Go.RowKit
set_option linter.unusedVariables false
set_option linter.unusedSimpArgs false

def fltK (o : Option (Nat × Nat)) : Nat := (o.getD (0, 0)).1
def fltX (o : Option (Nat × Nat)) : Nat := (o.getD (0, 0)).2
def fltV (o : Option (Nat × Nat)) : Value := .tuple #[.int .i64 (fltK o : Int), .int .i64 (fltX o : Int), .bool o.isSome]
theorem same_op {fs gs : List OpD} (ht : typeV fs = typeV gs) {k : Nat} {F : OpD} (hF : fs[k]? = some F) : ∃ G, gs[k]? = some G ∧ G.1 = F.1 := by
  have h1 : (typeV fs)[k]? = some F.1 := by unfold typeV; rw [List.getElem?_map, hF]; rfl
  rw [ht] at h1
  unfold typeV at h1
  rw [List.getElem?_map] at h1
  obtain ⟨G, h2, h3⟩ := Option.map_eq_some_iff.1 h1
  exact ⟨G, h2, h3⟩


end Go.Proofs.Ytmlimbjpehjfnaa
