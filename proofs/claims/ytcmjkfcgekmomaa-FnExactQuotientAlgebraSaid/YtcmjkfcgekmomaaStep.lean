/-
  Small steps of the laws' walks: what a call hands on to the next. No condition.
-/
import Derived.Test.YtcmjkfcgekmomaaSz
import Derived.Test.YtcmjkfcgekmomaaTo
import Derived.Test.YtcmjkfcgekmomaaEq
import Derived.Test.YtcmjkfcgekmomaaMarkA
import Derived.Test.YtcmjkfcgekmomaaPlain
import Derived.Deep.RegionWith
namespace Go.Proofs.Ytcmjkfcgekmomaa
open Go.RowKit
set_option linter.unusedVariables false

theorem small_of {n : Nat} {fs : List OpD} {left : Int} (h : ((n + osum fs : Nat) : Int) ≤ left) (hl : left ≤ 1048576) : n ≤ 1048576 ∧ n ≤ maxLen ∧ n * 32 ≤ 281474976710656 ∧ (∀ (j : Nat) (f : OpD), fs[j]? = some f → f.2.length * 8 ≤ 281474976710656) ∧ (∀ (j : Nat) (f : OpD), fs[j]? = some f → f.2.length ≤ maxLen) := by
  refine ⟨by omega, by unfold maxLen; omega, by omega, fun j f hf => ?_, fun j f hf => ?_⟩
  · have := osum_get hf; omega
  · have := osum_get hf; unfold maxLen; omega
theorem cell_b {W w' : World} {p : Addr} {v : Value} (b : Below W.heap.size W w') (h : W.cell? p = some v) : w'.cell? p = some v := (b.cell (World.block_lt_of_cell? W p h)).trans h
theorem cell_o {lo hi : Nat} {W w' : World} {p : Addr} {v : Value} (b : Only lo hi W w') (h : W.cell? p = some v) (hp : p.block < lo ∨ hi ≤ p.block) : w'.cell? p = some v :=
  (World.cell?_of_block (b.block _ (World.block_lt_of_cell? W p h) hp)).trans h
theorem below_alloc (w : World) (o : Obj) : Below w.heap.size w (w.alloc o) := (Below.refl _ _).alloc (Nat.le_refl _) _
theorem below_drew (w : World) : Below w.heap.size w w.drew := (Below.refl _ _).drew
theorem below_then {w w1 w2 : World} (h : Below w.heap.size w w1) (k : Below w1.heap.size w1 w2) : Below w.heap.size w w2 := h.trans (k.mono h.size)
theorem below_only {B lo hi : Nat} {w w1 w2 : World} (h : Below B w w1) (k : Only lo hi w1 w2) (hl : B ≤ lo) (hB : B ≤ w1.heap.size) : Below B w w2 :=
  h.trans ⟨k.os, k.tape, k.output, k.size, fun i hi => k.block i (by omega) (.inl (by omega))⟩
theorem kept_only {lo hi a b : Nat} {w w' : World} (h : Only lo hi w w') (hb : b ≤ w.heap.size) (ho : b ≤ lo ∨ hi ≤ a) : Kept a b w w' := fun k h1 h2 => h.block k (by omega) (by omega)

theorem preLen_fs (fs : List OpD) : preLen (fun j => fs.getD j (0, [])) fs.length = fs.length + osum fs := by
  have h : ∀ k, k ≤ fs.length → preLen (fun j => fs.getD j (0, [])) k = k + osum (fs.take k) := by
    intro k
    induction k with
    | zero => intro _; simp [preLen, osum]
    | succ k ih =>
      intro hk
      have hx : fs[k]? = some (fs[k]'(by omega)) := List.getElem?_eq_getElem (by omega)
      rw [preLen, ih (by omega), osum_succ hx, List.getD_eq_getElem?_getD, hx]
      simp only [Option.getD_some]
      omega
  rw [h _ (Nat.le_refl _), osum_all (Nat.le_refl _)]

/-- An algebra with a bool, as a result in memory of the call's own. -/
def ResA (w w' : World) (z : Int) (fs : List OpD) (ok : Bool) (e : Ending) : Prop :=
  ∃ ao n c G C, e = .returned (.tuple #[.agg #[.int .i64 z, .slice ao n c], .bool ok]) ∧ n = fs.length ∧ OwnsOps w' w.heap.size w'.heap.size (.slice ao n c) n G C (fun j => fs.getD j (0, [])) ∧ Below w.heap.size w w'
/-- A list of integers with a bool. -/
def ResL (w w' : World) (xs : List Int) (ok : Bool) (e : Ending) : Prop :=
  ∃ ao n c, e = .returned (.tuple #[.slice ao n c, .bool ok]) ∧ n = xs.length ∧ OwnsInts w' w.heap.size w'.heap.size ao n c xs ∧ Below w.heap.size w w'

end Go.Proofs.Ytcmjkfcgekmomaa
