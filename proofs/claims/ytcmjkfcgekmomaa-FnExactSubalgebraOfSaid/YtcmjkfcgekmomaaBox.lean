/-
  Small facts on boxes of two cells and on lists that are written in place. No condition.
-/
import Derived.Test.YtcmjkfcgekmomaaStep
namespace Go.Proofs.Ytcmjkfcgekmomaa
open Go.RowKit
set_option linter.unusedVariables false
set_option linter.unusedSimpArgs false

theorem OwnsInts.none_ (w : World) (lo hi : Nat) : OwnsInts w lo hi none 0 0 [] := ⟨⟨rfl, .inl ⟨rfl, rfl⟩⟩, fun k hk => by cases hk⟩

/-- The first i of new, behind them what was there. -/
def fillL (new old : List Int) (i : Nat) : List Int := new.take i ++ old.drop i

theorem fillL_zero (new old : List Int) : fillL new old 0 = old := by simp [fillL]

theorem fillL_all {new old : List Int} {i : Nat} (h : new.length = i) (hi : old.length = i) : fillL new old i = new := by
  simp [fillL, List.take_of_length_le (by omega : new.length ≤ i), List.drop_of_length_le (by omega : old.length ≤ i)]

theorem fillL_set {new old : List Int} {i n : Nat} {x : Int} (h : new.length = n) (ho : old.length = n) (hi : i < n) (hx : new[i]? = some x) : (fillL new old i).set i x = fillL new old (i + 1) := by
  unfold fillL
  have hl : (new.take i).length = i := by simp; omega
  rw [List.set_append_right _ _ (by omega), hl, Nat.sub_self, List.drop_eq_getElem_cons (by omega), List.set_cons_zero, List.take_add_one, hx]
  simp

theorem boxC {w : World} {B : Nat} {a b : Value} {ty : TypeId} (h : w.heap[B]? = some (.cells #[a, b] ty (0, 0))) : w.cell? ⟨B, 0, none⟩ = some a ∧ w.cell? ⟨B, 1, none⟩ = some b ∧ (∀ j, w.frozen? ⟨B, j, none⟩ = false) :=
  ⟨by rw [cell_of_row w B 0 _ ty (0, 0) h]; rfl, by rw [cell_of_row w B 1 _ ty (0, 0) h]; rfl, fun j => by simp [World.frozen?, h]⟩

theorem keepS {w : World} {a b : Addr} {u v : Value} (h : w.cell? b = some v) (hne : a.block ≠ b.block) : (w.setCell a u).cell? b = some v :=
  (World.cell?_setCell_other _ _ _ _ (fun e => hne (by rw [e]))).trans h

end Go.Proofs.Ytcmjkfcgekmomaa
