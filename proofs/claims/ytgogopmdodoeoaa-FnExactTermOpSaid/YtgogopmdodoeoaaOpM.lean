/-
  TermOp: what it tells, and contracts for eqOp, markOp, heldOp. Conditions: the bounds that each theorem names.
-/
import Derived.Test.YtgogopmdodoeoaaEvalT
import Derived.Test.YtgogopmdodoeoaaDigs
import Derived.Test.YtgogopmdodoeoaaMarkA
import Derived.Test.YtgogopmdodoeoaaEq
namespace Go.Proofs.Ytgogopmdodoeoaa
open Go.RowKit
set_option linter.unusedVariables false
set_option linter.unusedSimpArgs false

/-- The table of a term's operation. -/
def opT (z : Int) (fs : List OpD) (xs : List Int) (k n : Nat) : List Int := (List.range n).map fun (j : Nat) => evT z fs (digs z k (j : Int)) xs
theorem opT_len (z : Int) (fs : List OpD) (xs : List Int) (k n : Nat) : (opT z fs xs k n).length = n := by simp [opT]
theorem opT_get {z : Int} {fs : List OpD} {xs : List Int} {k n j : Nat} (h : j < n) : (opT z fs xs k n)[j]? = some (evT z fs (digs z k (j : Int)) xs) := by simp [opT, h]
theorem opT_succ (z : Int) (fs : List OpD) (xs : List Int) (k n : Nat) : opT z fs xs k (n + 1) = opT z fs xs k n ++ [evT z fs (digs z k (n : Int)) xs] := by simp [opT, List.range_succ]
def opB (z : Int) (fs : List OpD) (xs : List Int) (k : Int) : Bool := isTermB z fs xs && (decide (0 ≤ k ∧ k ≤ 3) && fitsB xs k)
def valTermOp (z : Int) (fs : List OpD) (xs : List Int) (k : Int) : OpD × Bool := if opB z fs xs k then ((k, opT z fs xs k.toNat (powI z k.toNat).toNat), true) else ((0, []), false)
theorem val_op_no {z : Int} {fs : List OpD} {xs : List Int} {k : Int} (h : opB z fs xs k = false) : valTermOp z fs xs k = ((0, []), false) := by simp [valTermOp, h]
theorem val_op_yes {z : Int} {fs : List OpD} {xs : List Int} {k n : Nat} (h : opB z fs xs (k : Int) = true) (hn : powI z k = (n : Int)) : valTermOp z fs xs (k : Int) = (((k : Int), opT z fs xs k n), true) := by simp [valTermOp, h, hn]
theorem smallTermOp (z : Int) (fs : List OpD) (xs : List Int) (k : Int) : (valTermOp z fs xs k).1.2.length ≤ 4194304 := by
  unfold valTermOp
  split
  · rename_i h
    unfold opB at h
    simp only [Bool.and_eq_true, decide_eq_true_eq] at h
    have h1 := (algOkB_of (isTermB_of h.1).1).1
    have h2 := powI_bd h1.1 h1.2 (k := k.toNat) (by omega)
    rw [opT_len]
    omega
  · simp

/-- An operation with a bool. -/
def ResO (w w' : World) (f : OpD) (ok : Bool) (e : Ending) : Prop :=
  ∃ ao n c, e = .returned (.tuple #[.agg #[.int .i64 f.1, .slice ao n c], .bool ok]) ∧ n = f.2.length ∧ OwnsInts w' w.heap.size w'.heap.size ao n c f.2 ∧ Below w.heap.size w w'
theorem OwnsInts.none_ (w : World) (lo hi : Nat) : OwnsInts w lo hi none 0 0 [] := ⟨⟨rfl, .inl ⟨rfl, rfl⟩⟩, fun k hk => by cases hk⟩

/-- The first i of new, behind them what was there. -/
def fillL (new old : List Int) (i : Nat) : List Int := new.take i ++ old.drop i
theorem fillL_zero (new old : List Int) : fillL new old 0 = old := by simp [fillL]
theorem fillL_all {new old : List Int} {i : Nat} (h : new.length = i) (hi : old.length = i) : fillL new old i = new := by
  simp [fillL, List.take_of_length_le (by omega : new.length ≤ i), List.drop_of_length_le (by omega : old.length ≤ i)]
theorem fillL_set {new old : List Int} {i n : Nat} {x : Int} (h : new.length = n) (ho : old.length = n) (hi : i < n) (hx : new[i]? = some x) : (fillL new old i).set i x = fillL new old (i + 1) := by
  unfold fillL
  have hl : (new.take i).length = i := by simp; omega
  rw [List.set_append_right _ _ (by omega), hl, Nat.sub_self, List.drop_eq_getElem_cons (by omega), List.set_cons_zero, List.take_add_one, hx]
  simp
theorem boxC {w : World} {B : Nat} {a b : Value} {ty : TypeId} (h : w.heap[B]? = some (.cells #[a, b] ty (0, 0))) : w.cell? ⟨B, 0, none⟩ = some a ∧ w.cell? ⟨B, 1, none⟩ = some b ∧ (∀ j, w.frozen? ⟨B, j, none⟩ = false) :=
  ⟨by rw [cell_of_row w B 0 _ ty (0, 0) h]; rfl, by rw [cell_of_row w B 1 _ ty (0, 0) h]; rfl, fun j => by simp [World.frozen?, h]⟩
theorem keepS {w : World} {a b : Addr} {u v : Value} (h : w.cell? b = some v) (hne : a.block ≠ b.block) : (w.setCell a u).cell? b = some v :=
  (World.cell?_setCell_other _ _ _ _ (fun e => hne (by rw [e]))).trans h

theorem markOp_own (lo hi n c : Nat) (r k : Int) (ao : Option Addr) (xs : List Int) (w : World) (hk0 : 0 ≤ k) (hk : k + (n : Int) ≤ 4611686018427387904) (h : OwnsInts w lo hi ao n c xs) (hhi : hi ≤ w.heap.size) :
    Calls Try.prog 42 #[.agg #[.int .i64 r, .slice ao n c], .int .i64 k] w fun e w' => e = .returned (.int .i64 (k + (n : Int))) ∧ OwnsInts w' lo hi ao n c (upFrom k n) ∧ Only lo hi w w' := by
  have hB := below_alloc w (.cells #[.int .i64 r, .slice ao n c] 54)
  have HC := Lib.hid (markInts_own lo hi n c k ao xs _ hk0 hk (h.kept (Kept.of_below hB hhi)))
  have HB := Lib.hid (Only.of_below (lo := lo) (hi := hi) hB)
  clear h hB
  go_enter Try.func42, Try.ntmps42
  go_wp2_with fail
  refine HC.out.mono ?_
  rintro e w1 ⟨rfl, o1, b1⟩
  have HO := Lib.hid o1
  have HB1 := Lib.hid (HB.out.trans b1)
  clear o1 b1
  go_wp2_with fail
  go_ret
  exact ⟨rfl, HO.out, HB1.out⟩

theorem heldOp_view (lo hi : Nat) (ao : Option Addr) (c n : Nat) (r k : Int) (w : World) (hk0 : 0 ≤ k) (hk : k + (n : Int) ≤ 4611686018427387904) (h : IView w lo hi ao n (upFrom k n)) (hhi : hi ≤ w.heap.size) :
    Calls Try.prog 43 #[.agg #[.int .i64 r, .slice ao n c], .int .i64 k] w fun e w' => e = .returned (.int .i64 (k + (n : Int))) ∧ Below w.heap.size w w' := by
  have hB := below_alloc w (.cells #[.int .i64 r, .slice ao n c] 54)
  have HC := Lib.hid (heldInts_view lo hi ao c n k _ hk0 hk (h.kept (Kept.of_below hB hhi)))
  have HB := Lib.hid hB
  have hlt : ¬ (k + (n : Int)) < 0 := by omega
  clear h hB
  go_enter Try.func43, Try.ntmps43
  go_wp2_with fail
  refine HC.out.mono ?_
  rintro e w1 ⟨rfl, rfl⟩
  go_wp2_with fail
  go_ret
  exact ⟨rfl, HB.out⟩

end Go.Proofs.Ytgogopmdodoeoaa
