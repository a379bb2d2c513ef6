/-
  TermOp: what it tells, and contracts for eqOp, markOp, heldOp. Conditions: the bounds that each theorem names.
-/
import Derived.Test.YtplheohkecooeaaEvalT
import Derived.Test.YtplheohkecooeaaDigs
import Derived.Test.YtplheohkecooeaaMarkA
import Derived.Test.YtplheohkecooeaaEq
import Derived.Test.YtplheohkecooeaaBox
namespace Go.Proofs.Ytplheohkecooeaa
open Go.RowKit
set_option linter.unusedVariables false
set_option linter.unusedSimpArgs false

/-- The table of a term's operation. -/
def opT (z : Int) (fs : List OpD) (xs : List Int) (k n : Nat) : List Int := (List.range n).map fun (j : Nat) => evT z fs (digs z k (j : Int)) xs
theorem opT_len (z : Int) (fs : List OpD) (xs : List Int) (k n : Nat) : (opT z fs xs k n).length = n := by simp [opT]
theorem opT_get {z : Int} {fs : List OpD} {xs : List Int} {k n j : Nat} (h : j < n) : (opT z fs xs k n)[j]? = some (evT z fs (digs z k (j : Int)) xs) := by simp [opT, h]
theorem opT_succ (z : Int) (fs : List OpD) (xs : List Int) (k n : Nat) : opT z fs xs k (n + 1) = opT z fs xs k n ++ [evT z fs (digs z k (n : Int)) xs] := by simp [opT, List.range_succ]
def opB (z : Int) (fs : List OpD) (xs : List Int) (k : Int) : Bool := isTermB z fs xs && (decide (0 ≤ k ∧ k ≤ 3) && fitsB xs k)
def valTermOp (z : Int) (fs : List OpD) (xs : List Int) (k : Int) : OpD × Bool := if opB z fs xs k then ((k, opT z fs xs k.toNat (powI z k.toNat).toNat), true) else ((0, []), false)
theorem val_op_no {z : Int} {fs : List OpD} {xs : List Int} {k : Int} (h : opB z fs xs k = false) : valTermOp z fs xs k = ((0, []), false) := by simp [valTermOp, h]
theorem val_op_yes {z : Int} {fs : List OpD} {xs : List Int} {k n : Nat} (h : opB z fs xs (k : Int) = true) (hn : powI z k = (n : Int)) : valTermOp z fs xs (k : Int) = (((k : Int), opT z fs xs k n), true) := by simp [valTermOp, h, hn]
theorem smallTermOp (z : Int) (fs : List OpD) (xs : List Int) (k : Int) : (valTermOp z fs xs k).1.2.length ≤ 4194304 := by
  unfold valTermOp
  split
  · rename_i h
    unfold opB at h
    simp only [Bool.and_eq_true, decide_eq_true_eq] at h
    have h1 := (algOkB_of (isTermB_of h.1).1).1
    have h2 := powI_bd h1.1 h1.2 (k := k.toNat) (by omega)
    rw [opT_len]
    omega
  · simp

/-- An operation with a bool. -/
def ResO (w w' : World) (f : OpD) (ok : Bool) (e : Ending) : Prop :=
  ∃ ao n c, e = .returned (.tuple #[.agg #[.int .i64 f.1, .slice ao n c], .bool ok]) ∧ n = f.2.length ∧ OwnsInts w' w.heap.size w'.heap.size ao n c f.2 ∧ Below w.heap.size w w'
theorem markOp_own (lo hi n c : Nat) (r k : Int) (ao : Option Addr) (xs : List Int) (w : World) (hk0 : 0 ≤ k) (hk : k + (n : Int) ≤ 4611686018427387904) (h : OwnsInts w lo hi ao n c xs) (hhi : hi ≤ w.heap.size) :
    Calls Try.prog 42 #[.agg #[.int .i64 r, .slice ao n c], .int .i64 k] w fun e w' => e = .returned (.int .i64 (k + (n : Int))) ∧ OwnsInts w' lo hi ao n c (upFrom k n) ∧ Only lo hi w w' := by
  have hB := below_alloc w (.cells #[.int .i64 r, .slice ao n c] 54)
  have HC := Lib.hid (markInts_own lo hi n c k ao xs _ hk0 hk (h.kept (Kept.of_below hB hhi)))
  have HB := Lib.hid (Only.of_below (lo := lo) (hi := hi) hB)
  clear h hB
  go_enter Try.func42, Try.ntmps42
  go_wp2_with fail
  refine HC.out.mono ?_
  rintro e w1 ⟨rfl, o1, b1⟩
  have HO := Lib.hid o1
  have HB1 := Lib.hid (HB.out.trans b1)
  clear o1 b1
  go_wp2_with fail
  go_ret
  exact ⟨rfl, HO.out, HB1.out⟩

theorem heldOp_view (lo hi : Nat) (ao : Option Addr) (c n : Nat) (r k : Int) (w : World) (hk0 : 0 ≤ k) (hk : k + (n : Int) ≤ 4611686018427387904) (h : IView w lo hi ao n (upFrom k n)) (hhi : hi ≤ w.heap.size) :
    Calls Try.prog 43 #[.agg #[.int .i64 r, .slice ao n c], .int .i64 k] w fun e w' => e = .returned (.int .i64 (k + (n : Int))) ∧ Below w.heap.size w w' := by
  have hB := below_alloc w (.cells #[.int .i64 r, .slice ao n c] 54)
  have HC := Lib.hid (heldInts_view lo hi ao c n k _ hk0 hk (h.kept (Kept.of_below hB hhi)))
  have HB := Lib.hid hB
  have hlt : ¬ (k + (n : Int)) < 0 := by omega
  clear h hB
  go_enter Try.func43, Try.ntmps43
  go_wp2_with fail
  refine HC.out.mono ?_
  rintro e w1 ⟨rfl, rfl⟩
  go_wp2_with fail
  go_ret
  exact ⟨rfl, HB.out⟩

end Go.Proofs.Ytplheohkecooeaa
