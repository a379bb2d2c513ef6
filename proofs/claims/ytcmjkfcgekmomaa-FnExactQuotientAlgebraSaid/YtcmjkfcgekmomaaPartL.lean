/-
  Contracts: the method list of impl.partition, impl.twoPartitions. Conditions: the bounds that each theorem names.
-/
import Derived.Test.YtcmjkfcgekmomaaPartJ
import Derived.Test.YtcmjkfcgekmomaaPartK
import Derived.Test.YtcmjkfcgekmomaaClone
import Derived.Deep.DrawnRows
import Derived.BigFrame
namespace Go.Proofs.Ytcmjkfcgekmomaa
open Go.RowKit
set_option linter.unusedVariables false
set_option linter.unusedSimpArgs false
attribute [local go_sem ↓] Go.wp_at_zero Go.wp_at_succ

theorem arr_view {w : World} {g n : Nat} {f : Nat → Int} (h : ArrAt w g f) (hn : n ≤ 8) : IView w g (g + 1) (some ⟨g, 0, none⟩) n (lstP n f) :=
  ⟨lstP_len n f, .inr ⟨g, 0, rfl, Nat.le_refl _, by omega, fun j x hx => by
    have hj : j < n := by have := (List.getElem?_eq_some_iff.1 hx).1; rw [lstP_len] at this; exact this
    rw [lstP_get f hj] at hx
    rw [Nat.zero_add, h.cell (by omega)]
    simpa using hx⟩⟩

set_option maxHeartbeats 1000000 in
theorem listP_any (f : Nat → Int) (n : Nat) (w : World) (h1 : 1 ≤ n) (h8 : n ≤ 8) :
    Calls Try.prog 86 #[.agg (arrV f), .int .i64 (n : Int)] w fun e w' => NewInts w w' n (lstP n f) e := by
  have HA := Lib.hid (ArrAt.new w f)
  have hC := fun (c : Nat) => clone_ints w.heap.size (w.heap.size + 1) (some ⟨w.heap.size, 0, none⟩) n c (lstP n f) (w.alloc (.cells (arrV f) 70)) (arr_view HA.out h8) (by omega) (by omega)
  have HC := Lib.hid hC
  have hn8 : (n : Int) ≤ 8 := by omega
  have hB := Lib.hid (below_alloc w (.cells (arrV f) 70))
  clear hC
  unfold NewInts
  go_enter Try.func86, Try.ntmps86
  go_wp2_with fail
  refine (HC.out _).mono ?_
  rintro e w2 ⟨g, d, rfl, ho, b2⟩
  have HO := Lib.hid (ownsRow_base ho (b' := w.heap.size) (by show w.heap.size ≤ (w.alloc _).heap.size; simp))
  have HB := Lib.hid (below_then hB.out b2)
  clear ho b2
  go_wp2_with fail
  go_ret
  exact ⟨g, d, rfl, HO.out, HB.out⟩

theorem ld8w {ops : Array Oper} {rest : List Oper} {o : Oper} {a : Act} {w : World} {Q : Exit → Act → World → Prop} {g : Nat} {f : Nat → Int} (h : ArrAt w g f) (hgd : Region.wanted o (yielded ops a.tmps) = true) (x : Operand) (ho : o.op = .load 70 x)
    (hx : a.eval x = .pointer (some ⟨g, 0, none⟩)) (k : wpList Try.prog ops Q rest (a.put o.dst (.agg (arrV f))) w) : wpList Try.prog ops Q (o :: rest) a w :=
  BigFrame.wpList_want hgd fun _ hK => wp_load_row 70 x ho g hx 70 (arrV f) (0, 0) _ h Try.underlying70 rfl info8 (hK _ _ k)
theorem ld8Y {ops : Array Oper} {S : World → Prop} {op : Oper} {a : Act} {g : Nat} {f : Nat → Int} (hw : Region.wanted op (yielded ops a.tmps) = true) (x : Operand) (ho : op.op = .load 70 x)
    (hx : a.eval x = .pointer (some ⟨g, 0, none⟩)) (hS : ∀ w, S w → ArrAt w g f) : YieldsIf Try.prog ops S op (.agg (arrV f)) a :=
  .inl ⟨hw, fun w hw' => by
    unfold execOp
    simp only [ho, hx, Instr.loadAt, Instr.sureAddr, Sem.run_bind, Sem.run_pure, Result.andThen_ok, (hS w hw').loadV]⟩
theorem step_st8 {ops : Array Oper} {o : Oper} {a : Act} {w : World} {K : Act → World → Prop} {Q : Exit → Act → World → Prop} {E : Prop} {g : Nat} {f f' : Nat → Int} (h : ArrAt w g f) (hgd : o.guard = none) (x y : Operand) (ho : o.op = .store 70 x y)
    (hx : a.eval x = .pointer (some ⟨g, 0, none⟩)) (hy : a.eval y = .agg (arrV f')) (k : K (a.put o.dst undef) (w.setRow g (arrV f'))) : if Region.wanted o (yielded ops a.tmps) = true then Oper.wp Try.prog o a w K Q else E := by
  have hw : Region.wanted o (yielded ops a.tmps) = true := by simp [Region.wanted, hgd]
  rw [if_pos hw]
  exact wp_store_row 70 x y ho g (arrV f') hx hy 70 (arrV f) h info8 rfl (arrV_one f') k
theorem ret8c {fn : Func} {p p2 q : Tmp} (h : fn.results = #[.cell p 70, .cell p2 70, .tmp q]) (tmps : Array Value) (w : World) (g g2 : Nat) (f f2 : Nat → Int) (hp : tmps.getD p undef = .pointer (some ⟨g, 0, none⟩)) (hA : ArrAt w g f)
    (hp2 : tmps.getD p2 undef = .pointer (some ⟨g2, 0, none⟩)) (hA2 : ArrAt w g2 f2) :
    (results fn tmps).run Try.prog w = .ok (.tuple #[.agg (arrV f), .agg (arrV f2), tmps.getD q undef]) w := by
  have hp' : tmps[p]?.getD undef = .pointer (some ⟨g, 0, none⟩) := by simpa using hp
  have hp2' : tmps[p2]?.getD undef = .pointer (some ⟨g2, 0, none⟩) := by simpa using hp2
  simp [results, h, hp', hp2', asAddr, hA.loadV, hA2.loadV]

def ResT (w w' : World) (b1 b2 : Bool) (xs ys : List Int) (e : Ending) : Prop :=
  e = .returned (.tuple #[.agg (arrV (parF b1 xs)), .agg (arrV (parF b2 ys)), .bool (b1 && b2)]) ∧ Below w.heap.size w w'


end Go.Proofs.Ytcmjkfcgekmomaa
