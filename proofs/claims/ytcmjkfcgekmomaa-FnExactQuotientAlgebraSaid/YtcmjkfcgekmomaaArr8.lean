/-
  Arrays of eight integers: what a block holds that has one, read and written by index and as a whole. No condition.
-/
import Derived.Test.YtcmjkfcgekmomaaAlg
import Derived.Laws.Rows
import Derived.Laws.Tables
namespace Go.Proofs.Ytcmjkfcgekmomaa
open Go.RowKit
set_option linter.unusedVariables false
set_option linter.unusedSimpArgs false

def arrV (f : Nat → Int) : Array Value := #[.int .i64 (f 0), .int .i64 (f 1), .int .i64 (f 2), .int .i64 (f 3), .int .i64 (f 4), .int .i64 (f 5), .int .i64 (f 6), .int .i64 (f 7)]
theorem below8 {k : Nat} (h : k < 8) : k = 0 ∨ k = 1 ∨ k = 2 ∨ k = 3 ∨ k = 4 ∨ k = 5 ∨ k = 6 ∨ k = 7 := by omega
theorem arrV_get (f : Nat → Int) {k : Nat} (h : k < 8) : (arrV f)[k]? = some (.int .i64 (f k)) := by
  rcases below8 h with rfl | rfl | rfl | rfl | rfl | rfl | rfl | rfl <;> rfl
theorem arrV_congr {f g : Nat → Int} (h : ∀ k, k < 8 → f k = g k) : arrV f = arrV g := by
  unfold arrV
  rw [h 0 (by omega), h 1 (by omega), h 2 (by omega), h 3 (by omega), h 4 (by omega), h 5 (by omega), h 6 (by omega), h 7 (by omega)]
theorem arrV_inj {f g : Nat → Int} (h : arrV f = arrV g) : ∀ k, k < 8 → f k = g k := fun k hk => by
  have h1 := arrV_get f hk
  rw [h, arrV_get g hk] at h1
  simpa using h1.symm
def put8 (f : Nat → Int) (k : Nat) (x : Int) : Nat → Int := fun j => if j = k then x else f j
theorem put8_same (f : Nat → Int) (k : Nat) (x : Int) : put8 f k x k = x := if_pos rfl
theorem put8_other {f : Nat → Int} {k j : Nat} {x : Int} (h : j ≠ k) : put8 f k x j = f j := if_neg h
theorem arrV_set (f : Nat → Int) {k : Nat} (x : Int) (h : k < 8) : (arrV f).setIfInBounds k (.int .i64 x) = arrV (put8 f k x) := by
  rcases below8 h with rfl | rfl | rfl | rfl | rfl | rfl | rfl | rfl <;> rfl

theorem arrV_one (f : Nat → Int) : (arrV f).all (·.oneCell') = true := by unfold arrV; simp [Value.oneCell']

theorem info8 : (Try.prog.info? 70).map (·.size) = some 8 := by kernel_rfl
theorem run_index8 (f : Nat → Int) {k : Nat} (h : k < 8) (W : World) : (Instr.index 70 (.agg (arrV f)) (.int .i64 (k : Int))).run Try.prog W = .ok (.int .i64 (f k)) W := by
  rcases below8 h with rfl | rfl | rfl | rfl | rfl | rfl | rfl | rfl <;> kernel_rfl

/-- The block g holds the array f. -/
def ArrAt (w : World) (g : Nat) (f : Nat → Int) : Prop := w.heap[g]? = some (.cells (arrV f) 70 (0, 0))
theorem ArrAt.lt {w : World} {g : Nat} {f : Nat → Int} (h : ArrAt w g f) : g < w.heap.size := (Array.getElem?_eq_some_iff.1 h).1
theorem ArrAt.cell {w : World} {g : Nat} {f : Nat → Int} (h : ArrAt w g f) {k : Nat} (hk : k < 8) : w.cell? ⟨g, k, none⟩ = some (.int .i64 (f k)) := by
  rw [cell_of_row w g k _ _ _ h]; exact arrV_get f hk
theorem ArrAt.frozen {w : World} {g : Nat} {f : Nat → Int} (h : ArrAt w g f) (k : Nat) : w.frozen? ⟨g, k, none⟩ = false := by
  have : w.heap[g]? = _ := h
  simp [World.frozen?, this]
theorem ArrAt.congr {w : World} {g : Nat} {f f' : Nat → Int} (h : ArrAt w g f) (he : ∀ k, k < 8 → f k = f' k) : ArrAt w g f' := by
  unfold ArrAt; rw [← arrV_congr he]; exact h
theorem ArrAt.set {w : World} {g : Nat} {f : Nat → Int} (h : ArrAt w g f) {k : Nat} (hk : k < 8) (x : Int) : ArrAt (w.setCell ⟨g, k, none⟩ (.int .i64 x)) g (put8 f k x) := by
  unfold ArrAt
  rw [setCell_eq_setRow w g k _ _ _ _ h, setRow_heap w g _ _ _ _ h, arrV_set f x hk]
theorem ArrAt.block {w w' : World} {g : Nat} {f : Nat → Int} (h : ArrAt w g f) (hb : w'.heap[g]? = w.heap[g]?) : ArrAt w' g f := by unfold ArrAt; rw [hb]; exact h
theorem ArrAt.below {w w' : World} {B g : Nat} {f : Nat → Int} (h : ArrAt w g f) (hb : Below B w w') (hg : g < B) : ArrAt w' g f := h.block (hb.block g hg)
theorem ArrAt.setOther {w : World} {g g' : Nat} {f : Nat → Int} (h : ArrAt w g f) (hne : g ≠ g') (k : Nat) (v : Value) : ArrAt (w.setCell ⟨g', k, none⟩ v) g f := h.block (Below.heap_setCell _ _ _ _ hne)
theorem ArrAt.new (w : World) (f : Nat → Int) : ArrAt (w.alloc (.cells (arrV f) 70)) w.heap.size f := heap_alloc_new w _
theorem ArrAt.alloc {w : World} {g : Nat} {f : Nat → Int} (h : ArrAt w g f) (o : Obj) : ArrAt (w.alloc o) g f := h.block (Below.heap_alloc _ _ _ h.lt)
theorem ArrAt.setRow {w : World} {g : Nat} {f f' : Nat → Int} (h : ArrAt w g f) : ArrAt (w.setRow g (arrV f')) g f' := setRow_heap w g _ _ _ _ h
theorem ArrAt.setRowOther {w : World} {g g' : Nat} {f : Nat → Int} (h : ArrAt w g f) (hne : g ≠ g') (cs : Array Value) : ArrAt (w.setRow g' cs) g f := h.block (by
  unfold World.setRow
  show (w.heap.modify g' _)[g]? = _
  rw [Array.getElem?_modify, if_neg (fun e => hne e.symm)])
theorem ArrAt.load {w : World} {g : Nat} {f : Nat → Int} (h : ArrAt w g f) : (Instr.loadAt 70 (.pointer (some ⟨g, 0, none⟩))).run Try.prog w = .ok (.agg (arrV f)) w := by
  simp only [Instr.loadAt, Instr.sureAddr, Sem.run_bind, Sem.run_pure, Result.andThen_ok, run_loadVar_row (P := Try.prog) w g 70 70 (arrV f) (0, 0) _ h Try.underlying70 rfl info8]
theorem ArrAt.store {w : World} {g : Nat} {f : Nat → Int} (h : ArrAt w g f) (f' : Nat → Int) : (Instr.storeAt 70 (.pointer (some ⟨g, 0, none⟩)) (.agg (arrV f'))).run Try.prog w = .ok () (w.setRow g (arrV f')) := by
  simp only [Instr.storeAt, Instr.sureAddr, Sem.run_bind, Sem.run_pure, Result.andThen_ok, run_storeVar_row (P := Try.prog) w g 70 70 (arrV f) (arrV f') h info8 rfl (arrV_one f')]
theorem ArrAt.loadV {w : World} {g : Nat} {f : Nat → Int} (h : ArrAt w g f) : (loadVar 70 ⟨g, 0, none⟩).run Try.prog w = .ok (.agg (arrV f)) w :=
  run_loadVar_row (P := Try.prog) w g 70 70 (arrV f) (0, 0) _ h Try.underlying70 rfl info8
theorem ArrAt.storeV {w : World} {g : Nat} {f : Nat → Int} (h : ArrAt w g f) (f' : Nat → Int) : (storeVar 70 ⟨g, 0, none⟩ (.agg (arrV f'))).run Try.prog w = .ok () (w.setRow g (arrV f')) :=
  run_storeVar_row (P := Try.prog) w g 70 70 (arrV f) (arrV f') h info8 rfl (arrV_one f')
/-- The same at an operation of a walk: the load, the store, the result that lies in a block. -/
theorem ld8 {ops : Array Oper} {rest : List Oper} {o : Oper} {a : Act} {w : World} {Q : Exit → Act → World → Prop} {g : Nat} {f : Nat → Int} (h : ArrAt w g f) (hgd : o.guard = none) (x : Operand) (ho : o.op = .load 70 x)
    (hx : a.eval x = .pointer (some ⟨g, 0, none⟩)) (k : wpList Try.prog ops Q rest (a.put o.dst (.agg (arrV f))) w) : wpList Try.prog ops Q (o :: rest) a w :=
  wpList_load_row hgd 70 x ho g hx 70 (arrV f) (0, 0) _ h Try.underlying70 rfl info8 k
theorem st8 {ops : Array Oper} {rest : List Oper} {o : Oper} {a : Act} {w : World} {Q : Exit → Act → World → Prop} {g : Nat} {f f' : Nat → Int} (h : ArrAt w g f) (hgd : o.guard = none) (x y : Operand) (ho : o.op = .store 70 x y)
    (hx : a.eval x = .pointer (some ⟨g, 0, none⟩)) (hy : a.eval y = .agg (arrV f')) (k : wpList Try.prog ops Q rest (a.put o.dst undef) (w.setRow g (arrV f'))) : wpList Try.prog ops Q (o :: rest) a w :=
  wpList_store_row hgd 70 x y ho g (arrV f') hx hy 70 (arrV f) h info8 rfl (arrV_one f') k
theorem ret8 {fn : Func} {p : Tmp} (h : fn.results = #[.cell p 70]) (tmps : Array Value) (w : World) (g : Nat) (f : Nat → Int) (hp : tmps.getD p undef = .pointer (some ⟨g, 0, none⟩)) (hA : ArrAt w g f) :
    (results fn tmps).run Try.prog w = .ok (.agg (arrV f)) w :=
  results_cell_row h tmps w g 70 (arrV f) (0, 0) _ hp hA Try.underlying70 rfl info8
theorem setRow_size (w : World) (g : Nat) (cs : Array Value) : (w.setRow g cs).heap.size = w.heap.size := by simp [World.setRow]

end Go.Proofs.Ytcmjkfcgekmomaa
