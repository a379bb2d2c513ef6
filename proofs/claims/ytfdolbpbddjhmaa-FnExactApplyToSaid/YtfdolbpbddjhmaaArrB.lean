/-
  Arrays of 64 bytes (elementTuple): what a block holds that has one, read and written by index and as a whole. No condition.
-/
import Derived.Test.YtfdolbpbddjhmaaAlg
import Derived.Laws.Rows
import Derived.Laws.Tables
namespace Go.Proofs.Ytfdolbpbddjhmaa
open Go.RowKit
set_option linter.unusedVariables false
set_option linter.unusedSimpArgs false

def arrB (f : Nat → Int) : Array Value := ((List.range 64).map (fun k => Value.int .u8 (f k))).toArray
theorem arrB_size (f : Nat → Int) : (arrB f).size = 64 := by simp [arrB]
theorem arrB_get (f : Nat → Int) {k : Nat} (h : k < 64) : (arrB f)[k]? = some (.int .u8 (f k)) := by
  simp [arrB, h]
theorem arrB_congr {f g : Nat → Int} (h : ∀ k, k < 64 → f k = g k) : arrB f = arrB g := by
  apply Array.ext_getElem?
  intro k
  by_cases hk : k < 64
  · rw [arrB_get f hk, arrB_get g hk, h k hk]
  · rw [Array.getElem?_eq_none (by rw [arrB_size]; omega), Array.getElem?_eq_none (by rw [arrB_size]; omega)]
theorem arrB_inj {f g : Nat → Int} (h : arrB f = arrB g) : ∀ k, k < 64 → f k = g k := fun k hk => by
  have h1 := arrB_get f hk
  rw [h, arrB_get g hk] at h1
  simpa using h1.symm
def putB (f : Nat → Int) (k : Nat) (x : Int) : Nat → Int := fun j => if j = k then x else f j
theorem putB_same (f : Nat → Int) (k : Nat) (x : Int) : putB f k x k = x := if_pos rfl
theorem putB_other {f : Nat → Int} {k j : Nat} {x : Int} (h : j ≠ k) : putB f k x j = f j := if_neg h
theorem arrB_set (f : Nat → Int) {k : Nat} (x : Int) (h : k < 64) : (arrB f).setIfInBounds k (.int .u8 x) = arrB (putB f k x) := by
  apply Array.ext_getElem?
  intro j
  rw [Array.getElem?_setIfInBounds]
  by_cases hj : j < 64
  · rw [arrB_get (putB f k x) hj]
    by_cases hjk : k = j
    · subst hjk
      rw [if_pos rfl, if_pos (by rw [arrB_size]; exact hj), putB_same]
    · rw [if_neg hjk, arrB_get f hj, putB_other (fun e => hjk e.symm)]
  · rw [Array.getElem?_eq_none (xs := arrB (putB f k x)) (by rw [arrB_size]; omega), if_neg (by omega), Array.getElem?_eq_none (by rw [arrB_size]; omega)]

theorem arrB_one (f : Nat → Int) : (arrB f).all (·.oneCell') = true := by
  rw [Array.all_eq_true]
  intro i hi
  have h := arrB_get f (k := i) (by rw [arrB_size] at hi; exact hi)
  rw [Array.getElem?_eq_getElem hi] at h
  injection h with h
  rw [h]; rfl

theorem infoB : (Try.prog.info? 84).map (·.size) = some 64 := by kernel_rfl

/-- The block g holds the array f. -/
def ArrBt (w : World) (g : Nat) (f : Nat → Int) : Prop := w.heap[g]? = some (.cells (arrB f) 84 (0, 0))
theorem ArrBt.lt {w : World} {g : Nat} {f : Nat → Int} (h : ArrBt w g f) : g < w.heap.size := (Array.getElem?_eq_some_iff.1 h).1
theorem ArrBt.cell {w : World} {g : Nat} {f : Nat → Int} (h : ArrBt w g f) {k : Nat} (hk : k < 64) : w.cell? ⟨g, k, none⟩ = some (.int .u8 (f k)) := by
  rw [cell_of_row w g k _ _ _ h]; exact arrB_get f hk
theorem ArrBt.frozen {w : World} {g : Nat} {f : Nat → Int} (h : ArrBt w g f) (k : Nat) : w.frozen? ⟨g, k, none⟩ = false := by
  have : w.heap[g]? = _ := h
  simp [World.frozen?, this]
theorem ArrBt.congr {w : World} {g : Nat} {f f' : Nat → Int} (h : ArrBt w g f) (he : ∀ k, k < 64 → f k = f' k) : ArrBt w g f' := by
  unfold ArrBt; rw [← arrB_congr he]; exact h
theorem ArrBt.set {w : World} {g : Nat} {f : Nat → Int} (h : ArrBt w g f) {k : Nat} (hk : k < 64) (x : Int) : ArrBt (w.setCell ⟨g, k, none⟩ (.int .u8 x)) g (putB f k x) := by
  unfold ArrBt
  rw [setCell_eq_setRow w g k _ _ _ _ h, setRow_heap w g _ _ _ _ h, arrB_set f x hk]
theorem ArrBt.block {w w' : World} {g : Nat} {f : Nat → Int} (h : ArrBt w g f) (hb : w'.heap[g]? = w.heap[g]?) : ArrBt w' g f := by unfold ArrBt; rw [hb]; exact h
theorem ArrBt.below {w w' : World} {B g : Nat} {f : Nat → Int} (h : ArrBt w g f) (hb : Below B w w') (hg : g < B) : ArrBt w' g f := h.block (hb.block g hg)
theorem ArrBt.setOther {w : World} {g g' : Nat} {f : Nat → Int} (h : ArrBt w g f) (hne : g ≠ g') (k : Nat) (v : Value) : ArrBt (w.setCell ⟨g', k, none⟩ v) g f := h.block (Below.heap_setCell _ _ _ _ hne)
theorem ArrBt.new (w : World) (f : Nat → Int) : ArrBt (w.alloc (.cells (arrB f) 84)) w.heap.size f := heap_alloc_new w _
theorem ArrBt.alloc {w : World} {g : Nat} {f : Nat → Int} (h : ArrBt w g f) (o : Obj) : ArrBt (w.alloc o) g f := h.block (Below.heap_alloc _ _ _ h.lt)
theorem ArrBt.setRow {w : World} {g : Nat} {f f' : Nat → Int} (h : ArrBt w g f) : ArrBt (w.setRow g (arrB f')) g f' := setRow_heap w g _ _ _ _ h
theorem ArrBt.setRowOther {w : World} {g g' : Nat} {f : Nat → Int} (h : ArrBt w g f) (hne : g ≠ g') (cs : Array Value) : ArrBt (w.setRow g' cs) g f := h.block (by
  unfold World.setRow
  show (w.heap.modify g' _)[g]? = _
  rw [Array.getElem?_modify, if_neg (fun e => hne e.symm)])
theorem ArrBt.load {w : World} {g : Nat} {f : Nat → Int} (h : ArrBt w g f) : (Instr.loadAt 84 (.pointer (some ⟨g, 0, none⟩))).run Try.prog w = .ok (.agg (arrB f)) w := by
  simp only [Instr.loadAt, Instr.sureAddr, Sem.run_bind, Sem.run_pure, Result.andThen_ok, run_loadVar_row (P := Try.prog) w g 84 84 (arrB f) (0, 0) _ h Try.underlying84 rfl infoB]
theorem ArrBt.store {w : World} {g : Nat} {f : Nat → Int} (h : ArrBt w g f) (f' : Nat → Int) : (Instr.storeAt 84 (.pointer (some ⟨g, 0, none⟩)) (.agg (arrB f'))).run Try.prog w = .ok () (w.setRow g (arrB f')) := by
  simp only [Instr.storeAt, Instr.sureAddr, Sem.run_bind, Sem.run_pure, Result.andThen_ok, run_storeVar_row (P := Try.prog) w g 84 84 (arrB f) (arrB f') h infoB (arrB_size _) (arrB_one f')]
theorem ArrBt.loadV {w : World} {g : Nat} {f : Nat → Int} (h : ArrBt w g f) : (loadVar 84 ⟨g, 0, none⟩).run Try.prog w = .ok (.agg (arrB f)) w :=
  run_loadVar_row (P := Try.prog) w g 84 84 (arrB f) (0, 0) _ h Try.underlying84 rfl infoB
theorem ArrBt.storeV {w : World} {g : Nat} {f : Nat → Int} (h : ArrBt w g f) (f' : Nat → Int) : (storeVar 84 ⟨g, 0, none⟩ (.agg (arrB f'))).run Try.prog w = .ok () (w.setRow g (arrB f')) :=
  run_storeVar_row (P := Try.prog) w g 84 84 (arrB f) (arrB f') h infoB (arrB_size _) (arrB_one f')
/-- The same at an operation of a walk: the load, the store, the result that lies in a block. -/
theorem ldB {ops : Array Oper} {rest : List Oper} {o : Oper} {a : Act} {w : World} {Q : Exit → Act → World → Prop} {g : Nat} {f : Nat → Int} (h : ArrBt w g f) (hgd : o.guard = none) (x : Operand) (ho : o.op = .load 84 x)
    (hx : a.eval x = .pointer (some ⟨g, 0, none⟩)) (k : wpList Try.prog ops Q rest (a.put o.dst (.agg (arrB f))) w) : wpList Try.prog ops Q (o :: rest) a w :=
  wpList_load_row hgd 84 x ho g hx 84 (arrB f) (0, 0) _ h Try.underlying84 rfl infoB k
theorem stB {ops : Array Oper} {rest : List Oper} {o : Oper} {a : Act} {w : World} {Q : Exit → Act → World → Prop} {g : Nat} {f f' : Nat → Int} (h : ArrBt w g f) (hgd : o.guard = none) (x y : Operand) (ho : o.op = .store 84 x y)
    (hx : a.eval x = .pointer (some ⟨g, 0, none⟩)) (hy : a.eval y = .agg (arrB f')) (k : wpList Try.prog ops Q rest (a.put o.dst undef) (w.setRow g (arrB f'))) : wpList Try.prog ops Q (o :: rest) a w :=
  wpList_store_row hgd 84 x y ho g (arrB f') hx hy 84 (arrB f) h infoB (arrB_size _) (arrB_one f') k
theorem retB {fn : Func} {p : Tmp} (h : fn.results = #[.cell p 84]) (tmps : Array Value) (w : World) (g : Nat) (f : Nat → Int) (hp : tmps.getD p undef = .pointer (some ⟨g, 0, none⟩)) (hA : ArrBt w g f) :
    (results fn tmps).run Try.prog w = .ok (.agg (arrB f)) w :=
  results_cell_row h tmps w g 84 (arrB f) (0, 0) _ hp hA Try.underlying84 rfl infoB
theorem setRow_sizeB (w : World) (g : Nat) (cs : Array Value) : (w.setRow g cs).heap.size = w.heap.size := by simp [World.setRow]

end Go.Proofs.Ytfdolbpbddjhmaa
