/-
  Contract: impl.translations; what its closure's rounds keep. Conditions: the bounds that each theorem names.
-/
import Derived.Test.YtcmjkfcgekmomaaCngM
import Derived.Test.YtcmjkfcgekmomaaHeldI
import Derived.Test.YtcmjkfcgekmomaaStep
import Derived.RangeFuncWrites
import Derived.RangeFuncBound
import Derived.RangeFuncCalls
import Derived.RangeFuncBox
import Derived.RangeFuncLeaves
import Derived.Shelf.Abstract
import Derived.OwnWalkIn
import Derived.TacticsInMore
import Derived.LoopNIn
import Derived.LoopIn
namespace Go.Proofs.Ytcmjkfcgekmomaa
open Go.RowKit Go.Shelf
set_option linter.unusedVariables false
set_option linter.unusedSimpArgs false
attribute [local go_sem] Oper.semAt_some

theorem translations_any (z : Int) (ao : Option Addr) (n c : Nat) (s t : Int) (w : World) :
    Calls Try.prog 141 #[.agg #[.int .i64 z, .slice ao n c], .int .i64 s, .int .i64 t] w fun e w' =>
      e = .returned (.func (.func 149) #[] #[.pointer (some ⟨w.heap.size, 0, none⟩), .pointer (some ⟨w.heap.size + 1, 0, none⟩), .pointer (some ⟨w.heap.size + 1 + 1, 0, none⟩)]) ∧
      w' = ((w.alloc (.cells #[.int .i64 z, .slice ao n c] 31)).alloc (.cells #[.int .i64 s] 3)).alloc (.cells #[.int .i64 t] 3) := by
  have hmf : ∀ (fn : Fn) (first cap : Array Value) (w : World), (Instr.makeFunc fn first cap).run Try.prog w = .ok (.func fn first cap) w := fun _ _ _ _ => rfl
  go_enter Try.func141, Try.ntmps141
  go_wp2
  go_ret
  exact ⟨rfl, rfl⟩

/-- What a round keeps: what lies below B, the three boxes from X on, and every operation that lies alone. -/
structure KeepT (B X : Nat) (W W' : World) : Prop where
  bel : Below B W W'
  size : W.heap.size ≤ W'.heap.size
  box : ∀ j, X ≤ j → j < X + 3 → W'.heap[j]? = W.heap[j]?
  op : ∀ (j : Nat) (a : Array Value) (f : Nat × Nat), W.heap[j]? = some (Obj.cells a 66 f) → W'.heap[j]? = some (Obj.cells a 66 f)
theorem KeepT.refl (B X : Nat) (W : World) : KeepT B X W W := ⟨Below.refl _ _, Nat.le_refl _, fun _ _ _ => rfl, fun _ _ _ h => h⟩
theorem KeepT.trans {B X : Nat} {A C D : World} (h : KeepT B X A C) (k : KeepT B X C D) : KeepT B X A D :=
  ⟨h.bel.trans k.bel, Nat.le_trans h.size k.size, fun j h1 h2 => (k.box j h1 h2).trans (h.box j h1 h2), fun j a f e => k.op j a f (h.op j a f e)⟩
theorem KeepT.alloc {B X : Nat} {A C : World} (h : KeepT B X A C) (hB : B ≤ C.heap.size) (hX : X + 3 ≤ C.heap.size) (o : Obj) : KeepT B X A (C.alloc o) :=
  ⟨h.bel.alloc hB o, by have := h.size; simp; omega, fun j h1 h2 => (Below.heap_alloc _ _ _ (by omega)).trans (h.box j h1 h2), fun j a f e => by
    have h2 := h.op j a f e
    exact (Below.heap_alloc _ _ _ (by have := (Array.getElem?_eq_some_iff.1 h2).1; omega)).trans h2⟩
theorem KeepT.drew {B X : Nat} {A C : World} (h : KeepT B X A C) : KeepT B X A C.drew := ⟨h.bel.drew, h.size, h.box, h.op⟩
theorem KeepT.put {B X : Nat} {w : World} (hB : B ≤ w.heap.size) (hX : X + 3 ≤ w.heap.size) (W : World) (l : Nat) (o o' : Obj) (hl : w.heap.size ≤ l) (h : W.heap[l]? = some o) (hc : o.isCells = false) (hw : o.isWalk = false) : KeepT B X W (W.putObj l o') :=
  ⟨belowK_b (w := w) hB W l o o' hl h hc hw, by simp [World.putObj], fun j h1 h2 => World.putObj_heap_other (by omega), fun j a f e => by
    by_cases hj : j = l
    · subst hj; rw [e] at h; injection h with h; subst h; cases hc
    · rw [World.putObj_heap_other hj]; exact e⟩
/-- What is told of a pair. -/
def encT (q : Fin 8 × Fin 8) : Array Value := #[.int .i64 ((q.1.val : Nat) : Int), .int .i64 ((q.2.val : Nat) : Int)]

theorem two_set {w : World} {B : Nat} {a b u v : Value} {ty : TypeId} (h : w.heap[B]? = some (.cells #[a, b] ty (0, 0))) : ((w.setCell ⟨B, 0, none⟩ u).setCell ⟨B, 1, none⟩ v).heap[B]? = some (.cells #[u, v] ty (0, 0)) := by
  simp [World.setCell, Array.getElem?_modify, h]
theorem world_ext {A C : World} (h1 : A.heap = C.heap) (h2 : A.tape = C.tape) (h3 : A.drawn = C.drawn) (h4 : A.os = C.os) (h5 : A.output = C.output) : A = C := by
  cases A; cases C; simp_all
theorem alloc_set2 (w : World) (a b u v : Value) (ty : TypeId) : ((w.alloc (.cells #[a, b] ty)).setCell ⟨w.heap.size, 0, none⟩ u).setCell ⟨w.heap.size, 1, none⟩ v = w.alloc (.cells #[u, v] ty) := by
  have hs : (((w.alloc (.cells #[a, b] ty)).setCell ⟨w.heap.size, 0, none⟩ u).setCell ⟨w.heap.size, 1, none⟩ v).heap.size = w.heap.size + 1 := by simp [World.setCell]
  refine world_ext ?_ rfl rfl rfl rfl
  apply Array.ext_getElem?
  intro i
  by_cases hi : i = w.heap.size
  · subst hi
    rw [heap_alloc_new w (.cells #[u, v] ty)]
    exact two_set (heap_alloc_new w (.cells #[a, b] ty))
  · by_cases hl : i < w.heap.size
    · rw [Below.heap_setCell _ _ _ _ hi, Below.heap_setCell _ _ _ _ hi, Below.heap_alloc _ _ _ hl, Below.heap_alloc _ _ _ hl]
    · rw [Array.getElem?_eq_none (by omega), Array.getElem?_eq_none (by simp; omega)]
/-- Ahead of the first place with digit s in a row of z digits; behind the last one. -/
theorem row_dig {z st i e : Nat} (hst : 1 ≤ st) (h1 : i * (z * st) ≤ e) (h2 : e < (i + 1) * (z * st)) : e / st % z = (e - i * (z * st)) / st := by
  have e1 : e = st * (z * i) + (e - i * (z * st)) := by
    have h : i * (z * st) = st * (z * i) := by rw [← Nat.mul_assoc, Nat.mul_comm (i * z) st, Nat.mul_comm i z]
    omega
  have h3 : (e - i * (z * st)) / st < z := by
    rw [Nat.div_lt_iff_lt_mul (by omega)]
    rw [Nat.succ_mul] at h2
    omega
  have h4 : e / st = z * i + (e - i * (z * st)) / st := by
    conv => lhs; rw [e1]
    rw [Nat.mul_add_div (by omega)]
  rw [h4, Nat.mul_add_mod, Nat.mod_eq_of_lt h3]
theorem skip_low {z st s i e : Nat} (hst : 1 ≤ st) (hs : s < z) (h1 : i * (z * st) ≤ e) (h2 : e < i * (z * st) + s * st) : ¬ e / st % z = s := by
  have h3 : (i + 1) * (z * st) = i * (z * st) + z * st := Nat.succ_mul _ _
  have h4 : s * st ≤ z * st := Nat.mul_le_mul_right st (by omega)
  rw [row_dig hst h1 (by omega)]
  have h5 : (e - i * (z * st)) / st < s := by rw [Nat.div_lt_iff_lt_mul (by omega)]; omega
  omega
theorem skip_high {z st s i e : Nat} (hst : 1 ≤ st) (hs : s < z) (h1 : i * (z * st) + s * st + st ≤ e) (h2 : e < (i + 1) * (z * st)) : ¬ e / st % z = s := by
  rw [row_dig hst (by omega) h2]
  have h5 : s + 1 ≤ (e - i * (z * st)) / st := by rw [Nat.le_div_iff_mul_le (by omega), Nat.succ_mul]; omega
  omega
theorem grown_drew (W : World) : W.grownBy W.drew none := ⟨rfl, rfl, rfl, Nat.le_refl _, fun _ _ _ => rfl⟩

end Go.Proofs.Ytcmjkfcgekmomaa
