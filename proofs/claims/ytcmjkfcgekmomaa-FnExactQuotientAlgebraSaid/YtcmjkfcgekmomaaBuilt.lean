/-
  One more operation at the end of a list of operations that the call builds (XPush, for seats without ReductTo). No condition.
-/
import Derived.Test.YtcmjkfcgekmomaaStep
import Derived.Deep.RegionLaw
import Derived.Deep.AppendLies
namespace Go.Proofs.Ytcmjkfcgekmomaa
open Go.RowKit
set_option linter.unusedVariables false
set_option linter.unusedSimpArgs false

/-- A box of two cells, known whole. -/
theorem box_cells {w : World} {B : Nat} {a b : Value} {ty : TypeId} (h : w.heap[B]? = some (.cells #[a, b] ty (0, 0))) : w.cell? ⟨B, 0, none⟩ = some a ∧ w.cell? ⟨B, 1, none⟩ = some b ∧ (∀ j, w.frozen? ⟨B, j, none⟩ = false) :=
  ⟨by rw [cell_of_row w B 0 _ ty (0, 0) h]; rfl, by rw [cell_of_row w B 1 _ ty (0, 0) h]; rfl, fun j => by simp [World.frozen?, h]⟩
theorem box_set1 {w : World} {B : Nat} {a b v : Value} {ty : TypeId} (h : w.heap[B]? = some (.cells #[a, b] ty (0, 0))) : (w.setCell ⟨B, 1, none⟩ v).heap[B]? = some (.cells #[a, v] ty (0, 0)) := by
  simp [World.setCell, Array.getElem?_modify, h]
theorem box_new (w : World) (a b : Value) (ty : TypeId) : (w.alloc (.cells #[a, b] ty)).heap[w.heap.size]? = some (.cells #[a, b] ty (0, 0)) := heap_alloc_new w _

theorem own_form {w : World} {B e s n : Nat} {v : Value} {xs : List Value} (h : w.ownsRow B e s v n xs) : ∃ a c, v = .slice a n c := by
  rcases h.2 with ⟨h1, h2⟩ | ⟨g, cap, _, h1, _⟩
  · exact ⟨none, 0, by rw [h1, h2]⟩
  · exact ⟨_, _, h1⟩
theorem upd_self {α : Type} {f : Nat → α} {k : Nat} {x : α} (h : f k = x) : upd f k x = f := by
  funext j
  by_cases hj : j = k
  · subst hj; rw [upd_same, h]
  · rw [upd_other hj]
theorem OwnsTabs.setFar {w : World} {lo n : Nat} {G C : Nat → Nat} {F : Nat → OpD} (h : OwnsTabs w lo n G C F) {p : Addr} (hp : p.block < lo) (u : Value) : OwnsTabs (w.setCell p u) lo n G C F :=
  ⟨fun j hj => ownsRow_setCell_below (h.tab j hj) hp u, h.inj⟩

/-- The list of operations so far, and its tables. -/
def Built (w : World) (lo : Nat) (v : Value) (k : Nat) (F : Nat → OpD) : Prop :=
  ∃ G C, OwnsTabs w lo k G C F ∧ w.ownsRow lo 66 2 v k (flatN k G C F)
theorem Built.nil (w : World) (lo : Nat) (F : Nat → OpD) : Built w lo (.slice none 0 0) 0 F := ⟨fun _ => 0, fun _ => 0, OwnsTabs.nil _ _ _ _ _, World.ownsRow_nil _ _ _ _⟩
theorem Built.row {w : World} {lo k : Nat} {v : Value} {F : Nat → OpD} (h : Built w lo v k F) : ∃ xs, w.ownsRow lo 66 2 v k xs ∧ xs.length = k * 2 := by
  obtain ⟨G, C, _, hr⟩ := h
  exact ⟨_, hr, hr.1⟩
theorem Built.setFar {w : World} {lo k : Nat} {v : Value} {F : Nat → OpD} (h : Built w lo v k F) {p : Addr} (hp : p.block < lo) (u : Value) : Built (w.setCell p u) lo v k F := by
  obtain ⟨G, C, ht, hr⟩ := h
  exact ⟨G, C, ht.setFar hp u, ownsRow_setCell_below hr hp u⟩
theorem Built.below {w w1 : World} {lo k : Nat} {v : Value} {F : Nat → OpD} (h : Built w lo v k F) (hb : Below w.heap.size w w1) : Built w1 lo v k F := by
  obtain ⟨G, C, ht, hr⟩ := h
  exact ⟨G, C, ht.below hb, hr.kept (grown_of_below hb none) (own_em _)⟩
theorem Built.ops {w : World} {lo k c : Nat} {ao : Option Addr} {fs : List OpD} {F : Nat → OpD} (h : Built w lo (.slice ao k c) k F) (hF : ∀ j, j < k → F j = fs.getD j (0, [])) : ∃ G C, OwnsOps w lo w.heap.size (.slice ao k c) k G C (fun j => fs.getD j (0, [])) := by
  obtain ⟨G, C, ht, hr⟩ := h
  exact ⟨G, C, (ht.ops hr).congr fun j hj => ⟨rfl, rfl, hF j hj⟩⟩

/-- One more. wr: the world ahead of the round; w2: behind the copy; w3: behind the append. -/
theorem Built.push {wr w2 w3 : World} {lo k g d : Nat} {v v' : Value} {F : Nat → OpD} {r : Int} {n : Nat} {xs : List Int} {G C : Nat → Nat} (hT : OwnsTabs wr lo k G C F) (hrow : wr.ownsRow lo 66 2 v k (flatN k G C F))
    (hb : Below wr.heap.size wr w2) (hlo : lo ≤ wr.heap.size) (hn : n = xs.length) (ht : w2.ownsRow wr.heap.size 3 1 (.slice (some ⟨g, 0, none⟩) n d) n (xs.map (Value.int .i64))) (hF : F k = (r, xs)) {ob : Obj}
    (hown : w3.ownsRow lo 66 2 v' (k + 1) (flatN k G C F ++ [.int .i64 r, .slice (some ⟨g, 0, none⟩) n d])) (hgrow : (w2.alloc ob).grownBy w3 v.ownBlock) : Built w3 lo v' (k + 1) F := by
  subst hn
  have h2 := hT.push (r := r) hb hlo ht
  rw [upd_self hF] at h2
  have hrow2 := hrow.kept (grown_of_below hb none) (own_em _)
  have hne : ∀ j, j < k + 1 → v.ownBlock ≠ some (upd G k g j) := fun j hj => row_ne hrow2 (h2.tab j hj) (by decide)
  refine ⟨upd G k g, upd C k d, ⟨fun j hj => ((h2.tab j hj).alloc ob).kept hgrow (.inr (fun e => hne j hj e.symm)), h2.inj⟩, ?_⟩
  rw [flatN_succ, upd_same, upd_same, hF, flatN_congr (G := upd G k g) (C := upd C k d) (F := F) (G' := G) (C' := C) (F' := F) fun j hj => ⟨upd_other (by omega), upd_other (by omega), rfl⟩]
  exact hown

theorem news_two {w : World} (a b : Value) (ty : TypeId) : ∀ (j : Nat) (u : Value), [a, b][j]? = some u → (w.alloc (.cells #[a, b] ty)).cell? ((⟨w.heap.size, 0, none⟩ : Addr).add j) = some u :=
  World.news_of_block (cs := #[a, b]) (heap_alloc_new w _)

end Go.Proofs.Ytcmjkfcgekmomaa
