/-
  A slice of operations that the call itself made: the rows that it owns, read and written by index. No condition.
-/
import Derived.Test.YtcmjkfcgekmomaaAlg
namespace Go.Proofs.Ytcmjkfcgekmomaa
open Go.RowKit
set_option linter.unusedVariables false

/-- The cells of n operations, told by their index: arity and table (F), the table's block (G) and capacity (C). -/
def flatN (n : Nat) (G C : Nat → Nat) (F : Nat → OpD) : List Value :=
  (List.range n).flatMap fun j => [.int .i64 (F j).1, .slice (some ⟨G j, 0, none⟩) (F j).2.length (C j)]

theorem flatN_zero (G C : Nat → Nat) (F : Nat → OpD) : flatN 0 G C F = [] := rfl
theorem flatN_succ (n : Nat) (G C : Nat → Nat) (F : Nat → OpD) : flatN (n + 1) G C F = flatN n G C F ++ [.int .i64 (F n).1, .slice (some ⟨G n, 0, none⟩) (F n).2.length (C n)] := by
  simp [flatN, List.range_succ, List.flatMap_append]
theorem flatN_len (n : Nat) (G C : Nat → Nat) (F : Nat → OpD) : (flatN n G C F).length = n * 2 := by
  induction n with
  | zero => rfl
  | succ n ih => rw [flatN_succ, List.length_append, ih]; simp; omega
theorem flatN_congr {n : Nat} {G C G' C' : Nat → Nat} {F F' : Nat → OpD} (h : ∀ j, j < n → G j = G' j ∧ C j = C' j ∧ F j = F' j) : flatN n G C F = flatN n G' C' F' := by
  induction n with
  | zero => rfl
  | succ n ih =>
    obtain ⟨a, b, c⟩ := h n (by omega)
    rw [flatN_succ, flatN_succ, ih fun j hj => h j (by omega), a, b, c]
theorem flatN_get {n j : Nat} {G C : Nat → Nat} {F : Nat → OpD} (hj : j < n) :
    (flatN n G C F)[j * 2]? = some (.int .i64 (F j).1) ∧ (flatN n G C F)[j * 2 + 1]? = some (.slice (some ⟨G j, 0, none⟩) (F j).2.length (C j)) := by
  induction n with
  | zero => omega
  | succ n ih =>
    rw [flatN_succ]
    have hl := flatN_len n G C F
    by_cases h : j < n
    · obtain ⟨a, b⟩ := ih h
      exact ⟨by rw [List.getElem?_append_left (by omega)]; exact a, by rw [List.getElem?_append_left (by omega)]; exact b⟩
    · obtain rfl : j = n := by omega
      exact ⟨by rw [List.getElem?_append_right (by omega), hl, Nat.sub_self]; rfl, by rw [List.getElem?_append_right (by omega), hl, show j * 2 + 1 - j * 2 = 1 by omega]; rfl⟩
theorem flatN_set0 {n j : Nat} {G C : Nat → Nat} {F F' : Nat → OpD} (hj : j < n) (x : Int) (h1 : F' j = (x, (F j).2)) (h2 : ∀ i, i ≠ j → F' i = F i) : (flatN n G C F).set (j * 2) (.int .i64 x) = flatN n G C F' := by
  induction n with
  | zero => omega
  | succ n ih =>
    rw [flatN_succ, flatN_succ]
    have hl := flatN_len n G C F
    by_cases h : j < n
    · rw [List.set_append_left _ _ (by omega), ih h, h2 n (by omega)]
    · obtain rfl : j = n := by omega
      rw [List.set_append_right _ _ (by omega), hl, Nat.sub_self, h1, flatN_congr (F := F) (F' := F') fun i hi => ⟨rfl, rfl, (h2 i (by omega)).symm⟩]
      rfl
theorem flatN_set1 {n j : Nat} {G C G' C' : Nat → Nat} {F F' : Nat → OpD} (hj : j < n) (h0 : (F' j).1 = (F j).1) (h2 : ∀ i, i ≠ j → F' i = F i ∧ G' i = G i ∧ C' i = C i) :
    (flatN n G C F).set (j * 2 + 1) (.slice (some ⟨G' j, 0, none⟩) (F' j).2.length (C' j)) = flatN n G' C' F' := by
  induction n with
  | zero => omega
  | succ n ih =>
    rw [flatN_succ, flatN_succ]
    have hl := flatN_len n G C F
    by_cases h : j < n
    · obtain ⟨a, b, c⟩ := h2 n (by omega)
      rw [List.set_append_left _ _ (by omega), ih h, a, b, c]
    · obtain rfl : j = n := by omega
      rw [List.set_append_right _ _ (by omega), hl, show j * 2 + 1 - j * 2 = 1 by omega, h0, flatN_congr (F := F) (F' := F') (G := G) (G' := G') (C := C) (C' := C') fun i hi => by
        obtain ⟨a, b, c⟩ := h2 i (by omega)
        exact ⟨b.symm, c.symm, a.symm⟩]
      rfl

/-- Only blocks from lo on, below hi, may have turned, and new ones have come. -/
structure Only (lo hi : Nat) (w w' : World) : Prop where
  os : w'.os = w.os
  tape : w'.tape = w.tape
  output : w'.output = w.output
  size : w.heap.size ≤ w'.heap.size
  block : ∀ k, k < w.heap.size → k < lo ∨ hi ≤ k → w'.heap[k]? = w.heap[k]?
theorem Only.refl (lo hi : Nat) (w : World) : Only lo hi w w := ⟨rfl, rfl, rfl, Nat.le_refl _, fun _ _ _ => rfl⟩
theorem Only.trans {lo hi : Nat} {a b c : World} (h : Only lo hi a b) (k : Only lo hi b c) : Only lo hi a c :=
  ⟨k.os.trans h.os, k.tape.trans h.tape, k.output.trans h.output, Nat.le_trans h.size k.size, fun i hi ho => (k.block i (Nat.lt_of_lt_of_le hi h.size) ho).trans (h.block i hi ho)⟩
theorem Only.drewN {lo hi : Nat} {a w : World} (h : Only lo hi a w) (q : Nat) : Only lo hi a (w.drewN q) := ⟨h.os, h.tape, h.output, h.size, h.block⟩
theorem Only.drew {lo hi : Nat} {a w : World} (h : Only lo hi a w) : Only lo hi a w.drew := ⟨h.os, h.tape, h.output, h.size, h.block⟩
theorem Only.of_grown {lo hi : Nat} {w w' : World} {row : Option Nat} (h : w.grownBy w' row) (hr : ∀ k, row = some k → lo ≤ k ∧ k < hi) : Only lo hi w w' :=
  ⟨h.os, h.tape, h.output, h.size, fun k hk ho => h.block k hk fun e => by have := hr k e.symm; omega⟩
theorem Only.below {lo hi : Nat} {w w' : World} (h : Only lo hi w w') (hl : lo ≤ w.heap.size) : Below lo w w' := ⟨h.os, h.tape, h.output, h.size, fun k hk => h.block k (by omega) (.inl hk)⟩
theorem Only.kept {lo hi X : Nat} {w w' : World} (h : Only lo hi w w') (hX : X ≤ w.heap.size) : Kept hi X w w' := fun k h1 h2 => h.block k (by omega) (.inr h1)
theorem Only.kept_lo {lo hi X Y : Nat} {w w' : World} (h : Only lo hi w w') (hX : X ≤ w.heap.size) (hl : X ≤ lo) : Kept Y X w w' := fun k _ h2 => h.block k (by omega) (.inl (by omega))
theorem Only.of_below {lo hi : Nat} {w w' : World} (h : Below w.heap.size w w') : Only lo hi w w' := ⟨h.os, h.tape, h.output, h.size, fun k hk _ => h.block k hk⟩

/-- The slice v of n operations and their tables are rows of the call's own, in blocks from lo on, below hi, no two the same. -/
structure OwnsOps (w : World) (lo hi : Nat) (v : Value) (n : Nat) (G C : Nat → Nat) (F : Nat → OpD) : Prop where
  row : w.ownsRow lo 66 2 v n (flatN n G C F)
  rowlt : ∀ k, v.ownBlock = some k → k < hi
  tab : ∀ j, j < n → w.ownsRow lo 3 1 (.slice (some ⟨G j, 0, none⟩) (F j).2.length (C j)) (F j).2.length ((F j).2.map (Value.int .i64))
  lt : ∀ j, j < n → G j < hi
  inj : ∀ i j, i < n → j < n → G i = G j → i = j

theorem row_ne {w : World} {b1 b2 s1 s2 n1 n2 c2 g2 : Nat} {e1 e2 : TypeId} {v1 : Value} {x1 x2 : List Value} (h1 : w.ownsRow b1 e1 s1 v1 n1 x1) (h2 : w.ownsRow b2 e2 s2 (.slice (some ⟨g2, 0, none⟩) n2 c2) n2 x2) (hne : e1 ≠ e2) : v1.ownBlock ≠ some g2 := by
  rcases h1.2 with ⟨rfl, _⟩ | ⟨g, cap, cur, rfl, _, hg, _⟩
  · simp [Value.ownBlock]
  · rcases h2.2 with ⟨h, _⟩ | ⟨g', cap', cur', h, _, hg', _⟩
    · cases h
    · cases h
      intro e
      have : g = g2 := by simpa [Value.ownBlock] using e
      subst this
      rw [hg] at hg'
      injection hg' with hg'
      injection hg' with _ ht
      exact hne ht

theorem OwnsOps.nil (w : World) (lo hi : Nat) (G C : Nat → Nat) (F : Nat → OpD) : OwnsOps w lo hi (.slice none 0 0) 0 G C F :=
  ⟨World.ownsRow_nil _ _ _ _, fun k h => by simp [Value.ownBlock] at h, fun j hj => by omega, fun j hj => by omega, fun i j hi => by omega⟩
theorem OwnsOps.hi_mono {w : World} {lo hi hi' : Nat} {v : Value} {n : Nat} {G C : Nat → Nat} {F : Nat → OpD} (h : OwnsOps w lo hi v n G C F) (hh : hi ≤ hi') : OwnsOps w lo hi' v n G C F :=
  ⟨h.row, fun k hk => Nat.lt_of_lt_of_le (h.rowlt k hk) hh, h.tab, fun j hj => Nat.lt_of_lt_of_le (h.lt j hj) hh, h.inj⟩
theorem ownsRow_base {W : World} {b b' : Nat} {e : TypeId} {size : Nat} {v : Value} {k : Nat} {xs : List Value} (h : W.ownsRow b e size v k xs) (hb : b' ≤ b) : W.ownsRow b' e size v k xs := by
  refine ⟨h.1, ?_⟩
  rcases h.2 with h2 | ⟨g, cap, cur, h1, h2, h3⟩
  · exact .inl h2
  · exact .inr ⟨g, cap, cur, h1, by omega, h3⟩
theorem OwnsOps.lo_mono {w : World} {lo lo' hi : Nat} {v : Value} {n : Nat} {G C : Nat → Nat} {F : Nat → OpD} (h : OwnsOps w lo hi v n G C F) (hh : lo' ≤ lo) : OwnsOps w lo' hi v n G C F :=
  ⟨ownsRow_base h.row hh, h.rowlt, fun j hj => ownsRow_base (h.tab j hj) hh, h.lt, h.inj⟩
theorem OwnsOps.congr {w : World} {lo hi : Nat} {v : Value} {n : Nat} {G C G' C' : Nat → Nat} {F F' : Nat → OpD} (h : OwnsOps w lo hi v n G C F) (he : ∀ j, j < n → G j = G' j ∧ C j = C' j ∧ F j = F' j) : OwnsOps w lo hi v n G' C' F' := by
  refine ⟨by rw [← flatN_congr he]; exact h.row, h.rowlt, fun j hj => ?_, fun j hj => ?_, fun i j hi hj => ?_⟩
  · obtain ⟨a, b, c⟩ := he j hj
    have := h.tab j hj
    rw [a, b, c] at this
    exact this
  · rw [← (he j hj).1]; exact h.lt j hj
  · rw [← (he i hi).1, ← (he j hj).1]; exact h.inj i j hi hj

/-- Kept where the blocks in question stay. -/
theorem ownsRow_block {w w' : World} {b : Nat} {e : TypeId} {size : Nat} {v : Value} {k : Nat} {xs : List Value} (h : w.ownsRow b e size v k xs) (hk : ∀ g, v.ownBlock = some g → w'.heap[g]? = w.heap[g]?) : w'.ownsRow b e size v k xs := by
  refine ⟨h.1, ?_⟩
  rcases h.2 with h2 | ⟨g, cap, cur, rfl, hg, hh, hr⟩
  · exact .inl h2
  · exact .inr ⟨g, cap, cur, rfl, hg, by rw [hk g rfl]; exact hh, hr⟩
theorem OwnsOps.kept {w w' : World} {lo hi : Nat} {v : Value} {n : Nat} {G C : Nat → Nat} {F : Nat → OpD} (h : OwnsOps w lo hi v n G C F) (hk : Kept lo hi w w') : OwnsOps w' lo hi v n G C F :=
  ⟨ownsRow_block h.row fun g hg => hk g (h.row.lt g hg).1 (h.rowlt g hg), h.rowlt, fun j hj => ownsRow_block (h.tab j hj) fun g hg => hk g ((h.tab j hj).lt g hg).1 (by
    have : G j = g := by simpa [Value.ownBlock] using hg
    rw [← this]; exact h.lt j hj), h.lt, h.inj⟩
theorem OwnsOps.view {w : World} {lo hi n c : Nat} {ao : Option Addr} {G C : Nat → Nat} {F : Nat → OpD} (h : OwnsOps w lo hi (.slice ao n c) n G C F) : OView w lo hi ao n ((List.range n).map F) := by
  refine ⟨by simp, ?_⟩
  rcases h.row.2 with ⟨_, h0⟩ | ⟨g, cap, cur, he, hg, _⟩
  · exact .inl h0
  · cases he
    refine .inr ⟨g, 0, rfl, hg, h.rowlt g rfl, fun j f hf => ?_⟩
    have hj : j < n := by have := (List.getElem?_eq_some_iff.1 hf).1; simpa using this
    have hfj : F j = f := by rw [List.getElem?_map, List.getElem?_range hj] at hf; simpa using hf
    subst hfj
    obtain ⟨c0, c1⟩ := flatN_get (G := G) (C := C) (F := F) hj
    have ht := h.tab j hj
    obtain ⟨hlen, hcap⟩ : (F j).2.length ≤ C j ∧ C j ≤ maxLen := by
      rcases ht.2 with ⟨e, _⟩ | ⟨_, _, _, e, _, _, q1, q2, _⟩
      · cases e
      · cases e; exact ⟨q1, q2⟩
    refine ⟨_, _, _, ?_, ?_, hlen, hcap, ⟨rfl, .inr ⟨G j, 0, rfl, (ht.lt _ rfl).1, h.lt j hj, fun i x hx => ?_⟩⟩⟩
    · rw [Nat.zero_add, h.row.cellAt _ (by omega)]; exact c0
    · rw [Nat.zero_add, h.row.cellAt _ (by omega)]; exact c1
    · have hi2 : i < (F j).2.length := (List.getElem?_eq_some_iff.1 hx).1
      rw [Nat.zero_add, ht.cellAt i (by omega), List.getElem?_map, hx]; rfl

def upd {α : Type} (f : Nat → α) (k : Nat) (x : α) : Nat → α := fun j => if j = k then x else f j
theorem upd_same {α : Type} (f : Nat → α) (k : Nat) (x : α) : upd f k x k = x := if_pos rfl
theorem upd_other {α : Type} {f : Nat → α} {k j : Nat} {x : α} (h : j ≠ k) : upd f k x j = f j := if_neg h

/-- The tables alone. -/
structure OwnsTabs (w : World) (lo : Nat) (n : Nat) (G C : Nat → Nat) (F : Nat → OpD) : Prop where
  tab : ∀ j, j < n → w.ownsRow lo 3 1 (.slice (some ⟨G j, 0, none⟩) (F j).2.length (C j)) (F j).2.length ((F j).2.map (Value.int .i64))
  inj : ∀ i j, i < n → j < n → G i = G j → i = j
theorem OwnsTabs.nil (w : World) (lo : Nat) (G C : Nat → Nat) (F : Nat → OpD) : OwnsTabs w lo 0 G C F := ⟨fun j hj => by omega, fun i j hi => by omega⟩
theorem OwnsTabs.lt {w : World} {lo n : Nat} {G C : Nat → Nat} {F : Nat → OpD} (h : OwnsTabs w lo n G C F) {j : Nat} (hj : j < n) : lo ≤ G j ∧ G j < w.heap.size := (h.tab j hj).lt (G j) rfl
theorem OwnsTabs.below {w w1 : World} {lo n : Nat} {G C : Nat → Nat} {F : Nat → OpD} (h : OwnsTabs w lo n G C F) (hb : Below w.heap.size w w1) : OwnsTabs w1 lo n G C F :=
  ⟨fun j hj => (h.tab j hj).kept (grown_of_below hb none) (own_em _), h.inj⟩
theorem OwnsTabs.push {w w1 : World} {lo n g c : Nat} {G C : Nat → Nat} {F : Nat → OpD} {r : Int} {xs : List Int} (h : OwnsTabs w lo n G C F) (hb : Below w.heap.size w w1) (hlo : lo ≤ w.heap.size)
    (ht : w1.ownsRow w.heap.size 3 1 (.slice (some ⟨g, 0, none⟩) xs.length c) xs.length (xs.map (Value.int .i64))) : OwnsTabs w1 lo (n + 1) (upd G n g) (upd C n c) (upd F n (r, xs)) := by
  have hg := ht.lt g rfl
  refine ⟨fun j hj => ?_, fun i j hi hj he => ?_⟩
  · by_cases hjn : j = n
    · subst hjn
      rw [upd_same, upd_same, upd_same]
      exact ownsRow_base ht hlo
    · rw [upd_other hjn, upd_other hjn, upd_other hjn]
      exact (h.below hb).tab j (by omega)
  · by_cases hin : i = n <;> by_cases hjn : j = n
    · omega
    · rw [hin, upd_same, upd_other hjn] at he
      have := (h.lt (show j < n by omega)).2
      omega
    · rw [hjn, upd_same, upd_other hin] at he
      have := (h.lt (show i < n by omega)).2
      omega
    · rw [upd_other hin, upd_other hjn] at he
      exact h.inj i j (by omega) (by omega) he
theorem OwnsTabs.ops {w : World} {lo n : Nat} {v : Value} {G C : Nat → Nat} {F : Nat → OpD} (h : OwnsTabs w lo n G C F) (hr : w.ownsRow lo 66 2 v n (flatN n G C F)) : OwnsOps w lo w.heap.size v n G C F :=
  ⟨hr, fun k hk => (hr.lt k hk).2, h.tab, fun j hj => (h.lt hj).2, h.inj⟩
theorem OwnsTabs.setRow {w : World} {lo n : Nat} {G C : Nat → Nat} {F : Nat → OpD} (h : OwnsTabs w lo n G C F) {w' : World} {g : Nat} (hg : w.grownBy w' (some g)) (hne : ∀ j, j < n → G j ≠ g) : OwnsTabs w' lo n G C F :=
  ⟨fun j hj => (h.tab j hj).kept hg (.inr (by simpa [Value.ownBlock] using hne j hj)), h.inj⟩

/-- The row of operations while it is filled: k are there, behind them the cells Z that make laid. -/
def fillN (k : Nat) (G C : Nat → Nat) (F : Nat → OpD) (Z : List Value) : List Value := flatN k G C F ++ Z.drop (k * 2)
theorem fillN_zero (G C : Nat → Nat) (F : Nat → OpD) (Z : List Value) : fillN 0 G C F Z = Z := by simp [fillN, flatN_zero]
theorem fillN_all {n : Nat} {G C : Nat → Nat} {F : Nat → OpD} {Z : List Value} (h : Z.length = n * 2) : fillN n G C F Z = flatN n G C F := by simp [fillN, List.drop_of_length_le (Nat.le_of_eq h)]
theorem fillN_step {n k g c : Nat} {G C : Nat → Nat} {F : Nat → OpD} {Z : List Value} {r : Int} {xs : List Int} (hZ : Z.length = n * 2) (hk : k < n) :
    ((fillN k G C F Z).set (k * 2) (.int .i64 r)).set (k * 2 + 1) (.slice (some ⟨g, 0, none⟩) xs.length c) = fillN (k + 1) (upd G k g) (upd C k c) (upd F k (r, xs)) Z := by
  unfold fillN
  rw [flatN_succ, upd_same, upd_same, upd_same, flatN_congr (G := upd G k g) (C := upd C k c) (F := upd F k (r, xs)) (G' := G) (C' := C) (F' := F) fun j hj => ⟨upd_other (by omega), upd_other (by omega), upd_other (by omega)⟩]
  have hl := flatN_len k G C F
  have hd : Z.drop (k * 2) = Z[k * 2]'(by omega) :: Z[k * 2 + 1]'(by omega) :: Z.drop ((k + 1) * 2) := by
    rw [List.drop_eq_getElem_cons (by omega), List.drop_eq_getElem_cons (by omega)]
    rw [show k * 2 + 1 + 1 = (k + 1) * 2 by omega]
  rw [hd, List.set_append_right _ _ (by omega), hl, Nat.sub_self, List.set_cons_zero, List.set_append_right _ _ (by omega), hl, show k * 2 + 1 - k * 2 = 1 by omega, List.append_assoc]
  rfl

theorem map_range_get (fs : List OpD) : (List.range fs.length).map (fun j => fs.getD j (0, [])) = fs := by
  apply List.ext_getElem?
  intro i
  by_cases h : i < fs.length
  · simp [h, List.getD]
  · simp [h]

end Go.Proofs.Ytcmjkfcgekmomaa
