/-
  Plain mathematics on algebras (a size and a list of operations, each an arity and a table), and what it means that memory reads as one. No condition.
-/
import Derived.Test.YtcmjkfcgekmomaaProg
import Derived.WalkKit
import Derived.Lib.Hide
import Derived.Deep.QuietTactic
import Derived.BigQuiet
import Derived.WalkSmall
import Derived.WalkLawsBesides
import Derived.Deep.LoopGhost
import Derived.Deep.Draws
import Derived.Maps.AppendAt
namespace Go.Proofs.Ytcmjkfcgekmomaa
open Go.RowKit

theorem ret_int {k : IntKind} {a b : Int} (h : a = b) : Ending.returned (.int k a) = .returned (.int k b) := by rw [h]
theorem ret_bool {a b : Bool} (h : a = b) : Ending.returned (.bool a) = .returned (.bool b) := by rw [h]

/-- An operation: its arity and its table. -/
abbrev OpD := Int × List Int

/-- The blocks from lo on, below hi, are as they were. -/
def Kept (lo hi : Nat) (w w' : World) : Prop := ∀ k, lo ≤ k → k < hi → w'.heap[k]? = w.heap[k]?
theorem Kept.cell {lo hi : Nat} {w w' : World} (h : Kept lo hi w w') {p : Addr} (h1 : lo ≤ p.block) (h2 : p.block < hi) : w'.cell? p = w.cell? p := World.cell?_of_block (h _ h1 h2)
theorem Kept.of_below {lo hi B : Nat} {w w' : World} (h : Below B w w') (hb : hi ≤ B) : Kept lo hi w w' := fun k _ h2 => h.block k (by omega)
theorem Kept.drewN {lo hi : Nat} (w : World) (q : Nat) : Kept lo hi w (w.drewN q) := fun _ _ _ => rfl
theorem Kept.trans {lo hi : Nat} {a b c : World} (h : Kept lo hi a b) (k : Kept lo hi b c) : Kept lo hi a c := fun j h1 h2 => (k j h1 h2).trans (h j h1 h2)
theorem Kept.mono {lo hi lo' hi' : Nat} {a b : World} (h : Kept lo hi a b) (h1 : lo ≤ lo') (h2 : hi' ≤ hi) : Kept lo' hi' a b := fun j h3 h4 => h j (by omega) (by omega)

/-- The slice '.slice ao n c' reads as the integers xs, and lies in a block from lo on, below hi. -/
def IView (w : World) (lo hi : Nat) (ao : Option Addr) (n : Nat) (xs : List Int) : Prop :=
  xs.length = n ∧ (n = 0 ∨ ∃ b o, ao = some ⟨b, o, none⟩ ∧ lo ≤ b ∧ b < hi ∧ ∀ j x, xs[j]? = some x → w.cell? ⟨b, o + j, none⟩ = some (.int .i64 x))
theorem IView.kept {w w' : World} {lo hi : Nat} {ao : Option Addr} {n : Nat} {xs : List Int} (h : IView w lo hi ao n xs) (hk : Kept lo hi w w') : IView w' lo hi ao n xs := by
  obtain ⟨h1, h2 | ⟨b, o, rfl, hl, hh, hc⟩⟩ := h
  · exact ⟨h1, .inl h2⟩
  · exact ⟨h1, .inr ⟨b, o, rfl, hl, hh, fun j x hx => (hk.cell (p := ⟨b, o + j, none⟩) hl hh).trans (hc j x hx)⟩⟩
theorem IView.mono {w : World} {lo hi lo' hi' : Nat} {ao : Option Addr} {n : Nat} {xs : List Int} (h : IView w lo hi ao n xs) (h1 : lo' ≤ lo) (h2 : hi ≤ hi') : IView w lo' hi' ao n xs := by
  obtain ⟨h3, h4 | ⟨b, o, rfl, hl, hh, hc⟩⟩ := h
  · exact ⟨h3, .inl h4⟩
  · exact ⟨h3, .inr ⟨b, o, rfl, by omega, by omega, hc⟩⟩
theorem IView.at_ {w : World} {lo hi : Nat} {ao : Option Addr} {n : Nat} {xs : List Int} (h : IView w lo hi ao n xs) (h0 : 0 < n) : ∃ b o, ao = some ⟨b, o, none⟩ ∧ lo ≤ b ∧ b < hi ∧ ∀ j x, xs[j]? = some x → w.cell? ⟨b, o + j, none⟩ = some (.int .i64 x) := by
  rcases h.2 with h2 | h2
  · omega
  · exact h2

/-- The slice '.slice ao n c' reads as the operations fs; it and the tables lie in blocks from lo on, below hi. -/
def OView (w : World) (lo hi : Nat) (ao : Option Addr) (n : Nat) (fs : List OpD) : Prop :=
  fs.length = n ∧ (n = 0 ∨ ∃ b o, ao = some ⟨b, o, none⟩ ∧ lo ≤ b ∧ b < hi ∧ ∀ j f, fs[j]? = some f → ∃ a m c, w.cell? ⟨b, o + j * 2, none⟩ = some (.int .i64 f.1) ∧ w.cell? ⟨b, o + j * 2 + 1, none⟩ = some (.slice a m c) ∧ m ≤ c ∧ c ≤ maxLen ∧ IView w lo hi a m f.2)
theorem OView.kept {w w' : World} {lo hi : Nat} {ao : Option Addr} {n : Nat} {fs : List OpD} (h : OView w lo hi ao n fs) (hk : Kept lo hi w w') : OView w' lo hi ao n fs := by
  obtain ⟨h1, h2 | ⟨b, o, rfl, hl, hh, hc⟩⟩ := h
  · exact ⟨h1, .inl h2⟩
  · refine ⟨h1, .inr ⟨b, o, rfl, hl, hh, fun j f hf => ?_⟩⟩
    obtain ⟨a, m, c, c0, c1, hm, hcm, hv⟩ := hc j f hf
    exact ⟨a, m, c, (hk.cell (p := ⟨b, _, none⟩) hl hh).trans c0, (hk.cell (p := ⟨b, _, none⟩) hl hh).trans c1, hm, hcm, hv.kept hk⟩
theorem OView.mono {w : World} {lo hi lo' hi' : Nat} {ao : Option Addr} {n : Nat} {fs : List OpD} (h : OView w lo hi ao n fs) (h1 : lo' ≤ lo) (h2 : hi ≤ hi') : OView w lo' hi' ao n fs := by
  obtain ⟨h3, h4 | ⟨b, o, rfl, hl, hh, hc⟩⟩ := h
  · exact ⟨h3, .inl h4⟩
  · refine ⟨h3, .inr ⟨b, o, rfl, by omega, by omega, fun j f hf => ?_⟩⟩
    obtain ⟨a, m, c, c0, c1, hm, hcm, hv⟩ := hc j f hf
    exact ⟨a, m, c, c0, c1, hm, hcm, hv.mono h1 h2⟩
theorem OView.at_ {w : World} {lo hi : Nat} {ao : Option Addr} {n : Nat} {fs : List OpD} (h : OView w lo hi ao n fs) (h0 : 0 < n) : ∃ b o, ao = some ⟨b, o, none⟩ ∧ lo ≤ b ∧ b < hi ∧ ∀ j f, fs[j]? = some f → ∃ a m c, w.cell? ⟨b, o + j * 2, none⟩ = some (.int .i64 f.1) ∧ w.cell? ⟨b, o + j * 2 + 1, none⟩ = some (.slice a m c) ∧ m ≤ c ∧ c ≤ maxLen ∧ IView w lo hi a m f.2 := by
  rcases h.2 with h2 | h2
  · omega
  · exact h2

theorem get_of_lt {α : Type} {xs : List α} {k n : Nat} (hn : xs.length = n) (h : k < n) : ∃ x, xs[k]? = some x := ⟨xs[k]'(by omega), List.getElem?_eq_getElem (by omega)⟩

def osum (fs : List OpD) : Nat := (fs.map (fun f => f.2.length)).sum
theorem osum_succ {fs : List OpD} {k : Nat} {f : OpD} (h : fs[k]? = some f) : osum (fs.take (k + 1)) = osum (fs.take k) + f.2.length := by
  rw [List.take_add_one, h]; simp [osum]
theorem osum_take_le (fs : List OpD) (k : Nat) : osum (fs.take k) ≤ osum fs := by
  induction fs generalizing k with
  | nil => simp [osum]
  | cons y r ih =>
    cases k with
    | zero => simp [osum]
    | succ k =>
      have := ih k
      simp only [osum, List.take_succ_cons, List.map_cons, List.sum_cons] at this ⊢
      omega
theorem osum_all {fs : List OpD} {k : Nat} (h : fs.length ≤ k) : osum (fs.take k) = osum fs := by rw [List.take_of_length_le h]
theorem osum_get {fs : List OpD} {k : Nat} {f : OpD} (h : fs[k]? = some f) : f.2.length ≤ osum fs := by
  have h1 := osum_take_le fs (k + 1)
  rw [osum_succ h] at h1
  omega

theorem IView.of_owns {w : World} {B e g n cap : Nat} {xs : List Int} (h : w.ownsRow B e 1 (.slice (some ⟨g, 0, none⟩) n cap) n (xs.map (Value.int .i64))) {hi : Nat} (hh : w.heap.size ≤ hi) : IView w B hi (some ⟨g, 0, none⟩) n xs := by
  have hl : xs.length = n := by have := h.1; simpa using this
  have hlt := h.lt g rfl
  refine ⟨hl, .inr ⟨g, 0, rfl, hlt.1, by omega, fun j x hx => ?_⟩⟩
  have hj : j < xs.length := (List.getElem?_eq_some_iff.1 hx).1
  rw [Nat.zero_add, h.cellAt j (by omega), List.getElem?_map, hx]; rfl

theorem below_drawn {B : Nat} {w w1 w2 : World} (h : Below B w w1) (hd : ∃ q, w2 = w1.drewN q) : Below B w w2 := by
  obtain ⟨q, rfl⟩ := hd
  exact below_drewN h q
theorem grown_of_below {w w' : World} (h : Below w.heap.size w w') (row : Option Nat) : w.grownBy w' row := ⟨h.os, h.tape, h.output, h.size, fun k hk _ => h.block k hk⟩
theorem quiet_add_left {P : Program} {f : FuncId} {args : Array Value} {w : World} {a n : Nat} {v : Value}
    (h : Calls P f args (w.drewN (a + n)) fun e w' => e = .returned v ∧ w.drewN (a + n) = w') :
    Calls P f args (w.drewN (a + n)) fun e w'' => e = .returned v ∧ ∃ m, w'' = w.drewN (a + m) :=
  h.mono fun _ _ ⟨he, hm⟩ => ⟨he, n, hm.symm⟩
theorem quiet_left {P : Program} {f : FuncId} {args : Array Value} {w : World} {n : Nat} {v : Value}
    (h : Calls P f args (w.drewN n) fun e w' => e = .returned v ∧ w.drewN n = w') : Calls P f args (w.drewN n) fun e w'' => e = .returned v ∧ ∃ m, w'' = w.drewN m :=
  h.mono fun _ _ ⟨he, hm⟩ => ⟨he, n, hm.symm⟩

/-- Every old cell and every old mark reads as before. -/
theorem bcell {W w1 : World} (hb : Below W.heap.size W w1) : (∀ b o, b < W.heap.size → w1.cell? ⟨b, o, none⟩ = W.cell? ⟨b, o, none⟩) ∧ (∀ b o, b < W.heap.size → w1.frozen? ⟨b, o, none⟩ = W.frozen? ⟨b, o, none⟩) :=
  ⟨fun b o h => hb.cell (p := ⟨b, o, none⟩) h, fun b o h => hb.frozen (p := ⟨b, o, none⟩) h⟩
theorem own_em (v : Value) : v.ownBlock = none ∨ v.ownBlock ≠ none := Classical.em _

end Go.Proofs.Ytcmjkfcgekmomaa
