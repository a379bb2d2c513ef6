/-
  Which blocks a search turns: only those of some types, from a block on; arrays of eight in regions that draw. No condition.
-/
import Derived.Test.YtmlimbjpehjfnaaSrcM
namespace Go.Proofs.Ytmlimbjpehjfnaa
open Go.RowKit
set_option linter.unusedVariables false
set_option linter.unusedSimpArgs false

theorem ld8Y {ops : Array Oper} {S : World → Prop} {op : Oper} {a : Act} {g : Nat} {f : Nat → Int} (hw : Region.wanted op (yielded ops a.tmps) = true) (x : Operand) (ho : op.op = .load 51 x)
    (hx : a.eval x = .pointer (some ⟨g, 0, none⟩)) (hS : ∀ w, S w → ArrAt w g f) : YieldsIf Try.prog ops S op (.agg (arrV f)) a :=
  .inl ⟨hw, fun w hw' => by
    unfold execOp
    simp only [ho, hx, Instr.loadAt, Instr.sureAddr, Sem.run_bind, Sem.run_pure, Result.andThen_ok, (hS w hw').loadV]⟩
theorem step_st8 {ops : Array Oper} {o : Oper} {a : Act} {w : World} {K : Act → World → Prop} {Q : Exit → Act → World → Prop} {E : Prop} {g : Nat} {f f' : Nat → Int} (h : ArrAt w g f) (hgd : o.guard = none) (x y : Operand) (ho : o.op = .store 51 x y)
    (hx : a.eval x = .pointer (some ⟨g, 0, none⟩)) (hy : a.eval y = .agg (arrV f')) (k : K (a.put o.dst undef) (w.setRow g (arrV f'))) : if Region.wanted o (yielded ops a.tmps) = true then Oper.wp Try.prog o a w K Q else E := by
  have hw : Region.wanted o (yielded ops a.tmps) = true := by simp [Region.wanted, hgd]
  rw [if_pos hw]
  exact wp_store_row 51 x y ho g (arrV f') hx hy 51 (arrV f) h info8 rfl (arrV_one f') k
theorem step_ld8 {ops : Array Oper} {o : Oper} {a : Act} {w : World} {K : Act → World → Prop} {Q : Exit → Act → World → Prop} {E : Prop} {g : Nat} {f : Nat → Int} (h : ArrAt w g f) (hgd : o.guard = none) (x : Operand) (ho : o.op = .load 51 x)
    (hx : a.eval x = .pointer (some ⟨g, 0, none⟩)) (k : K (a.put o.dst (.agg (arrV f))) w) : if Region.wanted o (yielded ops a.tmps) = true then Oper.wp Try.prog o a w K Q else E := by
  have hw : Region.wanted o (yielded ops a.tmps) = true := by simp [Region.wanted, hgd]
  rw [if_pos hw]
  exact wp_load_row 51 x ho g hx 51 (arrV f) (0, 0) _ h Try.underlying51 rfl info8 k

/-- Only blocks from bs on, of some types, may have turned, each keeping its type; new ones have come. -/
structure Turn (bs : Nat) (TT : Nat → Bool) (w w' : World) : Prop where
  os : w'.os = w.os
  tape : w'.tape = w.tape
  output : w'.output = w.output
  size : w.heap.size ≤ w'.heap.size
  block : ∀ k, k < w.heap.size → w'.heap[k]? = w.heap[k]? ∨ (bs ≤ k ∧ ∃ cs T fr, w.heap[k]? = some (.cells cs T fr) ∧ TT T = true)
theorem Turn.of_below {bs : Nat} {TT : Nat → Bool} {w w' : World} (h : Below w.heap.size w w') : Turn bs TT w w' := ⟨h.os, h.tape, h.output, h.size, fun k hk => .inl (h.block k hk)⟩
theorem Turn.refl (bs : Nat) (TT : Nat → Bool) (w : World) : Turn bs TT w w := .of_below (Below.refl _ _)
theorem Turn.drew {bs : Nat} {TT : Nat → Bool} {w w' : World} (h : Turn bs TT w w') : Turn bs TT w w'.drew := ⟨h.os, h.tape, h.output, h.size, h.block⟩
theorem Turn.trans {bs : Nat} {TT : Nat → Bool} {a b c : World} (h : Turn bs TT a b) (k : Turn bs TT b c) : Turn bs TT a c := by
  refine ⟨k.os.trans h.os, k.tape.trans h.tape, k.output.trans h.output, Nat.le_trans h.size k.size, fun i hi => ?_⟩
  rcases h.block i hi with h1 | h1
  · rcases k.block i (by have := h.size; omega) with k1 | ⟨k0, cs, T, fr, k1, k2⟩
    · exact .inl (k1.trans h1)
    · exact .inr ⟨k0, cs, T, fr, h1 ▸ k1, k2⟩
  · exact .inr h1
theorem Turn.mono {bs bs' : Nat} {TT TT' : Nat → Bool} {w w' : World} (h : Turn bs TT w w') (hb : bs' ≤ bs) (hT : ∀ T, TT T = true → TT' T = true) : Turn bs' TT' w w' :=
  ⟨h.os, h.tape, h.output, h.size, fun k hk => (h.block k hk).imp id fun ⟨h0, cs, T, fr, h1, h2⟩ => ⟨by omega, cs, T, fr, h1, hT T h2⟩⟩
theorem Turn.below {bs : Nat} {TT : Nat → Bool} {w w' : World} (h : Turn bs TT w w') (hb : bs ≤ w.heap.size) : Below bs w w' :=
  ⟨h.os, h.tape, h.output, h.size, fun k hk => (h.block k (by omega)).elim id fun h' => by omega⟩
theorem Turn.keep {bs : Nat} {TT : Nat → Bool} {w w' : World} (h : Turn bs TT w w') {k : Nat} {cs : Array Value} {T : Nat} {fr : Nat × Nat} (hk : w.heap[k]? = some (.cells cs T fr)) (hT : TT T = false) : w'.heap[k]? = some (.cells cs T fr) := by
  rcases h.block k (Array.getElem?_eq_some_iff.1 hk).1 with h1 | ⟨_, cs2, T2, fr2, h1, h2⟩
  · exact h1.trans hk
  · rw [hk] at h1
    injection h1 with h1
    injection h1 with _ e _
    subst e
    rw [hT] at h2; cases h2
theorem Turn.arr {bs : Nat} {TT : Nat → Bool} {w w' : World} {g : Nat} {f : Nat → Int} (h : Turn bs TT w w') (hA : ArrAt w g f) (hT : TT 51 = false) : ArrAt w' g f := h.keep hA hT
theorem Turn.setRow {bs : Nat} {TT : Nat → Bool} {w : World} {g : Nat} {cs cs' : Array Value} {T : Nat} (hg : w.heap[g]? = some (.cells cs T (0, 0))) (hb : bs ≤ g) (hT : TT T = true) : Turn bs TT w (w.setRow g cs') := by
  refine ⟨rfl, rfl, rfl, by rw [setRow_size]; exact Nat.le_refl _, fun k hk => ?_⟩
  by_cases h : k = g
  · subst h
    exact .inr ⟨hb, cs, T, _, hg, hT⟩
  · left
    unfold World.setRow
    show (w.heap.modify g _)[k]? = _
    rw [Array.getElem?_modify, if_neg (fun e => h e.symm)]
theorem Turn.setCell {bs : Nat} {TT : Nat → Bool} {w : World} {g : Nat} {cs : Array Value} {T : Nat} (hg : w.heap[g]? = some (.cells cs T (0, 0))) (hb : bs ≤ g) (hT : TT T = true) (k : Nat) (v : Value) : Turn bs TT w (w.setCell ⟨g, k, none⟩ v) := by
  rw [setCell_eq_setRow w g k _ _ _ _ hg]; exact Turn.setRow hg hb hT

/-- What an append turns. -/
theorem Turn.grown {bs : Nat} {TT : Nat → Bool} {w w' : World} {B e s n : Nat} {v : Value} {xs : List Value} (hr : w.ownsRow B e s v n xs) (h : w.grownBy w' v.ownBlock) (hb : bs ≤ B) (hT : TT e = true) : Turn bs TT w w' := by
  refine ⟨h.os, h.tape, h.output, h.size, fun k hk => ?_⟩
  by_cases hv : v.ownBlock = some k
  · rcases hr.2 with ⟨h1, _⟩ | ⟨g2, cap, cur, h1, h0, hc, _⟩
    · subst h1; simp [Value.ownBlock] at hv
    · subst h1
      have : g2 = k := by simpa [Value.ownBlock] using hv
      subst this
      exact .inr ⟨by omega, cur, e, _, hc, hT⟩
  · exact .inl (h.block k hk (fun e => hv e.symm))
theorem Turn.row {bs : Nat} {TT : Nat → Bool} {w w' : World} (h : Turn bs TT w w') {B e s n : Nat} {v : Value} {xs : List Value} (hr : w.ownsRow B e s v n xs) (hT : TT e = false) : w'.ownsRow B e s v n xs :=
  ownsRow_block hr fun g hg => by
    rcases hr.2 with ⟨h1, _⟩ | ⟨g2, cap, cur, h1, _, hb, _⟩
    · subst h1; simp [Value.ownBlock] at hg
    · subst h1
      have : g2 = g := by simpa [Value.ownBlock] using hg
      subst this
      rw [h.keep hb hT, hb]
/-- The types that a search turns: what is found, and then the search itself; and what a round turns besides. -/
def tT1 (T : Nat) : Bool := T == 26 || T == 42
def tT2 (T : Nat) : Bool := T == 51 || T == 89
def tTA (T : Nat) : Bool := T == 26 || T == 42 || T == 89
theorem tT1_A : ∀ T, tT1 T = true → tTA T = true := fun T h => by
  unfold tT1 at h; unfold tTA; rw [h]; rfl

/-- The first open place, told by what is there. -/
theorem firstOpen_cases (f : Nat → Int) (l : Nat) : (firstOpen f l = none ∧ ∀ k, k < l → ¬ f k = -1) ∨ (∃ x, firstOpen f l = some x ∧ x < l ∧ f x = -1 ∧ ∀ k, k < x → ¬ f k = -1) := by
  have h : (∀ k, k < l → ¬ f k = -1) ∨ ∃ x, x < l ∧ f x = -1 ∧ ∀ k, k < x → ¬ f k = -1 := by
    induction l with
    | zero => exact .inl fun k hk => by omega
    | succ l ih =>
      rcases ih with h | ⟨x, a, b, c⟩
      · by_cases he : f l = -1
        · exact .inr ⟨l, by omega, he, h⟩
        · refine .inl fun k hk => ?_
          by_cases hk2 : k = l
          · subst hk2; exact he
          · exact h k (by omega)
      · exact .inr ⟨x, by omega, b, c⟩
  rcases h with h | ⟨x, a, b, c⟩
  · exact .inl ⟨firstOpen_none h, h⟩
  · exact .inr ⟨x, firstOpen_some a b c, a, b, c⟩

end Go.Proofs.Ytmlimbjpehjfnaa
