/-
  A region that draws its order, in which loads are taken first, within a fence: what is taken yields its value in every world that meets S. Over whatever program. No condition of its own.
-/
import Derived.OrdersIn
import Derived.OrdersHeld
namespace Go.Proofs.Ytcmjkfcgekmomaa
set_option linter.unusedVariables false
variable {F : Fence} {n : Nat} {P : Program} {ops : Array Oper} {Q : Exit → Act → World → Prop} {md : Region.Mode} {S : World → Prop}

/-- The state behind an operation: its temporary, and what it defers. -/
def Behind (o : Oper) (a a' : Act) : Prop := ∃ u ds, a' = ({ a with defers := ds } : Act).put o.dst u
/-- Taken first: it yields v in every world that meets S, and calls nothing. -/
def Takes (P : Program) (ops : Array Oper) (S : World → Prop) (o : Oper) (v : Value) (a : Act) : Prop := YieldsIf P ops S o v a ∧ ∀ w, o.about P w a.eval = none

theorem Takes.behind {oi oj : Oper} {v : Value} {a a' : Act} (h : Takes P ops S oi v a) (hs : ∀ cs b, oi.op ≠ .select cs b) (hd : ∀ d, oj.dst = some d → d ∉ oi.looksAt ops) (hb : Behind oj a a') : Takes P ops S oi v a' := by
  obtain ⟨u, ds, rfl⟩ := hb
  have e1 : execOp (({ a with defers := ds } : Act).put oj.dst u).eval oi = execOp a.eval oi := execOp_put oi hs { a with defers := ds } oj.dst u hd
  have e2 : Region.wanted oi (yielded ops (({ a with defers := ds } : Act).put oj.dst u).tmps) = Region.wanted oi (yielded ops a.tmps) := wanted_put oi { a with defers := ds } oj.dst u hd
  exact ⟨h.1.of_same e1 e2, fun w => (about_put (P := P) (ops := ops) oi w { a with defers := ds } oj.dst u hd).trans (h.2 w)⟩
theorem Takes.run {i : Nat} {o : Oper} {v : Value} {a : Act} {w : World} {K : Act → World → Prop} (h : Takes P ops S o v a) (hro : F.round = none) (hi : ops[i]? = some o) (hS : S w) (hK : K (a.put o.dst v) w) : wpOpIn F n P ops Q i K a w := by
  have hab : ∀ f, o.about P w a.eval = some f → F.fn f := fun f e => by rw [h.2 w] at e; cases e
  unfold wpOpIn
  rw [hi]
  rcases h.1 with ⟨hw, hv⟩ | ⟨hw, rfl⟩
  · simp only [hw, if_true, Oper.wpIn, hro, Oper.semAt_none, hv w hS, Oper.uponIn]; exact ⟨hab, hK⟩
  · simp only [hw, Bool.false_eq_true, if_false]; exact ⟨hab, hK⟩

/-- Whether one's value is there already is all the same to the other one. -/
theorem wpOpIn_swap {j : Nat} {oi oj : Oper} {v : Value} (hro : F.round = none) (hj : ops[j]? = some oj) (hap : oi.apart ops oj = true) (hsj : ∀ cs b, oj.op ≠ .select cs b)
    (hQ : ∀ c a w, Q (.panic c) (a.put oi.dst v) w → Q (.panic c) a w) {K : Act → World → Prop} {a : Act} {w : World}
    (h : wpOpIn F n P ops Q j K (a.put oi.dst v) w) : wpOpIn F n P ops Q j (fun a' w' => Behind oj a a' ∧ K (a'.put oi.dst v) w') a w := by
  obtain ⟨h1, h2, _⟩ := Oper.apart_spec hap
  have val : ∀ (u : Value) (w' : World), K ((a.put oi.dst v).put oj.dst u) w' → Behind oj a (a.put oj.dst u) ∧ K ((a.put oj.dst u).put oi.dst v) w' := fun u w' hk =>
    ⟨⟨u, a.defers, rfl⟩, by rw [← Act.put_comm a v u h2]; exact hk⟩
  unfold wpOpIn at h ⊢
  rw [hj] at h ⊢
  dsimp only at h ⊢
  rw [wanted_put oj a oi.dst v h1, about_put oj w a oi.dst v h1] at h
  by_cases hw : Region.wanted oj (yielded ops a.tmps) = true
  · rw [if_pos hw] at h ⊢
    unfold Oper.wpIn at h ⊢
    rw [about_put oj w a oi.dst v h1, hro, Oper.semAt_none, execOp_put oj hsj a oi.dst v h1] at h
    rw [hro, Oper.semAt_none]
    obtain ⟨hf, h⟩ := h
    refine ⟨hf, ?_⟩
    generalize (execOp a.eval oj).run P w = r at h
    rcases r with ⟨x, w'⟩ | ⟨x, w'⟩
    · cases x with
      | value u => exact val u w' h
      | skip => exact val undef w' h
      | defer d => exact ⟨⟨undef, d :: a.defers, rfl⟩, by rw [← Act.put_comm _ v undef h2, ← Act.put_defers]; exact h⟩
      | enter f args =>
        exact ⟨h.1, CallsIn.mono h.2 fun e w2 he => by
          cases e with
          | returned u => exact val u w2 he
          | panicked c => exact hQ _ _ _ he
          | outgrown => exact he⟩
      | row row args => exact ⟨h.1, RowsIn.mono h.2 fun u w2 he => val u w2 he⟩
      | round l f tmps assign body =>
        exact ⟨h.1, RoundIn.mono h.2 fun e w2 he => by
          cases e with
          | returned u => exact val u w2 he
          | panicked c => exact hQ _ _ _ he
          | outgrown => exact he⟩
      | _ => exact False.elim h
    · cases x with
      | panic c => exact hQ _ _ _ h
      | _ => exact h
  · rw [if_neg hw] at h ⊢
    exact ⟨h.1, val undef w h.2⟩

/-- Members of the chain other than i wait for a member, and none has come up: so none of them comes up ahead of i. -/
def chainB (md : Region.Mode) (ops : Array Oper) (listed : Array Bool) (i : Nat) (ch : List Nat) : Bool :=
  ch.all fun p => !(listed.getD p true) && (p == i || (match ops[p]? with | some o => o.after.any (fun e => Region.binds md e && ch.contains e.on) | none => true))
theorem chain_out {listed : Array Bool} {i j : Nat} {oj : Oper} {ch : List Nat} (h : chainB md ops listed i ch = true) (hji : j ≠ i) (hoj : ops[j]? = some oj) (hr : ∀ e ∈ oj.after, Region.binds md e = true → listed.getD e.on false = true) : j ∉ ch := by
  intro hm
  have h1 := List.all_eq_true.1 h j hm
  rw [hoj] at h1
  simp only [Bool.and_eq_true, Bool.or_eq_true, beq_iff_eq, Array.any_eq_true', List.contains_iff_mem] at h1
  rcases h1.2 with h2 | ⟨e, he, hb, hc⟩
  · exact hji h2
  · have h3 := hr e he hb
    have h4 := List.all_eq_true.1 h e.on hc
    simp only [Bool.and_eq_true, Bool.not_eq_true'] at h4
    have h5 := h4.1
    rw [Array.getD_eq_getD_getElem?] at h5 h3
    cases hx : listed[e.on]? with
    | none => rw [hx] at h3; cases h3
    | some b => rw [hx] at h3 h5; cases b <;> simp at h3 h5
theorem chain_set {listed : Array Bool} {i j : Nat} {ch : List Nat} (h : chainB md ops listed i ch = true) (hj : j ∉ ch) : chainB md ops (listed.setIfInBounds j true) i ch = true := by
  unfold chainB at h ⊢
  rw [List.all_eq_true] at h ⊢
  intro p hp
  have hne : j ≠ p := fun e => hj (e ▸ hp)
  rw [getD_set_ne true hne]
  exact h p hp

/-- Whatever order is picked, up to operation c; S is shown behind each operation ahead of it. -/
def wpAnyS (F : Fence) (n : Nat) (P : Program) (md : Region.Mode) (ops : Array Oper) (Q : Exit → Act → World → Prop) (S : World → Prop) (c : Nat) : Nat → Array Bool → Act → World → Prop
  | 0, listed, a, w => Region.ready md ops listed = [] ∧ Q .normal a w
  | fuel + 1, listed, a, w => (Region.ready md ops listed = [] → Q .normal a w) ∧
    ∀ i ∈ Region.ready md ops listed, wpOpIn F n P ops Q i (fun a' w' => if i = c then wpAnyIn F n P md ops Q fuel (listed.setIfInBounds i true) a' w' else S w' ∧ wpAnyS F n P md ops Q S c fuel (listed.setIfInBounds i true) a' w') a w
theorem wpAnyS.any {c : Nat} : ∀ (fuel : Nat) (listed : Array Bool) (a : Act) (w : World), wpAnyS F n P md ops Q S c fuel listed a w → wpAnyIn F n P md ops Q fuel listed a w
  | 0, _, _, _, h => h
  | fuel + 1, _, _, _, h => ⟨h.1, fun i hi => wpOpIn_mono (fun a' w' k => by
      by_cases hc : i = c
      · rw [if_pos hc] at k; exact k
      · rw [if_neg hc] at k; exact wpAnyS.any fuel _ a' w' k.2) (h.2 i hi)⟩

theorem wpAnyS_first {i c : Nat} {oi : Oper} {v : Value} {ch : List Nat} (hro : F.round = none) (hi : ops[i]? = some oi) (hic : i ≠ c) (hcc : c ∈ ch) (hsel : ∀ (j : Nat) (o : Oper) cs b, ops[j]? = some o → o.op ≠ .select cs b)
    (hQ : ∀ c a w, Q (.panic c) (a.put oi.dst v) w → Q (.panic c) a w) : ∀ (fuel : Nat) (listed : Array Bool) (a : Act) (w : World),
      (∀ j oj, ops[j]? = some oj → j ≠ i → listed.getD j true = false → (∀ e ∈ oj.after, Region.binds md e = true → e.on ≠ i) → oi.apart ops oj = true) →
      chainB md ops listed i ch = true → i ∈ Region.ready md ops listed → Takes P ops S oi v a → S w →
      wpAnyS F n P md ops Q S c fuel (listed.setIfInBounds i true) (a.put oi.dst v) w → wpAnyS F n P md ops Q S c (fuel + 1) listed a w
  | 0, listed, a, w, _, _, hr, hy, hS, H => by
    refine ⟨fun e => (by rw [e] at hr; cases hr), fun j hj => ?_⟩
    by_cases hji : j = i
    · subst hji; exact hy.run hro hi hS (by rw [if_neg hic]; exact ⟨hS, H⟩)
    · have h0 := ready_mono hj hji
      rw [H.1] at h0; cases h0
  | fuel + 1, listed, a, w, hfree, hch, hr, hy, hS, H => by
    refine ⟨fun e => (by rw [e] at hr; cases hr), fun j hj => ?_⟩
    by_cases hji : j = i
    · subst hji; exact hy.run hro hi hS (by rw [if_neg hic]; exact ⟨hS, H⟩)
    obtain ⟨hun, oj, hoj, hall⟩ := mem_ready.1 hj
    have hjc : j ∉ ch := chain_out hch hji hoj fun e he hb => hall e he hb
    have hne : j ≠ c := fun e => hjc (e ▸ hcc)
    have hno : ∀ e ∈ oj.after, Region.binds md e = true → e.on ≠ i := fun e he hb heq => by
      have k1 := hall e he hb
      have k0 := (mem_ready.1 hr).1
      rw [heq] at k1
      rcases Nat.lt_or_ge i listed.size with h' | h'
      · simp [h'] at k0 k1; rw [k0] at k1; cases k1
      · simp [Array.getElem?_eq_none h'] at k1
    have hap := hfree j oj hoj hji hun hno
    have h2 := wpOpIn_swap hro hoj hap (fun cs b => hsel j oj cs b hoj) hQ (H.2 j (ready_mono hj hji))
    refine wpOpIn_mono (fun a' w' k => ?_) h2
    rw [if_neg hne] at k ⊢
    refine ⟨k.2.1, ?_⟩
    refine wpAnyS_first hro hi hic hcc hsel hQ fuel _ a' w' (fun m om hm hmi hmu hmo => hfree m om hm hmi ?_ hmo) (chain_set hch hjc) (ready_mono hr (Ne.symm hji))
      (hy.behind (fun cs b => hsel i oi cs b hi) (Oper.apart_spec hap).2.2 k.1) k.2.1 ?_
    · by_cases hjm : j = m
      · subst hjm; exact hun
      · rw [getD_set_ne true hjm] at hmu; exact hmu
    · rw [Array.setIfInBounds_comm _ _ hji]
      exact k.2.2

theorem wpAnyS_take {i c : Nat} {oi : Oper} {v : Value} {fuel : Nat} {listed : Array Bool} {a : Act} {w : World} (ch : List Nat) (hro : F.round = none) (hi : ops[i]? = some oi) (hic : i ≠ c) (hcc : c ∈ ch)
    (hs : Region.noSelect ops = true) (hf : Region.free md ops listed i = true) (hch : chainB md ops listed i ch = true) (hr : (Region.ready md ops listed).contains i = true)
    (hQ : ∀ c a w, Q (.panic c) (a.put oi.dst v) w → Q (.panic c) a w) (hy : YieldsIf P ops S oi v a) (hb : ∀ w, oi.about P w a.eval = none) (hS : S w)
    (h : wpAnyS F n P md ops Q S c fuel (listed.setIfInBounds i true) (a.put oi.dst v) w) : wpAnyS F n P md ops Q S c (fuel + 1) listed a w :=
  wpAnyS_first hro hi hic hcc (Region.noSelect_spec hs) hQ fuel listed a w (Region.free_spec hi hf) hch (by simpa using hr) ⟨hy, hb⟩ hS h
/-- Operation c, alone. -/
theorem wpAnyS_call {c : Nat} {o : Oper} {fuel : Nat} {listed : Array Bool} {a : Act} {w : World} (hr : Region.ready md ops listed = [c]) (ho : ops[c]? = some o) (hw : Region.wanted o (yielded ops a.tmps) = true)
    (h : ∀ K : Act → World → Prop, (∀ a' w', wpAnyIn F n P md ops Q fuel (listed.setIfInBounds c true) a' w' → K a' w') → Oper.wpIn F n P o a w K Q) : wpAnyS F n P md ops Q S c (fuel + 1) listed a w := by
  refine ⟨fun e => (by rw [hr] at e; cases e), fun j hj => ?_⟩
  rw [hr] at hj
  obtain rfl : j = c := by simpa using hj
  refine wpOpIn_step ho fun K hK => ?_
  rw [if_pos hw]
  exact h K fun a' w' h1 => hK _ _ (by rw [if_pos rfl]; exact h1)
theorem wpIn_region_S {id : Nat} {a : Act} {w : World} (S : World → Prop) (c : Nat) (hm : P.follows .mixedOrders = true)
    (h : wpAnyS F n P .any ops Q S c ops.size (Array.replicate ops.size false) a { w with drawn := w.drawn + 1 }) : (Code.region id ops true).wpIn F n P Q a w :=
  wpIn_region_any hm (wpAnyS.any _ _ _ _ h)

end Go.Proofs.Ytcmjkfcgekmomaa
