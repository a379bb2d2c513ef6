/-
  A range over a function whose rounds come in a known order: what its body owes; and a quiet region within a round. Over whatever program. No condition of its own.
-/
import Derived.RangeFuncFrom
import Derived.RangeFuncBound
import Derived.RangeFuncCalls
import Derived.Sort.QuietIn
import Derived.Test.YtcmjkfcgekmomaaEvalM
namespace Go.Proofs.Ytcmjkfcgekmomaa
open Go.RowKit
set_option linter.unusedVariables false
variable {F : Fence} {n : Nat} {P : Program}

/-- What lies below B, and block X, lie as they lay. -/
def Keep (B X : Nat) (W W' : World) : Prop := Below B W W' ∧ W'.heap[X]? = W.heap[X]?
theorem Keep.refl (B X : Nat) (W : World) : Keep B X W W := ⟨Below.refl _ _, rfl⟩
theorem Keep.trans {B X : Nat} {A C D : World} (h : Keep B X A C) (k : Keep B X C D) : Keep B X A D := ⟨h.1.trans k.1, k.2.trans h.2⟩
theorem Keep.cell {B X : Nat} {W W' : World} (h : Keep B X W W') (o : Nat) : W'.cell? ⟨X, o, none⟩ = W.cell? ⟨X, o, none⟩ := World.cell?_of_block (a := ⟨X, o, none⟩) h.2

/-- The iterator calls its body N times, at the values told, and then ends: for every body that goes on each time and keeps what lies below B. -/
def SeqN (F : Fence) (n : Nat) (P : Program) (g : Nat) (lb : Array Value) (encs : Nat → Array Value) (B X N : Nat) (w0 : World) : Prop :=
  ∀ (l : Nat) (J : Nat → World → Prop) (W : World), Below w0.heap.size w0 W → AbidesFrom W.heap.size J →
    (∀ k W1, k < N → J k W1 → YieldAt F (n - 1) P l (encs k) W1 fun e W' => e = .returned (.bool true) ∧ J (k + 1) W' ∧ Keep B X W1 W') →
    J 0 W → CallsIn F n P g (#[.func (.yield l) #[] #[]] ++ lb) W fun e W' => (∃ v, e = .returned v) ∧ J N W'

/-- How a round's body ends. -/
def roundOk (B X : Nat) (I : Nat → World → Prop) (k : Nat) (W : World) : Exit → Act → World → Prop
  | .normal, _, W' => KeepsOthers W W' ∧ Keep B X W W' ∧ I k W'
  | _, _, _ => False

theorem wpIn_rangeN {g : Operand} {ps : Array Tmp} {assign body : Code} {Q : Exit → Act → World → Prop} {a : Act} {w : World}
    (hro : F.round = none) (h1 : 1 ≤ n) {gf : Nat} {lb : Array Value} (hg : a.eval g = .func (.func gf) #[] lb) (hFg : F.fn gf) (eg : ∀ args w, (callFunc gf args).run P w = .ok (.enter gf args) w)
    {encs : Nat → Array Value} {B X N : Nat} {w0 : World} (hseq : SeqN F (n - 1) P gf lb encs B X N w0) (hB : B ≤ w.heap.size) (hX : X < w.heap.size) (hb0 : Below w0.heap.size w0 w) (hps : ∀ k, (encs k).size = ps.size)
    (I : Nat → World → Prop) (hI : OwnFrom w.heap.size I) (h0 : I 0 w) (a₁ : Nat → Act)
    (hassign : ∀ (l k : Nat) (W : World) (K : Act → World → Prop), K (a₁ k) W →
      assign.wpIn (F.inRound l) (n - 1 - 1) P (Exit.then K (fun _ _ _ => False)) { tmps := (ps.zip (encs k)).foldl (fun t (p, v) => t.setIfInBounds p v) a.tmps, defers := [] } W)
    (hbody : ∀ (l k : Nat) (W : World), k < N → I k W → body.wpIn (F.inRound l) (n - 1 - 1) P (roundOk B X I (k + 1) W) (a₁ k) W)
    (hdone : ∀ (D : Nat) (W : World), w.heap.size ≤ D → I N W → W.heap[D]? = some (.deferred (some [])) → Q .normal { a with defers := { target := .collected D, args := #[] } :: a.defers } W) :
    (Code.rangeFunc g ps assign body).wpIn F n P Q a w := by
  refine wpIn_rangeFunc fun fn hfn => ?_
  rw [hro]
  -- the loop's record in block s + 1, the block for the rounds' deferred calls in block s
  obtain ⟨s, hs⟩ : ∃ s, s = w.heap.size := ⟨_, rfl⟩
  obtain ⟨rec, hrec⟩ : ∃ rec : LoopState → Option Code → Loop, rec = fun st pe => { state := st, pending := pe, fn, tmps := a.tmps, params := ps, assign, body, defers := w.heap.size } := ⟨_, rfl⟩
  obtain ⟨W1, hW1⟩ : ∃ W1, W1 = (w.alloc (.deferred (some []))).alloc (.loop (rec .ready none)) := ⟨_, rfl⟩
  have hsz : W1.heap.size = s + 2 := by rw [hW1, hs]; simp
  have rL : W1.heap[s + 1]? = some (.loop (rec .ready none)) := by
    have h := World.alloc_heap_new (w.alloc (.deferred (some []))) (.loop (rec .ready none))
    rw [World.size_alloc, ← hs, ← hW1] at h; exact h
  have rD : W1.heap[s]? = some (.deferred (some [])) := by
    rw [hW1, hs]; exact (Below.heap_alloc _ _ _ (by simp)).trans (World.alloc_heap_new w _)
  have i1 : I 0 W1 := by rw [hW1]; exact hI.alloc _ (hI.alloc _ h0)
  have b1 : Below w0.heap.size w0 W1 := by
    rw [hW1]; exact (hb0.alloc hb0.size _).alloc (by simp; have := hb0.size; omega) _
  have hB' : B ≤ w.heap.size := hB
  rw [← hs] at hI hB hX
  refine ⟨s + 1, [{ target := .collected s, args := #[] }], W1, { target := .fn (.func gf) lb, args := #[.func (.yield (s + 1)) #[] #[]] }, W1, gf, #[.func (.yield (s + 1)) #[] #[]] ++ lb, W1, ?_, ?_, ?_, ?_, fun _ => h1, ?_⟩
  · rw [hW1, hrec, hs]; exact run_enterLoop_outer _ _ _ _ _
  · simp only [resolve, hg]
    simp [go_sem]
  · intro f' hf'; simp [Target.leads] at hf'; subst hf'; exact hFg
  · simp [invoke, go_sem, eg]
  have far : ∀ {A : World} {row : Option Nat}, (∀ r, row = some r → W1.heap.size ≤ r ∧ ∃ o : Obj, A.heap[r]? = some o ∧ o.isWalk = true) → (∀ r, row = some r → s ≤ r ∧ ∃ o : Obj, A.heap[r]? = some o ∧ o.isCells = false) :=
    fun h r e => by obtain ⟨h2, o, h3, h4⟩ := h r e; exact ⟨by omega, o, h3, Obj.not_cells_of_walk h4⟩
  refine (hseq (s + 1) (fun k W => I k W ∧ W.heap[s + 1]? = some (.loop (rec .ready none)) ∧ W.heap[s]? = some (.deferred (some []))) W1 b1 ?_ ?_ ⟨i1, rL, rD⟩).mono ?_
  · intro k A A' row h hg' hr
    exact ⟨hI k A A' row h.1 hg' (far hr), (grownBy_keeps hg' (fun r e => (hr r e).2) h.2.1 rfl).trans h.2.1, (grownBy_keeps hg' (fun r e => (hr r e).2) h.2.2 rfl).trans h.2.2⟩
  · rintro k W hk ⟨hi, hl, hd⟩
    have hlt : s + 1 < W.heap.size := (Array.getElem?_eq_some_iff.1 hl).1
    have hy := run_yield (P := P) (args := encs k) hl (by rw [hrec]; exact hps k)
    rw [hrec] at hy
    obtain ⟨V, hV⟩ : ∃ V, V = W.putObj (s + 1) (.loop { rec .ready none with state := .busy }) := ⟨_, rfl⟩
    refine ⟨fn, _, assign, body, hy, roundIn_of_wpIn hfn (hassign _ k W _ ⟨V, by rw [hV]; exact run_beginRound hl (by rw [hrec]), ?_⟩)⟩
    have vl : V.heap[s + 1]? = some (.loop { rec .ready none with state := .busy }) := by rw [hV]; exact World.putObj_heap_same hlt
    have vd : V.heap[s]? = some (.deferred (some [])) := by rw [hV]; exact (World.putObj_heap_other (by omega)).trans hd
    have vb : Keep B X W V := by rw [hV]; exact ⟨belowK_b (w := w) hB' W (s + 1) _ _ (by omega) hl rfl rfl, World.putObj_heap_other (by omega)⟩
    refine wpIn_mono (hbody _ k V hk (by rw [hV]; exact hI.putObj _ hi (by omega) hl rfl)) ?_
    rintro e a3 W3 hp
    cases e with
    | normal =>
      obtain ⟨hk3, hb3, hi3⟩ := hp
      have l3 := hk3.same _ _ vl rfl
      have hr := run_endRound (P := P) none l3
      rw [hrec] at hr l3
      refine ⟨_, _, hr, rfl, ⟨hI.putObj _ hi3 (by omega) l3 rfl, ?_, (World.putObj_heap_other (by omega)).trans (hk3.same _ _ vd rfl)⟩, (vb.trans hb3).trans ⟨belowK_b (w := w) hB' W3 (s + 1) _ _ (by omega) l3 rfl rfl, World.putObj_heap_other (by omega)⟩⟩
      rw [World.putObj_heap_same (Array.getElem?_eq_some_iff.1 l3).1, hrec]; rfl
    | _ => exact hp.elim
  · rintro e W2 ⟨⟨v, rfl⟩, hi, hl, hd⟩
    refine ⟨none, _, by have := run_endLoop (P := P) hl (by rw [hrec]; simp); rw [hrec] at this; exact this, ?_⟩
    have := hdone s _ (by omega) (hI.putObj (l := s + 1) (.loop { rec .ready none with state := .exhausted }) hi (by omega) hl rfl) ((World.putObj_heap_other (by omega)).trans hd)
    rw [hrec] at this
    exact this

/-! A quiet region within a round. -/
theorem uponIn_inRound (l : Nat) (o : Oper) (a : Act) (K : Act → World → Prop) (Q : Exit → Act → World → Prop) (r : Result Next) : o.uponIn (F.inRound l) n P a K Q r = o.uponIn F n P a K Q r := by
  cases r with
  | ok x w => cases x <;> rfl
  | halt h w => cases h <;> rfl
def noDefer : Op → Bool
  | .defer _ => false
  | _ => true
theorem wpOpIn_inRound {ops : Array Oper} {Q : Exit → Act → World → Prop} (hro : F.round = none) (hnd : ops.all (fun o => noDefer o.op) = true) (l i : Nat) (K : Act → World → Prop) (a : Act) (w : World) :
    wpOpIn (F.inRound l) n P ops Q i K a w = wpOpIn F n P ops Q i K a w := by
  unfold wpOpIn
  cases ho : ops[i]? with
  | none => rfl
  | some o =>
    have hd : ∀ c : Call, o.op ≠ Op.defer c := by
      intro c hc
      obtain ⟨hi, hi2⟩ := Array.getElem?_eq_some_iff.1 ho
      have h := (Array.all_eq_true.1 hnd) i hi
      rw [hi2, hc] at h
      cases h
    dsimp only
    unfold Oper.wpIn
    rw [hro, Oper.semAt_eq _ _ _ hd, Oper.semAt_eq _ _ _ hd, uponIn_inRound]
    rfl
theorem wpAnyIn_inRound {md : Region.Mode} {ops : Array Oper} {Q : Exit → Act → World → Prop} (hro : F.round = none) (hnd : ops.all (fun o => noDefer o.op) = true) (l : Nat) : ∀ (fuel : Nat) (listed : Array Bool) (a : Act) (w : World),
    wpAnyIn (F.inRound l) n P md ops Q fuel listed a w = wpAnyIn F n P md ops Q fuel listed a w
  | 0, _, _, _ => rfl
  | fuel + 1, listed, a, w => by
    unfold wpAnyIn
    have h : ∀ i, wpAnyIn (F.inRound l) n P md ops Q fuel (listed.setIfInBounds i true) = wpAnyIn F n P md ops Q fuel (listed.setIfInBounds i true) := fun i => by
      funext a w; exact wpAnyIn_inRound hro hnd l fuel _ a w
    simp only [h, wpOpIn_inRound hro hnd l]
theorem wpIn_region_round {id : Nat} {Q : Exit → Act → World → Prop} {a : Act} {w : World} {ops : List Oper} (hro : F.round = none) (l : Nat) (hm : P.follows .mixedOrders = true) (hB : Region.lexB .any ops.toArray = true) (hnd : ops.toArray.all (fun o => noDefer o.op) = true)
    (h : wpQuietIn F n P ops.toArray (fun w' => ∃ n, w' = w.drewN n) (fun a' => ∀ w', (∃ n, w' = w.drewN n) → Q .normal a' w') ops a) : (Code.region id ops.toArray true).wpIn (F.inRound l) n P Q a w := by
  refine wpIn_region_any hm ?_
  rw [wpAnyIn_inRound hro hnd l]
  simp only [Region.lexB, Bool.and_eq_true] at hB
  refine wpAnyIn_of_quiet (C := fun w' => ∃ n, w' = w.drewN n) (Q := fun a' => ∀ w', (∃ n, w' = w.drewN n) → Q .normal a' w') hro (fun _ w' hw' h => h w' hw') _ _ _ _ ⟨1, rfl⟩ ?_
  have := wpAnyQIn_lex (F := F) (n := n) (C := fun w' => ∃ n, w' = w.drewN n) (md := .any) hB.1 ops 0 (Array.replicate ops.toArray.size false) a (by simp) (by simpa using hB.2) h
  simpa using this

end Go.Proofs.Ytcmjkfcgekmomaa
