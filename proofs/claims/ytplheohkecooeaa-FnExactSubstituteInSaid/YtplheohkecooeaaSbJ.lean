/-
  EvalM, Range, BackS, FoldC, FoldI, EvalI, SbtM, Dig6, EvalS, AskS, SbtS, SbtI, SbtT in one text. Conditions: as each theorem names them.
-/
import Derived.Test.YtplheohkecooeaaTerm
import Derived.RangeFuncFrom
import Derived.RangeFuncBound
import Derived.RangeFuncCalls
import Derived.Sort.QuietIn
import Derived.Test.YtplheohkecooeaaLists
import Derived.RangeFuncBox
import Derived.RangeFuncLeaves
import Derived.Shelf.Abstract
import Derived.OwnWalkIn
import Derived.TacticsInMore
import Derived.LoopNIn
import Derived.LoopIn
import Derived.Test.YtplheohkecooeaaIdx
import Derived.Test.YtplheohkecooeaaMake
import Derived.Test.YtplheohkecooeaaNormL
import Derived.Test.YtplheohkecooeaaTakes3
import Derived.Test.YtplheohkecooeaaDigs
import Derived.Test.YtplheohkecooeaaConcat
import Derived.Test.YtplheohkecooeaaTwo
import Derived.Test.YtplheohkecooeaaVarsOf
import Derived.Test.YtplheohkecooeaaIdn
import Derived.Test.YtplheohkecooeaaWith
import Derived.Deep.RegionLaw
import Derived.Test.YtplheohkecooeaaSub
import Derived.Test.YtplheohkecooeaaApp
import Derived.Test.YtplheohkecooeaaPut3
import Derived.Deep.RegionHeld3
import Derived.Test.YtplheohkecooeaaClone
import Derived.Laws.CopyOwn
import Derived.Test.YtplheohkecooeaaRepd
namespace Go.Proofs.Ytplheohkecooeaa
section
open Go.RowKit
set_option linter.unusedVariables false

/-- One number more in front: what stands on the stack, the first one on top. -/
def evStep (z : Int) (fs : List OpD) (vs : List Int) (x : Int) (s : List Int) : List Int :=
  if 0 ≤ x then vs.getD x.toNat 0 :: s else
    atA z (fs.getD (-1 - x).toNat (0, [])) (s.take (fs.getD (-1 - x).toNat (0, [])).1.toNat) :: s.drop (fs.getD (-1 - x).toNat (0, [])).1.toNat
def evS (z : Int) (fs : List OpD) (vs : List Int) (xs : List Int) : List Int := xs.foldr (evStep z fs vs) []
def evT (z : Int) (fs : List OpD) (vs : List Int) (xs : List Int) : Int := (evS z fs vs xs).headD 0
theorem evS_drop {z : Int} {fs : List OpD} {vs xs : List Int} {k : Nat} {x : Int} (h : xs[k]? = some x) : evS z fs vs (xs.drop k) = evStep z fs vs x (evS z fs vs (xs.drop (k + 1))) := by
  rw [drop_get h]; rfl
theorem evS_end {z : Int} {fs : List OpD} {vs xs : List Int} {k : Nat} (h : xs.length ≤ k) : evS z fs vs (xs.drop k) = [] := by
  rw [List.drop_eq_nil_of_le h]; rfl
theorem evStep_len {z : Int} {fs : List OpD} {vs s : List Int} {x b : Int} (hb : beh fs x = some b) (h0 : 0 ≤ b) (h : b ≤ s.length) : ((evStep z fs vs x s).length : Int) = s.length - (b - 1) := by
  unfold beh at hb
  unfold evStep
  split at hb
  · rename_i hx
    split at hb
    · injection hb with hb; subst hb
      rw [if_pos hx]; simp
    · cases hb
  · rename_i hx
    rw [if_neg hx]
    obtain ⟨f, hf, rfl⟩ := Option.map_eq_some_iff.1 hb
    have hg : fs.getD (-1 - x).toNat (0, []) = f := by rw [List.getD_eq_getElem?_getD, hf]; rfl
    rw [hg]
    simp only [List.length_cons, List.length_drop]
    omega
/-- As many values stand on the stack as terms are missing ahead. -/
theorem evS_len {z : Int} {fs : List OpD} {vs : List Int} (hok : algOkB z fs = true) : ∀ {xs : List Int} {m : Int} {k : Nat}, 1 ≤ m → endN fs xs m k = some (k + xs.length) → ((evS z fs vs xs).length : Int) = m
  | [], _, _, _, h => by cases h
  | x :: r, m, k, hm, h => by
    rw [endN] at h
    cases hb : beh fs x with
    | none => rw [hb] at h; cases h
    | some b =>
      have hbd := beh_bd hok hb
      rw [hb] at h
      dsimp only at h
      have hs : evS z fs vs (x :: r) = evStep z fs vs x (evS z fs vs r) := rfl
      split at h
      · injection h with h
        have hr : r = [] := List.eq_nil_of_length_eq_zero (by rw [List.length_cons] at h; omega)
        subst hr
        rw [hs, evStep_len hb hbd.1 (by simp [evS]; omega)]
        simp [evS]; omega
      · have ih := evS_len (vs := vs) hok (by omega) (show endN fs r (m + (b - 1)) (k + 1) = some (k + 1 + r.length) by rw [h]; simp; omega)
        rw [hs, evStep_len hb hbd.1 (by omega)]
        omega
theorem evS_at {z : Int} {fs : List OpD} {vs xs : List Int} (hok : algOkB z fs = true) (h : endA fs xs 0 = some xs.length) {k : Nat} (hk : k < xs.length) : ∃ m : Int, 1 ≤ m ∧ endN fs (xs.drop k) m k = some xs.length ∧ ((evS z fs vs (xs.drop k)).length : Int) = m := by
  obtain ⟨m, h1, h2⟩ := endN_mid hok h k hk
  refine ⟨m, h1, h2, evS_len (k := k) hok h1 ?_⟩
  rw [h2, List.length_drop]; congr 1; omega
/-- Ahead of a number there are the values behind it. -/
theorem evS_room {z : Int} {fs : List OpD} {vs xs : List Int} {k : Nat} {x b : Int} (hok : algOkB z fs = true) (h : endA fs xs 0 = some xs.length) (hx : xs[k]? = some x) (hb : beh fs x = some b) :
    b ≤ (evS z fs vs (xs.drop (k + 1))).length ∧ ((evS z fs vs (xs.drop k)).length : Int) = (evS z fs vs (xs.drop (k + 1))).length - (b - 1) := by
  have hk := (List.getElem?_eq_some_iff.1 hx).1
  have hbd := beh_bd hok hb
  obtain ⟨m, h1, h2, h3⟩ := evS_at (vs := vs) hok h hk
  have h4 : b ≤ (evS z fs vs (xs.drop (k + 1))).length := by
    by_cases h0 : m + (b - 1) = 0
    · have : b = 0 := by omega
      omega
    · rw [endN_on hx hb h0] at h2
      have hg := endN_gt h2
      rw [List.length_drop] at hg
      have := evS_len (vs := vs) hok (by omega : (1 : Int) ≤ m + (b - 1)) (show endN fs (xs.drop (k + 1)) (m + (b - 1)) (k + 1) = some (k + 1 + (xs.drop (k + 1)).length) by rw [h2, List.length_drop]; congr 1; omega)
      omega
  exact ⟨h4, by rw [evS_drop hx, evStep_len hb hbd.1 h4]⟩
theorem evS_one {z : Int} {fs : List OpD} {vs xs : List Int} (hok : algOkB z fs = true) (h : endA fs xs 0 = some xs.length) : (evS z fs vs xs).length = 1 := by
  have hp := term_pos h
  have := evS_len (vs := vs) hok (by omega : (1 : Int) ≤ 1) (show endN fs xs 1 0 = some (0 + xs.length) by rw [Nat.zero_add]; exact h)
  omega
/-- The stack never outgrows the numbers. -/
theorem evS_le (z : Int) (fs : List OpD) (vs : List Int) : ∀ xs : List Int, (evS z fs vs xs).length ≤ xs.length
  | [] => by simp [evS]
  | x :: r => by
    have ih := evS_le z fs vs r
    have hs : evS z fs vs (x :: r) = evStep z fs vs x (evS z fs vs r) := rfl
    rw [hs]
    unfold evStep
    split <;> simp <;> omega
end

section
open Go.RowKit
set_option linter.unusedVariables false
variable {F : Fence} {n : Nat} {P : Program}

/-- What lies below B, and block X, lie as they lay. -/
def Keep (B X : Nat) (W W' : World) : Prop := Below B W W' ∧ W'.heap[X]? = W.heap[X]?
theorem Keep.refl (B X : Nat) (W : World) : Keep B X W W := ⟨Below.refl _ _, rfl⟩
theorem Keep.trans {B X : Nat} {A C D : World} (h : Keep B X A C) (k : Keep B X C D) : Keep B X A D := ⟨h.1.trans k.1, k.2.trans h.2⟩
theorem Keep.cell {B X : Nat} {W W' : World} (h : Keep B X W W') (o : Nat) : W'.cell? ⟨X, o, none⟩ = W.cell? ⟨X, o, none⟩ := World.cell?_of_block (a := ⟨X, o, none⟩) h.2

/-- The iterator calls its body N times, at the values told, and then ends: for every body that goes on each time and keeps what lies below B. -/
def SeqN (F : Fence) (n : Nat) (P : Program) (g : Nat) (lb : Array Value) (encs : Nat → Array Value) (B X N : Nat) (w0 : World) : Prop :=
  ∀ (l : Nat) (J : Nat → World → Prop) (W : World), Below w0.heap.size w0 W → AbidesFrom W.heap.size J →
    (∀ k W1, k < N → J k W1 → YieldAt F (n - 1) P l (encs k) W1 fun e W' => e = .returned (.bool true) ∧ J (k + 1) W' ∧ Keep B X W1 W') →
    J 0 W → CallsIn F n P g (#[.func (.yield l) #[] #[]] ++ lb) W fun e W' => (∃ v, e = .returned v) ∧ J N W'

/-- How a round's body ends. -/
def roundOk (B X : Nat) (I : Nat → World → Prop) (k : Nat) (W : World) : Exit → Act → World → Prop
  | .normal, _, W' => KeepsOthers W W' ∧ Keep B X W W' ∧ I k W'
  | _, _, _ => False

theorem wpIn_rangeN {g : Operand} {ps : Array Tmp} {assign body : Code} {Q : Exit → Act → World → Prop} {a : Act} {w : World}
    (hro : F.round = none) (h1 : 1 ≤ n) {gf : Nat} {lb : Array Value} (hg : a.eval g = .func (.func gf) #[] lb) (hFg : F.fn gf) (eg : ∀ args w, (callFunc gf args).run P w = .ok (.enter gf args) w)
    {encs : Nat → Array Value} {B X N : Nat} {w0 : World} (hseq : SeqN F (n - 1) P gf lb encs B X N w0) (hB : B ≤ w.heap.size) (hX : X < w.heap.size) (hb0 : Below w0.heap.size w0 w) (hps : ∀ k, (encs k).size = ps.size)
    (I : Nat → World → Prop) (hI : OwnFrom w.heap.size I) (h0 : I 0 w) (a₁ : Nat → Act)
    (hassign : ∀ (l k : Nat) (W : World) (K : Act → World → Prop), K (a₁ k) W →
      assign.wpIn (F.inRound l) (n - 1 - 1) P (Exit.then K (fun _ _ _ => False)) { tmps := (ps.zip (encs k)).foldl (fun t (p, v) => t.setIfInBounds p v) a.tmps, defers := [] } W)
    (hbody : ∀ (l k : Nat) (W : World), k < N → I k W → body.wpIn (F.inRound l) (n - 1 - 1) P (roundOk B X I (k + 1) W) (a₁ k) W)
    (hdone : ∀ (D : Nat) (W : World), w.heap.size ≤ D → I N W → W.heap[D]? = some (.deferred (some [])) → Q .normal { a with defers := { target := .collected D, args := #[] } :: a.defers } W) :
    (Code.rangeFunc g ps assign body).wpIn F n P Q a w := by
  refine wpIn_rangeFunc fun fn hfn => ?_
  rw [hro]
  -- the loop's record in block s + 1, the block for the rounds' deferred calls in block s
  obtain ⟨s, hs⟩ : ∃ s, s = w.heap.size := ⟨_, rfl⟩
  obtain ⟨rec, hrec⟩ : ∃ rec : LoopState → Option Code → Loop, rec = fun st pe => { state := st, pending := pe, fn, tmps := a.tmps, params := ps, assign, body, defers := w.heap.size } := ⟨_, rfl⟩
  obtain ⟨W1, hW1⟩ : ∃ W1, W1 = (w.alloc (.deferred (some []))).alloc (.loop (rec .ready none)) := ⟨_, rfl⟩
  have hsz : W1.heap.size = s + 2 := by rw [hW1, hs]; simp
  have rL : W1.heap[s + 1]? = some (.loop (rec .ready none)) := by
    have h := World.alloc_heap_new (w.alloc (.deferred (some []))) (.loop (rec .ready none))
    rw [World.size_alloc, ← hs, ← hW1] at h; exact h
  have rD : W1.heap[s]? = some (.deferred (some [])) := by
    rw [hW1, hs]; exact (Below.heap_alloc _ _ _ (by simp)).trans (World.alloc_heap_new w _)
  have i1 : I 0 W1 := by rw [hW1]; exact hI.alloc _ (hI.alloc _ h0)
  have b1 : Below w0.heap.size w0 W1 := by
    rw [hW1]; exact (hb0.alloc hb0.size _).alloc (by simp; have := hb0.size; omega) _
  have hB' : B ≤ w.heap.size := hB
  rw [← hs] at hI hB hX
  refine ⟨s + 1, [{ target := .collected s, args := #[] }], W1, { target := .fn (.func gf) lb, args := #[.func (.yield (s + 1)) #[] #[]] }, W1, gf, #[.func (.yield (s + 1)) #[] #[]] ++ lb, W1, ?_, ?_, ?_, ?_, fun _ => h1, ?_⟩
  · rw [hW1, hrec, hs]; exact run_enterLoop_outer _ _ _ _ _
  · simp only [resolve, hg]
    simp [go_sem]
  · intro f' hf'; simp [Target.leads] at hf'; subst hf'; exact hFg
  · simp [invoke, go_sem, eg]
  have far : ∀ {A : World} {row : Option Nat}, (∀ r, row = some r → W1.heap.size ≤ r ∧ ∃ o : Obj, A.heap[r]? = some o ∧ o.isWalk = true) → (∀ r, row = some r → s ≤ r ∧ ∃ o : Obj, A.heap[r]? = some o ∧ o.isCells = false) :=
    fun h r e => by obtain ⟨h2, o, h3, h4⟩ := h r e; exact ⟨by omega, o, h3, Obj.not_cells_of_walk h4⟩
  refine (hseq (s + 1) (fun k W => I k W ∧ W.heap[s + 1]? = some (.loop (rec .ready none)) ∧ W.heap[s]? = some (.deferred (some []))) W1 b1 ?_ ?_ ⟨i1, rL, rD⟩).mono ?_
  · intro k A A' row h hg' hr
    exact ⟨hI k A A' row h.1 hg' (far hr), (grownBy_keeps hg' (fun r e => (hr r e).2) h.2.1 rfl).trans h.2.1, (grownBy_keeps hg' (fun r e => (hr r e).2) h.2.2 rfl).trans h.2.2⟩
  · rintro k W hk ⟨hi, hl, hd⟩
    have hlt : s + 1 < W.heap.size := (Array.getElem?_eq_some_iff.1 hl).1
    have hy := run_yield (P := P) (args := encs k) hl (by rw [hrec]; exact hps k)
    rw [hrec] at hy
    obtain ⟨V, hV⟩ : ∃ V, V = W.putObj (s + 1) (.loop { rec .ready none with state := .busy }) := ⟨_, rfl⟩
    refine ⟨fn, _, assign, body, hy, roundIn_of_wpIn hfn (hassign _ k W _ ⟨V, by rw [hV]; exact run_beginRound hl (by rw [hrec]), ?_⟩)⟩
    have vl : V.heap[s + 1]? = some (.loop { rec .ready none with state := .busy }) := by rw [hV]; exact World.putObj_heap_same hlt
    have vd : V.heap[s]? = some (.deferred (some [])) := by rw [hV]; exact (World.putObj_heap_other (by omega)).trans hd
    have vb : Keep B X W V := by rw [hV]; exact ⟨belowK_b (w := w) hB' W (s + 1) _ _ (by omega) hl rfl rfl, World.putObj_heap_other (by omega)⟩
    refine wpIn_mono (hbody _ k V hk (by rw [hV]; exact hI.putObj _ hi (by omega) hl rfl)) ?_
    rintro e a3 W3 hp
    cases e with
    | normal =>
      obtain ⟨hk3, hb3, hi3⟩ := hp
      have l3 := hk3.same _ _ vl rfl
      have hr := run_endRound (P := P) none l3
      rw [hrec] at hr l3
      refine ⟨_, _, hr, rfl, ⟨hI.putObj _ hi3 (by omega) l3 rfl, ?_, (World.putObj_heap_other (by omega)).trans (hk3.same _ _ vd rfl)⟩, (vb.trans hb3).trans ⟨belowK_b (w := w) hB' W3 (s + 1) _ _ (by omega) l3 rfl rfl, World.putObj_heap_other (by omega)⟩⟩
      rw [World.putObj_heap_same (Array.getElem?_eq_some_iff.1 l3).1, hrec]; rfl
    | _ => exact hp.elim
  · rintro e W2 ⟨⟨v, rfl⟩, hi, hl, hd⟩
    refine ⟨none, _, by have := run_endLoop (P := P) hl (by rw [hrec]; simp); rw [hrec] at this; exact this, ?_⟩
    have := hdone s _ (by omega) (hI.putObj (l := s + 1) (.loop { rec .ready none with state := .exhausted }) hi (by omega) hl rfl) ((World.putObj_heap_other (by omega)).trans hd)
    rw [hrec] at this
    exact this

/-! A quiet region within a round. -/
theorem uponIn_inRound (l : Nat) (o : Oper) (a : Act) (K : Act → World → Prop) (Q : Exit → Act → World → Prop) (r : Result Next) : o.uponIn (F.inRound l) n P a K Q r = o.uponIn F n P a K Q r := by
  cases r with
  | ok x w => cases x <;> rfl
  | halt h w => cases h <;> rfl
def noDefer : Op → Bool
  | .defer _ => false
  | _ => true
theorem wpOpIn_inRound {ops : Array Oper} {Q : Exit → Act → World → Prop} (hro : F.round = none) (hnd : ops.all (fun o => noDefer o.op) = true) (l i : Nat) (K : Act → World → Prop) (a : Act) (w : World) :
    wpOpIn (F.inRound l) n P ops Q i K a w = wpOpIn F n P ops Q i K a w := by
  unfold wpOpIn
  cases ho : ops[i]? with
  | none => rfl
  | some o =>
    have hd : ∀ c : Call, o.op ≠ Op.defer c := by
      intro c hc
      obtain ⟨hi, hi2⟩ := Array.getElem?_eq_some_iff.1 ho
      have h := (Array.all_eq_true.1 hnd) i hi
      rw [hi2, hc] at h
      cases h
    dsimp only
    unfold Oper.wpIn
    rw [hro, Oper.semAt_eq _ _ _ hd, Oper.semAt_eq _ _ _ hd, uponIn_inRound]
    rfl
theorem wpAnyIn_inRound {md : Region.Mode} {ops : Array Oper} {Q : Exit → Act → World → Prop} (hro : F.round = none) (hnd : ops.all (fun o => noDefer o.op) = true) (l : Nat) : ∀ (fuel : Nat) (listed : Array Bool) (a : Act) (w : World),
    wpAnyIn (F.inRound l) n P md ops Q fuel listed a w = wpAnyIn F n P md ops Q fuel listed a w
  | 0, _, _, _ => rfl
  | fuel + 1, listed, a, w => by
    unfold wpAnyIn
    have h : ∀ i, wpAnyIn (F.inRound l) n P md ops Q fuel (listed.setIfInBounds i true) = wpAnyIn F n P md ops Q fuel (listed.setIfInBounds i true) := fun i => by
      funext a w; exact wpAnyIn_inRound hro hnd l fuel _ a w
    simp only [h, wpOpIn_inRound hro hnd l]
theorem wpIn_region_round {id : Nat} {Q : Exit → Act → World → Prop} {a : Act} {w : World} {ops : List Oper} (hro : F.round = none) (l : Nat) (hm : P.follows .mixedOrders = true) (hB : Region.lexB .any ops.toArray = true) (hnd : ops.toArray.all (fun o => noDefer o.op) = true)
    (h : wpQuietIn F n P ops.toArray (fun w' => ∃ n, w' = w.drewN n) (fun a' => ∀ w', (∃ n, w' = w.drewN n) → Q .normal a' w') ops a) : (Code.region id ops.toArray true).wpIn (F.inRound l) n P Q a w := by
  refine wpIn_region_any hm ?_
  rw [wpAnyIn_inRound hro hnd l]
  simp only [Region.lexB, Bool.and_eq_true] at hB
  refine wpAnyIn_of_quiet (C := fun w' => ∃ n, w' = w.drewN n) (Q := fun a' => ∀ w', (∃ n, w' = w.drewN n) → Q .normal a' w') hro (fun _ w' hw' h => h w' hw') _ _ _ _ ⟨1, rfl⟩ ?_
  have := wpAnyQIn_lex (F := F) (n := n) (C := fun w' => ∃ n, w' = w.drewN n) (md := .any) hB.1 ops 0 (Array.replicate ops.toArray.size false) a (by simp) (by simpa using hB.2) h
  simpa using this
end

section
open Go.RowKit Go.Shelf
set_option linter.unusedVariables false
set_option linter.unusedSimpArgs false
attribute [local go_sem] Oper.semAt_some

/-! slices.Backward -/
theorem backward_any (a : Option Addr) (m c : Nat) (w : World) :
    Calls Try.prog 122 #[.slice a m c] w fun e w' => e = .returned (.func (.func 124) #[] #[.pointer (some ⟨w.heap.size, 0, none⟩)]) ∧ w' = w.alloc (.cells #[.slice a m c] 25) := by
  have hmf : ∀ (fn : Fn) (first cap : Array Value) (w : World), (Instr.makeFunc fn first cap).run Try.prog w = .ok (.func fn first cap) w := fun _ _ _ _ => rfl
  go_enter Try.func122, Try.ntmps122
  go_wp2
  go_ret
  exact ⟨rfl, rfl⟩

/-- The values of the rounds: the index and the number, from the end. -/
def backEnc (xs : List Int) (k : Nat) : Array Value := #[.int .i64 ((xs.length - 1 - k : Nat) : Int), .int .i64 (xs.getD (xs.length - 1 - k) 0)]

set_option maxRecDepth 100000 in
set_option maxHeartbeats 2000000 in
theorem back_seq (n X B b o m c : Nat) (xs : List Int) (hl : xs.length = m) (h0 : 0 < m) (hm : m ≤ 60) (hb : b < B) (w : World) (hX : X < w.heap.size) (hB : B ≤ w.heap.size)
    (hs : w.cell? ⟨X, 0, none⟩ = some (.slice (some ⟨b, o, none⟩) m c)) (hc : ∀ j x, xs[j]? = some x → w.cell? ⟨b, o + j, none⟩ = some (.int .i64 x)) :
    SeqN Fence.wide n Try.prog 124 #[.pointer (some ⟨X, 0, none⟩)] (backEnc xs) B X m w := by
  intro l J W hW hJ hY hJ0
  have hs1 := (hW.cell (p := ⟨X, 0, none⟩) hX).trans hs
  have hc1 : ∀ j x, xs[j]? = some x → W.cell? ⟨b, o + j, none⟩ = some (.int .i64 x) := fun j x hj => (hW.cell (p := ⟨b, o + j, none⟩) (by show b < _; omega)).trans (hc j x hj)
  have HC := Lib.hid hc1
  clear hs hc hc1
  refine callsIn_of_wp Try.func124 rfl trivial ?_ rfl
  simp only [Try.ntmps124, List.size_toArray, List.length_cons, List.length_nil, Nat.reduceAdd, Nat.reduceSub, Array.replicate_succ, Array.replicate_zero, List.push_toArray, List.append_toArray, List.nil_append, List.cons_append]
  gi_wp2
  gi_loopw [3] (fun i wr => ∃ k : Nat, k ≤ m ∧ i = .int .i64 ((m : Int) - 1 - (k : Int)) ∧ J k wr ∧ Hid (Keep B X W wr)) (fun i _ => (intOf i + 1).toNat)
  case atStart => exact ⟨0, Nat.zero_le _, by simp, hJ0, Keep.refl _ _ _⟩
  case round =>
    obtain ⟨k, hk, rfl, hJk, HK⟩ := hrel
    by_cases hlt : k < m
    · obtain ⟨j, hj⟩ : ∃ j : Nat, (m : Int) - 1 - (k : Int) = (j : Int) := ⟨m - 1 - k, by omega⟩
      rw [hj]
      have hjm : j < xs.length := by omega
      have hsr : wr.cell? ⟨X, 0, none⟩ = some (.slice (some ⟨b, o, none⟩) m c) := (HK.out.cell 0).trans hs1
      have hx : xs[j]? = some (xs[j]'hjm) := List.getElem?_eq_getElem hjm
      obtain ⟨x, hxe⟩ : ∃ x, xs[j]'hjm = x := ⟨_, rfl⟩
      rw [hxe] at hx
      have cx : wr.cell? ⟨b, o + j, none⟩ = some (.int .i64 x) := (HK.out.1.cell (p := ⟨b, o + j, none⟩) (by show b < _; omega)).trans (HC.out j x hx)
      obtain ⟨fn, tmps, assign, body, hy, hR⟩ := hY k wr hlt hJk
      have henc : backEnc xs k = #[.int .i64 (j : Int), .int .i64 x] := by
        unfold backEnc
        rw [show xs.length - 1 - k = j by omega, List.getD_eq_getElem?_getD, hx]; rfl
      rw [henc] at hy
      have hjm' : (j : Int) < (m : Int) := by omega
      have hj0 : (0 : Int) ≤ (j : Int) := by omega
      have HJ := Lib.hid hj
      clear henc hx hxe hj
      gi_wp2
      refine ⟨fun h => (by cases h), ?_⟩
      refine hR.mono ?_
      rintro e W3 ⟨rfl, hJ3, hk3⟩
      have HK3 := Lib.hid (HK.out.trans hk3)
      clear hk3
      gi_wp2
      go_roundw
      case rel => exact ⟨k + 1, by omega, by have h_ := HJ.out; congr 1; omega, hJ3, HK3⟩
      case measure => have h_ := HJ.out; (simp [intOf]) <;> omega
    · obtain rfl : k = m := by omega
      have hneg : (k : Int) - 1 - (k : Int) = -1 := by omega
      rw [hneg]
      gi_wp2
      go_end0
      exact ⟨⟨_, rfl⟩, hJk⟩
end

section
open Go.RowKit Go.Shelf
set_option linter.unusedVariables false
set_option linter.unusedSimpArgs false
attribute [local go_sem] Oper.semAt_some

/-! The closures of valueOfTerm -/
theorem leaf_any (lo hi Bv v nv cv : Nat) (vo : Option Addr) (vs : List Int) (W : World) (hc : W.cell? ⟨Bv, 0, none⟩ = some (.slice vo nv cv)) (hv : IView W lo hi vo nv vs) (h : v < nv) :
    Calls Try.prog 107 #[.int .i64 (v : Int), .pointer (some ⟨Bv, 0, none⟩)] W fun e w' => e = .returned (.int .i64 (vs.getD v 0)) ∧ w' = W := by
  obtain ⟨b, o, rfl, _, _, hcx⟩ := hv.at_ (by omega)
  obtain ⟨x, hx⟩ := get_of_lt hv.1 h
  have c0 := hcx v x hx
  rw [show vs.getD v 0 = x by rw [List.getD_eq_getElem?_getD, hx]; rfl]
  have hvn : (v : Int) < (nv : Int) := by omega
  clear hv hcx hx
  go_enter Try.func107, Try.ntmps107
  go_wp2
  go_ret
  exact ⟨rfl, rfl⟩

set_option maxHeartbeats 1000000 in
theorem node_any (lo hi lo2 hi2 Ba k n c m d : Nat) (z : Int) (ao bo : Option Addr) (fs : List OpD) (f : OpD) (xs : List Int) (W : World) (hc0 : W.cell? ⟨Ba, 0, none⟩ = some (.int .i64 z)) (hc1 : W.cell? ⟨Ba, 1, none⟩ = some (.slice ao n c))
    (hv : OView W lo hi ao n fs) (hok : algOkB z fs = true) (hf : fs[k]? = some f) (hx : IView W lo2 hi2 bo m xs) (ha : allIn z xs = true) (hl : (m : Int) = f.1) :
    Calls Try.prog 108 #[.int .i64 (k : Int), .slice bo m d, .pointer (some ⟨Ba, 0, none⟩)] W fun e w' => e = .returned (.int .i64 (atA z f xs)) ∧ ∃ q, w' = W.drewN q := by
  obtain ⟨⟨h1, h2⟩, hn4, hall⟩ := algOkB_of hok
  have hfo := hall f (List.mem_of_getElem? hf)
  have hm3 : m ≤ 3 := by have := (opOkB_of hfo).1; omega
  obtain ⟨hi0, hi1, hat⟩ := at_get h1 hfo (by rw [hx.1]; exact hl) ha
  have hkl : k < n := by rw [← hv.1]; exact (List.getElem?_eq_some_iff.1 hf).1
  obtain ⟨b, o, rfl, hbl, hb, hc⟩ := hv.at_ (by omega)
  obtain ⟨a, mt, c', _, c1, hmc, hcm, hvt⟩ := hc k f hf
  have hmt : f.2.length = mt := hvt.1
  rw [hmt] at hi1
  obtain ⟨bt, ot, rfl, _, _, hct⟩ := hvt.at_ (by omega)
  have hct2 := hct _ _ hat
  obtain ⟨i, hi⟩ : ∃ i : Nat, idxA z xs = (i : Int) := ⟨(idxA z xs).toNat, by omega⟩
  have HI := Lib.hid (fun (q : Nat) => idx_impl lo2 hi2 z bo d m xs (W.drewN q) (hx.kept (Kept.drewN W q)) h1 h2 ha hm3)
  rw [hi] at hi1 hct2 HI
  rw [Int.toNat_natCast] at hct2
  obtain ⟨v, hve⟩ : ∃ v, atA z f xs = v := ⟨_, rfl⟩
  rw [hve] at hct2 ⊢
  have hkn : (k : Int) < (n : Int) := by omega
  clear hv hok hf hx ha hl hfo hall hat hc hvt hct hi hve hn4 hi0 hmt
  go_enter Try.func108, Try.ntmps108
  go_wp2
  go_quiet ((go_at_call 109; exact quiet_left (HI.out _)))
  go_wp2
  go_ret
  exact ⟨rfl, _, rfl⟩
end

section
open Go.RowKit Go.Shelf
set_option linter.unusedVariables false
set_option linter.unusedSimpArgs false
attribute [local go_sem] Oper.semAt_some

theorem evS_in {z : Int} {fs : List OpD} {vs xs : List Int} (hok : algOkB z fs = true) (hend : endA fs xs 0 = some xs.length) (hv : allIn z vs = true) (hfit : ∀ x, x ∈ xs → x < (vs.length : Int)) :
    ∀ t i, i + t = xs.length → allIn z (evS z fs vs (xs.drop i)) = true := by
  intro t
  induction t with
  | zero => intro i hi; rw [evS_end (by omega)]; rfl
  | succ t ih =>
    intro i hi
    have hlt : i < xs.length := by omega
    have hx : xs[i]? = some (xs[i]'hlt) := List.getElem?_eq_getElem hlt
    obtain ⟨x, hxe⟩ : ∃ x, xs[i]'hlt = x := ⟨_, rfl⟩
    rw [hxe] at hx
    have ih1 := ih (i + 1) (by omega)
    obtain ⟨b, hb⟩ := term_beh hok hend hx
    have hroom := (evS_room (vs := vs) hok hend hx hb).1
    rw [evS_drop hx]
    unfold evStep
    split
    · rename_i h0
      have h1 := hfit x (List.mem_of_getElem? hx)
      have hlv : x.toNat < vs.length := by omega
      have h2 := allIn_get hv (List.getElem?_eq_getElem hlv)
      unfold allIn at ih1 ⊢
      rw [List.all_cons, ih1, List.getD_eq_getElem?_getD, List.getElem?_eq_getElem hlv]
      simp only [Option.getD_some, Bool.and_true, decide_eq_true_eq]
      exact h2
    · rename_i h0
      unfold beh at hb
      rw [if_neg h0] at hb
      obtain ⟨f, hf, rfl⟩ := Option.map_eq_some_iff.1 hb
      have hfo := (algOkB_of hok).2.2 f (List.mem_of_getElem? hf)
      have h1 := (algOkB_of hok).1.1
      rw [show fs.getD (-1 - x).toNat (0, []) = f by rw [List.getD_eq_getElem?_getD, hf]; rfl]
      have har := (opOkB_of hfo).1
      have hta : allIn z ((evS z fs vs (xs.drop (i + 1))).take f.1.toNat) = true := by
        unfold allIn at ih1 ⊢
        rw [List.all_eq_true] at ih1 ⊢
        exact fun y hy => ih1 y (List.mem_of_mem_take hy)
      obtain ⟨_, _, hat⟩ := at_get h1 hfo (xs := (evS z fs vs (xs.drop (i + 1))).take f.1.toNat) (by rw [List.length_take]; omega) hta
      have h2 := allIn_get (opOkB_of hfo).2.2 hat
      have hdr : allIn z ((evS z fs vs (xs.drop (i + 1))).drop f.1.toNat) = true := by
        unfold allIn at ih1 ⊢
        rw [List.all_eq_true] at ih1 ⊢
        exact fun y hy => ih1 y (List.mem_of_mem_drop hy)
      unfold allIn at hdr ⊢
      rw [List.all_cons, hdr]
      simp only [Bool.and_true, decide_eq_true_eq]
      exact h2

/-- What stands in memory when k rounds are over. -/
def FoldI (z : Int) (ao : Option Addr) (n c m s3 s4 Ba Bv : Nat) (w : World) (st : Nat → List Int) (k : Nat) (W : World) : Prop :=
  (W.cell? ⟨s3, 0, none⟩ = some (.int .i64 z) ∧ W.cell? ⟨s3, 1, none⟩ = some (.slice ao n c) ∧ W.cell? ⟨s3 + 1, 0, none⟩ = some (.func (.func 107) #[] #[.pointer (some ⟨Bv, 0, none⟩)]) ∧
    W.cell? ⟨s3 + 1 + 1, 0, none⟩ = some (.func (.func 108) #[] #[.pointer (some ⟨Ba, 0, none⟩)]) ∧ W.cell? ⟨s4, 0, none⟩ = some (.slice (some ⟨s3 + 1 + 1 + 1, 0, none⟩) m m) ∧
    (W.cell? ⟨s4 + 1, 0, none⟩ = some (.int .i64 ((m - (st k).length : Nat) : Int)) ∧ W.frozen? ⟨s4 + 1, 0, none⟩ = false) ∧
    (∀ j, j < m → ∃ v : Int, W.cell? ⟨s3 + 1 + 1 + 1, j, none⟩ = some (.int .i64 v) ∧ W.frozen? ⟨s3 + 1 + 1 + 1, j, none⟩ = false) ∧
    (∀ j v, (st k)[j]? = some v → W.cell? ⟨s3 + 1 + 1 + 1, m - (st k).length + j, none⟩ = some (.int .i64 v))) ∧
  Below s3 w W
theorem foldI_own (z : Int) (ao : Option Addr) (n c m s3 s4 Ba Bv : Nat) (w : World) (st : Nat → List Int) (B : Nat) (hs : s3 ≤ w.heap.size) (hB : s3 ≤ B) : OwnFrom B (FoldI z ao n c m s3 s4 Ba Bv w st) :=
  OwnFrom.and (Own.from (fun s A C row ⟨h0, h1, h2, h3, h4, ⟨h5, h6⟩, h7, h8⟩ hg hr =>
    ⟨cell_kept h0 hg hr, cell_kept h1 hg hr, cell_kept h2 hg hr, cell_kept h3 hg hr, cell_kept h4 hg hr, ⟨cell_kept h5 hg hr, (frozen_kept h5 hg hr).trans h6⟩,
      fun j hj => by obtain ⟨v, hv, hf⟩ := h7 j hj; exact ⟨v, cell_kept hv hg hr, (frozen_kept hv hg hr).trans hf⟩,
      fun j v hj => cell_kept (h8 j v hj) hg hr⟩) _) (ownFrom_below hs hB)

/-- The same with whatever stands in the top's cell. -/
def FoldP (z : Int) (ao : Option Addr) (n c m s3 s4 Ba Bv : Nat) (w : World) (S : List Int) (W : World) : Prop :=
  (W.cell? ⟨s3, 0, none⟩ = some (.int .i64 z) ∧ W.cell? ⟨s3, 1, none⟩ = some (.slice ao n c) ∧ W.cell? ⟨s3 + 1, 0, none⟩ = some (.func (.func 107) #[] #[.pointer (some ⟨Bv, 0, none⟩)]) ∧
    W.cell? ⟨s3 + 1 + 1, 0, none⟩ = some (.func (.func 108) #[] #[.pointer (some ⟨Ba, 0, none⟩)]) ∧ W.cell? ⟨s4, 0, none⟩ = some (.slice (some ⟨s3 + 1 + 1 + 1, 0, none⟩) m m) ∧
    ((∃ u : Int, W.cell? ⟨s4 + 1, 0, none⟩ = some (.int .i64 u)) ∧ W.frozen? ⟨s4 + 1, 0, none⟩ = false) ∧
    (∀ j, j < m → ∃ v : Int, W.cell? ⟨s3 + 1 + 1 + 1, j, none⟩ = some (.int .i64 v) ∧ W.frozen? ⟨s3 + 1 + 1 + 1, j, none⟩ = false) ∧
    (∀ j v, S[j]? = some v → W.cell? ⟨s3 + 1 + 1 + 1, m - S.length + j, none⟩ = some (.int .i64 v))) ∧
  Below s3 w W
theorem set_other {W : World} {p q : Addr} {v : Value} (h : q.block ≠ p.block) : (W.setCell p v).cell? q = W.cell? q := World.cell?_of_block (Below.heap_setCell W p v q.block h)
theorem FoldP.top {z : Int} {ao : Option Addr} {n c m s3 s4 Ba Bv : Nat} {w W : World} {S : List Int} (h : FoldP z ao n c m s3 s4 Ba Bv w S W) (hs : s3 + 1 + 1 + 1 < s4) (x : Int) : FoldP z ao n c m s3 s4 Ba Bv w S (W.setCell ⟨s4 + 1, 0, none⟩ (.int .i64 x)) ∧ (W.setCell ⟨s4 + 1, 0, none⟩ (.int .i64 x)).cell? ⟨s4 + 1, 0, none⟩ = some (.int .i64 x) := by
  obtain ⟨⟨h0, h1, h2, h3, h4, ⟨⟨u, h5⟩, h6⟩, h7, h8⟩, hB⟩ := h
  have hc : (W.setCell ⟨s4 + 1, 0, none⟩ (.int .i64 x)).cell? ⟨s4 + 1, 0, none⟩ = some (.int .i64 x) := World.cell?_setCell_same' _ _ _ (by rw [h5]; rfl)
  refine ⟨⟨⟨(set_other (by dsimp only; omega)).trans h0, (set_other (by dsimp only; omega)).trans h1, (set_other (by dsimp only; omega)).trans h2, (set_other (by dsimp only; omega)).trans h3, (set_other (by dsimp only; omega)).trans h4, ⟨⟨x, hc⟩, by rw [World.frozen?_setCell]; exact h6⟩, fun j hj => ?_, fun j v hj => (set_other (by dsimp only; omega)).trans (h8 j v hj)⟩, hB.setCell (p := ⟨s4 + 1, 0, none⟩) (by show _ ≤ s4 + 1; omega) _⟩, hc⟩
  obtain ⟨v, hv, hf⟩ := h7 j hj
  exact ⟨v, (set_other (by dsimp only; omega)).trans hv, by rw [World.frozen?_setCell]; exact hf⟩
theorem FoldP.put {z : Int} {ao : Option Addr} {n c m s3 s4 Ba Bv : Nat} {w W : World} {S : List Int} (h : FoldP z ao n c m s3 s4 Ba Bv w S W) (hs : s3 + 1 + 1 + 1 < s4) (r t k : Nat) (y : Int) (st : Nat → List Int) (hst : st k = y :: S.drop r) (hr : r ≤ S.length) (hSm : S.length - r + 1 ≤ m) (ht : t = m - (S.length - r + 1))
    (hS : S.length ≤ m) (hc : W.cell? ⟨s4 + 1, 0, none⟩ = some (.int .i64 (t : Int))) : FoldI z ao n c m s3 s4 Ba Bv w st k (W.setCell ⟨s3 + 1 + 1 + 1, t, none⟩ (.int .i64 y)) := by
  obtain ⟨⟨h0, h1, h2, h3, h4, ⟨_, h6⟩, h7, h8⟩, hB⟩ := h
  obtain ⟨u, hu, huf⟩ := h7 t (by omega)
  have hsame : (W.setCell ⟨s3 + 1 + 1 + 1, t, none⟩ (.int .i64 y)).cell? ⟨s3 + 1 + 1 + 1, t, none⟩ = some (.int .i64 y) := World.cell?_setCell_same' _ _ _ (by rw [hu]; rfl)
  have hlen : (st k).length = S.length - r + 1 := by rw [hst, List.length_cons, List.length_drop]
  have hfar : ∀ j, j ≠ t → (W.setCell ⟨s3 + 1 + 1 + 1, t, none⟩ (.int .i64 y)).cell? ⟨s3 + 1 + 1 + 1, j, none⟩ = W.cell? ⟨s3 + 1 + 1 + 1, j, none⟩ := fun j hj => World.cell?_setCell_other _ _ _ _ (fun e => hj (by injection e with _ h _; exact h.symm))
  refine ⟨⟨(set_other (by dsimp only; omega)).trans h0, (set_other (by dsimp only; omega)).trans h1, (set_other (by dsimp only; omega)).trans h2, (set_other (by dsimp only; omega)).trans h3, (set_other (by dsimp only; omega)).trans h4, ⟨?_, by rw [World.frozen?_setCell]; exact h6⟩, fun j hj => ?_, fun j v hj => ?_⟩, hB.setCell (p := ⟨s3 + 1 + 1 + 1, t, none⟩) (by show _ ≤ s3 + 1 + 1 + 1; omega) _⟩
  · rw [hlen, ← ht]; exact (set_other (by dsimp only; omega)).trans hc
  · by_cases hjt : j = t
    · subst hjt; exact ⟨y, hsame, by rw [World.frozen?_setCell]; exact huf⟩
    · obtain ⟨v, hv, hf⟩ := h7 j hj
      exact ⟨v, (hfar j hjt).trans hv, by rw [World.frozen?_setCell]; exact hf⟩
  · rw [hlen, ← ht]
    rw [hst] at hj
    cases j with
    | zero => simp at hj; subst hj; exact hsame
    | succ j =>
      rw [List.getElem?_cons_succ, List.getElem?_drop] at hj
      have hjl := (List.getElem?_eq_some_iff.1 hj).1
      rw [hfar (t + (j + 1)) (by omega), show t + (j + 1) = m - S.length + (r + j) by omega]
      exact h8 (r + j) v hj
theorem keep_set {B X : Nat} {W V : World} (h : KeepsOthers W V ∧ Keep B X W V) (p : Addr) (v : Value) (hp : B ≤ p.block) (hx : X ≠ p.block) : KeepsOthers W (V.setCell p v) ∧ Keep B X W (V.setCell p v) :=
  ⟨h.1.trans (KeepsOthers.setCell V p v), h.2.1.setCell hp v, (Below.heap_setCell V p v X hx).trans h.2.2⟩
theorem keep_drawn {B X : Nat} {W V : World} (h : KeepsOthers W V ∧ Keep B X W V) (q : Nat) : KeepsOthers W (V.drewN q) ∧ Keep B X W (V.drewN q) :=
  ⟨⟨h.1.size, h.1.same⟩, below_drewN h.2.1 q, h.2.2⟩
theorem FoldP.drawn {z : Int} {ao : Option Addr} {n c m s3 s4 Ba Bv : Nat} {w W : World} {S : List Int} (h : FoldP z ao n c m s3 s4 Ba Bv w S W) (q : Nat) : FoldP z ao n c m s3 s4 Ba Bv w S (W.drewN q) :=
  ⟨⟨h.1.1, h.1.2.1, h.1.2.2.1, h.1.2.2.2.1, h.1.2.2.2.2.1, h.1.2.2.2.2.2.1, h.1.2.2.2.2.2.2.1, h.1.2.2.2.2.2.2.2⟩, below_drewN h.2 q⟩

theorem wrap_nat (q : Nat) (h : q ≤ 4) : wrap64 (q : Int) = (q : Int) := by unfold wrap64; omega

theorem make_ints (w : World) (n : Nat) (hn : n ≤ 1048576) : ∃ w', (Instr.makeSlice 25 (.int .i64 (n : Int)) (.int .i64 (n : Int))).run Try.prog w = .ok (.slice (some ⟨w.heap.size, 0, none⟩) n n) w' ∧
    w'.ownsRow w.heap.size 3 1 (.slice (some ⟨w.heap.size, 0, none⟩) n n) n ((List.replicate n (0 : Int)).map (Value.int .i64)) ∧ Below w.heap.size w w' := by
  obtain ⟨i0, hi0, hz0, hz1, hz2⟩ := info_parts Try.infoInt
  obtain ⟨w', hrun, r1, r2⟩ := run_make_full (P := Try.prog) w w.heap.size 25 3 i0 _ 1 Try.underlying25 hi0 hz0 hz1 .i64 .i64 n (by rw [hz2]; omega) (by unfold maxLen; omega) (Nat.le_refl _)
  refine ⟨w', hrun, ?_, (Below.refl _ _).grown r2 (Nat.le_refl _) (by intro k hk; cases hk)⟩
  rw [show (Value.int .i64 0).cells = #[Value.int .i64 0] from rfl, Nat.mul_one, toList_madeCells_one] at r1
  rw [List.map_replicate]
  exact r1

set_option maxRecDepth 100000 in
set_option maxHeartbeats 4000000 in
theorem fold_any (lo hi lo2 hi2 lo3 hi3 : Nat) (z : Int) (ao bo vo : Option Addr) (n c m d nv cv Ba Bv : Nat) (fs : List OpD) (xs vs : List Int) (w : World) (hv : OView w lo hi ao n fs) (hhi : hi ≤ w.heap.size) (hok : algOkB z fs = true)
    (hx : IView w lo2 hi2 bo m xs) (hhi2 : hi2 ≤ w.heap.size) (hvs : IView w lo3 hi3 vo nv vs) (hhi3 : hi3 ≤ w.heap.size) (h60 : xs.length ≤ 60) (hend : endA fs xs 0 = some xs.length) (hvok : allIn z vs = true) (hfit : ∀ x, x ∈ xs → x < (nv : Int))
    (hBa0 : w.cell? ⟨Ba, 0, none⟩ = some (.int .i64 z)) (hBa1 : w.cell? ⟨Ba, 1, none⟩ = some (.slice ao n c)) (hBv : w.cell? ⟨Bv, 0, none⟩ = some (.slice vo nv cv)) :
    Calls Try.prog 110 #[.agg #[.int .i64 z, .slice ao n c], .slice bo m d, .func (.func 107) #[] #[.pointer (some ⟨Bv, 0, none⟩)], .func (.func 108) #[] #[.pointer (some ⟨Ba, 0, none⟩)]] w
      fun e w' => e = .returned (.int .i64 (evT z fs vs xs)) ∧ Below w.heap.size w w' := by
  have hl := hx.1
  have hm0 : 0 < m := by have := term_pos hend; omega
  have hm60 : m ≤ 60 := by omega
  obtain ⟨b, o, rfl, hbl, hbh, hcx⟩ := hx.at_ hm0
  obtain ⟨w3, hw3⟩ : ∃ w3, w3 = ((w.alloc (.cells #[.int .i64 z, .slice ao n c] 30)).alloc (.cells #[.func (.func 107) #[] #[.pointer (some ⟨Bv, 0, none⟩)]] 107)).alloc (.cells #[.func (.func 108) #[] #[.pointer (some ⟨Ba, 0, none⟩)]] 108) := ⟨_, rfl⟩
  obtain ⟨w4, hr4, ho4, hg4⟩ := make_ints w3 m (by omega)
  refine (callsIn_wide (n := 6)).1 ?_
  refine callsIn_of_wp_marks Try.func110 rfl trivial ?_ rfl
  simp only [Try.ntmps110, List.size_toArray, List.length_cons, List.length_nil, Nat.reduceAdd, Nat.reduceSub, Array.replicate_succ, Array.replicate_zero, List.push_toArray, List.append_toArray, List.nil_append, List.cons_append]
  rw [hw3] at hr4
  gi_wp2_with (refine ⟨trivial, ?_⟩; gi_at_call 122; refine (callsIn_wide.2 (backward_any _ _ _ _)).mono ?_; rintro e w' ⟨rfl, rfl⟩)
  have hB3 : Below w.heap.size w w3 := by
    rw [hw3]; exact (((Below.refl _ w).alloc (Nat.le_refl _) _).alloc (by simp) _).alloc (by simp; omega) _
  have hs3 : w3.heap.size = w.heap.size + 1 + 1 + 1 := by rw [hw3]; simp
  have hB4 : Below w.heap.size w w4 := hB3.trans (hg4.mono hB3.size)
  have hs4 : w.heap.size + 1 + 1 + 1 < w4.heap.size := by have := (own_lt ho4).2; omega
  rw [hs3] at ho4
  obtain ⟨W7, hW7⟩ : ∃ W7, W7 = ((w4.alloc (.cells #[.slice (some ⟨w.heap.size + 1 + 1 + 1, 0, none⟩) m m] 25)).alloc (.cells #[.int .i64 (m : Int)] 3)).alloc (.cells #[.slice (some ⟨b, o, none⟩) m d] 25) := ⟨_, rfl⟩
  have hB47 : Below w4.heap.size w4 W7 := by rw [hW7]; exact (((Below.refl _ w4).alloc (Nat.le_refl _) _).alloc (by simp) _).alloc (by simp; omega) _
  have hB7 : Below w.heap.size w W7 := hB4.trans (hB47.mono hB4.size)
  have hs7 : W7.heap.size = w4.heap.size + 1 + 1 + 1 := by rw [hW7]; simp
  have hX7 : W7.cell? ⟨w4.heap.size + 1 + 1, 0, none⟩ = some (.slice (some ⟨b, o, none⟩) m d) := by rw [hW7]; go_simp
  have c3 : ∀ {p : Addr} {v : Value}, w3.cell? p = some v → W7.cell? p = some v := fun h => cell_b hB47 (cell_b hg4 h)
  have d0 : W7.cell? ⟨w.heap.size, 0, none⟩ = some (.int .i64 z) := c3 (by rw [hw3]; go_simp)
  have d1 : W7.cell? ⟨w.heap.size, 1, none⟩ = some (.slice ao n c) := c3 (by rw [hw3]; go_simp)
  have d2 : W7.cell? ⟨w.heap.size + 1, 0, none⟩ = some (.func (.func 107) #[] #[.pointer (some ⟨Bv, 0, none⟩)]) := c3 (by rw [hw3]; go_simp)
  have d3 : W7.cell? ⟨w.heap.size + 1 + 1, 0, none⟩ = some (.func (.func 108) #[] #[.pointer (some ⟨Ba, 0, none⟩)]) := c3 (by rw [hw3]; go_simp)
  have d4 : W7.cell? ⟨w4.heap.size, 0, none⟩ = some (.slice (some ⟨w.heap.size + 1 + 1 + 1, 0, none⟩) m m) := by rw [hW7]; go_simp
  have d5 : W7.cell? ⟨w4.heap.size + 1, 0, none⟩ = some (.int .i64 (m : Int)) := by rw [hW7]; go_simp
  have d6 : W7.frozen? ⟨w4.heap.size + 1, 0, none⟩ = false := by rw [hW7]; go_simp
  have d7 : ∀ j, j < m → ∃ v : Int, W7.cell? ⟨w.heap.size + 1 + 1 + 1, j, none⟩ = some (.int .i64 v) ∧ W7.frozen? ⟨w.heap.size + 1 + 1 + 1, j, none⟩ = false := fun j hj =>
    ⟨0, cell_b hB47 (own_at ho4 (by rw [List.getElem?_replicate, if_pos hj])), (hB47.frozen (p := ⟨w.heap.size + 1 + 1 + 1, j, none⟩) hs4).trans (ho4.frozenAt j)⟩
  rw [← hW7]
  have hseq := back_seq 5 (w4.heap.size + 1 + 1) w.heap.size b o m d xs hl hm0 hm60 (by omega) W7 (by omega) hB7.size hX7 (fun j x hj => (hB7.cell (p := ⟨b, o + j, none⟩) (by show b < _; omega)).trans (hcx j x hj))
  have hI0 : FoldI z ao n c m w.heap.size w4.heap.size Ba Bv w (fun k => evS z fs vs (xs.drop (m - k))) 0 W7 := by
    have he : evS z fs vs (xs.drop (m - 0)) = [] := evS_end (by omega)
    refine ⟨⟨d0, d1, d2, d3, d4, ⟨?_, d6⟩, d7, fun j v hj => ?_⟩, hB7⟩
    · dsimp only; rw [he]; exact d5
    · dsimp only at hj; rw [he] at hj; simp at hj
  have HCx := Lib.hid hcx
  have HV := Lib.hid hv
  have HVs := Lib.hid hvs
  have HIn := Lib.hid (evS_in (vs := vs) hok hend hvok (by rw [hvs.1]; exact hfit))
  have HFit := Lib.hid hfit
  have HEnd := Lib.hid hend
  have HOk := Lib.hid hok
  have HL := Lib.hid hl
  refine wpIn_rangeN rfl (by decide) (gf := 124) (lb := #[.pointer (some ⟨w4.heap.size + 1 + 1, 0, none⟩)]) rfl trivial (enters_of Try.func124 (by kernel_rfl) rfl)
    hseq hB7.size (by omega) (Below.refl _ _) (fun _ => rfl)
    (FoldI z ao n c m w.heap.size w4.heap.size Ba Bv w (fun k => evS z fs vs (xs.drop (m - k)))) (foldI_own _ _ _ _ _ _ _ _ _ _ _ _ (Nat.le_refl _) hB7.size) hI0
    (fun k => { tmps := #[.agg #[.int .i64 z, .slice ao n c], .slice (some ⟨b, o, none⟩) m d, .func (.func 107) #[] #[.pointer (some ⟨Bv, 0, none⟩)], .func (.func 108) #[] #[.pointer (some ⟨Ba, 0, none⟩)], .pointer (some ⟨w.heap.size, 0, none⟩), undef, .pointer (some ⟨w.heap.size + 1, 0, none⟩), .pointer (some ⟨w.heap.size + 1 + 1, 0, none⟩), .int .i64 0, .pointer (some ⟨w4.heap.size, 0, none⟩), .pointer (some ⟨w4.heap.size + 1, 0, none⟩), undef, .int .i64 (xs[m - 1 - k]?.getD 0), undef, undef, undef, .slice (some ⟨b, o, none⟩) m d, .int .i64 (m : Int), .slice (some ⟨w.heap.size + 1 + 1 + 1, 0, none⟩) m m, .slice (some ⟨b, o, none⟩) m d, .int .i64 (m : Int), .slice (some ⟨b, o, none⟩) m d, .func (.func 124) #[] #[.pointer (some ⟨w4.heap.size + 1 + 1, 0, none⟩)], .int .i64 ((m - 1 - k : Nat) : Int), .int .i64 (xs[m - 1 - k]?.getD 0), undef, undef, undef, undef, undef, undef, undef, undef, undef, undef, undef, undef, undef, undef, undef, undef, undef, undef, undef, undef, undef, undef, undef, undef, undef, undef, undef, undef, undef, undef, undef, undef, undef], defers := [] }) ?assign ?body ?done
  case assign =>
    intro l k W K hK
    unfold backEnc
    gi_wp2
    exact hK
  case body =>
    rintro l k W hk ⟨⟨i0, i1, i2, i3, i4, ⟨i5, i6⟩, i7, i8⟩, iB⟩
    obtain ⟨j, hj⟩ : ∃ j, j = m - 1 - k := ⟨_, rfl⟩
    have hjm : j < xs.length := by omega
    have hjk : m - k = j + 1 := by omega
    have hjk1 : m - (k + 1) = j := by omega
    have hx : xs[j]? = some (xs[j]'hjm) := List.getElem?_eq_getElem hjm
    obtain ⟨x, hxe⟩ : ∃ x, xs[j]'hjm = x := ⟨_, rfl⟩
    rw [hxe] at hx
    rw [← hj, show xs[j]?.getD 0 = x by rw [hx]; rfl]
    obtain ⟨S, hS⟩ : ∃ S, evS z fs vs (xs.drop (j + 1)) = S := ⟨_, rfl⟩
    simp only [hjk, hS] at i5 i8
    have hSl : S.length ≤ k := by rw [← hS]; have := evS_le z fs vs (xs.drop (j + 1)); rw [List.length_drop] at this; omega
    have hSin : allIn z S = true := by rw [← hS]; exact HIn.out k (j + 1) (by omega)
    obtain ⟨bb, hbb⟩ := term_beh HOk.out HEnd.out hx
    have hroom := (evS_room (vs := vs) HOk.out HEnd.out hx hbb).1
    rw [hS] at hroom
    have hnew : evS z fs vs (xs.drop j) = evStep z fs vs x S := by rw [evS_drop hx, hS]
    by_cases h0 : 0 ≤ x
    · obtain ⟨v, rfl⟩ : ∃ v : Nat, x = (v : Int) := ⟨x.toNat, by omega⟩
      have hvn : v < nv := by have := HFit.out _ (List.mem_of_getElem? hx); omega
      have hnew2 : evS z fs vs (xs.drop j) = vs.getD v 0 :: S := by rw [hnew, evStep, if_pos h0]; simp
      have hleaf := leaf_any lo3 hi3 Bv v nv cv vo vs W ((iB.cell (p := ⟨Bv, 0, none⟩) (World.block_lt_of_cell? w _ hBv)).trans hBv) (HVs.out.kept (Kept.of_below iB hhi3)) hvn
      have HLeaf := Lib.hid hleaf
      obtain ⟨t, ht⟩ : ∃ t : Nat, m - S.length = t + 1 := ⟨m - S.length - 1, by omega⟩
      rw [ht] at i5 i8
      obtain ⟨y, hy⟩ : ∃ y, vs.getD v 0 = y := ⟨_, rfl⟩
      rw [hy] at hnew2 HLeaf
      obtain ⟨u0, hu0, hf0⟩ := i7 t (by omega)
      have htm : (t : Int) < (m : Int) := by omega
      have hcast : ((t + 1 : Nat) : Int) = (t : Int) + 1 := by omega
      have I8 := Lib.hid i8
      have I7 := Lib.hid i7
      have e107 := enters_of Try.func107 (by kernel_rfl) rfl
      clear i7 i8 hleaf hx hxe hbb hroom hnew hy
      gi_wp2_with (refine ⟨trivial, ?_⟩; gi_at_call 107; refine (CallsIn.inRound l (callsIn_wide.2 HLeaf.out)).mono ?_; rintro e w' ⟨rfl, rfl⟩)
      have hP : FoldP z ao n c m w.heap.size w4.heap.size Ba Bv w S w' := ⟨⟨i0, i1, i2, i3, i4, ⟨⟨_, i5⟩, i6⟩, I7.out, by rw [ht]; exact I8.out⟩, iB⟩
      obtain ⟨hP2, hc2⟩ := hP.top hs4 (t : Int)
      have hK2 := keep_set (keep_set (B := w.heap.size) (X := w4.heap.size + 1 + 1) ⟨KeepsOthers.refl w', Keep.refl _ _ w'⟩ ⟨w4.heap.size + 1, 0, none⟩ (.int .i64 (t : Int)) (by dsimp only; omega) (by dsimp only; omega)) ⟨w.heap.size + 1 + 1 + 1, t, none⟩ (.int .i64 y) (by dsimp only; omega) (by dsimp only; omega)
      exact ⟨hK2.1, hK2.2, hP2.put hs4 0 t (k + 1) y _ (by (try dsimp only); rw [hjk1, hnew2]; rfl) (Nat.zero_le _) (by omega) (by omega) (by omega) hc2⟩
    · have hx0 : x < 0 := Int.not_le.1 h0
      have hb2 := hbb
      unfold beh at hb2
      rw [if_neg h0] at hb2
      obtain ⟨f, hf, rfl⟩ := Option.map_eq_some_iff.1 hb2
      obtain ⟨q, hq⟩ : ∃ q : Nat, -1 - x = (q : Int) := ⟨(-1 - x).toNat, by omega⟩
      rw [show (-1 - x).toNat = q by omega] at hf
      have hqn : q < n := by rw [← HV.out.1]; exact (List.getElem?_eq_some_iff.1 hf).1
      have hfo := (algOkB_of HOk.out).2.2 f (List.mem_of_getElem? hf)
      obtain ⟨r, hr⟩ : ∃ r : Nat, f.1 = (r : Int) := ⟨f.1.toNat, by have := (opOkB_of hfo).1; omega⟩
      rw [hr] at hroom
      have hrS : r ≤ S.length := by omega
      have hnew2 : evS z fs vs (xs.drop j) = atA z f (S.take r) :: S.drop r := by
        rw [hnew, evStep, if_neg h0, show (-1 - x).toNat = q by omega, show fs.getD q (0, []) = f by rw [List.getD_eq_getElem?_getD, hf]; rfl, hr]; rfl
      have hP : FoldP z ao n c m w.heap.size w4.heap.size Ba Bv w S W := ⟨⟨i0, i1, i2, i3, i4, ⟨⟨_, i5⟩, i6⟩, i7, i8⟩, iB⟩
      obtain ⟨t, ht⟩ : ∃ t : Nat, t = m - S.length := ⟨_, rfl⟩
      rw [← ht] at i5 i8
      obtain ⟨b2, o2, rfl, hbl2, hbh2, hc2⟩ := HV.out.at_ (by omega)
      obtain ⟨a2, m2, c2, k0, _, _, _, _⟩ := hc2 q f hf
      have k1 : W.cell? ⟨b2, o2 + q * 2, none⟩ = some (.int .i64 (r : Int)) := by rw [← hr]; exact (iB.cell (p := ⟨b2, _, none⟩) (by show b2 < _; omega)).trans k0
      obtain ⟨y, hy⟩ : ∃ y, atA z f (S.take r) = y := ⟨_, rfl⟩
      have hargs : IView W w.heap.size (w.heap.size + 1 + 1 + 1 + 1) (some ⟨w.heap.size + 1 + 1 + 1, t, none⟩) r (S.take r) := by
        refine ⟨by rw [List.length_take]; omega, .inr ⟨w.heap.size + 1 + 1 + 1, t, rfl, by omega, by omega, fun i v hi => ?_⟩⟩
        rw [List.getElem?_take] at hi
        split at hi
        · exact i8 i v hi
        · cases hi
      have hin2 : allIn z (S.take r) = true := by
        unfold allIn at hSin ⊢
        rw [List.all_eq_true] at hSin ⊢
        exact fun v hv => hSin v (List.mem_of_mem_take hv)
      have hba0 := (iB.cell (p := ⟨Ba, 0, none⟩) (World.block_lt_of_cell? w _ hBa0)).trans hBa0
      have hba1 := (iB.cell (p := ⟨Ba, 1, none⟩) (World.block_lt_of_cell? w _ hBa1)).trans hBa1
      have hnode : ∀ (a_ : Option Addr) (d_ g1 g2 : Nat), IView W w.heap.size (w.heap.size + 1 + 1 + 1 + 1) a_ r (S.take r) → Calls Try.prog 108 #[.int .i64 (q : Int), .slice a_ r d_, .pointer (some ⟨Ba, 0, none⟩)] (W.drewN (g1 + g2)) fun e w' => e = .returned (.int .i64 y) ∧ ∃ g, w' = W.drewN (g1 + g) := by
        intro a_ d_ g1 g2 hva
        have h_ := node_any lo hi w.heap.size (w.heap.size + 1 + 1 + 1 + 1) Ba q n c r d_ z (some ⟨b2, o2, none⟩) a_ fs f (S.take r) (W.drewN (g1 + g2)) hba0 hba1 ((HV.out.kept (Kept.of_below iB hhi)).kept (Kept.drewN _ _)) HOk.out hf (hva.kept (Kept.drewN _ _)) hin2 hr.symm
        rw [hy] at h_
        exact h_.mono fun e w' ⟨he, g, hw⟩ => ⟨he, g2 + g, by rw [hw, World.drewN_drewN, Nat.add_assoc]⟩
      have HNode := Lib.hid hnode
      have HArgs := Lib.hid hargs
      have hqn' : (q : Int) < (n : Int) := by omega
      have hn4 : n ≤ 4 := by have := (algOkB_of HOk.out).2.1; have := HV.out.1; omega
      obtain ⟨en, hen⟩ : ∃ en : Nat, en = t + r := ⟨_, rfl⟩
      have hten : (t : Int) + (r : Int) = (en : Int) := by omega
      have hle1 : (t : Int) ≤ (en : Int) := by omega
      have hle2 : (en : Int) ≤ (m : Int) := by omega
      obtain ⟨t2, ht2⟩ : ∃ t2 : Nat, en = t2 + 1 ∨ (en = 0) := ⟨en - 1, by omega⟩
      have hen0 : en ≠ 0 := by
        have hroom2 := (evS_room (vs := vs) HOk.out HEnd.out hx hbb).2
        rw [hS, hr] at hroom2
        have hle := evS_le z fs vs (xs.drop j)
        rw [List.length_drop] at hle
        omega
      have hen2 : en = t2 + 1 := by omega
      have hcast : (en : Int) - 1 = (t2 : Int) := by omega
      obtain ⟨u0, hu0, hf0⟩ := i7 t2 (by omega)
      have ht2m : (t2 : Int) < (m : Int) := by omega
      have HP := Lib.hid hP
      rw [hy] at hnew2
      have Hnew := Lib.hid hnew2
      have e108 := enters_of Try.func108 (by kernel_rfl) rfl
      have hrd : en - t = r := by omega
      have HT := Lib.hid ht
      have HEn2 := Lib.hid hen2
      clear ht hen2 i7 i8 hx hxe hbb hnew hb2 hnode hargs hc2 k0 hfo hr hf hy hin2 hroom hen ht2 hen0 hP hnew2
      by_cases htm : m = t
      · have HR0 : Hid (r = 0) := by unfold Hid; have := HT.out; omega
        subst htm
        gi_wp2
        refine wpIn_region_round rfl l (by kernel_rfl) (by kernel_rfl) (by kernel_rfl) ?_
        repeat (gi_big_quiet_step (fail))
        refine wpQuietIn_nil ?_
        intro _ hw'
        obtain ⟨g1, hw''⟩ := hw'
        subst hw''
        gi_wp2
        refine wpIn_region_round rfl l (by kernel_rfl) (by kernel_rfl) (by kernel_rfl) ?_
        repeat (gi_big_quiet_step (fail))
        refine wpQuietIn_step (fun _ _ _ _ => trivial) (fun K hK => ?_)
        go_simp
        refine ⟨_, fun a => callsIn_wide.2 (HNode.out (some ⟨w.heap.size + 1 + 1 + 1, 0, none⟩) 0 g1 a ⟨by rw [List.length_take]; omega, .inl HR0.out⟩), hK _ ?_⟩
        clear hK K
        repeat (gi_big_quiet_step (fail))
        refine wpQuietIn_nil ?_
        intro _ hw'
        obtain ⟨g2, hw''⟩ := hw'
        subst hw''
        gi_wp2
        have ht_ := HT.out
        have hen_ := HEn2.out
        obtain ⟨hP2, _⟩ := (HP.out.drawn (g1 + g2)).top hs4 (en : Int)
        obtain ⟨hP3, hc3⟩ := hP2.top hs4 (t2 : Int)
        have hK0 : KeepsOthers W (W.drewN (g1 + g2)) ∧ Keep w.heap.size (w4.heap.size + 1 + 1) W (W.drewN (g1 + g2)) := keep_drawn ⟨KeepsOthers.refl W, Keep.refl _ _ W⟩ (g1 + g2)
        have hK2 := keep_set (keep_set (keep_set hK0 ⟨w4.heap.size + 1, 0, none⟩ (.int .i64 (en : Int)) (by dsimp only; omega) (by dsimp only; omega)) ⟨w4.heap.size + 1, 0, none⟩ (.int .i64 (t2 : Int)) (by dsimp only; omega) (by dsimp only; omega)) ⟨w.heap.size + 1 + 1 + 1, t2, none⟩ (.int .i64 y) (by dsimp only; omega) (by dsimp only; omega)
        exact ⟨hK2.1, hK2.2, hP3.put hs4 r t2 (k + 1) y _ (by (try dsimp only); rw [hjk1, Hnew.out]) hrS (by omega) (by omega) (by omega) hc3⟩
      · have htm' : (t : Int) < (m : Int) := by omega
        gi_wp2
        refine wpIn_region_round rfl l (by kernel_rfl) (by kernel_rfl) (by kernel_rfl) ?_
        repeat (gi_big_quiet_step (fail))
        refine wpQuietIn_nil ?_
        intro _ hw'
        obtain ⟨g1, hw''⟩ := hw'
        subst hw''
        gi_wp2
        refine wpIn_region_round rfl l (by kernel_rfl) (by kernel_rfl) (by kernel_rfl) ?_
        repeat (gi_big_quiet_step (fail))
        refine wpQuietIn_step (fun _ _ _ _ => trivial) (fun K hK => ?_)
        go_simp
        refine ⟨_, fun a => callsIn_wide.2 (HNode.out (some ⟨w.heap.size + 1 + 1 + 1, t, none⟩) (m - t) g1 a HArgs.out), hK _ ?_⟩
        clear hK K
        repeat (gi_big_quiet_step (fail))
        refine wpQuietIn_nil ?_
        intro _ hw'
        obtain ⟨g2, hw''⟩ := hw'
        subst hw''
        gi_wp2
        have ht_ := HT.out
        have hen_ := HEn2.out
        obtain ⟨hP2, _⟩ := (HP.out.drawn (g1 + g2)).top hs4 (en : Int)
        obtain ⟨hP3, hc3⟩ := hP2.top hs4 (t2 : Int)
        have hK0 : KeepsOthers W (W.drewN (g1 + g2)) ∧ Keep w.heap.size (w4.heap.size + 1 + 1) W (W.drewN (g1 + g2)) := keep_drawn ⟨KeepsOthers.refl W, Keep.refl _ _ W⟩ (g1 + g2)
        have hK2 := keep_set (keep_set (keep_set hK0 ⟨w4.heap.size + 1, 0, none⟩ (.int .i64 (en : Int)) (by dsimp only; omega) (by dsimp only; omega)) ⟨w4.heap.size + 1, 0, none⟩ (.int .i64 (t2 : Int)) (by dsimp only; omega) (by dsimp only; omega)) ⟨w.heap.size + 1 + 1 + 1, t2, none⟩ (.int .i64 y) (by dsimp only; omega) (by dsimp only; omega)
        exact ⟨hK2.1, hK2.2, hP3.put hs4 r t2 (k + 1) y _ (by (try dsimp only); rw [hjk1, Hnew.out]) hrS (by omega) (by omega) (by omega) hc3⟩
  case done =>
    rintro D W hD ⟨⟨i0, i1, i2, i3, i4, ⟨i5, i6⟩, i7, i8⟩, iB⟩ hK
    have h1 := evS_one (vs := vs) HOk.out HEnd.out
    have hdr : xs.drop (m - m) = xs := by rw [Nat.sub_self]; rfl
    simp only [hdr] at i5 i8
    obtain ⟨y, hy⟩ : ∃ y, evS z fs vs xs = [y] := List.length_eq_one_iff.1 h1
    rw [hy] at i5 i8
    have c8 := i8 0 y rfl
    simp only [List.length_cons, List.length_nil, Nat.zero_add, Nat.add_zero] at i5 c8
    have hev : evT z fs vs xs = y := by unfold evT; rw [hy]; rfl
    have hlt : ((m - 1 : Nat) : Int) < (m : Int) := by omega
    clear i7 i8 hdr hy h1
    gi_wp2
    refine ⟨by simp, .inl ⟨_, _, rfl, run_takeDeferred hK, ?_⟩⟩
    exact ⟨_, results_tmp rfl _ _ _, by rw [hev]; rfl, iB.trans (belowK_b (w := W7) hB7.size W D _ _ hD hK rfl rfl)⟩
end

section
open Go.RowKit
set_option linter.unusedVariables false
set_option linter.unusedSimpArgs false

/-- The greatest number of a list. -/
def maxL (xs : List Int) : Int := xs.foldl (fun a x => max a x) (xs.headD 0)
theorem maxL_succ {xs : List Int} {k : Nat} {x : Int} (h0 : 0 < k) (hx : xs[k]? = some x) : maxL (xs.take (k + 1)) = max (maxL (xs.take k)) x := by
  unfold maxL
  rw [List.take_add_one, hx, Option.toList_some, List.foldl_append]
  cases xs with
  | nil => simp at hx
  | cons a l => cases k with
    | zero => omega
    | succ k => rfl
theorem foldl_max (l : List Int) : ∀ a : Int, a ≤ l.foldl (fun a x => max a x) a ∧ (∀ x, x ∈ l → x ≤ l.foldl (fun a x => max a x) a) ∧ (l.foldl (fun a x => max a x) a = a ∨ l.foldl (fun a x => max a x) a ∈ l) := by
  induction l with
  | nil => intro a; exact ⟨Int.le_refl _, fun x h => by simp at h, .inl rfl⟩
  | cons b l ih =>
    intro a
    obtain ⟨h1, h2, h3⟩ := ih (max a b)
    refine ⟨by rw [List.foldl_cons]; omega, fun x hx => ?_, ?_⟩
    · rcases List.mem_cons.1 hx with rfl | hx
      · rw [List.foldl_cons]; omega
      · exact h2 x hx
    · rw [List.foldl_cons]
      rcases h3 with h | h
      · rw [h]
        rcases Int.le_total a b with h4 | h4
        · exact .inr (by rw [Int.max_eq_right h4]; exact List.mem_cons_self)
        · exact .inl (Int.max_eq_left h4)
      · exact .inr (List.mem_cons_of_mem _ h)
theorem maxL_ge {xs : List Int} {x : Int} (h : x ∈ xs) : x ≤ maxL xs := (foldl_max xs _).2.1 x h
theorem maxL_mem {xs : List Int} (h : xs ≠ []) : maxL xs ∈ xs := by
  rcases (foldl_max xs (xs.headD 0)).2.2 with e | e
  · unfold maxL; rw [e]
    cases xs with
    | nil => exact absurd rfl h
    | cons a l => exact List.mem_cons_self
  · exact e

theorem max_any (lo hi : Nat) (ao : Option Addr) (c n : Nat) (xs : List Int) (w : World) (hx : IView w lo hi ao n xs) (h0 : 0 < n) (hn : n ≤ 1048576) :
    Calls Try.prog 105 #[.slice ao n c] w fun e w' => e = .returned (.int .i64 (maxL xs)) ∧ w = w' := by
  obtain ⟨b, o, rfl, _, _, hc⟩ := hx.at_ h0
  have hl := hx.1
  obtain ⟨x0, hx0⟩ := get_of_lt hl h0
  have c0 : w.cell? ⟨b, o, none⟩ = some (.int .i64 x0) := by simpa using hc 0 x0 hx0
  have hm0 : maxL (xs.take 1) = x0 := by
    cases xs with
    | nil => simp at hx0
    | cons a l => simp at hx0; subst hx0; simp [maxL]
  have HC := Lib.hid hc
  have HL := Lib.hid hl
  have HM0 := Lib.hid hm0
  have hn1 : ¬ (n : Int) < 1 := by omega
  have hn0 : (0 : Int) < (n : Int) := by omega
  clear hc hx hl hx0 hm0
  go_enter Try.func105, Try.ntmps105
  go_wp2
  go_loop [3, 4] (fun v i => ∃ (k : Nat) (q : Int), 1 ≤ k ∧ k ≤ n ∧ i = .int .i64 (k : Int) ∧ v = .int .i64 q ∧ Hid (q = maxL (xs.take k))) (fun _ i => n - (intOf i).toNat)
  case atStart => exact ⟨1, x0, Nat.le_refl _, h0, rfl, rfl, HM0.out.symm⟩
  case round =>
    obtain ⟨k, q, hk1, hk, rfl, rfl, HQ⟩ := hrel
    by_cases hlt : k < n
    · obtain ⟨x, hxk⟩ := get_of_lt HL.out hlt
      have cx := HC.out k x hxk
      have hkn : (k : Int) < (n : Int) := by omega
      have HN : Hid (max q x = maxL (xs.take (k + 1))) := by unfold Hid; rw [maxL_succ (by omega) hxk, HQ.out]
      clear hxk
      go_wp2
      go_round
      case rel => exact ⟨k + 1, max q x, by omega, by omega, by go_num, by first | rfl | (congr 1; omega) | (congr 1; rw [Int.max_def]), HN⟩
      case measure => simp [intOf]; omega
    · have hkn : ¬ (k : Int) < (n : Int) := by omega
      go_wp2
      go_ret
      exact ⟨ret_int (by rw [HQ.out, List.take_of_length_le (by have := HL.out; omega)]), rfl⟩

theorem needed_any (lo hi : Nat) (ao : Option Addr) (c n : Nat) (xs : List Int) (w : World) (hx : IView w lo hi ao n xs) (h0 : 0 < n) (hn : n ≤ 1048576) (hb : ∀ x, x ∈ xs → -9223372036854775808 ≤ x ∧ x < 6) :
    Calls Try.prog 80 #[.slice ao n c] w fun e w' => e = .returned (.int .i64 (max (maxL xs + 1) 0)) ∧ w = w' := by
  have HM := Lib.hid (max_any lo hi ao c n xs w hx h0 hn)
  have hne : xs ≠ [] := fun e => by have := hx.1; rw [e] at this; simp at this; omega
  have hb2 := hb _ (maxL_mem hne)
  obtain ⟨q, hq⟩ : ∃ q, maxL xs = q := ⟨_, rfl⟩
  rw [hq] at HM hb2 ⊢
  obtain ⟨hb3, hb4⟩ := hb2
  clear hx hne hb hq
  go_enter Try.func80, Try.ntmps80
  go_wp2_with fail
  refine HM.out.mono ?_
  rintro e w' ⟨rfl, rfl⟩
  go_wp2_with fail
  all_goals
    go_ret
    exact ⟨by first | rfl | (exact ret_int (by omega)) | (exact ret_int (by rw [Int.max_def]; split <;> omega)), rfl⟩

theorem valueT_any (lo hi lo2 hi2 lo3 hi3 : Nat) (z : Int) (ao bo vo : Option Addr) (n c m d nv cv : Nat) (fs : List OpD) (xs vs : List Int) (w : World) (hv : OView w lo hi ao n fs) (hhi : hi ≤ w.heap.size) (hok : algOkB z fs = true)
    (hx : IView w lo2 hi2 bo m xs) (hhi2 : hi2 ≤ w.heap.size) (hvs : IView w lo3 hi3 vo nv vs) (hhi3 : hi3 ≤ w.heap.size) (h60 : xs.length ≤ 60) (hend : endA fs xs 0 = some xs.length) (hvok : allIn z vs = true) (hfit : ∀ x, x ∈ xs → x < (nv : Int)) :
    Calls Try.prog 86 #[.agg #[.int .i64 z, .slice ao n c], .slice bo m d, .slice vo nv cv] w fun e w' => e = .returned (.int .i64 (evT z fs vs xs)) ∧ Below w.heap.size w w' := by
  have hmf : ∀ (fn : Fn) (first cap : Array Value) (w : World), (Instr.makeFunc fn first cap).run Try.prog w = .ok (.func fn first cap) w := fun _ _ _ _ => rfl
  have hB := below_then (below_alloc w (.cells #[.int .i64 z, .slice ao n c] 30)) (below_alloc _ (.cells #[.slice vo nv cv] 25))
  have HB := Lib.hid hB
  have HF := Lib.hid (fold_any lo hi lo2 hi2 lo3 hi3 z ao bo vo n c m d nv cv w.heap.size (w.heap.size + 1) fs xs vs _ (hv.kept (Kept.of_below hB hhi)) (Nat.le_trans hhi hB.size) hok (hx.kept (Kept.of_below hB hhi2)) (Nat.le_trans hhi2 hB.size) (hvs.kept (Kept.of_below hB hhi3)) (Nat.le_trans hhi3 hB.size) h60 hend hvok hfit (by go_simp) (by go_simp) (by go_simp))
  obtain ⟨q, hq⟩ : ∃ q, evT z fs vs xs = q := ⟨_, rfl⟩
  rw [hq] at HF ⊢
  clear hB hv hok hx hvs h60 hend hvok hfit hq
  go_enter Try.func86, Try.ntmps86
  go_wp2_with fail
  refine HF.out.mono ?_
  rintro e w1 ⟨rfl, b1⟩
  have HB1 := Lib.hid (HB.out.trans (b1.mono HB.out.size))
  clear b1
  go_wp2_with fail
  go_ret
  exact ⟨rfl, HB1.out⟩

/-- What EvalTerm tells. -/
def fitsB (xs : List Int) (k : Int) : Bool := xs.all fun x => decide (x < k)
def evalB (z : Int) (fs : List OpD) (xs vs : List Int) : Bool := isTermB z fs xs && (decide (vs.length ≤ 6) && (allIn z vs && fitsB xs vs.length))
def valEvalTerm (z : Int) (fs : List OpD) (xs vs : List Int) : Int × Bool := if evalB z fs xs vs then (evT z fs vs xs, true) else (0, false)
theorem fits_max {xs : List Int} {k : Nat} (h : xs ≠ []) : fitsB xs k = decide (max (maxL xs + 1) 0 ≤ (k : Int)) := by
  rw [Bool.eq_iff_iff]
  unfold fitsB
  rw [List.all_eq_true, decide_eq_true_eq]
  constructor
  · intro h1
    have h2 := h1 _ (maxL_mem h)
    simp only [decide_eq_true_eq] at h2
    omega
  · intro h1 x hx
    have := maxL_ge hx
    simp only [decide_eq_true_eq]
    omega
end

section
open Go.RowKit
set_option linter.unusedVariables false
set_option linter.unusedSimpArgs false

/-- What stands in the place of a number. -/
def partS (tss : List (List Int)) (x : Int) : List Int := if x < 0 then [x] else tss.getD x.toNat []
def flatS (tss : List (List Int)) (xs : List Int) : List Int := xs.flatMap (partS tss)
theorem flatS_succ {tss : List (List Int)} {xs : List Int} {k : Nat} {x : Int} (h : xs[k]? = some x) : flatS tss (xs.take (k + 1)) = flatS tss (xs.take k) ++ partS tss x := by
  unfold flatS
  rw [List.take_add_one, h, List.flatMap_append]
  simp
theorem flatS_len_le {tss : List (List Int)} {xs : List Int} (k : Nat) : (flatS tss (xs.take k)).length ≤ (flatS tss xs).length := by
  unfold flatS
  have h := List.flatMap_append (xs := xs.take k) (ys := xs.drop k) (f := partS tss)
  rw [List.take_append_drop] at h
  rw [h, List.length_append]
  omega
theorem flatS_all {tss : List (List Int)} {xs : List Int} {k : Nat} (h : xs.length ≤ k) : flatS tss (xs.take k) = flatS tss xs := by rw [List.take_of_length_le h]
theorem partS_op {tss : List (List Int)} {x : Int} (h : x < 0) : partS tss x = [x] := if_pos h
theorem partS_var {tss : List (List Int)} {v : Nat} {ts : List Int} (h : tss[v]? = some ts) : partS tss (v : Int) = ts := by
  unfold partS
  rw [if_neg (by omega), Int.toNat_natCast, List.getD_eq_getElem?_getD, h]; rfl
/-- All parts, if they are not too long together. -/
def subR (tss : List (List Int)) (xs : List Int) : List Int × Bool := if (flatS tss xs).length ≤ 60 then (flatS tss xs, true) else ([], false)
def subB (z : Int) (fs : List OpD) (xs : List Int) (tss : List (List Int)) : Bool := (isTermB z fs xs && (decide (tss.length ≤ 6) && tss.all (termB fs))) && fitsB xs tss.length
def valSubstituteIn (z : Int) (fs : List OpD) (xs : List Int) (tss : List (List Int)) : List Int × Bool := if subB z fs xs tss then subR tss xs else ([], false)
theorem subR_len (tss : List (List Int)) (xs : List Int) : (subR tss xs).1.length ≤ 60 := by
  unfold subR
  split
  · assumption
  · simp
theorem smallSubstituteIn (z : Int) (fs : List OpD) (xs : List Int) (tss : List (List Int)) : (valSubstituteIn z fs xs tss).1.length ≤ 4194304 := by
  unfold valSubstituteIn
  split
  · have := subR_len tss xs; omega
  · simp
theorem term_len {fs : List OpD} {ts : List Int} (h : termB fs ts = true) : 0 < ts.length ∧ ts.length ≤ 60 := by
  unfold termB at h
  simp only [Bool.and_eq_true, decide_eq_true_eq, beq_iff_eq] at h
  exact ⟨term_pos h.2, h.1⟩

/-- Room that is filled from its front. -/
def roomS (n : Nat) (ys : List Int) : List Int := ys ++ List.replicate (n - ys.length) 0
theorem roomS_len {n : Nat} {ys : List Int} (h : ys.length ≤ n) : (roomS n ys).length = n := by unfold roomS; simp; omega
theorem roomS_put {n : Nat} {ys zs : List Int} (h : ys.length + zs.length ≤ n) : (roomS n ys).take ys.length ++ (zs ++ (roomS n ys).drop (ys.length + zs.length)) = roomS n (ys ++ zs) := by
  unfold roomS
  rw [List.take_left', List.drop_append, List.drop_of_length_le (by omega), List.nil_append, List.drop_replicate, List.append_assoc]
  · congr 2
    congr 1
    simp; omega
  · rfl
theorem roomS_take {n : Nat} {ys : List Int} : (roomS n ys).take ys.length = ys := by unfold roomS; rw [List.take_left']; rfl
end

section
open Go.RowKit
set_option linter.unusedVariables false
set_option linter.unusedSimpArgs false

theorem powI_bd6 {z : Int} (h1 : 1 ≤ z) (h2 : z ≤ 8) {k : Nat} (hk : k ≤ 6) : 1 ≤ powI z k ∧ powI z k ≤ 262144 := by
  have h3 : z = 1 ∨ z = 2 ∨ z = 3 ∨ z = 4 ∨ z = 5 ∨ z = 6 ∨ z = 7 ∨ z = 8 := by omega
  have h4 : k = 0 ∨ k = 1 ∨ k = 2 ∨ k = 3 ∨ k = 4 ∨ k = 5 ∨ k = 6 := by omega
  rcases h3 with rfl | rfl | rfl | rfl | rfl | rfl | rfl | rfl <;> rcases h4 with rfl | rfl | rfl | rfl | rfl | rfl | rfl <;> simp [powI]
theorem rep_set {j : Nat} {x : Int} {tail : List Int} : (List.replicate (j + 1) (0 : Int) ++ tail).set j x = List.replicate j (0 : Int) ++ (x :: tail) := by
  rw [List.replicate_succ', List.append_assoc, List.set_append_right _ _ (by simp)]
  simp

theorem pow6_any (z : Int) (r : Nat) (w : World) (h1 : 1 ≤ z) (h2 : z ≤ 8) (hr : r ≤ 6) :
    Calls Try.prog 111 #[.int .i64 z, .int .i64 (r : Int)] w fun e w' => e = .returned (.int .i64 (powI z r)) ∧ w = w' := by
  go_enter Try.func111, Try.ntmps111
  go_wp2
  go_loop [1, 5] (fun k p => ∃ (i j : Nat) (v : Int), i + j = r ∧ k = .int .i64 (j : Int) ∧ p = .int .i64 v ∧ Hid (v = powI z i) ∧ 1 ≤ v ∧ v ≤ 262144) (fun k _ => (intOf k).toNat)
  case atStart => exact ⟨0, r, 1, by omega, rfl, rfl, rfl, by omega, by omega⟩
  case round =>
    obtain ⟨i, j, v, hij, rfl, rfl, HV, hv1, hv2⟩ := hrel
    rcases Nat.eq_zero_or_pos j with hj | hj
    · subst hj
      go_wp2
      go_ret
      exact ⟨ret_int (by rw [HV.out, show i = r by omega]), rfl⟩
    · have hb := powI_bd6 h1 h2 (k := i + 1) (by omega)
      have hm : powI z (i + 1) = v * z := by rw [powI, HV.out]
      rw [hm] at hb
      have hb1 := hb.1
      have hb2 := hb.2
      have HM := Lib.hid hm
      clear hb hm
      go_wp2
      go_round
      case rel => exact ⟨i + 1, j - 1, v * z, by omega, by go_num, rfl, HM.out.symm, hb1, hb2⟩
      case measure => simp [intOf]; omega

theorem len6_any (z : Int) (r : Nat) (w : World) (h1 : 1 ≤ z) (h2 : z ≤ 8) (hr : r ≤ 6) :
    Calls Try.prog 88 #[.int .i64 z, .int .i64 (r : Int)] w fun e w' => e = .returned (.int .i64 (powI z r)) ∧ w = w' := by
  go_enter Try.func88, Try.ntmps88
  go_wp2
  go_loop [5, 7] (fun p k => ∃ (i : Nat) (v : Int), i ≤ r ∧ k = .int .i64 (i : Int) ∧ p = .int .i64 v ∧ Hid (v = powI z i) ∧ 1 ≤ v ∧ v ≤ 262144) (fun _ k => r - (intOf k).toNat)
  case atStart => exact ⟨0, 1, by omega, rfl, rfl, rfl, by omega, by omega⟩
  case round =>
    obtain ⟨i, v, hij, rfl, rfl, HV, hv1, hv2⟩ := hrel
    by_cases hlt : i < r
    · have hb := powI_bd6 h1 h2 (k := i + 1) (by omega)
      have hm : powI z (i + 1) = v * z := by rw [powI, HV.out]
      rw [hm] at hb
      have hb1 := hb.1
      have hb2 := hb.2
      have HM := Lib.hid hm
      clear hb hm
      go_wp2
      go_round
      case rel => exact ⟨i + 1, v * z, by omega, by go_num, rfl, HM.out.symm, hb1, hb2⟩
      case measure => simp [intOf]; omega
    · go_wp2
      go_ret
      exact ⟨ret_int (by rw [HV.out, show i = r by omega]), rfl⟩

set_option maxHeartbeats 1000000 in
theorem args6_impl (z at_ : Int) (m : Nat) (hm : m ≤ 6) (w : World) (hz1 : 1 ≤ z) (hz2 : z ≤ 8) (h0 : 0 ≤ at_) (h1 : at_ ≤ 262144) :
    Calls Try.prog 89 #[.int .i64 z, .int .i64 (m : Int), .int .i64 at_] w fun e w' => e = .returned (.slice (some ⟨w.heap.size, 0, none⟩) m m) ∧ w'.ownsRow w.heap.size 3 1 (.slice (some ⟨w.heap.size, 0, none⟩) m m) m ((digs z m at_).map (Value.int .i64)) ∧ Below w.heap.size w w' := by
  obtain ⟨w2, hmk, ho2, hb2⟩ := make_ints w m (by omega)
  obtain ⟨B, hB⟩ : ∃ B : Nat, B = w.heap.size := ⟨_, rfl⟩
  rw [← hB] at hmk ho2 hb2 ⊢
  have HB2 := Lib.hid hb2
  have HO2 : Hid (w2.ownsRow B 3 1 (.slice (some ⟨B, 0, none⟩) m m) m ((List.replicate m (0 : Int) ++ []).map (Value.int .i64))) := by unfold Hid; rw [List.append_nil]; exact ho2
  have HD : Hid (digs z m at_ = digs z m at_ ++ []) := by unfold Hid; rw [List.append_nil]
  have hbw : B ≤ w.heap.size := by omega
  clear hB ho2 hb2
  go_enter Try.func89, Try.ntmps89
  go_wp2
  go_loopw [2, 8] (fun a i wr => ∃ (j : Nat) (cur : Int) (tail : List Int), j ≤ m ∧ a = .int .i64 cur ∧ i = .int .i64 ((j : Int) - 1) ∧ 0 ≤ cur ∧ cur ≤ 262144 ∧ Hid (digs z m at_ = digs z j cur ++ tail) ∧ Hid (wr.ownsRow B 3 1 (.slice (some ⟨B, 0, none⟩) m m) m ((List.replicate j (0 : Int) ++ tail).map (Value.int .i64))) ∧ Hid (Below B w wr)) (fun _ i _ => (intOf i + 1).toNat)
  case atStart => exact ⟨m, at_, [], Nat.le_refl _, rfl, by first | rfl | (congr 1; omega), h0, h1, HD, HO2, HB2⟩
  case round =>
    obtain ⟨j, cur, tail, hj, rfl, rfl, hc0, hc1, HDj, HOj, HBj⟩ := hrel
    clear HD HO2 HB2
    cases j with
    | zero =>
      have e0 : (((0 : Nat) : Int) - 1) = -1 := by omega
      rw [e0]
      clear e0
      have hO := HOj.out
      rw [List.replicate_zero, List.nil_append] at hO
      have hD := HDj.out
      rw [digs, List.nil_append] at hD
      rw [← hD] at hO
      have HO := Lib.hid hO
      clear hO hD
      go_wp2
      go_ret
      exact ⟨rfl, HO.out, HBj.out⟩
    | succ j =>
      have e1 : (((j + 1 : Nat) : Int) - 1) = (j : Int) := by omega
      rw [e1]
      clear e1
      obtain ⟨d0, d1⟩ := digs_bd hz1 hc0
      have hzp : 0 < z := by omega
      have hjm : (j : Int) < (m : Int) := by omega
      have hjm' : j < m := by omega
      have hem0 := Int.emod_nonneg cur (show z ≠ 0 by omega)
      have hem1 := Int.emod_lt_of_pos cur hzp
      have hlen := HOj.out.1
      obtain ⟨u, hu⟩ : ∃ u, wr.cell? ⟨B, j, none⟩ = some u := by
        rw [HOj.out.cellAt j (by omega)]
        exact ⟨_, List.getElem?_eq_getElem (by omega)⟩
      have hfr := HOj.out.frozenAt j
      have hst := HOj.out.stored j (.int .i64 (cur % z))
      rw [← List.map_set, rep_set] at hst
      have HST := Lib.hid hst
      have HD' : Hid (digs z m at_ = digs z j (cur / z) ++ ((cur % z) :: tail)) := by unfold Hid; rw [HDj.out, digs, List.append_assoc]; rfl
      clear hst hlen
      go_wp2
      go_roundw
      case rel => exact ⟨j, cur / z, (cur % z) :: tail, by omega, by go_num, by go_num, d0, by omega, HD', HST.out.1, HBj.out.grown HST.out.2 (by have := HBj.out.size; omega) (by intro b hb; cases hb; exact Nat.le_refl _)⟩
      case measure => (simp [intOf]) <;> omega

set_option maxHeartbeats 1000000 in
theorem args6_spec (z at_ : Int) (m : Nat) (hm : m ≤ 6) (w : World) (hz1 : 1 ≤ z) (hz2 : z ≤ 8) (h0 : 0 ≤ at_) (h1 : at_ ≤ 262144) :
    Calls Try.prog 112 #[.int .i64 z, .int .i64 (m : Int), .int .i64 at_] w fun e w' => e = .returned (.slice (some ⟨w.heap.size, 0, none⟩) m m) ∧ w'.ownsRow w.heap.size 3 1 (.slice (some ⟨w.heap.size, 0, none⟩) m m) m ((digs z m at_).map (Value.int .i64)) ∧ Below w.heap.size w w' := by
  obtain ⟨w2, hmk, ho2, hb2⟩ := make_ints w m (by omega)
  obtain ⟨B, hB⟩ : ∃ B : Nat, B = w.heap.size := ⟨_, rfl⟩
  rw [← hB] at hmk ho2 hb2 ⊢
  have HB2 := Lib.hid hb2
  have HO2 : Hid (w2.ownsRow B 3 1 (.slice (some ⟨B, 0, none⟩) m m) m ((List.replicate m (0 : Int) ++ []).map (Value.int .i64))) := by unfold Hid; rw [List.append_nil]; exact ho2
  have HD : Hid (digs z m at_ = digs z m at_ ++ []) := by unfold Hid; rw [List.append_nil]
  have hbw : B ≤ w.heap.size := by omega
  clear hB ho2 hb2
  go_enter Try.func112, Try.ntmps112
  go_wp2
  go_loopw [2, 8] (fun a i wr => ∃ (j : Nat) (cur : Int) (tail : List Int), j ≤ m ∧ a = .int .i64 cur ∧ i = .int .i64 ((j : Int) - 1) ∧ 0 ≤ cur ∧ cur ≤ 262144 ∧ Hid (digs z m at_ = digs z j cur ++ tail) ∧ Hid (wr.ownsRow B 3 1 (.slice (some ⟨B, 0, none⟩) m m) m ((List.replicate j (0 : Int) ++ tail).map (Value.int .i64))) ∧ Hid (Below B w wr)) (fun _ i _ => (intOf i + 1).toNat)
  case atStart => exact ⟨m, at_, [], Nat.le_refl _, rfl, by first | rfl | (congr 1; omega), h0, h1, HD, HO2, HB2⟩
  case round =>
    obtain ⟨j, cur, tail, hj, rfl, rfl, hc0, hc1, HDj, HOj, HBj⟩ := hrel
    clear HD HO2 HB2
    cases j with
    | zero =>
      have e0 : (((0 : Nat) : Int) - 1) = -1 := by omega
      rw [e0]
      clear e0
      have hO := HOj.out
      rw [List.replicate_zero, List.nil_append] at hO
      have hD := HDj.out
      rw [digs, List.nil_append] at hD
      rw [← hD] at hO
      have HO := Lib.hid hO
      clear hO hD
      go_wp2
      go_ret
      exact ⟨rfl, HO.out, HBj.out⟩
    | succ j =>
      have e1 : (((j + 1 : Nat) : Int) - 1) = (j : Int) := by omega
      rw [e1]
      clear e1
      obtain ⟨d0, d1⟩ := digs_bd hz1 hc0
      have hzp : 0 < z := by omega
      have hjm : (j : Int) < (m : Int) := by omega
      have hjm' : j < m := by omega
      have hem0 := Int.emod_nonneg cur (show z ≠ 0 by omega)
      have hem1 := Int.emod_lt_of_pos cur hzp
      have hlen := HOj.out.1
      obtain ⟨u, hu⟩ : ∃ u, wr.cell? ⟨B, j, none⟩ = some u := by
        rw [HOj.out.cellAt j (by omega)]
        exact ⟨_, List.getElem?_eq_getElem (by omega)⟩
      have hfr := HOj.out.frozenAt j
      have hst := HOj.out.stored j (.int .i64 (cur % z))
      rw [← List.map_set, rep_set] at hst
      have HST := Lib.hid hst
      have HD' : Hid (digs z m at_ = digs z j (cur / z) ++ ((cur % z) :: tail)) := by unfold Hid; rw [HDj.out, digs, List.append_assoc]; rfl
      clear hst hlen
      go_wp2
      go_roundw
      case rel => exact ⟨j, cur / z, (cur % z) :: tail, by omega, by go_num, by go_num, d0, by omega, HD', HST.out.1, HBj.out.grown HST.out.2 (by have := HBj.out.size; omega) (by intro b hb; cases hb; exact Nat.le_refl _)⟩
      case measure => (simp [intOf]) <;> omega
end

section
open Go.RowKit
set_option linter.unusedVariables false
set_option linter.unusedSimpArgs false
attribute [local go_sem ↓] Go.wp_at_zero Go.wp_at_succ

theorem fits_any (lo hi : Nat) (ao : Option Addr) (c n k : Nat) (xs : List Int) (w : World) (hx : IView w lo hi ao n xs) (hn : n ≤ 1048576) :
    Calls Try.prog 83 #[.slice ao n c, .int .i64 (k : Int)] w fun e w' => e = .returned (.bool (fitsB xs k)) ∧ w = w' := by
  have HX := Lib.hid hx
  obtain ⟨r, hr⟩ : ∃ r, fitsB xs k = r := ⟨_, rfl⟩
  have HR := Lib.hid hr
  rw [hr]
  clear hx hr
  go_enter Try.func83, Try.ntmps83
  go_wp2
  go_loop [5] (fun i => ∃ j : Nat, j ≤ n ∧ i = .int .i64 (j : Int) ∧ Hid (fitsB (xs.take j) k = true)) (fun i => n - (intOf i).toNat)
  case atStart => exact ⟨0, Nat.zero_le _, rfl, rfl⟩
  case round =>
    obtain ⟨j, hj, rfl, HA⟩ := hrel
    by_cases hlt : j < n
    · obtain ⟨b, o, rfl, _, _, hc⟩ := HX.out.at_ (by omega)
      obtain ⟨x, hx⟩ := get_of_lt HX.out.1 hlt
      have cx := hc j x hx
      have HXj := Lib.hid hx
      have hjn : (j : Int) < (n : Int) := by omega
      clear hc hx
      by_cases h0 : x < (k : Int)
      · have HN : Hid (fitsB (xs.take (j + 1)) k = true) := by
          have h1 := HA.out
          unfold Hid fitsB at h1 ⊢
          rw [List.take_add_one, HXj.out, List.all_append, h1]
          simp [h0]
        have hge : ¬ (k : Int) ≤ x := by omega
        go_wp2
        go_round
        case rel => exact ⟨j + 1, by omega, by go_num, HN⟩
        case measure => simp [intOf]; omega
      · have HN : Hid (false = r) := by
          unfold Hid
          rw [← HR.out]
          refine (Bool.not_eq_true _ ▸ fun h => ?_ : fitsB xs k = false).symm
          unfold fitsB at h
          have := List.all_eq_true.1 h x (List.mem_of_getElem? HXj.out)
          simp only [decide_eq_true_eq] at this
          exact h0 this
        have hge : (k : Int) ≤ x := by omega
        go_wp2
        go_ret
        exact ⟨ret_bool HN.out, rfl⟩
    · have hjn : ¬ (j : Int) < (n : Int) := by omega
      have HN : Hid (true = r) := by
        have h1 := HA.out
        rw [List.take_of_length_le (by have := HX.out.1; omega)] at h1
        unfold Hid
        rw [← HR.out, h1]
      go_wp2
      go_ret
      exact ⟨ret_bool HN.out, rfl⟩
end

section
open Go.RowKit
set_option linter.unusedVariables false
set_option linter.unusedSimpArgs false
attribute [local go_sem ↓] Go.wp_at_zero Go.wp_at_succ

theorem cells_add {W : World} {b o : Nat} {ys : List Int} (h : ∀ j y, ys[j]? = some y → W.cell? ⟨b, o + j, none⟩ = some (.int .i64 y)) : ∀ j y, ys[j]? = some y → W.cell? ((⟨b, o, none⟩ : Addr).add j) = some (.int .i64 y) := fun j y hj => by
  have h1 := h j y hj
  by_cases hj0 : j = 0
  · subst hj0; rw [Nat.add_zero] at h1; simpa [Addr.add] using h1
  · simpa [Addr.add, hj0] using h1

/-- Whether two terms can be checked for an identity. -/
def askT (z : Int) (fs : List OpD) (xs ys : List Int) : Bool := (termB fs xs && termB fs ys) && decide (powI z (varsL (xs ++ ys)).length ≤ 5000)

set_option maxRecDepth 100000 in
set_option maxHeartbeats 4000000 in
theorem l3Asked_any (lo hi : Nat) (z : Int) (ao : Option Addr) (c n : Nat) (fs : List OpD) (lo2 hi2 : Nat) (bo : Option Addr) (d m : Nat) (xs : List Int) (lo3 hi3 : Nat) (co : Option Addr) (d2 m2 : Nat) (ys : List Int) (w : World) (hv : OView w lo hi ao n fs) (hhi : hi ≤ w.heap.size) (hok : algOkB z fs = true)
    (hx : IView w lo2 hi2 bo m xs) (hhi2 : hi2 ≤ w.heap.size) (hmd : m ≤ d) (hm : d ≤ maxLen)
    (hy : IView w lo3 hi3 co m2 ys) (hhi3 : hi3 ≤ w.heap.size) (hmd2 : m2 ≤ d2) (hm2 : d2 ≤ maxLen) :
    Calls Try.prog 94 #[.agg #[.int .i64 z, .slice ao n c], .agg #[.slice bo m d, .slice co m2 d2]] w fun e w' => e = .returned (.bool (askT z fs xs ys)) ∧ Below w.heap.size w w' := by
  have HG1 := fun (W : World) (hb : Below w.heap.size w W) => l3Good_any lo hi lo2 hi2 z ao bo c n d m fs xs W (hv.kept (Kept.of_below hb hhi)) (Nat.le_trans hhi hb.size) hok (hx.kept (Kept.of_below hb hhi2)) (Nat.le_trans hhi2 hb.size) (Nat.le_trans hmd hm)
  have HG2 := fun (W : World) (hb : Below w.heap.size w W) => l3Good_any lo hi lo3 hi3 z ao co c n d2 m2 fs ys W (hv.kept (Kept.of_below hb hhi)) (Nat.le_trans hhi hb.size) hok (hy.kept (Kept.of_below hb hhi3)) (Nat.le_trans hhi3 hb.size) (Nat.le_trans hmd2 hm2)
  have HB := Lib.hid (below_then (below_alloc w (.cells #[.int .i64 z, .slice ao n c] 30)) (below_alloc _ (.cells #[.slice bo m d, .slice co m2 d2] 64)))
  obtain ⟨r, hr⟩ : ∃ r, termB fs xs = r := ⟨_, rfl⟩
  obtain ⟨s, hs⟩ : ∃ s, termB fs ys = s := ⟨_, rfl⟩
  unfold askT
  simp only [hr] at HG1 ⊢
  simp only [hs] at HG2 ⊢
  have HG1 := Lib.hid HG1
  have HG2 := Lib.hid HG2
  cases r with
  | false =>
    simp only [Bool.false_and]
    clear hv hx hy hr hs
    go_enter Try.func94, Try.ntmps94
    go_wp2_with fail
    refine (HG1.out _ HB.out).mono ?_
    rintro e w1 ⟨rfl, b1⟩
    have HB1 := Lib.hid (HB.out.trans (b1.mono HB.out.size))
    clear b1
    go_wp2_with fail
    go_ret
    exact ⟨rfl, HB1.out⟩
  | true =>
    cases s with
    | false =>
      simp only [Bool.and_false, Bool.false_and]
      clear hv hx hy hr hs
      go_enter Try.func94, Try.ntmps94
      go_wp2_with fail
      refine (HG1.out _ HB.out).mono ?_
      rintro e w1 ⟨rfl, b1⟩
      have cz1 : w1.cell? ⟨w.heap.size, 0, none⟩ = some (.int .i64 z) := cell_b b1 (by go_simp)
      have ca1 : w1.cell? ⟨w.heap.size, 1, none⟩ = some (.slice ao n c) := cell_b b1 (by go_simp)
      have cj1 : w1.cell? ⟨w.heap.size + 1, 1, none⟩ = some (.slice co m2 d2) := cell_b b1 (by go_simp)
      have HB1 := Lib.hid (HB.out.trans (b1.mono HB.out.size))
      clear b1
      go_wp2_with fail
      refine (HG2.out _ HB1.out).mono ?_
      rintro e w2 ⟨rfl, b2⟩
      have HB2 := Lib.hid (HB1.out.trans (b2.mono HB1.out.size))
      clear b2
      go_wp2_with fail
      go_ret
      exact ⟨rfl, HB2.out⟩
    | true =>
      simp only [Bool.and_self, Bool.true_and]
      obtain ⟨_, h60, hend⟩ := isTermB_of (show isTermB z fs xs = true by simp [isTermB, hok, hr])
      obtain ⟨_, h602, hend2⟩ := isTermB_of (show isTermB z fs ys = true by simp [isTermB, hok, hs])
      obtain ⟨hz1, hz2⟩ := (algOkB_of hok).1
      have hlt : ∀ x, x ∈ xs ++ ys → x < 6 := fun x hxx => by
        rcases List.mem_append.1 hxx with hxx | hxx
        · obtain ⟨j, hj⟩ := List.getElem?_of_mem hxx
          exact (term_lt hok hend hj).1
        · obtain ⟨j, hj⟩ := List.getElem?_of_mem hxx
          exact (term_lt hok hend2 hj).1
      have hlx := hx.1
      have hly := hy.1
      have hm0 : 0 < m := by have := term_pos hend; omega
      have hm20 : 0 < m2 := by have := term_pos hend2; omega
      have hm60 : m ≤ 60 := by omega
      have hm260 : m2 ≤ 60 := by omega
      obtain ⟨b, o, rfl, _, _, hcx⟩ := hx.at_ hm0
      obtain ⟨b', o', rfl, _, _, hcy⟩ := hy.at_ hm20
      have HOwn := Lib.hid (fun (W : World) (hb : Below w.heap.size w W) => own_part b o m d xs W hlx (fun j x hj => cell_b hb (hcx j x hj)) (by omega))
      have HCy := Lib.hid hcy
      have HLy := Lib.hid hly
      have hL6 := varsL_len (xs ++ ys)
      have hvf := varsF_eq hlt
      have HVs := fun (g k c : Nat) (W : World) (hr : W.ownsRow w.heap.size 3 1 (.slice (some ⟨g, 0, none⟩) k c) k ((xs ++ ys).map (Value.int .i64))) (hk : k ≤ 1048576) => l3Vars_any w.heap.size W.heap.size (some ⟨g, 0, none⟩) c k (xs ++ ys) W (OwnsInts.of_row hr).view (Nat.le_refl _) hk
      simp only [hvf] at HVs
      obtain ⟨L, hL⟩ : ∃ L, (varsL (xs ++ ys)).length = L := ⟨_, rfl⟩
      rw [hL] at hL6
      simp only [hL] at HVs ⊢
      have HVs := Lib.hid HVs
      have HPb := Lib.hid (fun (k : Nat) (hk : k ≤ L) => powI_bd6 hz1 hz2 (k := k) (by omega))
      clear hv hx hy hr hs hok hend hend2 hlt hcx hcy hvf hL hlx hly
      go_enter Try.func94, Try.ntmps94
      go_wp2_with fail
      refine (HG1.out _ HB.out).mono ?_
      rintro e w1 ⟨rfl, b1⟩
      have cz1 : w1.cell? ⟨w.heap.size, 0, none⟩ = some (.int .i64 z) := cell_b b1 (by go_simp)
      have ca1 : w1.cell? ⟨w.heap.size, 1, none⟩ = some (.slice ao n c) := cell_b b1 (by go_simp)
      have ci1 : w1.cell? ⟨w.heap.size + 1, 0, none⟩ = some (.slice (some ⟨b, o, none⟩) m d) := cell_b b1 (by go_simp)
      have cj1 : w1.cell? ⟨w.heap.size + 1, 1, none⟩ = some (.slice (some ⟨b', o', none⟩) m2 d2) := cell_b b1 (by go_simp)
      have HB1 := Lib.hid (HB.out.trans (b1.mono HB.out.size))
      clear b1
      go_wp2_with fail
      refine (HG2.out _ HB1.out).mono ?_
      rintro e w2 ⟨rfl, b2⟩
      have cz2 := cell_b b2 cz1
      have ci2 := cell_b b2 ci1
      have cj2 := cell_b b2 cj1
      have HB2 := Lib.hid (HB1.out.trans (b2.mono HB1.out.size))
      have hs2 := HB2.out.size
      clear b2 cz1 ca1 ci1 cj1
      go_wp2_with fail
      go_region_law ((first
        | (go_simp
           go_at_call 70
           refine (HOwn.out _ ?_).mono ?_
           exact below_then HB2.out (below_drew _)
           rintro e w3 ⟨g, dd, rfl, ho, b3⟩
           have B3 : Below w2.heap.size w2 w3 := below_then (below_drew _) b3
           have HO3 : Hid (w3.ownsRow w2.heap.size 3 1 (.slice (some ⟨g, 0, none⟩) m dd) m (xs.map (Value.int .i64))) := ho
           have cz3 := cell_b B3 cz2
           have cj3 := cell_b B3 cj2
           have hs3 := B3.size
           have HB3 := Lib.hid (below_then HB2.out B3)
           clear ho b3 B3)
        | (refine step_append_ints ?_ _ _ rfl w2.heap.size g m dd xs ?_ ?_ ⟨b', o', none⟩ m2 d2 ys ?_ HLy.out ?_ ?_ ?_ ?_
           (focus (rfl; done))
           (focus (rfl; done))
           (focus (exact HO3.out))
           (focus (rfl; done))
           (focus (exact cells_add (fun j y hj => cell_b HB3.out (HCy.out j y hj))))
           (focus (omega; done))
           (focus (omega; done))
           intro gC cC wC hC hgC hatC
           have hgl := (HO3.out.lt g rfl)
           have bC : Below w.heap.size w wC := HB3.out.grown hgC (by omega) (by intro q hq; cases hq; omega)
           have hwl : w.heap.size < w2.heap.size := World.block_lt_of_cell? w2 _ cz2
           have hwl3 : w.heap.size < w3.heap.size := World.block_lt_of_cell? w3 _ cz3
           have h_ := hgC.block w.heap.size hwl3 (by intro h_; injection h_ with h_; omega)
           have czC : wC.cell? ⟨w.heap.size, 0, none⟩ = some (.int .i64 z) := (show wC.cell? ⟨w.heap.size, 0, none⟩ = w3.cell? ⟨w.heap.size, 0, none⟩ by simp only [World.cell?, h_]).trans cz3
           have HOC := Lib.hid (ownsRow_base hC hs2)
           have HBC := Lib.hid bC
           clear hC hgC hatC bC hgl h_ hwl hwl3)
        | (go_simp
           go_at_call 66
           refine (HVs.out _ _ _ _ HOC.out (by omega)).mono ?_
           rintro e w5 ⟨gv, mv, dv, rfl, rfl, hov, b5⟩
           have cz5 := cell_b b5 czC
           have HB5 := Lib.hid (below_then HBC.out b5)
           clear hov b5)))
      all_goals
        go_wp2_with fail
        go_loop [6, 7] (fun v i => ∃ (j : Nat) (x : Int), j ≤ mv ∧ v = .int .i64 x ∧ i = .int .i64 (j : Int) ∧ Hid (x = powI z j) ∧ 1 ≤ x ∧ x ≤ 262144) (fun _ i => mv - (intOf i).toNat)
        case atStart => exact ⟨0, 1, by omega, rfl, rfl, rfl, by omega, by omega⟩
        case round =>
          obtain ⟨j, x, hj, rfl, rfl, HX, hx0, hx1⟩ := hrel
          by_cases hlt : j < mv
          · have hb := HPb.out (j + 1) (by omega)
            have hmm : powI z (j + 1) = x * z := by rw [powI, HX.out]
            rw [hmm] at hb
            obtain ⟨hb1, hb2⟩ := hb
            have HM := Lib.hid hmm
            have hjm : (j : Int) < (mv : Int) := by omega
            clear hmm
            go_wp2
            go_round
            case rel => exact ⟨j + 1, x * z, by omega, rfl, by go_num, HM.out.symm, hb1, hb2⟩
            case measure => (simp [intOf]) <;> omega
          · obtain rfl : j = mv := by omega
            go_wp2
            go_ret
            exact ⟨by first | rfl | (rw [← HX.out]; done) | (rw [← HX.out]; rfl) | (rw [← HX.out]; simp), HB5.out⟩
end

section
open Go.RowKit
set_option linter.unusedVariables false
set_option linter.unusedSimpArgs false
attribute [local go_sem ↓] Go.wp_at_zero Go.wp_at_succ

theorem all_no {fs : List OpD} {tss : List (List Int)} {k : Nat} {ts : List Int} (h : tss[k]? = some ts) (ht : termB fs ts = false) : tss.all (termB fs) = false := by
  rw [← Bool.not_eq_true]
  intro ha
  have := List.all_eq_true.1 ha ts (List.mem_of_getElem? h)
  rw [ht] at this; cases this

set_option maxRecDepth 100000 in
set_option maxHeartbeats 2000000 in
theorem l3List_any (lo hi lo2 hi2 : Nat) (z : Int) (ao bo : Option Addr) (c n d m : Nat) (fs : List OpD) (tss : List (List Int)) (w : World) (hv : OView w lo hi ao n fs) (hhi : hi ≤ w.heap.size) (hok : algOkB z fs = true)
    (hx : LView w lo2 hi2 bo m tss) (hhi2 : hi2 ≤ w.heap.size) (hm : m ≤ maxLen) :
    Calls Try.prog 78 #[.agg #[.int .i64 z, .slice ao n c], .slice bo m d] w fun e w' => e = .returned (.bool (tss.all (termB fs))) ∧ Below w.heap.size w w' := by
  unfold maxLen at hm
  have HV := Lib.hid hv
  have HX := Lib.hid hx
  have HOk := Lib.hid hok
  obtain ⟨r, hr⟩ : ∃ r, tss.all (termB fs) = r := ⟨_, rfl⟩
  have HR := Lib.hid hr
  rw [hr]
  have HB0 := Lib.hid (below_alloc w (.cells #[.int .i64 z, .slice ao n c] 30))
  clear hv hx hok hr
  go_enter Try.func78, Try.ntmps78
  go_wp2_with fail
  go_loopw [5] (fun i wr => ∃ k : Nat, k ≤ m ∧ i = .int .i64 (k : Int) ∧ Hid ((tss.take k).all (termB fs) = true) ∧ wr.cell? ⟨w.heap.size, 0, none⟩ = some (.int .i64 z) ∧ wr.cell? ⟨w.heap.size, 1, none⟩ = some (.slice ao n c) ∧ Hid (Below w.heap.size w wr)) (fun i _ => m - (intOf i).toNat)
  case atStart => exact ⟨0, Nat.zero_le _, rfl, rfl, by go_simp, by go_simp, HB0⟩
  case round =>
    obtain ⟨k, hk, rfl, HA, z1, z2, HBr⟩ := hrel
    clear HB0
    by_cases hlt : k < m
    · obtain ⟨wi, hwi⟩ : ∃ wi : World, wi = wr := ⟨_, rfl⟩
      rw [← hwi]
      rw [← hwi] at z1 z2 HBr
      clear hwi
      obtain ⟨b, o, rfl, _, hbh, hc⟩ := HX.out.at_ (by omega)
      obtain ⟨ts, hts⟩ := get_of_lt HX.out.1 hlt
      obtain ⟨a, mm, cc, hcell, hmc, hcm, hvv⟩ := hc k ts hts
      have z3 : wi.cell? ⟨b, o + k, none⟩ = some (.slice a mm cc) := cell_b HBr.out hcell
      have hcall := fun (W : World) (hb : Below wi.heap.size wi W) => l3Good_any lo hi lo2 hi2 z ao a c n cc mm fs ts W (HV.out.kept (Kept.of_below (HBr.out.trans (hb.mono HBr.out.size)) hhi)) (Nat.le_trans hhi (HBr.out.trans (hb.mono HBr.out.size)).size) HOk.out (hvv.kept (Kept.of_below (HBr.out.trans (hb.mono HBr.out.size)) hhi2)) (Nat.le_trans hhi2 (HBr.out.trans (hb.mono HBr.out.size)).size) (by omega)
      have HTs := Lib.hid hts
      obtain ⟨t, ht⟩ : ∃ t, termB fs ts = t := ⟨_, rfl⟩
      rw [ht] at hcall
      have HT := Lib.hid ht
      have HC := Lib.hid hcall
      have hkm : (k : Int) < (m : Int) := by omega
      clear hts hcell hvv hc hcall ht hmc hcm
      cases t with
      | true =>
        go_wp2_with fail
        refine wp_region_noPanic ?_
        refine wp_region_held_drew (S := fun W => W.cell? ⟨w.heap.size, 0, none⟩ = some (.int .i64 z) ∧ W.cell? ⟨w.heap.size, 1, none⟩ = some (.slice ao n c) ∧ W.cell? ⟨b, o + k, none⟩ = some (.slice a mm cc)) (by kernel_rfl) ?_ (fun hHeld => ?_)
        · exact ⟨z1, z2, z3⟩
        refine wpAnyH_take (i := 0) (oi := ⟨_, _, _, _, _, _⟩) (v := ?_) rfl (by kernel_rfl) (by kernel_rfl) (by kernel_rfl) (fun _ _ _ h => h) (Or.inl ⟨rfl, ?_⟩) (by assumption) ?_
        rotate_left 1
        · intro w_ hSw; (try dsimp only at hSw); go_simp; (try with_reducible rfl)
        (try simp only [Act.put, List.setIfInBounds_toArray, List.set_cons_zero, List.set_cons_succ])
        refine wpAnyH_take (i := 1) (oi := ⟨_, _, _, _, _, _⟩) (v := ?_) rfl (by kernel_rfl) (by kernel_rfl) (by kernel_rfl) (fun _ _ _ h => h) (Or.inl ⟨rfl, ?_⟩) (by assumption) ?_
        rotate_left 1
        · intro w_ hSw; (try dsimp only at hSw); go_simp; (try with_reducible rfl)
        (try simp only [Act.put, List.setIfInBounds_toArray, List.set_cons_zero, List.set_cons_succ])
        refine wpAnyH_take (i := 2) (oi := ⟨_, _, _, _, _, _⟩) (v := ?_) rfl (by kernel_rfl) (by kernel_rfl) (by kernel_rfl) (fun _ _ _ h => h) (Or.inl ⟨rfl, ?_⟩) (by assumption) ?_
        rotate_left 1
        · intro w_ hSw; (try dsimp only at hSw); go_simp; (try with_reducible rfl)
        (try simp only [Act.put, List.setIfInBounds_toArray, List.set_cons_zero, List.set_cons_succ])
        refine wpAnyH_take (i := 3) (oi := ⟨_, _, _, _, _, _⟩) (v := ?_) rfl (by kernel_rfl) (by kernel_rfl) (by kernel_rfl) (fun _ _ _ h => h) (Or.inl ⟨rfl, ?_⟩) (by assumption) ?_
        rotate_left 1
        · intro w_ hSw; (try dsimp only at hSw); go_simp; (try with_reducible rfl)
        (try simp only [Act.put, List.setIfInBounds_toArray, List.set_cons_zero, List.set_cons_succ])
        refine wpAnyH_take (i := 4) (oi := ⟨_, _, _, _, _, _⟩) (v := ?_) rfl (by kernel_rfl) (by kernel_rfl) (by kernel_rfl) (fun _ _ _ h => h) (Or.inl ⟨rfl, ?_⟩) (by assumption) ?_
        rotate_left 1
        · intro w_ hSw; (try dsimp only at hSw); go_simp; (try with_reducible rfl)
        (try simp only [Act.put, List.setIfInBounds_toArray, List.set_cons_zero, List.set_cons_succ])
        refine wpAnyH_ready (rs := [5]) (by kernel_rfl) (by simp) ?_
        refine AllReadyH.cons (o := ⟨_, _, _, _, _, _⟩) rfl (fun K hK => ?_) AllReadyH.nil
        go_simp
        go_at_call 74
        refine (HC.out _ (below_drew _)).mono ?_
        rintro e w3 ⟨rfl, b3⟩
        have q1 := cell_b b3 z1
        have q2 := cell_b b3 z2
        have q3 := cell_b b3 z3
        have HB3 := Lib.hid ((HBr.out.drew).trans (b3.mono (by have := HBr.out.size; simpa using this)))
        clear b3
        go_wp2_with fail
        refine hK.out _ _ ?_ (fun hHeld => ?_)
        · exact ⟨q1, q2, q3⟩
        clear hK K
        (try simp only [Act.put, List.setIfInBounds_toArray, List.set_cons_zero, List.set_cons_succ])
        refine wpAnyH_take (i := 6) (oi := ⟨_, _, _, _, _, _⟩) (v := ?_) rfl (by kernel_rfl) (by kernel_rfl) (by kernel_rfl) (fun _ _ _ h => h) (Or.inl ⟨rfl, ?_⟩) (by assumption) ?_
        rotate_left 1
        · intro w_ hSw; (try dsimp only at hSw); go_simp; (try with_reducible rfl)
        (try simp only [Act.put, List.setIfInBounds_toArray, List.set_cons_zero, List.set_cons_succ])
        refine wpAnyH_done (by kernel_rfl) ?_ _
        refine NoPanic.normal ?_
        go_wp2_with fail
        go_roundw
        case rel => exact ⟨k + 1, by omega, by go_num, areB_succ HTs.out HA.out HT.out, q1, q2, HB3⟩
        case measure => simp [intOf]; omega
      | false =>
        go_wp2_with fail
        refine wp_region_noPanic ?_
        refine wp_region_held_drew (S := fun W => W.cell? ⟨w.heap.size, 0, none⟩ = some (.int .i64 z) ∧ W.cell? ⟨w.heap.size, 1, none⟩ = some (.slice ao n c) ∧ W.cell? ⟨b, o + k, none⟩ = some (.slice a mm cc)) (by kernel_rfl) ?_ (fun hHeld => ?_)
        · exact ⟨z1, z2, z3⟩
        refine wpAnyH_take (i := 0) (oi := ⟨_, _, _, _, _, _⟩) (v := ?_) rfl (by kernel_rfl) (by kernel_rfl) (by kernel_rfl) (fun _ _ _ h => h) (Or.inl ⟨rfl, ?_⟩) (by assumption) ?_
        rotate_left 1
        · intro w_ hSw; (try dsimp only at hSw); go_simp; (try with_reducible rfl)
        (try simp only [Act.put, List.setIfInBounds_toArray, List.set_cons_zero, List.set_cons_succ])
        refine wpAnyH_take (i := 1) (oi := ⟨_, _, _, _, _, _⟩) (v := ?_) rfl (by kernel_rfl) (by kernel_rfl) (by kernel_rfl) (fun _ _ _ h => h) (Or.inl ⟨rfl, ?_⟩) (by assumption) ?_
        rotate_left 1
        · intro w_ hSw; (try dsimp only at hSw); go_simp; (try with_reducible rfl)
        (try simp only [Act.put, List.setIfInBounds_toArray, List.set_cons_zero, List.set_cons_succ])
        refine wpAnyH_take (i := 2) (oi := ⟨_, _, _, _, _, _⟩) (v := ?_) rfl (by kernel_rfl) (by kernel_rfl) (by kernel_rfl) (fun _ _ _ h => h) (Or.inl ⟨rfl, ?_⟩) (by assumption) ?_
        rotate_left 1
        · intro w_ hSw; (try dsimp only at hSw); go_simp; (try with_reducible rfl)
        (try simp only [Act.put, List.setIfInBounds_toArray, List.set_cons_zero, List.set_cons_succ])
        refine wpAnyH_take (i := 3) (oi := ⟨_, _, _, _, _, _⟩) (v := ?_) rfl (by kernel_rfl) (by kernel_rfl) (by kernel_rfl) (fun _ _ _ h => h) (Or.inl ⟨rfl, ?_⟩) (by assumption) ?_
        rotate_left 1
        · intro w_ hSw; (try dsimp only at hSw); go_simp; (try with_reducible rfl)
        (try simp only [Act.put, List.setIfInBounds_toArray, List.set_cons_zero, List.set_cons_succ])
        refine wpAnyH_take (i := 4) (oi := ⟨_, _, _, _, _, _⟩) (v := ?_) rfl (by kernel_rfl) (by kernel_rfl) (by kernel_rfl) (fun _ _ _ h => h) (Or.inl ⟨rfl, ?_⟩) (by assumption) ?_
        rotate_left 1
        · intro w_ hSw; (try dsimp only at hSw); go_simp; (try with_reducible rfl)
        (try simp only [Act.put, List.setIfInBounds_toArray, List.set_cons_zero, List.set_cons_succ])
        refine wpAnyH_ready (rs := [5]) (by kernel_rfl) (by simp) ?_
        refine AllReadyH.cons (o := ⟨_, _, _, _, _, _⟩) rfl (fun K hK => ?_) AllReadyH.nil
        go_simp
        go_at_call 74
        refine (HC.out _ (below_drew _)).mono ?_
        rintro e w3 ⟨rfl, b3⟩
        have q1 := cell_b b3 z1
        have q2 := cell_b b3 z2
        have q3 := cell_b b3 z3
        have HB3 := Lib.hid ((HBr.out.drew).trans (b3.mono (by have := HBr.out.size; simpa using this)))
        clear b3
        go_wp2_with fail
        refine hK.out _ _ ?_ (fun hHeld => ?_)
        · exact ⟨q1, q2, q3⟩
        clear hK K
        (try simp only [Act.put, List.setIfInBounds_toArray, List.set_cons_zero, List.set_cons_succ])
        refine wpAnyH_take (i := 6) (oi := ⟨_, _, _, _, _, _⟩) (v := ?_) rfl (by kernel_rfl) (by kernel_rfl) (by kernel_rfl) (fun _ _ _ h => h) (Or.inl ⟨rfl, ?_⟩) (by assumption) ?_
        rotate_left 1
        · intro w_ hSw; (try dsimp only at hSw); go_simp; (try with_reducible rfl)
        (try simp only [Act.put, List.setIfInBounds_toArray, List.set_cons_zero, List.set_cons_succ])
        refine wpAnyH_done (by kernel_rfl) ?_ _
        refine NoPanic.normal ?_
        go_wp2_with fail
        go_ret
        exact ⟨ret_bool ((all_no HTs.out HT.out).symm.trans HR.out), HB3.out⟩
    · obtain rfl : k = m := by omega
      go_wp2_with fail
      go_ret
      refine ⟨ret_bool ?_, HBr.out⟩
      have h_ := HA.out
      rw [List.take_of_length_le (by have := HX.out.1; omega)] at h_
      rw [← HR.out]; exact h_.symm

theorem subR_big {tss : List (List Int)} {xs : List Int} {k : Nat} (h : 60 < (flatS tss (xs.take k)).length) : subR tss xs = ([], false) := by
  unfold subR
  have := flatS_len_le (tss := tss) (xs := xs) k
  rw [if_neg (by omega)]
theorem subR_yes {tss : List (List Int)} {xs : List Int} (h : (flatS tss xs).length ≤ 60) : subR tss xs = (flatS tss xs, true) := if_pos h

/-- What l3Substitute tells: nothing where there is not a term for each variable. -/
def subV (tss : List (List Int)) (xs : List Int) (m : Nat) : List Int × Bool := if fitsB xs m then subR tss xs else ([], false)
theorem subV_big {tss : List (List Int)} {xs : List Int} {m k : Nat} (h : 60 < (flatS tss (xs.take k)).length) : subV tss xs m = ([], false) := by
  unfold subV
  rw [subR_big h]; split <;> rfl
theorem subV_bad {tss : List (List Int)} {xs : List Int} {m k : Nat} {x : Int} (h : xs[k]? = some x) (hx : (m : Int) ≤ x) : subV tss xs m = ([], false) := by
  unfold subV
  rw [if_neg]
  intro ha
  have := List.all_eq_true.1 ha x (List.mem_of_getElem? h)
  simp at this
  omega
theorem subV_yes {tss : List (List Int)} {xs : List Int} {m : Nat} (h : ∀ (j : Nat) (x : Int), j < xs.length → xs[j]? = some x → x < (m : Int)) : subV tss xs m = subR tss xs := by
  unfold subV
  rw [if_pos]
  unfold fitsB
  rw [List.all_eq_true]
  intro x hx
  obtain ⟨j, hj⟩ := List.getElem?_of_mem hx
  have := h j x (List.getElem?_eq_some_iff.1 hj).1 hj
  simpa using this

set_option maxRecDepth 100000 in
set_option maxHeartbeats 2000000 in
theorem l3Substitute_any (lo hi lo2 hi2 : Nat) (bo co : Option Addr) (d m d2 m2 : Nat) (xs : List Int) (tss : List (List Int)) (w : World) (hx : IView w lo hi bo m xs) (hhi : hi ≤ w.heap.size) (h60 : m ≤ 60)
    (hy : LView w lo2 hi2 co m2 tss) (hhi2 : hi2 ≤ w.heap.size) (hm2 : m2 ≤ 6) (htl : ∀ ts, ts ∈ tss → 0 < ts.length ∧ ts.length ≤ 60) :
    Calls Try.prog 79 #[.slice bo m d, .slice co m2 d2] w fun e w' => ResL w w' (subV tss xs m2).1 (subV tss xs m2).2 e := by
  obtain ⟨i0, hi0, hz0, hz1, hz2⟩ := info_parts Try.infoInt
  have HX := Lib.hid hx
  have HY := Lib.hid hy
  have HTl := Lib.hid htl
  obtain ⟨R, hR⟩ : ∃ R, subV tss xs m2 = R := ⟨_, rfl⟩
  have HR := Lib.hid hR
  have HBig := Lib.hid (fun (k : Nat) (h : 60 < (flatS tss (xs.take k)).length) => subV_big (tss := tss) (xs := xs) (m := m2) (k := k) h)
  have HBad := Lib.hid (fun (k : Nat) (x : Int) (h : xs[k]? = some x) (hx : (m2 : Int) ≤ x) => subV_bad (tss := tss) (m := m2) h hx)
  rw [hR] at HBig HBad ⊢
  have HO0 := Lib.hid (own_nil_lit w (base := w.heap.size) (Nat.le_refl _))
  have HB0 := Lib.hid (below_alloc w (.cells #[] 3))
  clear hx hy htl hR
  unfold ResL
  go_enter Try.func79, Try.ntmps79
  go_wp2_with fail
  go_loopw [6, 7] (fun v i wr => ∃ k g t D : Nat, k ≤ m ∧ i = .int .i64 (k : Int) ∧ v = .slice (some ⟨g, 0, none⟩) t D ∧ t ≤ 60 ∧ Hid (∀ (j : Nat) (x : Int), j < k → xs[j]? = some x → x < (m2 : Int)) ∧ Hid ((flatS tss (xs.take k)).length = t) ∧ Hid (wr.ownsRow w.heap.size 3 1 (.slice (some ⟨g, 0, none⟩) t D) t ((flatS tss (xs.take k)).map (Value.int .i64))) ∧ Hid (Below w.heap.size w wr)) (fun _ i _ => m - (intOf i).toNat)
  case atStart => exact ⟨0, w.heap.size, 0, 0, Nat.zero_le _, rfl, rfl, by omega, (fun j x hj => by omega), rfl, HO0, HB0⟩
  case round =>
    obtain ⟨k, g, t, D, hk, rfl, rfl, ht60, HFk, HLn, HO, HBr⟩ := hrel
    clear HO0 HB0
    by_cases hlt : k < m
    · obtain ⟨b, o, rfl, _, _, hcx⟩ := HX.out.at_ (by omega)
      obtain ⟨x, hx⟩ := get_of_lt HX.out.1 hlt
      have cx : wr.cell? ⟨b, o + k, none⟩ = some (.int .i64 x) := cell_b HBr.out (hcx k x hx)
      by_cases hxm0 : (m2 : Int) ≤ x
      · obtain rfl : R = ([], false) := HBad.out k x hx hxm0
        have hkm : (k : Int) < (m : Int) := by omega
        clear hx hcx
        go_wp2_with fail
        go_ret2
        exact ⟨_, 0, 0, rfl, rfl, own_nil_res HBr.out, HBr.out.alloc HBr.out.size _⟩
      have hxm : x < (m2 : Int) := by omega
      have hxm' : ¬ (m2 : Int) ≤ x := hxm0
      have HFk2 : Hid (∀ (j : Nat) (y : Int), j < k + 1 → xs[j]? = some y → y < (m2 : Int)) := fun j y hj hy => by
        by_cases h_ : j < k
        · exact HFk.out j y h_ hy
        · obtain rfl : j = k := by omega
          rw [hx] at hy; cases hy; exact hxm
      have HXk := Lib.hid (flatS_succ (tss := tss) hx)
      have hkm : (k : Int) < (m : Int) := by omega
      by_cases h0 : x < 0
      · have HNew : Hid (flatS tss (xs.take (k + 1)) = flatS tss (xs.take k) ++ [x]) := by unfold Hid; rw [HXk.out, partS_op h0]
        clear hx hcx HXk
        go_wp2_with (at_builtin; refine wpList_append_own_at _ rfl _ _ 25 rfl w.heap.size 3 i0 (.int .i64 0) 1 8 Try.underlying25 hi0 hz0 hz1 hz2 rfl (by decide) (.slice (some ⟨g, 0, none⟩) t D) t ((flatS tss (xs.take k)).map (Value.int .i64)) rfl (HO.out.alloc _) ⟨wr.heap.size, 0, none⟩ 1 1 [.int .i64 x] rfl rfl (cell_one_new _ _ _) (fun x hx => by simp at hx; subst hx; rfl) (by unfold maxLen; omega) (by omega) (by have := HBr.out.size; simp; omega) ?_; intro v' w3 hown' hgrow' hnil' hat')
        obtain ⟨g3, cap, rfl⟩ := ownsRow_succ hown'
        have HB3 := Lib.hid ((HBr.out.alloc HBr.out.size (.cells #[.int .i64 x] 3)).grown hgrow' (by have := HBr.out.size; simp; omega) (fun q hq => (HO.out.lt q hq).1))
        have HO3 : Hid (w3.ownsRow w.heap.size 3 1 (.slice (some ⟨g3, 0, none⟩) (t + 1) cap) (t + 1) ((flatS tss (xs.take (k + 1))).map (Value.int .i64))) := by
          unfold Hid; rw [HNew.out, List.map_append]; exact hown'
        have HL3 : Hid ((flatS tss (xs.take (k + 1))).length = t + 1) := by unfold Hid; rw [HNew.out, List.length_append, HLn.out]; rfl
        clear hown' hgrow' hnil' hat' cx
        by_cases hbig : (60 : Int) < (t : Int) + 1
        · obtain rfl : R = ([], false) := HBig.out (k + 1) (by rw [HL3.out]; omega)
          go_wp2_with fail
          go_ret2
          exact ⟨_, 0, 0, rfl, rfl, own_nil_res HB3.out, HB3.out.alloc HB3.out.size _⟩
        · go_wp2_with fail
          go_roundw
          case rel => exact ⟨k + 1, g3, t + 1, cap, by omega, by go_num, rfl, by omega, HFk2, HL3, HO3, HB3⟩
          case measure => simp [intOf]; omega
      · obtain ⟨v, rfl⟩ : ∃ v : Nat, x = (v : Int) := ⟨x.toNat, by omega⟩
        obtain ⟨b2, o2, rfl, _, _, hcy⟩ := HY.out.at_ (by omega)
        obtain ⟨ts, hts⟩ := get_of_lt HY.out.1 (show v < m2 by omega)
        obtain ⟨a, q, qc, hcell, hqc, hcm, hvv⟩ := hcy v ts hts
        obtain ⟨hl0, hl1⟩ := HTl.out ts (List.mem_of_getElem? hts)
        have hql := hvv.1
        have ct : wr.cell? ⟨b2, o2 + v, none⟩ = some (.slice a q qc) := cell_b HBr.out hcell
        obtain ⟨b3, o3, rfl, _, _, hc3⟩ := (hvv.kept (Kept.of_below HBr.out hhi2)).at_ (by omega)
        have HNew : Hid (flatS tss (xs.take (k + 1)) = flatS tss (xs.take k) ++ ts) := by unfold Hid; rw [HXk.out, partS_var hts]
        have HSrc : Hid (∀ j u, (ts.map (Value.int .i64))[j]? = some u → wr.cell? ((⟨b3, o3, none⟩ : Addr).add j) = some u) := by
          intro j u hj
          rw [List.getElem?_map] at hj
          obtain ⟨y, hy, rfl⟩ := Option.map_eq_some_iff.1 hj
          exact cells_add (fun j y hj => hc3 j y hj) j y hy
        have hvm : (v : Int) < (m2 : Int) := by omega
        have HQl := Lib.hid hql
        have hq0 : 0 < q := by omega
        have hq6 : q ≤ 60 := by omega
        clear hx hcx HXk hts hcell hvv hcy hc3 hql hl0 hl1 hqc hcm
        go_wp2_with (at_builtin; refine wpList_append_own_at _ rfl _ _ 25 rfl w.heap.size 3 i0 (.int .i64 0) 1 8 Try.underlying25 hi0 hz0 hz1 hz2 rfl (by decide) (.slice (some ⟨g, 0, none⟩) t D) t ((flatS tss (xs.take k)).map (Value.int .i64)) rfl HO.out ⟨b3, o3, none⟩ q qc (ts.map (Value.int .i64)) rfl (by rw [List.length_map, HQl.out]; omega) HSrc.out (fun x hx => by obtain ⟨y, _, rfl⟩ := List.mem_map.1 hx; rfl) (by unfold maxLen; omega) (by omega) HBr.out.size ?_; intro v' w3 hown' hgrow' hnil' hat')
        obtain ⟨g3, cap, rfl⟩ : ∃ g3 cap, v' = .slice (some ⟨g3, 0, none⟩) (t + q) cap := by
          rcases hown'.2 with ⟨_, h_⟩ | ⟨g3, cap, _, h_, _⟩
          · omega
          · exact ⟨g3, cap, h_⟩
        have HB3 := Lib.hid (HBr.out.grown hgrow' HBr.out.size (fun q hq => (HO.out.lt q hq).1))
        have HO3 : Hid (w3.ownsRow w.heap.size 3 1 (.slice (some ⟨g3, 0, none⟩) (t + q) cap) (t + q) ((flatS tss (xs.take (k + 1))).map (Value.int .i64))) := by
          unfold Hid; rw [HNew.out, List.map_append]; exact hown'
        have HL3 : Hid ((flatS tss (xs.take (k + 1))).length = t + q) := by unfold Hid; rw [HNew.out, List.length_append, HLn.out, HQl.out]
        clear hown' hgrow' hnil' hat' cx ct
        by_cases hbig : (60 : Int) < (t : Int) + (q : Int)
        · obtain rfl : R = ([], false) := HBig.out (k + 1) (by rw [HL3.out]; omega)
          go_wp2_with fail
          go_ret2
          exact ⟨_, 0, 0, rfl, rfl, own_nil_res HB3.out, HB3.out.alloc HB3.out.size _⟩
        · go_wp2_with fail
          go_roundw
          case rel => exact ⟨k + 1, g3, t + q, cap, by omega, by go_num, rfl, by omega, HFk2, HL3, HO3, HB3⟩
          case measure => simp [intOf]; omega
    · obtain rfl : k = m := by omega
      have hall := flatS_all (tss := tss) (Nat.le_of_eq HX.out.1)
      have h1 := HLn.out
      have h2 := HO.out
      rw [hall] at h1 h2
      obtain rfl : R = (flatS tss xs, true) := HR.out.symm.trans ((subV_yes (by rw [HX.out.1]; exact HFk.out)).trans (subR_yes (by omega)))
      have H1 := Lib.hid h1
      have H2 := Lib.hid h2
      clear hall h1 h2
      go_wp2_with fail
      go_ret2
      exact ⟨_, t, D, rfl, H1.out.symm, OwnsInts.of_row H2.out, HBr.out⟩
end

section
open Go.RowKit
set_option linter.unusedVariables false
set_option linter.unusedSimpArgs false
attribute [local go_sem ↓] Go.wp_at_zero Go.wp_at_succ

def roomV (ys : List Int) : Array Value := ((roomS 60 ys).map (Value.int .i64)).toArray
theorem roomV_nil : roomV [] = #[.int .i64 0, .int .i64 0, .int .i64 0, .int .i64 0, .int .i64 0, .int .i64 0, .int .i64 0, .int .i64 0, .int .i64 0, .int .i64 0, .int .i64 0, .int .i64 0, .int .i64 0, .int .i64 0, .int .i64 0, .int .i64 0, .int .i64 0, .int .i64 0, .int .i64 0, .int .i64 0, .int .i64 0, .int .i64 0, .int .i64 0, .int .i64 0, .int .i64 0, .int .i64 0, .int .i64 0, .int .i64 0, .int .i64 0, .int .i64 0, .int .i64 0, .int .i64 0, .int .i64 0, .int .i64 0, .int .i64 0, .int .i64 0, .int .i64 0, .int .i64 0, .int .i64 0, .int .i64 0, .int .i64 0, .int .i64 0, .int .i64 0, .int .i64 0, .int .i64 0, .int .i64 0, .int .i64 0, .int .i64 0, .int .i64 0, .int .i64 0, .int .i64 0, .int .i64 0, .int .i64 0, .int .i64 0, .int .i64 0, .int .i64 0, .int .i64 0, .int .i64 0, .int .i64 0, .int .i64 0] := by rfl
theorem roomV_put {ys zs : List Int} {t : Nat} (ht : ys.length = t) (h : ys.length + zs.length ≤ 60) : ((roomV ys).toList.take t ++ (zs.map (Value.int .i64) ++ (roomV ys).toList.drop (t + (zs.map (Value.int .i64)).length))).toArray = roomV (ys ++ zs) := by
  subst ht
  unfold roomV
  rw [List.length_map, ← roomS_put (n := 60) h]
  simp [List.map_take, List.map_drop]
theorem roomV_size {ys : List Int} (h : ys.length ≤ 60) : (roomV ys).size = 60 := by unfold roomV; rw [List.size_toArray, List.length_map, roomS_len h]
theorem room_view {W : World} {B : Nat} {ys : List Int} {ty : TypeId} (h : W.heap[B]? = some (.cells (roomV ys) ty (0, 0))) (hl : ys.length ≤ 60) : IView W B (B + 1) (some ⟨B, 0, none⟩) ys.length ys := by
  refine ⟨rfl, .inr ⟨B, 0, rfl, Nat.le_refl _, by omega, fun j x hx => ?_⟩⟩
  have hj := (List.getElem?_eq_some_iff.1 hx).1
  rw [Nat.zero_add, cell_of_row W B j _ ty (0, 0) h]
  unfold roomV roomS
  rw [List.getElem?_toArray, List.map_append, List.getElem?_append_left (by rw [List.length_map]; exact hj), List.getElem?_map, hx]; rfl

theorem infoIntSize : (Try.prog.info? 3).map (·.size) = some 1 := by kernel_rfl

theorem copy_room (w0 wr : World) (B t q qc : Nat) (ad : Addr) (ys zs : List Int) (hB : w0.heap.size ≤ B) (hg : wr.heap[B]? = some (.cells (roomV ys) 105 (0, 0))) (ht : ys.length = t) (hq : zs.length = q) (hfit : t + q ≤ 60)
    (hsrc : ∀ j y, zs[j]? = some y → wr.cell? (ad.add j) = some (.int .i64 y)) (hb : Below w0.heap.size w0 wr) :
    ∃ w3, (Builtin.copy_ #[25, 25] 3 #[.slice (some ⟨B, t, none⟩) (60 - t) (60 - t), .slice (some ad) q qc]).run Try.prog wr = .ok (.int .i64 (q : Int)) w3 ∧ Hid (w3.heap[B]? = some (.cells (roomV (ys ++ zs)) 105 (0, 0))) ∧ Below w0.heap.size w0 w3 := by
  have hrun := run_copy_row (P := Try.prog) wr 25 25 3 3 B t (60 - t) (60 - t) ad q qc (roomV ys) 105 (zs.map (Value.int .i64)) Try.underlying25 infoIntSize hg (by rw [List.length_map, hq]; exact (Nat.min_eq_left (by omega)).symm) (fun j v hj => by
    rw [List.getElem?_map] at hj
    obtain ⟨y, hy, rfl⟩ := Option.map_eq_some_iff.1 hj
    exact hsrc j y hy) (by rw [roomV_size (by omega), List.length_map]; omega) (fun v hv => by
    obtain ⟨y, _, rfl⟩ := List.mem_map.1 hv; rfl)
  rw [List.append_assoc, roomV_put ht (by omega), List.length_map, hq] at hrun
  exact ⟨_, hrun, setRow_heap wr B _ _ 105 _ hg, below_setRow hb hB _⟩

set_option maxRecDepth 100000 in
set_option maxHeartbeats 2000000 in
theorem substituted_any (lo hi lo2 hi2 : Nat) (bo co : Option Addr) (d m d2 m2 : Nat) (xs : List Int) (tss : List (List Int)) (w : World) (hx : IView w lo hi bo m xs) (hhi : hi ≤ w.heap.size) (h60 : m ≤ 60) (hm0 : 0 < m) (hmd : m ≤ d) (hd : d ≤ maxLen)
    (hy : LView w lo2 hi2 co m2 tss) (hhi2 : hi2 ≤ w.heap.size) (hm2 : m2 ≤ 6) (htl : ∀ ts, ts ∈ tss → 0 < ts.length ∧ ts.length ≤ 60) (hfit : ∀ x, x ∈ xs → x < (m2 : Int)) :
    Calls Try.prog 81 #[.slice bo m d, .slice co m2 d2] w fun e w' => ResL w w' (subR tss xs).1 (subR tss xs).2 e := by
  unfold maxLen at hd
  have HX := Lib.hid hx
  have HY := Lib.hid hy
  have HTl := Lib.hid htl
  have HFit := Lib.hid hfit
  obtain ⟨R, hR⟩ : ∃ R, subR tss xs = R := ⟨_, rfl⟩
  have HR := Lib.hid hR
  have HBig := Lib.hid (fun (k : Nat) (h : 60 < (flatS tss (xs.take k)).length) => subR_big (tss := tss) (xs := xs) (k := k) h)
  rw [hR] at HBig ⊢
  obtain ⟨w1, hw1⟩ : ∃ w1 : World, w1 = w.alloc (.cells #[.int .i64 0, .int .i64 0, .int .i64 0, .int .i64 0, .int .i64 0, .int .i64 0, .int .i64 0, .int .i64 0, .int .i64 0, .int .i64 0, .int .i64 0, .int .i64 0, .int .i64 0, .int .i64 0, .int .i64 0, .int .i64 0, .int .i64 0, .int .i64 0, .int .i64 0, .int .i64 0, .int .i64 0, .int .i64 0, .int .i64 0, .int .i64 0, .int .i64 0, .int .i64 0, .int .i64 0, .int .i64 0, .int .i64 0, .int .i64 0, .int .i64 0, .int .i64 0, .int .i64 0, .int .i64 0, .int .i64 0, .int .i64 0, .int .i64 0, .int .i64 0, .int .i64 0, .int .i64 0, .int .i64 0, .int .i64 0, .int .i64 0, .int .i64 0, .int .i64 0, .int .i64 0, .int .i64 0, .int .i64 0, .int .i64 0, .int .i64 0, .int .i64 0, .int .i64 0, .int .i64 0, .int .i64 0, .int .i64 0, .int .i64 0, .int .i64 0, .int .i64 0, .int .i64 0, .int .i64 0] 105) := ⟨_, rfl⟩
  have HB1 : Hid (Below w.heap.size w w1) := by unfold Hid; rw [hw1]; exact below_alloc _ _
  have HRoom : Hid (w1.heap[w.heap.size]? = some (.cells (roomV []) 105 (0, 0))) := by unfold Hid; rw [hw1, roomV_nil]; exact heap_alloc_new _ _
  have HW1 := Lib.hid hw1
  clear hx hy htl hfit hR
  unfold ResL
  clear hw1
  go_enter Try.func81, Try.ntmps81
  go_wp2_with fail
  rw [← HW1.out]
  clear HW1
  go_loopw [7, 8, 9, 10, 13] (fun s _ _ _ i wr => ∃ k t : Nat, k ≤ m ∧ i = .int .i64 (k : Int) ∧ s = .int .i64 (t : Int) ∧ k ≤ t ∧ t ≤ 60 ∧ Hid ((flatS tss (xs.take k)).length = t) ∧ Hid (wr.heap[w.heap.size]? = some (.cells (roomV (flatS tss (xs.take k))) 105 (0, 0))) ∧ Hid (Below w.heap.size w wr)) (fun _ _ _ _ i _ => m - (intOf i).toNat)
  case atStart => exact ⟨0, 0, Nat.zero_le _, rfl, rfl, Nat.le_refl _, by omega, rfl, HRoom, HB1⟩
  case round =>
    obtain ⟨k, t, hk, rfl, rfl, hkt, ht60, HLn, HRm, HBr⟩ := hrel
    clear HRoom HB1
    obtain ⟨b, o, rfl, _, hbh, hcx⟩ := HX.out.at_ hm0
    by_cases hlt : k < m
    · obtain ⟨x, hx⟩ := get_of_lt HX.out.1 hlt
      have cx : wr.cell? ⟨b, o + k, none⟩ = some (.int .i64 x) := cell_b HBr.out (hcx k x hx)
      have hxm := HFit.out x (List.mem_of_getElem? hx)
      have HXk := Lib.hid (flatS_succ (tss := tss) hx)
      have hkm : (k : Int) < (m : Int) := by omega
      have hkd : ¬ d = k := by omega
      have hkd1 : (k : Int) + 1 ≤ (d : Int) := by omega
      by_cases h0 : x < 0
      · have HNew : Hid (flatS tss (xs.take (k + 1)) = flatS tss (xs.take k) ++ [x]) := by unfold Hid; rw [HXk.out, partS_op h0]
        have h0' : ¬ (0 : Int) ≤ x := by omega
        clear hx hcx HXk
        by_cases hbig : (60 : Int) < (t : Int) + 1
        · obtain rfl : R = ([], false) := HBig.out (k + 1) (by rw [HNew.out, List.length_append, HLn.out]; simp; omega)
          go_wp2_with fail
          go_ret2
          exact ⟨none, 0, 0, rfl, rfl, OwnsInts.none_ _ _ _, HBr.out⟩
        · have h6t : ¬ 60 = t := by omega
          have ht6' : (t : Int) ≤ 60 := by omega
          obtain ⟨w3, hrun, HR3, hb3⟩ := copy_room w wr w.heap.size t 1 (d - k) ⟨b, o + k, none⟩ (flatS tss (xs.take k)) [x] (Nat.le_refl _) HRm.out HLn.out rfl (by omega) (cells_add (fun j y hj => by
              match j, hj with
              | 0, hj => simp at hj; subst hj; exact cx)) HBr.out
          rw [← HNew.out] at HR3
          have HB3 := Lib.hid hb3
          have HL3 : Hid ((flatS tss (xs.take (k + 1))).length = t + 1) := by unfold Hid; rw [HNew.out, List.length_append, HLn.out]; rfl
          clear hb3
          go_wp2_with fail
          clear hrun cx
          go_roundw
          case rel => exact ⟨k + 1, t + 1, by omega, by go_num, by go_num, by omega, by omega, HL3, HR3, HB3⟩
          case measure => (simp [intOf]) <;> omega
      · obtain ⟨v, rfl⟩ : ∃ v : Nat, x = (v : Int) := ⟨x.toNat, by omega⟩
        obtain ⟨b2, o2, rfl, _, _, hcy⟩ := HY.out.at_ (by omega)
        obtain ⟨ts, hts⟩ := get_of_lt HY.out.1 (show v < m2 by omega)
        obtain ⟨a, q, qc, hcell, hqc, hcm, hvv⟩ := hcy v ts hts
        obtain ⟨hl0, hl1⟩ := HTl.out ts (List.mem_of_getElem? hts)
        have hql := hvv.1
        have ct : wr.cell? ⟨b2, o2 + v, none⟩ = some (.slice a q qc) := cell_b HBr.out hcell
        obtain ⟨b3, o3, rfl, _, _, hc3⟩ := (hvv.kept (Kept.of_below HBr.out hhi2)).at_ (by omega)
        have HNew : Hid (flatS tss (xs.take (k + 1)) = flatS tss (xs.take k) ++ ts) := by unfold Hid; rw [HXk.out, partS_var hts]
        have hvm : (v : Int) < (m2 : Int) := by omega
        have HQl := Lib.hid hql
        have hq0 : 0 < q := by omega
        have hq6 : q ≤ 60 := by omega
        clear hx hcx HXk hts hcell hvv hcy hql hl0 hl1 hqc hcm
        by_cases hbig : (60 : Int) < (t : Int) + (q : Int)
        · obtain rfl : R = ([], false) := HBig.out (k + 1) (by rw [HNew.out, List.length_append, HLn.out, HQl.out]; omega)
          clear hc3
          go_wp2_with fail
          go_ret2
          exact ⟨none, 0, 0, rfl, rfl, OwnsInts.none_ _ _ _, HBr.out⟩
        · have h6t : ¬ 60 = t := by omega
          have ht6' : (t : Int) ≤ 60 := by omega
          obtain ⟨w3, hrun, HR3, hb3⟩ := copy_room w wr w.heap.size t q qc ⟨b3, o3, none⟩ (flatS tss (xs.take k)) ts (Nat.le_refl _) HRm.out HLn.out HQl.out (by omega) (cells_add (fun j y hj => hc3 j y hj)) HBr.out
          rw [← HNew.out] at HR3
          have HB3 := Lib.hid hb3
          have HL3 : Hid ((flatS tss (xs.take (k + 1))).length = t + q) := by unfold Hid; rw [HNew.out, List.length_append, HLn.out, HQl.out]
          clear hb3 hc3
          go_wp2_with fail
          clear hrun cx ct
          go_roundw
          case rel => exact ⟨k + 1, t + q, by omega, by go_num, by go_num, by omega, by omega, HL3, HR3, HB3⟩
          case measure => (simp [intOf]) <;> omega
    · obtain rfl : k = m := by omega
      have hall := flatS_all (tss := tss) (Nat.le_of_eq HX.out.1)
      have h1 := HLn.out
      have h2 := HRm.out
      rw [hall] at h1 h2
      obtain rfl : R = (flatS tss xs, true) := HR.out.symm.trans (subR_yes (by omega))
      have hcl := clone_ints w.heap.size (w.heap.size + 1) (some ⟨w.heap.size, 0, none⟩) t 60 (flatS tss xs) wr (by have h_ := room_view h2 (by omega); rw [h1] at h_; exact h_) (by omega) (by omega)
      have HCl := Lib.hid hcl
      have H1 := Lib.hid h1
      have ht6' : (t : Int) ≤ 60 := by omega
      clear hall h1 h2 hcl hcx
      go_wp2_with fail
      refine HCl.out.mono ?_
      rintro e w3 ⟨g, cc, rfl, ho, b3⟩
      have HO3 := Lib.hid (ownsRow_base (b' := w.heap.size) ho HBr.out.size)
      have HB3 := Lib.hid (HBr.out.trans (b3.mono HBr.out.size))
      clear ho b3
      go_wp2_with fail
      go_ret2
      exact ⟨_, t, cc, rfl, (by first | exact H1.out.symm | rfl), OwnsInts.of_row HO3.out, HB3.out⟩
end

section
open Go.RowKit
set_option linter.unusedVariables false
set_option linter.unusedSimpArgs false
attribute [local go_sem ↓] Go.wp_at_zero Go.wp_at_succ

theorem val_sbs_no {z : Int} {fs : List OpD} {xs : List Int} {tss : List (List Int)} (h : subB z fs xs tss = false) : valSubstituteIn z fs xs tss = ([], false) := by simp [valSubstituteIn, h]
theorem val_sbs_yes {z : Int} {fs : List OpD} {xs : List Int} {tss : List (List Int)} (h : subB z fs xs tss = true) : valSubstituteIn z fs xs tss = subR tss xs := by simp [valSubstituteIn, h]
theorem val_sbs_part {z : Int} {fs : List OpD} {xs : List Int} {tss : List (List Int)} {m : Nat} (hm : tss.length = m) (h : (isTermB z fs xs && (decide (tss.length ≤ 6) && tss.all (termB fs))) = true) : valSubstituteIn z fs xs tss = subV tss xs m := by
  unfold valSubstituteIn subV subB
  rw [h, Bool.true_and, hm]

set_option maxHeartbeats 1000000 in
theorem implSubstituteIn (lo hi : Nat) (z : Int) (ao : Option Addr) (c n : Nat) (fs : List OpD) (lo2 hi2 : Nat) (bo : Option Addr) (d m : Nat) (xs : List Int) (lo3 hi3 : Nat) (co : Option Addr) (d2 m2 : Nat) (tss : List (List Int)) (w : World) (hv : OView w lo hi ao n fs) (hhi : hi ≤ w.heap.size) (hs : ∀ (j : Nat) (f : OpD), fs[j]? = some f → f.2.length ≤ maxLen)
    (hx : IView w lo2 hi2 bo m xs) (hhi2 : hi2 ≤ w.heap.size) (hmd : m ≤ d) (hm : d ≤ maxLen) (hq : ∀ x, x ∈ xs → (Lit.int .i64 x).wf = true)
    (hy : LView w lo3 hi3 co m2 tss) (hhi3 : hi3 ≤ w.heap.size) (hmd2 : m2 ≤ d2) (hm2 : d2 ≤ maxLen) (hq2 : ∀ ts, ts ∈ tss → ∀ x, x ∈ ts → (Lit.int .i64 x).wf = true) :
    Calls Try.prog 34 #[.agg #[.int .i64 z, .slice ao n c], .slice bo m d, .slice co m2 d2] w fun e w' => ResL w w' (valSubstituteIn z fs xs tss).1 (valSubstituteIn z fs xs tss).2 e := by
  have hly := hy.1
  have hlx := hx.1
  unfold ResL
  by_cases h6 : m2 ≤ 6
  · have h6' : ¬ (6 : Int) < (m2 : Int) := by omega
    have hB0 := below_alloc w (.cells #[.int .i64 z, .slice ao n c] 30)
    have hB := below_then hB0 (below_alloc _ (.cells #[.slice bo m d] 25))
    have HB := Lib.hid hB
    have hcall := areT_one lo hi lo2 hi2 z ao bo c n d m fs xs w _ hB hv hhi hs hx hhi2 hmd hm hq (w.heap.size + 1) (by simp) (by simp) 1
    obtain ⟨r, hr⟩ : ∃ r, isTermB z fs xs = r := ⟨_, rfl⟩
    rw [hr] at hcall
    have HC := Lib.hid hcall
    cases r with
    | false =>
      rw [val_sbs_no (by simp [subB, hr])]
      clear hB0 hB hcall hr hly hlx
      clear hv hs hx hq hy hq2
      go_enter Try.func34, Try.ntmps34
      go_wp2_with fail
      refine HC.out.mono ?_
      rintro e w1 ⟨rfl, b1⟩
      have HB1 := Lib.hid (HB.out.trans (b1.mono HB.out.size))
      have cz : w1.cell? ⟨w.heap.size, 0, none⟩ = some (.int .i64 z) := cell_b b1 (by simp)
      have ca : w1.cell? ⟨w.heap.size, 1, none⟩ = some (.slice ao n c) := cell_b b1 (by simp)
      clear b1
      go_wp2_with fail
      go_ret2
      exact ⟨none, 0, 0, rfl, rfl, OwnsInts.none_ _ _ _, HB1.out⟩
    | true =>
      obtain ⟨hok, h60, hend⟩ := isTermB_of hr
      have hm0 : 0 < m := by have := term_pos hend; omega
      have hcall2 := fun (W : World) (hb : Below w.heap.size w W) => areT_any lo hi lo3 hi3 z ao co c n d2 m2 fs tss W (hv.kept (Kept.of_below hb hhi)) (Nat.le_trans hhi hb.size) hs (hy.kept (Kept.of_below hb hhi3)) (Nat.le_trans hhi3 hb.size) (by omega) hq2
      have har : areB z fs tss = tss.all (termB fs) := by unfold areB; rw [hok, Bool.true_and]
      obtain ⟨s, hss⟩ : ∃ s, tss.all (termB fs) = s := ⟨_, rfl⟩
      simp only [har, hss] at hcall2
      have HC2 := Lib.hid hcall2
      cases s with
      | false =>
        rw [val_sbs_no (by simp [subB, hss])]
        clear hB0 hB hcall hr hly hlx hok hend hcall2 har hss
        clear hv hs hx hq hy hq2
        go_enter Try.func34, Try.ntmps34
        go_wp2_with fail
        refine HC.out.mono ?_
        rintro e w1 ⟨rfl, b1⟩
        have HB1 := Lib.hid (HB.out.trans (b1.mono HB.out.size))
        have cz : w1.cell? ⟨w.heap.size, 0, none⟩ = some (.int .i64 z) := cell_b b1 (by simp)
        have ca : w1.cell? ⟨w.heap.size, 1, none⟩ = some (.slice ao n c) := cell_b b1 (by simp)
        clear b1
        go_wp2_with fail
        refine (HC2.out _ HB1.out).mono ?_
        rintro e w2 ⟨rfl, b2⟩
        have HB2 := Lib.hid (HB1.out.trans (b2.mono HB1.out.size))
        clear b2
        go_wp2_with fail
        go_ret2
        exact ⟨none, 0, 0, rfl, rfl, OwnsInts.none_ _ _ _, HB2.out⟩
      | true =>
        have hbd : ∀ x, x ∈ xs → -9223372036854775808 ≤ x ∧ x < 6 := fun x hxx => by
          obtain ⟨j, hj⟩ := List.getElem?_of_mem hxx
          exact ⟨(wf_bd (hq x hxx)).1, (term_lt hok hend hj).1⟩
        have hne : xs ≠ [] := fun e => by rw [e] at hlx; simp at hlx; omega
        have hn_ := fun (w1 : World) (hB1 : Below w.heap.size w w1) => needed_any lo2 hi2 bo d m xs w1 (hx.kept (Kept.of_below hB1 hhi2)) hm0 (by omega) hbd
        have hfm := fits_max (k := m2) hne
        obtain ⟨q, hqe⟩ : ∃ q, max (maxL xs + 1) 0 = q := ⟨_, rfl⟩
        rw [hqe] at hn_ hfm
        have HN := Lib.hid hn_
        by_cases hfit : q ≤ (m2 : Int)
        · have hf : fitsB xs m2 = true := by rw [hfm]; exact decide_eq_true hfit
          rw [val_sbs_yes (by unfold subB; rw [hr, hss, hly, hf, decide_eq_true h6]; rfl)]
          have hgt : ¬ (m2 : Int) < q := by omega
          have hS := fun (W : World) (hb : Below w.heap.size w W) => substituted_any lo2 hi2 lo3 hi3 bo co d m d2 m2 xs tss W (hx.kept (Kept.of_below hb hhi2)) (Nat.le_trans hhi2 hb.size) (by omega) hm0 hmd hm (hy.kept (Kept.of_below hb hhi3)) (Nat.le_trans hhi3 hb.size) h6 (fun ts hts => term_len (List.all_eq_true.1 hss ts hts)) (fun x hxx => by
            unfold fitsB at hf
            have := List.all_eq_true.1 hf x hxx
            simpa using this)
          obtain ⟨⟨rs, ok⟩, hR⟩ : ∃ R, subR tss xs = R := ⟨_, rfl⟩
          simp only [hR] at hS ⊢
          unfold ResL at hS
          have HS := Lib.hid hS
          clear hB0 hB hcall hr hly hlx hok hend hcall2 har hss hbd hne hn_ hfm hqe hf hS hR
          clear hv hs hx hq hy hq2
          go_enter Try.func34, Try.ntmps34
          go_wp2_with fail
          refine HC.out.mono ?_
          rintro e w1 ⟨rfl, b1⟩
          have HB1 := Lib.hid (HB.out.trans (b1.mono HB.out.size))
          have cz : w1.cell? ⟨w.heap.size, 0, none⟩ = some (.int .i64 z) := cell_b b1 (by simp)
          have ca : w1.cell? ⟨w.heap.size, 1, none⟩ = some (.slice ao n c) := cell_b b1 (by simp)
          clear b1
          go_wp2_with fail
          refine (HC2.out _ HB1.out).mono ?_
          rintro e w2 ⟨rfl, b2⟩
          have HB2 := Lib.hid (HB1.out.trans (b2.mono HB1.out.size))
          clear b2
          go_wp2_with fail
          refine (HN.out _ HB2.out).mono ?_
          rintro e w3 ⟨rfl, rfl⟩
          go_wp2_with fail
          refine (HS.out _ HB2.out).mono ?_
          rintro e w3 ⟨ga, gn, gc, rfl, hgn, ho, b3⟩
          have HO := Lib.hid (OwnsInts.lo_mono ho HB2.out.size)
          have HB3 := Lib.hid (HB2.out.trans (b3.mono HB2.out.size))
          have HGn := Lib.hid hgn
          clear ho b3 hgn
          go_wp2_with fail
          go_ret2
          exact ⟨ga, gn, gc, rfl, HGn.out, HO.out, HB3.out⟩
        · have hf : fitsB xs m2 = false := by rw [hfm]; exact decide_eq_false hfit
          rw [val_sbs_no (by unfold subB; rw [hly, hf]; simp)]
          have hgt : (m2 : Int) < q := by omega
          clear hB0 hB hcall hr hly hlx hok hend hcall2 har hss hbd hne hn_ hfm hqe hf
          clear hv hs hx hq hy hq2
          go_enter Try.func34, Try.ntmps34
          go_wp2_with fail
          refine HC.out.mono ?_
          rintro e w1 ⟨rfl, b1⟩
          have HB1 := Lib.hid (HB.out.trans (b1.mono HB.out.size))
          have cz : w1.cell? ⟨w.heap.size, 0, none⟩ = some (.int .i64 z) := cell_b b1 (by simp)
          have ca : w1.cell? ⟨w.heap.size, 1, none⟩ = some (.slice ao n c) := cell_b b1 (by simp)
          clear b1
          go_wp2_with fail
          refine (HC2.out _ HB1.out).mono ?_
          rintro e w2 ⟨rfl, b2⟩
          have HB2 := Lib.hid (HB1.out.trans (b2.mono HB1.out.size))
          clear b2
          go_wp2_with fail
          refine (HN.out _ HB2.out).mono ?_
          rintro e w3 ⟨rfl, rfl⟩
          go_wp2_with fail
          go_ret2
          exact ⟨none, 0, 0, rfl, rfl, OwnsInts.none_ _ _ _, HB2.out⟩
  · have h6' : (6 : Int) < (m2 : Int) := by omega
    rw [val_sbs_no (by unfold subB; rw [hly, decide_eq_false h6]; simp)]
    have HB := Lib.hid (below_alloc w (.cells #[.int .i64 z, .slice ao n c] 30))
    clear hly hlx
    clear hv hs hx hq hy hq2
    go_enter Try.func34, Try.ntmps34
    go_wp2_with fail
    go_ret2
    exact ⟨none, 0, 0, rfl, rfl, OwnsInts.none_ _ _ _, HB.out⟩

set_option maxHeartbeats 1000000 in
theorem specSubstituteIn (lo hi : Nat) (z : Int) (ao : Option Addr) (c n : Nat) (fs : List OpD) (lo2 hi2 : Nat) (bo : Option Addr) (d m : Nat) (xs : List Int) (lo3 hi3 : Nat) (co : Option Addr) (d2 m2 : Nat) (tss : List (List Int)) (w : World) (hv : OView w lo hi ao n fs) (hhi : hi ≤ w.heap.size) (hs : ∀ (j : Nat) (f : OpD), fs[j]? = some f → f.2.length ≤ maxLen)
    (hx : IView w lo2 hi2 bo m xs) (hhi2 : hi2 ≤ w.heap.size) (hmd : m ≤ d) (hm : d ≤ maxLen) (hq : ∀ x, x ∈ xs → (Lit.int .i64 x).wf = true)
    (hy : LView w lo3 hi3 co m2 tss) (hhi3 : hi3 ≤ w.heap.size) (hmd2 : m2 ≤ d2) (hm2 : d2 ≤ maxLen) (hq2 : ∀ ts, ts ∈ tss → ∀ x, x ∈ ts → (Lit.int .i64 x).wf = true) :
    Calls Try.prog 32 #[.agg #[.int .i64 z, .slice ao n c], .slice bo m d, .slice co m2 d2] w fun e w' => ResL w w' (valSubstituteIn z fs xs tss).1 (valSubstituteIn z fs xs tss).2 e := by
  have hly := hy.1
  have hlx := hx.1
  unfold ResL
  have hB := below_alloc w (.cells #[.int .i64 z, .slice ao n c] 30)
  have HB := Lib.hid hB
  have hcall := l3Takes_any lo hi lo2 hi2 z ao bo c n d m fs xs _ (hv.kept (Kept.of_below hB hhi)) (Nat.le_trans hhi hB.size) hs (hx.kept (Kept.of_below hB hhi2)) (Nat.le_trans hhi2 hB.size) (Nat.le_trans hmd hm)
  obtain ⟨r, hr⟩ : ∃ r, isTermB z fs xs = r := ⟨_, rfl⟩
  rw [hr] at hcall
  have HC := Lib.hid hcall
  cases r with
  | false =>
    rw [val_sbs_no (by simp [subB, hr])]
    clear hB hcall hr hly hlx
    clear hv hs hx hq hy hq2
    go_enter Try.func32, Try.ntmps32
    go_wp2_with fail
    refine HC.out.mono ?_
    rintro e w1 ⟨rfl, b1⟩
    have HB1 := Lib.hid (HB.out.trans (b1.mono HB.out.size))
    have cz : w1.cell? ⟨w.heap.size, 0, none⟩ = some (.int .i64 z) := cell_b b1 (by simp)
    have ca : w1.cell? ⟨w.heap.size, 1, none⟩ = some (.slice ao n c) := cell_b b1 (by simp)
    clear b1
    go_wp2_with fail
    go_ret2
    exact ⟨_, 0, 0, rfl, rfl, own_nil_res HB1.out, HB1.out.alloc HB1.out.size _⟩
  | true =>
    obtain ⟨hok, h60, hend⟩ := isTermB_of hr
    have hm0 : 0 < m := by have := term_pos hend; omega
    by_cases h6 : m2 ≤ 6
    · have h6' : ¬ (6 : Int) < (m2 : Int) := by omega
      have hcall2 := fun (W : World) (hb : Below w.heap.size w W) => l3List_any lo hi lo3 hi3 z ao co c n d2 m2 fs tss W (hv.kept (Kept.of_below hb hhi)) (Nat.le_trans hhi hb.size) hok (hy.kept (Kept.of_below hb hhi3)) (Nat.le_trans hhi3 hb.size) (Nat.le_trans hmd2 hm2)
      obtain ⟨s, hss⟩ : ∃ s, tss.all (termB fs) = s := ⟨_, rfl⟩
      simp only [hss] at hcall2
      have HC2 := Lib.hid hcall2
      cases s with
      | false =>
        rw [val_sbs_no (by simp [subB, hss])]
        clear hB hcall hr hly hlx hok hend hcall2 hss
        clear hv hs hx hq hy hq2
        go_enter Try.func32, Try.ntmps32
        go_wp2_with fail
        refine HC.out.mono ?_
        rintro e w1 ⟨rfl, b1⟩
        have HB1 := Lib.hid (HB.out.trans (b1.mono HB.out.size))
        have cz : w1.cell? ⟨w.heap.size, 0, none⟩ = some (.int .i64 z) := cell_b b1 (by simp)
        have ca : w1.cell? ⟨w.heap.size, 1, none⟩ = some (.slice ao n c) := cell_b b1 (by simp)
        clear b1
        go_wp2_with fail
        refine (HC2.out _ HB1.out).mono ?_
        rintro e w2 ⟨rfl, b2⟩
        have HB2 := Lib.hid (HB1.out.trans (b2.mono HB1.out.size))
        clear b2
        go_wp2_with fail
        go_ret2
        exact ⟨_, 0, 0, rfl, rfl, own_nil_res HB2.out, HB2.out.alloc HB2.out.size _⟩
      | true =>
        rw [val_sbs_part (m := m2) hly (by rw [hr, hss, hly, decide_eq_true h6]; rfl)]
        have hS := fun (W : World) (hb : Below w.heap.size w W) => l3Substitute_any lo2 hi2 lo3 hi3 bo co d m d2 m2 xs tss W (hx.kept (Kept.of_below hb hhi2)) (Nat.le_trans hhi2 hb.size) (by omega) (hy.kept (Kept.of_below hb hhi3)) (Nat.le_trans hhi3 hb.size) h6 (fun ts hts => term_len (List.all_eq_true.1 hss ts hts))
        obtain ⟨⟨rs, ok⟩, hR⟩ : ∃ R, subV tss xs m2 = R := ⟨_, rfl⟩
        simp only [hR] at hS ⊢
        unfold ResL at hS
        have HS := Lib.hid hS
        clear hB hcall hr hly hlx hok hend hcall2 hss hS hR
        clear hv hs hx hq hy hq2
        go_enter Try.func32, Try.ntmps32
        go_wp2_with fail
        refine HC.out.mono ?_
        rintro e w1 ⟨rfl, b1⟩
        have HB1 := Lib.hid (HB.out.trans (b1.mono HB.out.size))
        have cz : w1.cell? ⟨w.heap.size, 0, none⟩ = some (.int .i64 z) := cell_b b1 (by simp)
        have ca : w1.cell? ⟨w.heap.size, 1, none⟩ = some (.slice ao n c) := cell_b b1 (by simp)
        clear b1
        go_wp2_with fail
        refine (HC2.out _ HB1.out).mono ?_
        rintro e w2 ⟨rfl, b2⟩
        have HB2 := Lib.hid (HB1.out.trans (b2.mono HB1.out.size))
        clear b2
        go_wp2_with fail
        refine (HS.out _ HB2.out).mono ?_
        rintro e w3 ⟨ga, gn, gc, rfl, hgn, ho, b3⟩
        have HO := Lib.hid (OwnsInts.lo_mono ho HB2.out.size)
        have HB3 := Lib.hid (HB2.out.trans (b3.mono HB2.out.size))
        have HGn := Lib.hid hgn
        clear ho b3 hgn
        go_wp2_with fail
        go_ret2
        exact ⟨ga, gn, gc, rfl, HGn.out, HO.out, HB3.out⟩
    · have h6' : (6 : Int) < (m2 : Int) := by omega
      rw [val_sbs_no (by unfold subB; rw [hly, decide_eq_false h6]; simp)]
      clear hB hcall hr hly hlx hok hend
      clear hv hs hx hq hy hq2
      go_enter Try.func32, Try.ntmps32
      go_wp2_with fail
      refine HC.out.mono ?_
      rintro e w1 ⟨rfl, b1⟩
      have HB1 := Lib.hid (HB.out.trans (b1.mono HB.out.size))
      have cz : w1.cell? ⟨w.heap.size, 0, none⟩ = some (.int .i64 z) := cell_b b1 (by simp)
      have ca : w1.cell? ⟨w.heap.size, 1, none⟩ = some (.slice ao n c) := cell_b b1 (by simp)
      clear b1
      go_wp2_with fail
      go_ret2
      exact ⟨_, 0, 0, rfl, rfl, own_nil_res HB1.out, HB1.out.alloc HB1.out.size _⟩
end

end Go.Proofs.Ytplheohkecooeaa
