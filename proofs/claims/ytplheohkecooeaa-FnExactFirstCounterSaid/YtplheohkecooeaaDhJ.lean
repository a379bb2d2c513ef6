/-
  EvalM, Range, BackS, FoldC, FoldI, EvalI, Dig6, CntM, AskS, EvalS, EvalV, CntS, CntT, AskN, AskY, CntI, CntJ in one text. Conditions: as each theorem names them.
-/
import Derived.Test.YtplheohkecooeaaTerm
import Derived.RangeFuncFrom
import Derived.RangeFuncBound
import Derived.RangeFuncCalls
import Derived.Sort.QuietIn
import Derived.Test.YtplheohkecooeaaLists
import Derived.RangeFuncBox
import Derived.RangeFuncLeaves
import Derived.Shelf.Abstract
import Derived.OwnWalkIn
import Derived.TacticsInMore
import Derived.LoopNIn
import Derived.LoopIn
import Derived.Test.YtplheohkecooeaaIdx
import Derived.Test.YtplheohkecooeaaMake
import Derived.Test.YtplheohkecooeaaNormL
import Derived.Test.YtplheohkecooeaaTakes3
import Derived.Test.YtplheohkecooeaaDigs
import Derived.Test.YtplheohkecooeaaNormM
import Derived.Test.YtplheohkecooeaaTwo
import Derived.Test.YtplheohkecooeaaVarsOf
import Derived.Test.YtplheohkecooeaaIdn
import Derived.Test.YtplheohkecooeaaWith
import Derived.Deep.RegionLaw
import Derived.Test.YtplheohkecooeaaConcat
import Derived.Test.YtplheohkecooeaaIdxV
import Derived.Deep.RegionHeld3
import Derived.Test.YtplheohkecooeaaRepd
import Derived.Test.YtplheohkecooeaaVarsIn
namespace Go.Proofs.Ytplheohkecooeaa
section
open Go.RowKit
set_option linter.unusedVariables false

/-- One number more in front: what stands on the stack, the first one on top. -/
def evStep (z : Int) (fs : List OpD) (vs : List Int) (x : Int) (s : List Int) : List Int :=
  if 0 ≤ x then vs.getD x.toNat 0 :: s else
    atA z (fs.getD (-1 - x).toNat (0, [])) (s.take (fs.getD (-1 - x).toNat (0, [])).1.toNat) :: s.drop (fs.getD (-1 - x).toNat (0, [])).1.toNat
def evS (z : Int) (fs : List OpD) (vs : List Int) (xs : List Int) : List Int := xs.foldr (evStep z fs vs) []
def evT (z : Int) (fs : List OpD) (vs : List Int) (xs : List Int) : Int := (evS z fs vs xs).headD 0
theorem evS_drop {z : Int} {fs : List OpD} {vs xs : List Int} {k : Nat} {x : Int} (h : xs[k]? = some x) : evS z fs vs (xs.drop k) = evStep z fs vs x (evS z fs vs (xs.drop (k + 1))) := by
  rw [drop_get h]; rfl
theorem evS_end {z : Int} {fs : List OpD} {vs xs : List Int} {k : Nat} (h : xs.length ≤ k) : evS z fs vs (xs.drop k) = [] := by
  rw [List.drop_eq_nil_of_le h]; rfl
theorem evStep_len {z : Int} {fs : List OpD} {vs s : List Int} {x b : Int} (hb : beh fs x = some b) (h0 : 0 ≤ b) (h : b ≤ s.length) : ((evStep z fs vs x s).length : Int) = s.length - (b - 1) := by
  unfold beh at hb
  unfold evStep
  split at hb
  · rename_i hx
    split at hb
    · injection hb with hb; subst hb
      rw [if_pos hx]; simp
    · cases hb
  · rename_i hx
    rw [if_neg hx]
    obtain ⟨f, hf, rfl⟩ := Option.map_eq_some_iff.1 hb
    have hg : fs.getD (-1 - x).toNat (0, []) = f := by rw [List.getD_eq_getElem?_getD, hf]; rfl
    rw [hg]
    simp only [List.length_cons, List.length_drop]
    omega
/-- As many values stand on the stack as terms are missing ahead. -/
theorem evS_len {z : Int} {fs : List OpD} {vs : List Int} (hok : algOkB z fs = true) : ∀ {xs : List Int} {m : Int} {k : Nat}, 1 ≤ m → endN fs xs m k = some (k + xs.length) → ((evS z fs vs xs).length : Int) = m
  | [], _, _, _, h => by cases h
  | x :: r, m, k, hm, h => by
    rw [endN] at h
    cases hb : beh fs x with
    | none => rw [hb] at h; cases h
    | some b =>
      have hbd := beh_bd hok hb
      rw [hb] at h
      dsimp only at h
      have hs : evS z fs vs (x :: r) = evStep z fs vs x (evS z fs vs r) := rfl
      split at h
      · injection h with h
        have hr : r = [] := List.eq_nil_of_length_eq_zero (by rw [List.length_cons] at h; omega)
        subst hr
        rw [hs, evStep_len hb hbd.1 (by simp [evS]; omega)]
        simp [evS]; omega
      · have ih := evS_len (vs := vs) hok (by omega) (show endN fs r (m + (b - 1)) (k + 1) = some (k + 1 + r.length) by rw [h]; simp; omega)
        rw [hs, evStep_len hb hbd.1 (by omega)]
        omega
theorem evS_at {z : Int} {fs : List OpD} {vs xs : List Int} (hok : algOkB z fs = true) (h : endA fs xs 0 = some xs.length) {k : Nat} (hk : k < xs.length) : ∃ m : Int, 1 ≤ m ∧ endN fs (xs.drop k) m k = some xs.length ∧ ((evS z fs vs (xs.drop k)).length : Int) = m := by
  obtain ⟨m, h1, h2⟩ := endN_mid hok h k hk
  refine ⟨m, h1, h2, evS_len (k := k) hok h1 ?_⟩
  rw [h2, List.length_drop]; congr 1; omega
/-- Ahead of a number there are the values behind it. -/
theorem evS_room {z : Int} {fs : List OpD} {vs xs : List Int} {k : Nat} {x b : Int} (hok : algOkB z fs = true) (h : endA fs xs 0 = some xs.length) (hx : xs[k]? = some x) (hb : beh fs x = some b) :
    b ≤ (evS z fs vs (xs.drop (k + 1))).length ∧ ((evS z fs vs (xs.drop k)).length : Int) = (evS z fs vs (xs.drop (k + 1))).length - (b - 1) := by
  have hk := (List.getElem?_eq_some_iff.1 hx).1
  have hbd := beh_bd hok hb
  obtain ⟨m, h1, h2, h3⟩ := evS_at (vs := vs) hok h hk
  have h4 : b ≤ (evS z fs vs (xs.drop (k + 1))).length := by
    by_cases h0 : m + (b - 1) = 0
    · have : b = 0 := by omega
      omega
    · rw [endN_on hx hb h0] at h2
      have hg := endN_gt h2
      rw [List.length_drop] at hg
      have := evS_len (vs := vs) hok (by omega : (1 : Int) ≤ m + (b - 1)) (show endN fs (xs.drop (k + 1)) (m + (b - 1)) (k + 1) = some (k + 1 + (xs.drop (k + 1)).length) by rw [h2, List.length_drop]; congr 1; omega)
      omega
  exact ⟨h4, by rw [evS_drop hx, evStep_len hb hbd.1 h4]⟩
theorem evS_one {z : Int} {fs : List OpD} {vs xs : List Int} (hok : algOkB z fs = true) (h : endA fs xs 0 = some xs.length) : (evS z fs vs xs).length = 1 := by
  have hp := term_pos h
  have := evS_len (vs := vs) hok (by omega : (1 : Int) ≤ 1) (show endN fs xs 1 0 = some (0 + xs.length) by rw [Nat.zero_add]; exact h)
  omega
/-- The stack never outgrows the numbers. -/
theorem evS_le (z : Int) (fs : List OpD) (vs : List Int) : ∀ xs : List Int, (evS z fs vs xs).length ≤ xs.length
  | [] => by simp [evS]
  | x :: r => by
    have ih := evS_le z fs vs r
    have hs : evS z fs vs (x :: r) = evStep z fs vs x (evS z fs vs r) := rfl
    rw [hs]
    unfold evStep
    split <;> simp <;> omega
end

section
open Go.RowKit
set_option linter.unusedVariables false
variable {F : Fence} {n : Nat} {P : Program}

/-- What lies below B, and block X, lie as they lay. -/
def Keep (B X : Nat) (W W' : World) : Prop := Below B W W' ∧ W'.heap[X]? = W.heap[X]?
theorem Keep.refl (B X : Nat) (W : World) : Keep B X W W := ⟨Below.refl _ _, rfl⟩
theorem Keep.trans {B X : Nat} {A C D : World} (h : Keep B X A C) (k : Keep B X C D) : Keep B X A D := ⟨h.1.trans k.1, k.2.trans h.2⟩
theorem Keep.cell {B X : Nat} {W W' : World} (h : Keep B X W W') (o : Nat) : W'.cell? ⟨X, o, none⟩ = W.cell? ⟨X, o, none⟩ := World.cell?_of_block (a := ⟨X, o, none⟩) h.2

/-- The iterator calls its body N times, at the values told, and then ends: for every body that goes on each time and keeps what lies below B. -/
def SeqN (F : Fence) (n : Nat) (P : Program) (g : Nat) (lb : Array Value) (encs : Nat → Array Value) (B X N : Nat) (w0 : World) : Prop :=
  ∀ (l : Nat) (J : Nat → World → Prop) (W : World), Below w0.heap.size w0 W → AbidesFrom W.heap.size J →
    (∀ k W1, k < N → J k W1 → YieldAt F (n - 1) P l (encs k) W1 fun e W' => e = .returned (.bool true) ∧ J (k + 1) W' ∧ Keep B X W1 W') →
    J 0 W → CallsIn F n P g (#[.func (.yield l) #[] #[]] ++ lb) W fun e W' => (∃ v, e = .returned v) ∧ J N W'

/-- How a round's body ends. -/
def roundOk (B X : Nat) (I : Nat → World → Prop) (k : Nat) (W : World) : Exit → Act → World → Prop
  | .normal, _, W' => KeepsOthers W W' ∧ Keep B X W W' ∧ I k W'
  | _, _, _ => False

theorem wpIn_rangeN {g : Operand} {ps : Array Tmp} {assign body : Code} {Q : Exit → Act → World → Prop} {a : Act} {w : World}
    (hro : F.round = none) (h1 : 1 ≤ n) {gf : Nat} {lb : Array Value} (hg : a.eval g = .func (.func gf) #[] lb) (hFg : F.fn gf) (eg : ∀ args w, (callFunc gf args).run P w = .ok (.enter gf args) w)
    {encs : Nat → Array Value} {B X N : Nat} {w0 : World} (hseq : SeqN F (n - 1) P gf lb encs B X N w0) (hB : B ≤ w.heap.size) (hX : X < w.heap.size) (hb0 : Below w0.heap.size w0 w) (hps : ∀ k, (encs k).size = ps.size)
    (I : Nat → World → Prop) (hI : OwnFrom w.heap.size I) (h0 : I 0 w) (a₁ : Nat → Act)
    (hassign : ∀ (l k : Nat) (W : World) (K : Act → World → Prop), K (a₁ k) W →
      assign.wpIn (F.inRound l) (n - 1 - 1) P (Exit.then K (fun _ _ _ => False)) { tmps := (ps.zip (encs k)).foldl (fun t (p, v) => t.setIfInBounds p v) a.tmps, defers := [] } W)
    (hbody : ∀ (l k : Nat) (W : World), k < N → I k W → body.wpIn (F.inRound l) (n - 1 - 1) P (roundOk B X I (k + 1) W) (a₁ k) W)
    (hdone : ∀ (D : Nat) (W : World), w.heap.size ≤ D → I N W → W.heap[D]? = some (.deferred (some [])) → Q .normal { a with defers := { target := .collected D, args := #[] } :: a.defers } W) :
    (Code.rangeFunc g ps assign body).wpIn F n P Q a w := by
  refine wpIn_rangeFunc fun fn hfn => ?_
  rw [hro]
  -- the loop's record in block s + 1, the block for the rounds' deferred calls in block s
  obtain ⟨s, hs⟩ : ∃ s, s = w.heap.size := ⟨_, rfl⟩
  obtain ⟨rec, hrec⟩ : ∃ rec : LoopState → Option Code → Loop, rec = fun st pe => { state := st, pending := pe, fn, tmps := a.tmps, params := ps, assign, body, defers := w.heap.size } := ⟨_, rfl⟩
  obtain ⟨W1, hW1⟩ : ∃ W1, W1 = (w.alloc (.deferred (some []))).alloc (.loop (rec .ready none)) := ⟨_, rfl⟩
  have hsz : W1.heap.size = s + 2 := by rw [hW1, hs]; simp
  have rL : W1.heap[s + 1]? = some (.loop (rec .ready none)) := by
    have h := World.alloc_heap_new (w.alloc (.deferred (some []))) (.loop (rec .ready none))
    rw [World.size_alloc, ← hs, ← hW1] at h; exact h
  have rD : W1.heap[s]? = some (.deferred (some [])) := by
    rw [hW1, hs]; exact (Below.heap_alloc _ _ _ (by simp)).trans (World.alloc_heap_new w _)
  have i1 : I 0 W1 := by rw [hW1]; exact hI.alloc _ (hI.alloc _ h0)
  have b1 : Below w0.heap.size w0 W1 := by
    rw [hW1]; exact (hb0.alloc hb0.size _).alloc (by simp; have := hb0.size; omega) _
  have hB' : B ≤ w.heap.size := hB
  rw [← hs] at hI hB hX
  refine ⟨s + 1, [{ target := .collected s, args := #[] }], W1, { target := .fn (.func gf) lb, args := #[.func (.yield (s + 1)) #[] #[]] }, W1, gf, #[.func (.yield (s + 1)) #[] #[]] ++ lb, W1, ?_, ?_, ?_, ?_, fun _ => h1, ?_⟩
  · rw [hW1, hrec, hs]; exact run_enterLoop_outer _ _ _ _ _
  · simp only [resolve, hg]
    simp [go_sem]
  · intro f' hf'; simp [Target.leads] at hf'; subst hf'; exact hFg
  · simp [invoke, go_sem, eg]
  have far : ∀ {A : World} {row : Option Nat}, (∀ r, row = some r → W1.heap.size ≤ r ∧ ∃ o : Obj, A.heap[r]? = some o ∧ o.isWalk = true) → (∀ r, row = some r → s ≤ r ∧ ∃ o : Obj, A.heap[r]? = some o ∧ o.isCells = false) :=
    fun h r e => by obtain ⟨h2, o, h3, h4⟩ := h r e; exact ⟨by omega, o, h3, Obj.not_cells_of_walk h4⟩
  refine (hseq (s + 1) (fun k W => I k W ∧ W.heap[s + 1]? = some (.loop (rec .ready none)) ∧ W.heap[s]? = some (.deferred (some []))) W1 b1 ?_ ?_ ⟨i1, rL, rD⟩).mono ?_
  · intro k A A' row h hg' hr
    exact ⟨hI k A A' row h.1 hg' (far hr), (grownBy_keeps hg' (fun r e => (hr r e).2) h.2.1 rfl).trans h.2.1, (grownBy_keeps hg' (fun r e => (hr r e).2) h.2.2 rfl).trans h.2.2⟩
  · rintro k W hk ⟨hi, hl, hd⟩
    have hlt : s + 1 < W.heap.size := (Array.getElem?_eq_some_iff.1 hl).1
    have hy := run_yield (P := P) (args := encs k) hl (by rw [hrec]; exact hps k)
    rw [hrec] at hy
    obtain ⟨V, hV⟩ : ∃ V, V = W.putObj (s + 1) (.loop { rec .ready none with state := .busy }) := ⟨_, rfl⟩
    refine ⟨fn, _, assign, body, hy, roundIn_of_wpIn hfn (hassign _ k W _ ⟨V, by rw [hV]; exact run_beginRound hl (by rw [hrec]), ?_⟩)⟩
    have vl : V.heap[s + 1]? = some (.loop { rec .ready none with state := .busy }) := by rw [hV]; exact World.putObj_heap_same hlt
    have vd : V.heap[s]? = some (.deferred (some [])) := by rw [hV]; exact (World.putObj_heap_other (by omega)).trans hd
    have vb : Keep B X W V := by rw [hV]; exact ⟨belowK_b (w := w) hB' W (s + 1) _ _ (by omega) hl rfl rfl, World.putObj_heap_other (by omega)⟩
    refine wpIn_mono (hbody _ k V hk (by rw [hV]; exact hI.putObj _ hi (by omega) hl rfl)) ?_
    rintro e a3 W3 hp
    cases e with
    | normal =>
      obtain ⟨hk3, hb3, hi3⟩ := hp
      have l3 := hk3.same _ _ vl rfl
      have hr := run_endRound (P := P) none l3
      rw [hrec] at hr l3
      refine ⟨_, _, hr, rfl, ⟨hI.putObj _ hi3 (by omega) l3 rfl, ?_, (World.putObj_heap_other (by omega)).trans (hk3.same _ _ vd rfl)⟩, (vb.trans hb3).trans ⟨belowK_b (w := w) hB' W3 (s + 1) _ _ (by omega) l3 rfl rfl, World.putObj_heap_other (by omega)⟩⟩
      rw [World.putObj_heap_same (Array.getElem?_eq_some_iff.1 l3).1, hrec]; rfl
    | _ => exact hp.elim
  · rintro e W2 ⟨⟨v, rfl⟩, hi, hl, hd⟩
    refine ⟨none, _, by have := run_endLoop (P := P) hl (by rw [hrec]; simp); rw [hrec] at this; exact this, ?_⟩
    have := hdone s _ (by omega) (hI.putObj (l := s + 1) (.loop { rec .ready none with state := .exhausted }) hi (by omega) hl rfl) ((World.putObj_heap_other (by omega)).trans hd)
    rw [hrec] at this
    exact this

/-! A quiet region within a round. -/
theorem uponIn_inRound (l : Nat) (o : Oper) (a : Act) (K : Act → World → Prop) (Q : Exit → Act → World → Prop) (r : Result Next) : o.uponIn (F.inRound l) n P a K Q r = o.uponIn F n P a K Q r := by
  cases r with
  | ok x w => cases x <;> rfl
  | halt h w => cases h <;> rfl
def noDefer : Op → Bool
  | .defer _ => false
  | _ => true
theorem wpOpIn_inRound {ops : Array Oper} {Q : Exit → Act → World → Prop} (hro : F.round = none) (hnd : ops.all (fun o => noDefer o.op) = true) (l i : Nat) (K : Act → World → Prop) (a : Act) (w : World) :
    wpOpIn (F.inRound l) n P ops Q i K a w = wpOpIn F n P ops Q i K a w := by
  unfold wpOpIn
  cases ho : ops[i]? with
  | none => rfl
  | some o =>
    have hd : ∀ c : Call, o.op ≠ Op.defer c := by
      intro c hc
      obtain ⟨hi, hi2⟩ := Array.getElem?_eq_some_iff.1 ho
      have h := (Array.all_eq_true.1 hnd) i hi
      rw [hi2, hc] at h
      cases h
    dsimp only
    unfold Oper.wpIn
    rw [hro, Oper.semAt_eq _ _ _ hd, Oper.semAt_eq _ _ _ hd, uponIn_inRound]
    rfl
theorem wpAnyIn_inRound {md : Region.Mode} {ops : Array Oper} {Q : Exit → Act → World → Prop} (hro : F.round = none) (hnd : ops.all (fun o => noDefer o.op) = true) (l : Nat) : ∀ (fuel : Nat) (listed : Array Bool) (a : Act) (w : World),
    wpAnyIn (F.inRound l) n P md ops Q fuel listed a w = wpAnyIn F n P md ops Q fuel listed a w
  | 0, _, _, _ => rfl
  | fuel + 1, listed, a, w => by
    unfold wpAnyIn
    have h : ∀ i, wpAnyIn (F.inRound l) n P md ops Q fuel (listed.setIfInBounds i true) = wpAnyIn F n P md ops Q fuel (listed.setIfInBounds i true) := fun i => by
      funext a w; exact wpAnyIn_inRound hro hnd l fuel _ a w
    simp only [h, wpOpIn_inRound hro hnd l]
theorem wpIn_region_round {id : Nat} {Q : Exit → Act → World → Prop} {a : Act} {w : World} {ops : List Oper} (hro : F.round = none) (l : Nat) (hm : P.follows .mixedOrders = true) (hB : Region.lexB .any ops.toArray = true) (hnd : ops.toArray.all (fun o => noDefer o.op) = true)
    (h : wpQuietIn F n P ops.toArray (fun w' => ∃ n, w' = w.drewN n) (fun a' => ∀ w', (∃ n, w' = w.drewN n) → Q .normal a' w') ops a) : (Code.region id ops.toArray true).wpIn (F.inRound l) n P Q a w := by
  refine wpIn_region_any hm ?_
  rw [wpAnyIn_inRound hro hnd l]
  simp only [Region.lexB, Bool.and_eq_true] at hB
  refine wpAnyIn_of_quiet (C := fun w' => ∃ n, w' = w.drewN n) (Q := fun a' => ∀ w', (∃ n, w' = w.drewN n) → Q .normal a' w') hro (fun _ w' hw' h => h w' hw') _ _ _ _ ⟨1, rfl⟩ ?_
  have := wpAnyQIn_lex (F := F) (n := n) (C := fun w' => ∃ n, w' = w.drewN n) (md := .any) hB.1 ops 0 (Array.replicate ops.toArray.size false) a (by simp) (by simpa using hB.2) h
  simpa using this
end

section
open Go.RowKit Go.Shelf
set_option linter.unusedVariables false
set_option linter.unusedSimpArgs false
attribute [local go_sem] Oper.semAt_some

/-! slices.Backward -/
theorem backward_any (a : Option Addr) (m c : Nat) (w : World) :
    Calls Try.prog 122 #[.slice a m c] w fun e w' => e = .returned (.func (.func 124) #[] #[.pointer (some ⟨w.heap.size, 0, none⟩)]) ∧ w' = w.alloc (.cells #[.slice a m c] 25) := by
  have hmf : ∀ (fn : Fn) (first cap : Array Value) (w : World), (Instr.makeFunc fn first cap).run Try.prog w = .ok (.func fn first cap) w := fun _ _ _ _ => rfl
  go_enter Try.func122, Try.ntmps122
  go_wp2
  go_ret
  exact ⟨rfl, rfl⟩

/-- The values of the rounds: the index and the number, from the end. -/
def backEnc (xs : List Int) (k : Nat) : Array Value := #[.int .i64 ((xs.length - 1 - k : Nat) : Int), .int .i64 (xs.getD (xs.length - 1 - k) 0)]

set_option maxRecDepth 100000 in
set_option maxHeartbeats 2000000 in
theorem back_seq (n X B b o m c : Nat) (xs : List Int) (hl : xs.length = m) (h0 : 0 < m) (hm : m ≤ 60) (hb : b < B) (w : World) (hX : X < w.heap.size) (hB : B ≤ w.heap.size)
    (hs : w.cell? ⟨X, 0, none⟩ = some (.slice (some ⟨b, o, none⟩) m c)) (hc : ∀ j x, xs[j]? = some x → w.cell? ⟨b, o + j, none⟩ = some (.int .i64 x)) :
    SeqN Fence.wide n Try.prog 124 #[.pointer (some ⟨X, 0, none⟩)] (backEnc xs) B X m w := by
  intro l J W hW hJ hY hJ0
  have hs1 := (hW.cell (p := ⟨X, 0, none⟩) hX).trans hs
  have hc1 : ∀ j x, xs[j]? = some x → W.cell? ⟨b, o + j, none⟩ = some (.int .i64 x) := fun j x hj => (hW.cell (p := ⟨b, o + j, none⟩) (by show b < _; omega)).trans (hc j x hj)
  have HC := Lib.hid hc1
  clear hs hc hc1
  refine callsIn_of_wp Try.func124 rfl trivial ?_ rfl
  simp only [Try.ntmps124, List.size_toArray, List.length_cons, List.length_nil, Nat.reduceAdd, Nat.reduceSub, Array.replicate_succ, Array.replicate_zero, List.push_toArray, List.append_toArray, List.nil_append, List.cons_append]
  gi_wp2
  gi_loopw [3] (fun i wr => ∃ k : Nat, k ≤ m ∧ i = .int .i64 ((m : Int) - 1 - (k : Int)) ∧ J k wr ∧ Hid (Keep B X W wr)) (fun i _ => (intOf i + 1).toNat)
  case atStart => exact ⟨0, Nat.zero_le _, by simp, hJ0, Keep.refl _ _ _⟩
  case round =>
    obtain ⟨k, hk, rfl, hJk, HK⟩ := hrel
    by_cases hlt : k < m
    · obtain ⟨j, hj⟩ : ∃ j : Nat, (m : Int) - 1 - (k : Int) = (j : Int) := ⟨m - 1 - k, by omega⟩
      rw [hj]
      have hjm : j < xs.length := by omega
      have hsr : wr.cell? ⟨X, 0, none⟩ = some (.slice (some ⟨b, o, none⟩) m c) := (HK.out.cell 0).trans hs1
      have hx : xs[j]? = some (xs[j]'hjm) := List.getElem?_eq_getElem hjm
      obtain ⟨x, hxe⟩ : ∃ x, xs[j]'hjm = x := ⟨_, rfl⟩
      rw [hxe] at hx
      have cx : wr.cell? ⟨b, o + j, none⟩ = some (.int .i64 x) := (HK.out.1.cell (p := ⟨b, o + j, none⟩) (by show b < _; omega)).trans (HC.out j x hx)
      obtain ⟨fn, tmps, assign, body, hy, hR⟩ := hY k wr hlt hJk
      have henc : backEnc xs k = #[.int .i64 (j : Int), .int .i64 x] := by
        unfold backEnc
        rw [show xs.length - 1 - k = j by omega, List.getD_eq_getElem?_getD, hx]; rfl
      rw [henc] at hy
      have hjm' : (j : Int) < (m : Int) := by omega
      have hj0 : (0 : Int) ≤ (j : Int) := by omega
      have HJ := Lib.hid hj
      clear henc hx hxe hj
      gi_wp2
      refine ⟨fun h => (by cases h), ?_⟩
      refine hR.mono ?_
      rintro e W3 ⟨rfl, hJ3, hk3⟩
      have HK3 := Lib.hid (HK.out.trans hk3)
      clear hk3
      gi_wp2
      go_roundw
      case rel => exact ⟨k + 1, by omega, by have h_ := HJ.out; congr 1; omega, hJ3, HK3⟩
      case measure => have h_ := HJ.out; (simp [intOf]) <;> omega
    · obtain rfl : k = m := by omega
      have hneg : (k : Int) - 1 - (k : Int) = -1 := by omega
      rw [hneg]
      gi_wp2
      go_end0
      exact ⟨⟨_, rfl⟩, hJk⟩
end

section
open Go.RowKit Go.Shelf
set_option linter.unusedVariables false
set_option linter.unusedSimpArgs false
attribute [local go_sem] Oper.semAt_some

/-! The closures of valueOfTerm -/
theorem leaf_any (lo hi Bv v nv cv : Nat) (vo : Option Addr) (vs : List Int) (W : World) (hc : W.cell? ⟨Bv, 0, none⟩ = some (.slice vo nv cv)) (hv : IView W lo hi vo nv vs) (h : v < nv) :
    Calls Try.prog 107 #[.int .i64 (v : Int), .pointer (some ⟨Bv, 0, none⟩)] W fun e w' => e = .returned (.int .i64 (vs.getD v 0)) ∧ w' = W := by
  obtain ⟨b, o, rfl, _, _, hcx⟩ := hv.at_ (by omega)
  obtain ⟨x, hx⟩ := get_of_lt hv.1 h
  have c0 := hcx v x hx
  rw [show vs.getD v 0 = x by rw [List.getD_eq_getElem?_getD, hx]; rfl]
  have hvn : (v : Int) < (nv : Int) := by omega
  clear hv hcx hx
  go_enter Try.func107, Try.ntmps107
  go_wp2
  go_ret
  exact ⟨rfl, rfl⟩

set_option maxHeartbeats 1000000 in
theorem node_any (lo hi lo2 hi2 Ba k n c m d : Nat) (z : Int) (ao bo : Option Addr) (fs : List OpD) (f : OpD) (xs : List Int) (W : World) (hc0 : W.cell? ⟨Ba, 0, none⟩ = some (.int .i64 z)) (hc1 : W.cell? ⟨Ba, 1, none⟩ = some (.slice ao n c))
    (hv : OView W lo hi ao n fs) (hok : algOkB z fs = true) (hf : fs[k]? = some f) (hx : IView W lo2 hi2 bo m xs) (ha : allIn z xs = true) (hl : (m : Int) = f.1) :
    Calls Try.prog 108 #[.int .i64 (k : Int), .slice bo m d, .pointer (some ⟨Ba, 0, none⟩)] W fun e w' => e = .returned (.int .i64 (atA z f xs)) ∧ ∃ q, w' = W.drewN q := by
  obtain ⟨⟨h1, h2⟩, hn4, hall⟩ := algOkB_of hok
  have hfo := hall f (List.mem_of_getElem? hf)
  have hm3 : m ≤ 3 := by have := (opOkB_of hfo).1; omega
  obtain ⟨hi0, hi1, hat⟩ := at_get h1 hfo (by rw [hx.1]; exact hl) ha
  have hkl : k < n := by rw [← hv.1]; exact (List.getElem?_eq_some_iff.1 hf).1
  obtain ⟨b, o, rfl, hbl, hb, hc⟩ := hv.at_ (by omega)
  obtain ⟨a, mt, c', _, c1, hmc, hcm, hvt⟩ := hc k f hf
  have hmt : f.2.length = mt := hvt.1
  rw [hmt] at hi1
  obtain ⟨bt, ot, rfl, _, _, hct⟩ := hvt.at_ (by omega)
  have hct2 := hct _ _ hat
  obtain ⟨i, hi⟩ : ∃ i : Nat, idxA z xs = (i : Int) := ⟨(idxA z xs).toNat, by omega⟩
  have HI := Lib.hid (fun (q : Nat) => idx_impl lo2 hi2 z bo d m xs (W.drewN q) (hx.kept (Kept.drewN W q)) h1 h2 ha hm3)
  rw [hi] at hi1 hct2 HI
  rw [Int.toNat_natCast] at hct2
  obtain ⟨v, hve⟩ : ∃ v, atA z f xs = v := ⟨_, rfl⟩
  rw [hve] at hct2 ⊢
  have hkn : (k : Int) < (n : Int) := by omega
  clear hv hok hf hx ha hl hfo hall hat hc hvt hct hi hve hn4 hi0 hmt
  go_enter Try.func108, Try.ntmps108
  go_wp2
  go_quiet ((go_at_call 109; exact quiet_left (HI.out _)))
  go_wp2
  go_ret
  exact ⟨rfl, _, rfl⟩
end

section
open Go.RowKit Go.Shelf
set_option linter.unusedVariables false
set_option linter.unusedSimpArgs false
attribute [local go_sem] Oper.semAt_some

theorem evS_in {z : Int} {fs : List OpD} {vs xs : List Int} (hok : algOkB z fs = true) (hend : endA fs xs 0 = some xs.length) (hv : allIn z vs = true) (hfit : ∀ x, x ∈ xs → x < (vs.length : Int)) :
    ∀ t i, i + t = xs.length → allIn z (evS z fs vs (xs.drop i)) = true := by
  intro t
  induction t with
  | zero => intro i hi; rw [evS_end (by omega)]; rfl
  | succ t ih =>
    intro i hi
    have hlt : i < xs.length := by omega
    have hx : xs[i]? = some (xs[i]'hlt) := List.getElem?_eq_getElem hlt
    obtain ⟨x, hxe⟩ : ∃ x, xs[i]'hlt = x := ⟨_, rfl⟩
    rw [hxe] at hx
    have ih1 := ih (i + 1) (by omega)
    obtain ⟨b, hb⟩ := term_beh hok hend hx
    have hroom := (evS_room (vs := vs) hok hend hx hb).1
    rw [evS_drop hx]
    unfold evStep
    split
    · rename_i h0
      have h1 := hfit x (List.mem_of_getElem? hx)
      have hlv : x.toNat < vs.length := by omega
      have h2 := allIn_get hv (List.getElem?_eq_getElem hlv)
      unfold allIn at ih1 ⊢
      rw [List.all_cons, ih1, List.getD_eq_getElem?_getD, List.getElem?_eq_getElem hlv]
      simp only [Option.getD_some, Bool.and_true, decide_eq_true_eq]
      exact h2
    · rename_i h0
      unfold beh at hb
      rw [if_neg h0] at hb
      obtain ⟨f, hf, rfl⟩ := Option.map_eq_some_iff.1 hb
      have hfo := (algOkB_of hok).2.2 f (List.mem_of_getElem? hf)
      have h1 := (algOkB_of hok).1.1
      rw [show fs.getD (-1 - x).toNat (0, []) = f by rw [List.getD_eq_getElem?_getD, hf]; rfl]
      have har := (opOkB_of hfo).1
      have hta : allIn z ((evS z fs vs (xs.drop (i + 1))).take f.1.toNat) = true := by
        unfold allIn at ih1 ⊢
        rw [List.all_eq_true] at ih1 ⊢
        exact fun y hy => ih1 y (List.mem_of_mem_take hy)
      obtain ⟨_, _, hat⟩ := at_get h1 hfo (xs := (evS z fs vs (xs.drop (i + 1))).take f.1.toNat) (by rw [List.length_take]; omega) hta
      have h2 := allIn_get (opOkB_of hfo).2.2 hat
      have hdr : allIn z ((evS z fs vs (xs.drop (i + 1))).drop f.1.toNat) = true := by
        unfold allIn at ih1 ⊢
        rw [List.all_eq_true] at ih1 ⊢
        exact fun y hy => ih1 y (List.mem_of_mem_drop hy)
      unfold allIn at hdr ⊢
      rw [List.all_cons, hdr]
      simp only [Bool.and_true, decide_eq_true_eq]
      exact h2

/-- What stands in memory when k rounds are over. -/
def FoldI (z : Int) (ao : Option Addr) (n c m s3 s4 Ba Bv : Nat) (w : World) (st : Nat → List Int) (k : Nat) (W : World) : Prop :=
  (W.cell? ⟨s3, 0, none⟩ = some (.int .i64 z) ∧ W.cell? ⟨s3, 1, none⟩ = some (.slice ao n c) ∧ W.cell? ⟨s3 + 1, 0, none⟩ = some (.func (.func 107) #[] #[.pointer (some ⟨Bv, 0, none⟩)]) ∧
    W.cell? ⟨s3 + 1 + 1, 0, none⟩ = some (.func (.func 108) #[] #[.pointer (some ⟨Ba, 0, none⟩)]) ∧ W.cell? ⟨s4, 0, none⟩ = some (.slice (some ⟨s3 + 1 + 1 + 1, 0, none⟩) m m) ∧
    (W.cell? ⟨s4 + 1, 0, none⟩ = some (.int .i64 ((m - (st k).length : Nat) : Int)) ∧ W.frozen? ⟨s4 + 1, 0, none⟩ = false) ∧
    (∀ j, j < m → ∃ v : Int, W.cell? ⟨s3 + 1 + 1 + 1, j, none⟩ = some (.int .i64 v) ∧ W.frozen? ⟨s3 + 1 + 1 + 1, j, none⟩ = false) ∧
    (∀ j v, (st k)[j]? = some v → W.cell? ⟨s3 + 1 + 1 + 1, m - (st k).length + j, none⟩ = some (.int .i64 v))) ∧
  Below s3 w W
theorem foldI_own (z : Int) (ao : Option Addr) (n c m s3 s4 Ba Bv : Nat) (w : World) (st : Nat → List Int) (B : Nat) (hs : s3 ≤ w.heap.size) (hB : s3 ≤ B) : OwnFrom B (FoldI z ao n c m s3 s4 Ba Bv w st) :=
  OwnFrom.and (Own.from (fun s A C row ⟨h0, h1, h2, h3, h4, ⟨h5, h6⟩, h7, h8⟩ hg hr =>
    ⟨cell_kept h0 hg hr, cell_kept h1 hg hr, cell_kept h2 hg hr, cell_kept h3 hg hr, cell_kept h4 hg hr, ⟨cell_kept h5 hg hr, (frozen_kept h5 hg hr).trans h6⟩,
      fun j hj => by obtain ⟨v, hv, hf⟩ := h7 j hj; exact ⟨v, cell_kept hv hg hr, (frozen_kept hv hg hr).trans hf⟩,
      fun j v hj => cell_kept (h8 j v hj) hg hr⟩) _) (ownFrom_below hs hB)

/-- The same with whatever stands in the top's cell. -/
def FoldP (z : Int) (ao : Option Addr) (n c m s3 s4 Ba Bv : Nat) (w : World) (S : List Int) (W : World) : Prop :=
  (W.cell? ⟨s3, 0, none⟩ = some (.int .i64 z) ∧ W.cell? ⟨s3, 1, none⟩ = some (.slice ao n c) ∧ W.cell? ⟨s3 + 1, 0, none⟩ = some (.func (.func 107) #[] #[.pointer (some ⟨Bv, 0, none⟩)]) ∧
    W.cell? ⟨s3 + 1 + 1, 0, none⟩ = some (.func (.func 108) #[] #[.pointer (some ⟨Ba, 0, none⟩)]) ∧ W.cell? ⟨s4, 0, none⟩ = some (.slice (some ⟨s3 + 1 + 1 + 1, 0, none⟩) m m) ∧
    ((∃ u : Int, W.cell? ⟨s4 + 1, 0, none⟩ = some (.int .i64 u)) ∧ W.frozen? ⟨s4 + 1, 0, none⟩ = false) ∧
    (∀ j, j < m → ∃ v : Int, W.cell? ⟨s3 + 1 + 1 + 1, j, none⟩ = some (.int .i64 v) ∧ W.frozen? ⟨s3 + 1 + 1 + 1, j, none⟩ = false) ∧
    (∀ j v, S[j]? = some v → W.cell? ⟨s3 + 1 + 1 + 1, m - S.length + j, none⟩ = some (.int .i64 v))) ∧
  Below s3 w W
theorem set_other {W : World} {p q : Addr} {v : Value} (h : q.block ≠ p.block) : (W.setCell p v).cell? q = W.cell? q := World.cell?_of_block (Below.heap_setCell W p v q.block h)
theorem FoldP.top {z : Int} {ao : Option Addr} {n c m s3 s4 Ba Bv : Nat} {w W : World} {S : List Int} (h : FoldP z ao n c m s3 s4 Ba Bv w S W) (hs : s3 + 1 + 1 + 1 < s4) (x : Int) : FoldP z ao n c m s3 s4 Ba Bv w S (W.setCell ⟨s4 + 1, 0, none⟩ (.int .i64 x)) ∧ (W.setCell ⟨s4 + 1, 0, none⟩ (.int .i64 x)).cell? ⟨s4 + 1, 0, none⟩ = some (.int .i64 x) := by
  obtain ⟨⟨h0, h1, h2, h3, h4, ⟨⟨u, h5⟩, h6⟩, h7, h8⟩, hB⟩ := h
  have hc : (W.setCell ⟨s4 + 1, 0, none⟩ (.int .i64 x)).cell? ⟨s4 + 1, 0, none⟩ = some (.int .i64 x) := World.cell?_setCell_same' _ _ _ (by rw [h5]; rfl)
  refine ⟨⟨⟨(set_other (by dsimp only; omega)).trans h0, (set_other (by dsimp only; omega)).trans h1, (set_other (by dsimp only; omega)).trans h2, (set_other (by dsimp only; omega)).trans h3, (set_other (by dsimp only; omega)).trans h4, ⟨⟨x, hc⟩, by rw [World.frozen?_setCell]; exact h6⟩, fun j hj => ?_, fun j v hj => (set_other (by dsimp only; omega)).trans (h8 j v hj)⟩, hB.setCell (p := ⟨s4 + 1, 0, none⟩) (by show _ ≤ s4 + 1; omega) _⟩, hc⟩
  obtain ⟨v, hv, hf⟩ := h7 j hj
  exact ⟨v, (set_other (by dsimp only; omega)).trans hv, by rw [World.frozen?_setCell]; exact hf⟩
theorem FoldP.put {z : Int} {ao : Option Addr} {n c m s3 s4 Ba Bv : Nat} {w W : World} {S : List Int} (h : FoldP z ao n c m s3 s4 Ba Bv w S W) (hs : s3 + 1 + 1 + 1 < s4) (r t k : Nat) (y : Int) (st : Nat → List Int) (hst : st k = y :: S.drop r) (hr : r ≤ S.length) (hSm : S.length - r + 1 ≤ m) (ht : t = m - (S.length - r + 1))
    (hS : S.length ≤ m) (hc : W.cell? ⟨s4 + 1, 0, none⟩ = some (.int .i64 (t : Int))) : FoldI z ao n c m s3 s4 Ba Bv w st k (W.setCell ⟨s3 + 1 + 1 + 1, t, none⟩ (.int .i64 y)) := by
  obtain ⟨⟨h0, h1, h2, h3, h4, ⟨_, h6⟩, h7, h8⟩, hB⟩ := h
  obtain ⟨u, hu, huf⟩ := h7 t (by omega)
  have hsame : (W.setCell ⟨s3 + 1 + 1 + 1, t, none⟩ (.int .i64 y)).cell? ⟨s3 + 1 + 1 + 1, t, none⟩ = some (.int .i64 y) := World.cell?_setCell_same' _ _ _ (by rw [hu]; rfl)
  have hlen : (st k).length = S.length - r + 1 := by rw [hst, List.length_cons, List.length_drop]
  have hfar : ∀ j, j ≠ t → (W.setCell ⟨s3 + 1 + 1 + 1, t, none⟩ (.int .i64 y)).cell? ⟨s3 + 1 + 1 + 1, j, none⟩ = W.cell? ⟨s3 + 1 + 1 + 1, j, none⟩ := fun j hj => World.cell?_setCell_other _ _ _ _ (fun e => hj (by injection e with _ h _; exact h.symm))
  refine ⟨⟨(set_other (by dsimp only; omega)).trans h0, (set_other (by dsimp only; omega)).trans h1, (set_other (by dsimp only; omega)).trans h2, (set_other (by dsimp only; omega)).trans h3, (set_other (by dsimp only; omega)).trans h4, ⟨?_, by rw [World.frozen?_setCell]; exact h6⟩, fun j hj => ?_, fun j v hj => ?_⟩, hB.setCell (p := ⟨s3 + 1 + 1 + 1, t, none⟩) (by show _ ≤ s3 + 1 + 1 + 1; omega) _⟩
  · rw [hlen, ← ht]; exact (set_other (by dsimp only; omega)).trans hc
  · by_cases hjt : j = t
    · subst hjt; exact ⟨y, hsame, by rw [World.frozen?_setCell]; exact huf⟩
    · obtain ⟨v, hv, hf⟩ := h7 j hj
      exact ⟨v, (hfar j hjt).trans hv, by rw [World.frozen?_setCell]; exact hf⟩
  · rw [hlen, ← ht]
    rw [hst] at hj
    cases j with
    | zero => simp at hj; subst hj; exact hsame
    | succ j =>
      rw [List.getElem?_cons_succ, List.getElem?_drop] at hj
      have hjl := (List.getElem?_eq_some_iff.1 hj).1
      rw [hfar (t + (j + 1)) (by omega), show t + (j + 1) = m - S.length + (r + j) by omega]
      exact h8 (r + j) v hj
theorem keep_set {B X : Nat} {W V : World} (h : KeepsOthers W V ∧ Keep B X W V) (p : Addr) (v : Value) (hp : B ≤ p.block) (hx : X ≠ p.block) : KeepsOthers W (V.setCell p v) ∧ Keep B X W (V.setCell p v) :=
  ⟨h.1.trans (KeepsOthers.setCell V p v), h.2.1.setCell hp v, (Below.heap_setCell V p v X hx).trans h.2.2⟩
theorem keep_drawn {B X : Nat} {W V : World} (h : KeepsOthers W V ∧ Keep B X W V) (q : Nat) : KeepsOthers W (V.drewN q) ∧ Keep B X W (V.drewN q) :=
  ⟨⟨h.1.size, h.1.same⟩, below_drewN h.2.1 q, h.2.2⟩
theorem FoldP.drawn {z : Int} {ao : Option Addr} {n c m s3 s4 Ba Bv : Nat} {w W : World} {S : List Int} (h : FoldP z ao n c m s3 s4 Ba Bv w S W) (q : Nat) : FoldP z ao n c m s3 s4 Ba Bv w S (W.drewN q) :=
  ⟨⟨h.1.1, h.1.2.1, h.1.2.2.1, h.1.2.2.2.1, h.1.2.2.2.2.1, h.1.2.2.2.2.2.1, h.1.2.2.2.2.2.2.1, h.1.2.2.2.2.2.2.2⟩, below_drewN h.2 q⟩

theorem wrap_nat (q : Nat) (h : q ≤ 4) : wrap64 (q : Int) = (q : Int) := by unfold wrap64; omega

theorem make_ints (w : World) (n : Nat) (hn : n ≤ 1048576) : ∃ w', (Instr.makeSlice 25 (.int .i64 (n : Int)) (.int .i64 (n : Int))).run Try.prog w = .ok (.slice (some ⟨w.heap.size, 0, none⟩) n n) w' ∧
    w'.ownsRow w.heap.size 3 1 (.slice (some ⟨w.heap.size, 0, none⟩) n n) n ((List.replicate n (0 : Int)).map (Value.int .i64)) ∧ Below w.heap.size w w' := by
  obtain ⟨i0, hi0, hz0, hz1, hz2⟩ := info_parts Try.infoInt
  obtain ⟨w', hrun, r1, r2⟩ := run_make_full (P := Try.prog) w w.heap.size 25 3 i0 _ 1 Try.underlying25 hi0 hz0 hz1 .i64 .i64 n (by rw [hz2]; omega) (by unfold maxLen; omega) (Nat.le_refl _)
  refine ⟨w', hrun, ?_, (Below.refl _ _).grown r2 (Nat.le_refl _) (by intro k hk; cases hk)⟩
  rw [show (Value.int .i64 0).cells = #[Value.int .i64 0] from rfl, Nat.mul_one, toList_madeCells_one] at r1
  rw [List.map_replicate]
  exact r1

set_option maxRecDepth 100000 in
set_option maxHeartbeats 4000000 in
theorem fold_any (lo hi lo2 hi2 lo3 hi3 : Nat) (z : Int) (ao bo vo : Option Addr) (n c m d nv cv Ba Bv : Nat) (fs : List OpD) (xs vs : List Int) (w : World) (hv : OView w lo hi ao n fs) (hhi : hi ≤ w.heap.size) (hok : algOkB z fs = true)
    (hx : IView w lo2 hi2 bo m xs) (hhi2 : hi2 ≤ w.heap.size) (hvs : IView w lo3 hi3 vo nv vs) (hhi3 : hi3 ≤ w.heap.size) (h60 : xs.length ≤ 60) (hend : endA fs xs 0 = some xs.length) (hvok : allIn z vs = true) (hfit : ∀ x, x ∈ xs → x < (nv : Int))
    (hBa0 : w.cell? ⟨Ba, 0, none⟩ = some (.int .i64 z)) (hBa1 : w.cell? ⟨Ba, 1, none⟩ = some (.slice ao n c)) (hBv : w.cell? ⟨Bv, 0, none⟩ = some (.slice vo nv cv)) :
    Calls Try.prog 110 #[.agg #[.int .i64 z, .slice ao n c], .slice bo m d, .func (.func 107) #[] #[.pointer (some ⟨Bv, 0, none⟩)], .func (.func 108) #[] #[.pointer (some ⟨Ba, 0, none⟩)]] w
      fun e w' => e = .returned (.int .i64 (evT z fs vs xs)) ∧ Below w.heap.size w w' := by
  have hl := hx.1
  have hm0 : 0 < m := by have := term_pos hend; omega
  have hm60 : m ≤ 60 := by omega
  obtain ⟨b, o, rfl, hbl, hbh, hcx⟩ := hx.at_ hm0
  obtain ⟨w3, hw3⟩ : ∃ w3, w3 = ((w.alloc (.cells #[.int .i64 z, .slice ao n c] 30)).alloc (.cells #[.func (.func 107) #[] #[.pointer (some ⟨Bv, 0, none⟩)]] 107)).alloc (.cells #[.func (.func 108) #[] #[.pointer (some ⟨Ba, 0, none⟩)]] 108) := ⟨_, rfl⟩
  obtain ⟨w4, hr4, ho4, hg4⟩ := make_ints w3 m (by omega)
  refine (callsIn_wide (n := 6)).1 ?_
  refine callsIn_of_wp_marks Try.func110 rfl trivial ?_ rfl
  simp only [Try.ntmps110, List.size_toArray, List.length_cons, List.length_nil, Nat.reduceAdd, Nat.reduceSub, Array.replicate_succ, Array.replicate_zero, List.push_toArray, List.append_toArray, List.nil_append, List.cons_append]
  rw [hw3] at hr4
  gi_wp2_with (refine ⟨trivial, ?_⟩; gi_at_call 122; refine (callsIn_wide.2 (backward_any _ _ _ _)).mono ?_; rintro e w' ⟨rfl, rfl⟩)
  have hB3 : Below w.heap.size w w3 := by
    rw [hw3]; exact (((Below.refl _ w).alloc (Nat.le_refl _) _).alloc (by simp) _).alloc (by simp; omega) _
  have hs3 : w3.heap.size = w.heap.size + 1 + 1 + 1 := by rw [hw3]; simp
  have hB4 : Below w.heap.size w w4 := hB3.trans (hg4.mono hB3.size)
  have hs4 : w.heap.size + 1 + 1 + 1 < w4.heap.size := by have := (own_lt ho4).2; omega
  rw [hs3] at ho4
  obtain ⟨W7, hW7⟩ : ∃ W7, W7 = ((w4.alloc (.cells #[.slice (some ⟨w.heap.size + 1 + 1 + 1, 0, none⟩) m m] 25)).alloc (.cells #[.int .i64 (m : Int)] 3)).alloc (.cells #[.slice (some ⟨b, o, none⟩) m d] 25) := ⟨_, rfl⟩
  have hB47 : Below w4.heap.size w4 W7 := by rw [hW7]; exact (((Below.refl _ w4).alloc (Nat.le_refl _) _).alloc (by simp) _).alloc (by simp; omega) _
  have hB7 : Below w.heap.size w W7 := hB4.trans (hB47.mono hB4.size)
  have hs7 : W7.heap.size = w4.heap.size + 1 + 1 + 1 := by rw [hW7]; simp
  have hX7 : W7.cell? ⟨w4.heap.size + 1 + 1, 0, none⟩ = some (.slice (some ⟨b, o, none⟩) m d) := by rw [hW7]; go_simp
  have c3 : ∀ {p : Addr} {v : Value}, w3.cell? p = some v → W7.cell? p = some v := fun h => cell_b hB47 (cell_b hg4 h)
  have d0 : W7.cell? ⟨w.heap.size, 0, none⟩ = some (.int .i64 z) := c3 (by rw [hw3]; go_simp)
  have d1 : W7.cell? ⟨w.heap.size, 1, none⟩ = some (.slice ao n c) := c3 (by rw [hw3]; go_simp)
  have d2 : W7.cell? ⟨w.heap.size + 1, 0, none⟩ = some (.func (.func 107) #[] #[.pointer (some ⟨Bv, 0, none⟩)]) := c3 (by rw [hw3]; go_simp)
  have d3 : W7.cell? ⟨w.heap.size + 1 + 1, 0, none⟩ = some (.func (.func 108) #[] #[.pointer (some ⟨Ba, 0, none⟩)]) := c3 (by rw [hw3]; go_simp)
  have d4 : W7.cell? ⟨w4.heap.size, 0, none⟩ = some (.slice (some ⟨w.heap.size + 1 + 1 + 1, 0, none⟩) m m) := by rw [hW7]; go_simp
  have d5 : W7.cell? ⟨w4.heap.size + 1, 0, none⟩ = some (.int .i64 (m : Int)) := by rw [hW7]; go_simp
  have d6 : W7.frozen? ⟨w4.heap.size + 1, 0, none⟩ = false := by rw [hW7]; go_simp
  have d7 : ∀ j, j < m → ∃ v : Int, W7.cell? ⟨w.heap.size + 1 + 1 + 1, j, none⟩ = some (.int .i64 v) ∧ W7.frozen? ⟨w.heap.size + 1 + 1 + 1, j, none⟩ = false := fun j hj =>
    ⟨0, cell_b hB47 (own_at ho4 (by rw [List.getElem?_replicate, if_pos hj])), (hB47.frozen (p := ⟨w.heap.size + 1 + 1 + 1, j, none⟩) hs4).trans (ho4.frozenAt j)⟩
  rw [← hW7]
  have hseq := back_seq 5 (w4.heap.size + 1 + 1) w.heap.size b o m d xs hl hm0 hm60 (by omega) W7 (by omega) hB7.size hX7 (fun j x hj => (hB7.cell (p := ⟨b, o + j, none⟩) (by show b < _; omega)).trans (hcx j x hj))
  have hI0 : FoldI z ao n c m w.heap.size w4.heap.size Ba Bv w (fun k => evS z fs vs (xs.drop (m - k))) 0 W7 := by
    have he : evS z fs vs (xs.drop (m - 0)) = [] := evS_end (by omega)
    refine ⟨⟨d0, d1, d2, d3, d4, ⟨?_, d6⟩, d7, fun j v hj => ?_⟩, hB7⟩
    · dsimp only; rw [he]; exact d5
    · dsimp only at hj; rw [he] at hj; simp at hj
  have HCx := Lib.hid hcx
  have HV := Lib.hid hv
  have HVs := Lib.hid hvs
  have HIn := Lib.hid (evS_in (vs := vs) hok hend hvok (by rw [hvs.1]; exact hfit))
  have HFit := Lib.hid hfit
  have HEnd := Lib.hid hend
  have HOk := Lib.hid hok
  have HL := Lib.hid hl
  refine wpIn_rangeN rfl (by decide) (gf := 124) (lb := #[.pointer (some ⟨w4.heap.size + 1 + 1, 0, none⟩)]) rfl trivial (enters_of Try.func124 (by kernel_rfl) rfl)
    hseq hB7.size (by omega) (Below.refl _ _) (fun _ => rfl)
    (FoldI z ao n c m w.heap.size w4.heap.size Ba Bv w (fun k => evS z fs vs (xs.drop (m - k)))) (foldI_own _ _ _ _ _ _ _ _ _ _ _ _ (Nat.le_refl _) hB7.size) hI0
    (fun k => { tmps := #[.agg #[.int .i64 z, .slice ao n c], .slice (some ⟨b, o, none⟩) m d, .func (.func 107) #[] #[.pointer (some ⟨Bv, 0, none⟩)], .func (.func 108) #[] #[.pointer (some ⟨Ba, 0, none⟩)], .pointer (some ⟨w.heap.size, 0, none⟩), undef, .pointer (some ⟨w.heap.size + 1, 0, none⟩), .pointer (some ⟨w.heap.size + 1 + 1, 0, none⟩), .int .i64 0, .pointer (some ⟨w4.heap.size, 0, none⟩), .pointer (some ⟨w4.heap.size + 1, 0, none⟩), undef, .int .i64 (xs[m - 1 - k]?.getD 0), undef, undef, undef, .slice (some ⟨b, o, none⟩) m d, .int .i64 (m : Int), .slice (some ⟨w.heap.size + 1 + 1 + 1, 0, none⟩) m m, .slice (some ⟨b, o, none⟩) m d, .int .i64 (m : Int), .slice (some ⟨b, o, none⟩) m d, .func (.func 124) #[] #[.pointer (some ⟨w4.heap.size + 1 + 1, 0, none⟩)], .int .i64 ((m - 1 - k : Nat) : Int), .int .i64 (xs[m - 1 - k]?.getD 0), undef, undef, undef, undef, undef, undef, undef, undef, undef, undef, undef, undef, undef, undef, undef, undef, undef, undef, undef, undef, undef, undef, undef, undef, undef, undef, undef, undef, undef, undef, undef, undef, undef], defers := [] }) ?assign ?body ?done
  case assign =>
    intro l k W K hK
    unfold backEnc
    gi_wp2
    exact hK
  case body =>
    rintro l k W hk ⟨⟨i0, i1, i2, i3, i4, ⟨i5, i6⟩, i7, i8⟩, iB⟩
    obtain ⟨j, hj⟩ : ∃ j, j = m - 1 - k := ⟨_, rfl⟩
    have hjm : j < xs.length := by omega
    have hjk : m - k = j + 1 := by omega
    have hjk1 : m - (k + 1) = j := by omega
    have hx : xs[j]? = some (xs[j]'hjm) := List.getElem?_eq_getElem hjm
    obtain ⟨x, hxe⟩ : ∃ x, xs[j]'hjm = x := ⟨_, rfl⟩
    rw [hxe] at hx
    rw [← hj, show xs[j]?.getD 0 = x by rw [hx]; rfl]
    obtain ⟨S, hS⟩ : ∃ S, evS z fs vs (xs.drop (j + 1)) = S := ⟨_, rfl⟩
    simp only [hjk, hS] at i5 i8
    have hSl : S.length ≤ k := by rw [← hS]; have := evS_le z fs vs (xs.drop (j + 1)); rw [List.length_drop] at this; omega
    have hSin : allIn z S = true := by rw [← hS]; exact HIn.out k (j + 1) (by omega)
    obtain ⟨bb, hbb⟩ := term_beh HOk.out HEnd.out hx
    have hroom := (evS_room (vs := vs) HOk.out HEnd.out hx hbb).1
    rw [hS] at hroom
    have hnew : evS z fs vs (xs.drop j) = evStep z fs vs x S := by rw [evS_drop hx, hS]
    by_cases h0 : 0 ≤ x
    · obtain ⟨v, rfl⟩ : ∃ v : Nat, x = (v : Int) := ⟨x.toNat, by omega⟩
      have hvn : v < nv := by have := HFit.out _ (List.mem_of_getElem? hx); omega
      have hnew2 : evS z fs vs (xs.drop j) = vs.getD v 0 :: S := by rw [hnew, evStep, if_pos h0]; simp
      have hleaf := leaf_any lo3 hi3 Bv v nv cv vo vs W ((iB.cell (p := ⟨Bv, 0, none⟩) (World.block_lt_of_cell? w _ hBv)).trans hBv) (HVs.out.kept (Kept.of_below iB hhi3)) hvn
      have HLeaf := Lib.hid hleaf
      obtain ⟨t, ht⟩ : ∃ t : Nat, m - S.length = t + 1 := ⟨m - S.length - 1, by omega⟩
      rw [ht] at i5 i8
      obtain ⟨y, hy⟩ : ∃ y, vs.getD v 0 = y := ⟨_, rfl⟩
      rw [hy] at hnew2 HLeaf
      obtain ⟨u0, hu0, hf0⟩ := i7 t (by omega)
      have htm : (t : Int) < (m : Int) := by omega
      have hcast : ((t + 1 : Nat) : Int) = (t : Int) + 1 := by omega
      have I8 := Lib.hid i8
      have I7 := Lib.hid i7
      have e107 := enters_of Try.func107 (by kernel_rfl) rfl
      clear i7 i8 hleaf hx hxe hbb hroom hnew hy
      gi_wp2_with (refine ⟨trivial, ?_⟩; gi_at_call 107; refine (CallsIn.inRound l (callsIn_wide.2 HLeaf.out)).mono ?_; rintro e w' ⟨rfl, rfl⟩)
      have hP : FoldP z ao n c m w.heap.size w4.heap.size Ba Bv w S w' := ⟨⟨i0, i1, i2, i3, i4, ⟨⟨_, i5⟩, i6⟩, I7.out, by rw [ht]; exact I8.out⟩, iB⟩
      obtain ⟨hP2, hc2⟩ := hP.top hs4 (t : Int)
      have hK2 := keep_set (keep_set (B := w.heap.size) (X := w4.heap.size + 1 + 1) ⟨KeepsOthers.refl w', Keep.refl _ _ w'⟩ ⟨w4.heap.size + 1, 0, none⟩ (.int .i64 (t : Int)) (by dsimp only; omega) (by dsimp only; omega)) ⟨w.heap.size + 1 + 1 + 1, t, none⟩ (.int .i64 y) (by dsimp only; omega) (by dsimp only; omega)
      exact ⟨hK2.1, hK2.2, hP2.put hs4 0 t (k + 1) y _ (by (try dsimp only); rw [hjk1, hnew2]; rfl) (Nat.zero_le _) (by omega) (by omega) (by omega) hc2⟩
    · have hx0 : x < 0 := Int.not_le.1 h0
      have hb2 := hbb
      unfold beh at hb2
      rw [if_neg h0] at hb2
      obtain ⟨f, hf, rfl⟩ := Option.map_eq_some_iff.1 hb2
      obtain ⟨q, hq⟩ : ∃ q : Nat, -1 - x = (q : Int) := ⟨(-1 - x).toNat, by omega⟩
      rw [show (-1 - x).toNat = q by omega] at hf
      have hqn : q < n := by rw [← HV.out.1]; exact (List.getElem?_eq_some_iff.1 hf).1
      have hfo := (algOkB_of HOk.out).2.2 f (List.mem_of_getElem? hf)
      obtain ⟨r, hr⟩ : ∃ r : Nat, f.1 = (r : Int) := ⟨f.1.toNat, by have := (opOkB_of hfo).1; omega⟩
      rw [hr] at hroom
      have hrS : r ≤ S.length := by omega
      have hnew2 : evS z fs vs (xs.drop j) = atA z f (S.take r) :: S.drop r := by
        rw [hnew, evStep, if_neg h0, show (-1 - x).toNat = q by omega, show fs.getD q (0, []) = f by rw [List.getD_eq_getElem?_getD, hf]; rfl, hr]; rfl
      have hP : FoldP z ao n c m w.heap.size w4.heap.size Ba Bv w S W := ⟨⟨i0, i1, i2, i3, i4, ⟨⟨_, i5⟩, i6⟩, i7, i8⟩, iB⟩
      obtain ⟨t, ht⟩ : ∃ t : Nat, t = m - S.length := ⟨_, rfl⟩
      rw [← ht] at i5 i8
      obtain ⟨b2, o2, rfl, hbl2, hbh2, hc2⟩ := HV.out.at_ (by omega)
      obtain ⟨a2, m2, c2, k0, _, _, _, _⟩ := hc2 q f hf
      have k1 : W.cell? ⟨b2, o2 + q * 2, none⟩ = some (.int .i64 (r : Int)) := by rw [← hr]; exact (iB.cell (p := ⟨b2, _, none⟩) (by show b2 < _; omega)).trans k0
      obtain ⟨y, hy⟩ : ∃ y, atA z f (S.take r) = y := ⟨_, rfl⟩
      have hargs : IView W w.heap.size (w.heap.size + 1 + 1 + 1 + 1) (some ⟨w.heap.size + 1 + 1 + 1, t, none⟩) r (S.take r) := by
        refine ⟨by rw [List.length_take]; omega, .inr ⟨w.heap.size + 1 + 1 + 1, t, rfl, by omega, by omega, fun i v hi => ?_⟩⟩
        rw [List.getElem?_take] at hi
        split at hi
        · exact i8 i v hi
        · cases hi
      have hin2 : allIn z (S.take r) = true := by
        unfold allIn at hSin ⊢
        rw [List.all_eq_true] at hSin ⊢
        exact fun v hv => hSin v (List.mem_of_mem_take hv)
      have hba0 := (iB.cell (p := ⟨Ba, 0, none⟩) (World.block_lt_of_cell? w _ hBa0)).trans hBa0
      have hba1 := (iB.cell (p := ⟨Ba, 1, none⟩) (World.block_lt_of_cell? w _ hBa1)).trans hBa1
      have hnode : ∀ (a_ : Option Addr) (d_ g1 g2 : Nat), IView W w.heap.size (w.heap.size + 1 + 1 + 1 + 1) a_ r (S.take r) → Calls Try.prog 108 #[.int .i64 (q : Int), .slice a_ r d_, .pointer (some ⟨Ba, 0, none⟩)] (W.drewN (g1 + g2)) fun e w' => e = .returned (.int .i64 y) ∧ ∃ g, w' = W.drewN (g1 + g) := by
        intro a_ d_ g1 g2 hva
        have h_ := node_any lo hi w.heap.size (w.heap.size + 1 + 1 + 1 + 1) Ba q n c r d_ z (some ⟨b2, o2, none⟩) a_ fs f (S.take r) (W.drewN (g1 + g2)) hba0 hba1 ((HV.out.kept (Kept.of_below iB hhi)).kept (Kept.drewN _ _)) HOk.out hf (hva.kept (Kept.drewN _ _)) hin2 hr.symm
        rw [hy] at h_
        exact h_.mono fun e w' ⟨he, g, hw⟩ => ⟨he, g2 + g, by rw [hw, World.drewN_drewN, Nat.add_assoc]⟩
      have HNode := Lib.hid hnode
      have HArgs := Lib.hid hargs
      have hqn' : (q : Int) < (n : Int) := by omega
      have hn4 : n ≤ 4 := by have := (algOkB_of HOk.out).2.1; have := HV.out.1; omega
      obtain ⟨en, hen⟩ : ∃ en : Nat, en = t + r := ⟨_, rfl⟩
      have hten : (t : Int) + (r : Int) = (en : Int) := by omega
      have hle1 : (t : Int) ≤ (en : Int) := by omega
      have hle2 : (en : Int) ≤ (m : Int) := by omega
      obtain ⟨t2, ht2⟩ : ∃ t2 : Nat, en = t2 + 1 ∨ (en = 0) := ⟨en - 1, by omega⟩
      have hen0 : en ≠ 0 := by
        have hroom2 := (evS_room (vs := vs) HOk.out HEnd.out hx hbb).2
        rw [hS, hr] at hroom2
        have hle := evS_le z fs vs (xs.drop j)
        rw [List.length_drop] at hle
        omega
      have hen2 : en = t2 + 1 := by omega
      have hcast : (en : Int) - 1 = (t2 : Int) := by omega
      obtain ⟨u0, hu0, hf0⟩ := i7 t2 (by omega)
      have ht2m : (t2 : Int) < (m : Int) := by omega
      have HP := Lib.hid hP
      rw [hy] at hnew2
      have Hnew := Lib.hid hnew2
      have e108 := enters_of Try.func108 (by kernel_rfl) rfl
      have hrd : en - t = r := by omega
      have HT := Lib.hid ht
      have HEn2 := Lib.hid hen2
      clear ht hen2 i7 i8 hx hxe hbb hnew hb2 hnode hargs hc2 k0 hfo hr hf hy hin2 hroom hen ht2 hen0 hP hnew2
      by_cases htm : m = t
      · have HR0 : Hid (r = 0) := by unfold Hid; have := HT.out; omega
        subst htm
        gi_wp2
        refine wpIn_region_round rfl l (by kernel_rfl) (by kernel_rfl) (by kernel_rfl) ?_
        repeat (gi_big_quiet_step (fail))
        refine wpQuietIn_nil ?_
        intro _ hw'
        obtain ⟨g1, hw''⟩ := hw'
        subst hw''
        gi_wp2
        refine wpIn_region_round rfl l (by kernel_rfl) (by kernel_rfl) (by kernel_rfl) ?_
        repeat (gi_big_quiet_step (fail))
        refine wpQuietIn_step (fun _ _ _ _ => trivial) (fun K hK => ?_)
        go_simp
        refine ⟨_, fun a => callsIn_wide.2 (HNode.out (some ⟨w.heap.size + 1 + 1 + 1, 0, none⟩) 0 g1 a ⟨by rw [List.length_take]; omega, .inl HR0.out⟩), hK _ ?_⟩
        clear hK K
        repeat (gi_big_quiet_step (fail))
        refine wpQuietIn_nil ?_
        intro _ hw'
        obtain ⟨g2, hw''⟩ := hw'
        subst hw''
        gi_wp2
        have ht_ := HT.out
        have hen_ := HEn2.out
        obtain ⟨hP2, _⟩ := (HP.out.drawn (g1 + g2)).top hs4 (en : Int)
        obtain ⟨hP3, hc3⟩ := hP2.top hs4 (t2 : Int)
        have hK0 : KeepsOthers W (W.drewN (g1 + g2)) ∧ Keep w.heap.size (w4.heap.size + 1 + 1) W (W.drewN (g1 + g2)) := keep_drawn ⟨KeepsOthers.refl W, Keep.refl _ _ W⟩ (g1 + g2)
        have hK2 := keep_set (keep_set (keep_set hK0 ⟨w4.heap.size + 1, 0, none⟩ (.int .i64 (en : Int)) (by dsimp only; omega) (by dsimp only; omega)) ⟨w4.heap.size + 1, 0, none⟩ (.int .i64 (t2 : Int)) (by dsimp only; omega) (by dsimp only; omega)) ⟨w.heap.size + 1 + 1 + 1, t2, none⟩ (.int .i64 y) (by dsimp only; omega) (by dsimp only; omega)
        exact ⟨hK2.1, hK2.2, hP3.put hs4 r t2 (k + 1) y _ (by (try dsimp only); rw [hjk1, Hnew.out]) hrS (by omega) (by omega) (by omega) hc3⟩
      · have htm' : (t : Int) < (m : Int) := by omega
        gi_wp2
        refine wpIn_region_round rfl l (by kernel_rfl) (by kernel_rfl) (by kernel_rfl) ?_
        repeat (gi_big_quiet_step (fail))
        refine wpQuietIn_nil ?_
        intro _ hw'
        obtain ⟨g1, hw''⟩ := hw'
        subst hw''
        gi_wp2
        refine wpIn_region_round rfl l (by kernel_rfl) (by kernel_rfl) (by kernel_rfl) ?_
        repeat (gi_big_quiet_step (fail))
        refine wpQuietIn_step (fun _ _ _ _ => trivial) (fun K hK => ?_)
        go_simp
        refine ⟨_, fun a => callsIn_wide.2 (HNode.out (some ⟨w.heap.size + 1 + 1 + 1, t, none⟩) (m - t) g1 a HArgs.out), hK _ ?_⟩
        clear hK K
        repeat (gi_big_quiet_step (fail))
        refine wpQuietIn_nil ?_
        intro _ hw'
        obtain ⟨g2, hw''⟩ := hw'
        subst hw''
        gi_wp2
        have ht_ := HT.out
        have hen_ := HEn2.out
        obtain ⟨hP2, _⟩ := (HP.out.drawn (g1 + g2)).top hs4 (en : Int)
        obtain ⟨hP3, hc3⟩ := hP2.top hs4 (t2 : Int)
        have hK0 : KeepsOthers W (W.drewN (g1 + g2)) ∧ Keep w.heap.size (w4.heap.size + 1 + 1) W (W.drewN (g1 + g2)) := keep_drawn ⟨KeepsOthers.refl W, Keep.refl _ _ W⟩ (g1 + g2)
        have hK2 := keep_set (keep_set (keep_set hK0 ⟨w4.heap.size + 1, 0, none⟩ (.int .i64 (en : Int)) (by dsimp only; omega) (by dsimp only; omega)) ⟨w4.heap.size + 1, 0, none⟩ (.int .i64 (t2 : Int)) (by dsimp only; omega) (by dsimp only; omega)) ⟨w.heap.size + 1 + 1 + 1, t2, none⟩ (.int .i64 y) (by dsimp only; omega) (by dsimp only; omega)
        exact ⟨hK2.1, hK2.2, hP3.put hs4 r t2 (k + 1) y _ (by (try dsimp only); rw [hjk1, Hnew.out]) hrS (by omega) (by omega) (by omega) hc3⟩
  case done =>
    rintro D W hD ⟨⟨i0, i1, i2, i3, i4, ⟨i5, i6⟩, i7, i8⟩, iB⟩ hK
    have h1 := evS_one (vs := vs) HOk.out HEnd.out
    have hdr : xs.drop (m - m) = xs := by rw [Nat.sub_self]; rfl
    simp only [hdr] at i5 i8
    obtain ⟨y, hy⟩ : ∃ y, evS z fs vs xs = [y] := List.length_eq_one_iff.1 h1
    rw [hy] at i5 i8
    have c8 := i8 0 y rfl
    simp only [List.length_cons, List.length_nil, Nat.zero_add, Nat.add_zero] at i5 c8
    have hev : evT z fs vs xs = y := by unfold evT; rw [hy]; rfl
    have hlt : ((m - 1 : Nat) : Int) < (m : Int) := by omega
    clear i7 i8 hdr hy h1
    gi_wp2
    refine ⟨by simp, .inl ⟨_, _, rfl, run_takeDeferred hK, ?_⟩⟩
    exact ⟨_, results_tmp rfl _ _ _, by rw [hev]; rfl, iB.trans (belowK_b (w := W7) hB7.size W D _ _ hD hK rfl rfl)⟩
end

section
open Go.RowKit
set_option linter.unusedVariables false
set_option linter.unusedSimpArgs false

/-- The greatest number of a list. -/
def maxL (xs : List Int) : Int := xs.foldl (fun a x => max a x) (xs.headD 0)
theorem maxL_succ {xs : List Int} {k : Nat} {x : Int} (h0 : 0 < k) (hx : xs[k]? = some x) : maxL (xs.take (k + 1)) = max (maxL (xs.take k)) x := by
  unfold maxL
  rw [List.take_add_one, hx, Option.toList_some, List.foldl_append]
  cases xs with
  | nil => simp at hx
  | cons a l => cases k with
    | zero => omega
    | succ k => rfl
theorem foldl_max (l : List Int) : ∀ a : Int, a ≤ l.foldl (fun a x => max a x) a ∧ (∀ x, x ∈ l → x ≤ l.foldl (fun a x => max a x) a) ∧ (l.foldl (fun a x => max a x) a = a ∨ l.foldl (fun a x => max a x) a ∈ l) := by
  induction l with
  | nil => intro a; exact ⟨Int.le_refl _, fun x h => by simp at h, .inl rfl⟩
  | cons b l ih =>
    intro a
    obtain ⟨h1, h2, h3⟩ := ih (max a b)
    refine ⟨by rw [List.foldl_cons]; omega, fun x hx => ?_, ?_⟩
    · rcases List.mem_cons.1 hx with rfl | hx
      · rw [List.foldl_cons]; omega
      · exact h2 x hx
    · rw [List.foldl_cons]
      rcases h3 with h | h
      · rw [h]
        rcases Int.le_total a b with h4 | h4
        · exact .inr (by rw [Int.max_eq_right h4]; exact List.mem_cons_self)
        · exact .inl (Int.max_eq_left h4)
      · exact .inr (List.mem_cons_of_mem _ h)
theorem maxL_ge {xs : List Int} {x : Int} (h : x ∈ xs) : x ≤ maxL xs := (foldl_max xs _).2.1 x h
theorem maxL_mem {xs : List Int} (h : xs ≠ []) : maxL xs ∈ xs := by
  rcases (foldl_max xs (xs.headD 0)).2.2 with e | e
  · unfold maxL; rw [e]
    cases xs with
    | nil => exact absurd rfl h
    | cons a l => exact List.mem_cons_self
  · exact e

theorem max_any (lo hi : Nat) (ao : Option Addr) (c n : Nat) (xs : List Int) (w : World) (hx : IView w lo hi ao n xs) (h0 : 0 < n) (hn : n ≤ 1048576) :
    Calls Try.prog 105 #[.slice ao n c] w fun e w' => e = .returned (.int .i64 (maxL xs)) ∧ w = w' := by
  obtain ⟨b, o, rfl, _, _, hc⟩ := hx.at_ h0
  have hl := hx.1
  obtain ⟨x0, hx0⟩ := get_of_lt hl h0
  have c0 : w.cell? ⟨b, o, none⟩ = some (.int .i64 x0) := by simpa using hc 0 x0 hx0
  have hm0 : maxL (xs.take 1) = x0 := by
    cases xs with
    | nil => simp at hx0
    | cons a l => simp at hx0; subst hx0; simp [maxL]
  have HC := Lib.hid hc
  have HL := Lib.hid hl
  have HM0 := Lib.hid hm0
  have hn1 : ¬ (n : Int) < 1 := by omega
  have hn0 : (0 : Int) < (n : Int) := by omega
  clear hc hx hl hx0 hm0
  go_enter Try.func105, Try.ntmps105
  go_wp2
  go_loop [3, 4] (fun v i => ∃ (k : Nat) (q : Int), 1 ≤ k ∧ k ≤ n ∧ i = .int .i64 (k : Int) ∧ v = .int .i64 q ∧ Hid (q = maxL (xs.take k))) (fun _ i => n - (intOf i).toNat)
  case atStart => exact ⟨1, x0, Nat.le_refl _, h0, rfl, rfl, HM0.out.symm⟩
  case round =>
    obtain ⟨k, q, hk1, hk, rfl, rfl, HQ⟩ := hrel
    by_cases hlt : k < n
    · obtain ⟨x, hxk⟩ := get_of_lt HL.out hlt
      have cx := HC.out k x hxk
      have hkn : (k : Int) < (n : Int) := by omega
      have HN : Hid (max q x = maxL (xs.take (k + 1))) := by unfold Hid; rw [maxL_succ (by omega) hxk, HQ.out]
      clear hxk
      go_wp2
      go_round
      case rel => exact ⟨k + 1, max q x, by omega, by omega, by go_num, by first | rfl | (congr 1; omega) | (congr 1; rw [Int.max_def]), HN⟩
      case measure => simp [intOf]; omega
    · have hkn : ¬ (k : Int) < (n : Int) := by omega
      go_wp2
      go_ret
      exact ⟨ret_int (by rw [HQ.out, List.take_of_length_le (by have := HL.out; omega)]), rfl⟩

theorem needed_any (lo hi : Nat) (ao : Option Addr) (c n : Nat) (xs : List Int) (w : World) (hx : IView w lo hi ao n xs) (h0 : 0 < n) (hn : n ≤ 1048576) (hb : ∀ x, x ∈ xs → -9223372036854775808 ≤ x ∧ x < 6) :
    Calls Try.prog 80 #[.slice ao n c] w fun e w' => e = .returned (.int .i64 (max (maxL xs + 1) 0)) ∧ w = w' := by
  have HM := Lib.hid (max_any lo hi ao c n xs w hx h0 hn)
  have hne : xs ≠ [] := fun e => by have := hx.1; rw [e] at this; simp at this; omega
  have hb2 := hb _ (maxL_mem hne)
  obtain ⟨q, hq⟩ : ∃ q, maxL xs = q := ⟨_, rfl⟩
  rw [hq] at HM hb2 ⊢
  obtain ⟨hb3, hb4⟩ := hb2
  clear hx hne hb hq
  go_enter Try.func80, Try.ntmps80
  go_wp2_with fail
  refine HM.out.mono ?_
  rintro e w' ⟨rfl, rfl⟩
  go_wp2_with fail
  all_goals
    go_ret
    exact ⟨by first | rfl | (exact ret_int (by omega)) | (exact ret_int (by rw [Int.max_def]; split <;> omega)), rfl⟩

theorem valueT_any (lo hi lo2 hi2 lo3 hi3 : Nat) (z : Int) (ao bo vo : Option Addr) (n c m d nv cv : Nat) (fs : List OpD) (xs vs : List Int) (w : World) (hv : OView w lo hi ao n fs) (hhi : hi ≤ w.heap.size) (hok : algOkB z fs = true)
    (hx : IView w lo2 hi2 bo m xs) (hhi2 : hi2 ≤ w.heap.size) (hvs : IView w lo3 hi3 vo nv vs) (hhi3 : hi3 ≤ w.heap.size) (h60 : xs.length ≤ 60) (hend : endA fs xs 0 = some xs.length) (hvok : allIn z vs = true) (hfit : ∀ x, x ∈ xs → x < (nv : Int)) :
    Calls Try.prog 86 #[.agg #[.int .i64 z, .slice ao n c], .slice bo m d, .slice vo nv cv] w fun e w' => e = .returned (.int .i64 (evT z fs vs xs)) ∧ Below w.heap.size w w' := by
  have hmf : ∀ (fn : Fn) (first cap : Array Value) (w : World), (Instr.makeFunc fn first cap).run Try.prog w = .ok (.func fn first cap) w := fun _ _ _ _ => rfl
  have hB := below_then (below_alloc w (.cells #[.int .i64 z, .slice ao n c] 30)) (below_alloc _ (.cells #[.slice vo nv cv] 25))
  have HB := Lib.hid hB
  have HF := Lib.hid (fold_any lo hi lo2 hi2 lo3 hi3 z ao bo vo n c m d nv cv w.heap.size (w.heap.size + 1) fs xs vs _ (hv.kept (Kept.of_below hB hhi)) (Nat.le_trans hhi hB.size) hok (hx.kept (Kept.of_below hB hhi2)) (Nat.le_trans hhi2 hB.size) (hvs.kept (Kept.of_below hB hhi3)) (Nat.le_trans hhi3 hB.size) h60 hend hvok hfit (by go_simp) (by go_simp) (by go_simp))
  obtain ⟨q, hq⟩ : ∃ q, evT z fs vs xs = q := ⟨_, rfl⟩
  rw [hq] at HF ⊢
  clear hB hv hok hx hvs h60 hend hvok hfit hq
  go_enter Try.func86, Try.ntmps86
  go_wp2_with fail
  refine HF.out.mono ?_
  rintro e w1 ⟨rfl, b1⟩
  have HB1 := Lib.hid (HB.out.trans (b1.mono HB.out.size))
  clear b1
  go_wp2_with fail
  go_ret
  exact ⟨rfl, HB1.out⟩

/-- What EvalTerm tells. -/
def fitsB (xs : List Int) (k : Int) : Bool := xs.all fun x => decide (x < k)
def evalB (z : Int) (fs : List OpD) (xs vs : List Int) : Bool := isTermB z fs xs && (decide (vs.length ≤ 6) && (allIn z vs && fitsB xs vs.length))
def valEvalTerm (z : Int) (fs : List OpD) (xs vs : List Int) : Int × Bool := if evalB z fs xs vs then (evT z fs vs xs, true) else (0, false)
theorem fits_max {xs : List Int} {k : Nat} (h : xs ≠ []) : fitsB xs k = decide (max (maxL xs + 1) 0 ≤ (k : Int)) := by
  rw [Bool.eq_iff_iff]
  unfold fitsB
  rw [List.all_eq_true, decide_eq_true_eq]
  constructor
  · intro h1
    have h2 := h1 _ (maxL_mem h)
    simp only [decide_eq_true_eq] at h2
    omega
  · intro h1 x hx
    have := maxL_ge hx
    simp only [decide_eq_true_eq]
    omega
end

section
open Go.RowKit
set_option linter.unusedVariables false
set_option linter.unusedSimpArgs false

theorem powI_bd6 {z : Int} (h1 : 1 ≤ z) (h2 : z ≤ 8) {k : Nat} (hk : k ≤ 6) : 1 ≤ powI z k ∧ powI z k ≤ 262144 := by
  have h3 : z = 1 ∨ z = 2 ∨ z = 3 ∨ z = 4 ∨ z = 5 ∨ z = 6 ∨ z = 7 ∨ z = 8 := by omega
  have h4 : k = 0 ∨ k = 1 ∨ k = 2 ∨ k = 3 ∨ k = 4 ∨ k = 5 ∨ k = 6 := by omega
  rcases h3 with rfl | rfl | rfl | rfl | rfl | rfl | rfl | rfl <;> rcases h4 with rfl | rfl | rfl | rfl | rfl | rfl | rfl <;> simp [powI]
theorem rep_set {j : Nat} {x : Int} {tail : List Int} : (List.replicate (j + 1) (0 : Int) ++ tail).set j x = List.replicate j (0 : Int) ++ (x :: tail) := by
  rw [List.replicate_succ', List.append_assoc, List.set_append_right _ _ (by simp)]
  simp

theorem pow6_any (z : Int) (r : Nat) (w : World) (h1 : 1 ≤ z) (h2 : z ≤ 8) (hr : r ≤ 6) :
    Calls Try.prog 111 #[.int .i64 z, .int .i64 (r : Int)] w fun e w' => e = .returned (.int .i64 (powI z r)) ∧ w = w' := by
  go_enter Try.func111, Try.ntmps111
  go_wp2
  go_loop [1, 5] (fun k p => ∃ (i j : Nat) (v : Int), i + j = r ∧ k = .int .i64 (j : Int) ∧ p = .int .i64 v ∧ Hid (v = powI z i) ∧ 1 ≤ v ∧ v ≤ 262144) (fun k _ => (intOf k).toNat)
  case atStart => exact ⟨0, r, 1, by omega, rfl, rfl, rfl, by omega, by omega⟩
  case round =>
    obtain ⟨i, j, v, hij, rfl, rfl, HV, hv1, hv2⟩ := hrel
    rcases Nat.eq_zero_or_pos j with hj | hj
    · subst hj
      go_wp2
      go_ret
      exact ⟨ret_int (by rw [HV.out, show i = r by omega]), rfl⟩
    · have hb := powI_bd6 h1 h2 (k := i + 1) (by omega)
      have hm : powI z (i + 1) = v * z := by rw [powI, HV.out]
      rw [hm] at hb
      have hb1 := hb.1
      have hb2 := hb.2
      have HM := Lib.hid hm
      clear hb hm
      go_wp2
      go_round
      case rel => exact ⟨i + 1, j - 1, v * z, by omega, by go_num, rfl, HM.out.symm, hb1, hb2⟩
      case measure => simp [intOf]; omega

theorem len6_any (z : Int) (r : Nat) (w : World) (h1 : 1 ≤ z) (h2 : z ≤ 8) (hr : r ≤ 6) :
    Calls Try.prog 88 #[.int .i64 z, .int .i64 (r : Int)] w fun e w' => e = .returned (.int .i64 (powI z r)) ∧ w = w' := by
  go_enter Try.func88, Try.ntmps88
  go_wp2
  go_loop [5, 7] (fun p k => ∃ (i : Nat) (v : Int), i ≤ r ∧ k = .int .i64 (i : Int) ∧ p = .int .i64 v ∧ Hid (v = powI z i) ∧ 1 ≤ v ∧ v ≤ 262144) (fun _ k => r - (intOf k).toNat)
  case atStart => exact ⟨0, 1, by omega, rfl, rfl, rfl, by omega, by omega⟩
  case round =>
    obtain ⟨i, v, hij, rfl, rfl, HV, hv1, hv2⟩ := hrel
    by_cases hlt : i < r
    · have hb := powI_bd6 h1 h2 (k := i + 1) (by omega)
      have hm : powI z (i + 1) = v * z := by rw [powI, HV.out]
      rw [hm] at hb
      have hb1 := hb.1
      have hb2 := hb.2
      have HM := Lib.hid hm
      clear hb hm
      go_wp2
      go_round
      case rel => exact ⟨i + 1, v * z, by omega, by go_num, rfl, HM.out.symm, hb1, hb2⟩
      case measure => simp [intOf]; omega
    · go_wp2
      go_ret
      exact ⟨ret_int (by rw [HV.out, show i = r by omega]), rfl⟩

set_option maxHeartbeats 1000000 in
theorem args6_impl (z at_ : Int) (m : Nat) (hm : m ≤ 6) (w : World) (hz1 : 1 ≤ z) (hz2 : z ≤ 8) (h0 : 0 ≤ at_) (h1 : at_ ≤ 262144) :
    Calls Try.prog 89 #[.int .i64 z, .int .i64 (m : Int), .int .i64 at_] w fun e w' => e = .returned (.slice (some ⟨w.heap.size, 0, none⟩) m m) ∧ w'.ownsRow w.heap.size 3 1 (.slice (some ⟨w.heap.size, 0, none⟩) m m) m ((digs z m at_).map (Value.int .i64)) ∧ Below w.heap.size w w' := by
  obtain ⟨w2, hmk, ho2, hb2⟩ := make_ints w m (by omega)
  obtain ⟨B, hB⟩ : ∃ B : Nat, B = w.heap.size := ⟨_, rfl⟩
  rw [← hB] at hmk ho2 hb2 ⊢
  have HB2 := Lib.hid hb2
  have HO2 : Hid (w2.ownsRow B 3 1 (.slice (some ⟨B, 0, none⟩) m m) m ((List.replicate m (0 : Int) ++ []).map (Value.int .i64))) := by unfold Hid; rw [List.append_nil]; exact ho2
  have HD : Hid (digs z m at_ = digs z m at_ ++ []) := by unfold Hid; rw [List.append_nil]
  have hbw : B ≤ w.heap.size := by omega
  clear hB ho2 hb2
  go_enter Try.func89, Try.ntmps89
  go_wp2
  go_loopw [2, 8] (fun a i wr => ∃ (j : Nat) (cur : Int) (tail : List Int), j ≤ m ∧ a = .int .i64 cur ∧ i = .int .i64 ((j : Int) - 1) ∧ 0 ≤ cur ∧ cur ≤ 262144 ∧ Hid (digs z m at_ = digs z j cur ++ tail) ∧ Hid (wr.ownsRow B 3 1 (.slice (some ⟨B, 0, none⟩) m m) m ((List.replicate j (0 : Int) ++ tail).map (Value.int .i64))) ∧ Hid (Below B w wr)) (fun _ i _ => (intOf i + 1).toNat)
  case atStart => exact ⟨m, at_, [], Nat.le_refl _, rfl, by first | rfl | (congr 1; omega), h0, h1, HD, HO2, HB2⟩
  case round =>
    obtain ⟨j, cur, tail, hj, rfl, rfl, hc0, hc1, HDj, HOj, HBj⟩ := hrel
    clear HD HO2 HB2
    cases j with
    | zero =>
      have e0 : (((0 : Nat) : Int) - 1) = -1 := by omega
      rw [e0]
      clear e0
      have hO := HOj.out
      rw [List.replicate_zero, List.nil_append] at hO
      have hD := HDj.out
      rw [digs, List.nil_append] at hD
      rw [← hD] at hO
      have HO := Lib.hid hO
      clear hO hD
      go_wp2
      go_ret
      exact ⟨rfl, HO.out, HBj.out⟩
    | succ j =>
      have e1 : (((j + 1 : Nat) : Int) - 1) = (j : Int) := by omega
      rw [e1]
      clear e1
      obtain ⟨d0, d1⟩ := digs_bd hz1 hc0
      have hzp : 0 < z := by omega
      have hjm : (j : Int) < (m : Int) := by omega
      have hjm' : j < m := by omega
      have hem0 := Int.emod_nonneg cur (show z ≠ 0 by omega)
      have hem1 := Int.emod_lt_of_pos cur hzp
      have hlen := HOj.out.1
      obtain ⟨u, hu⟩ : ∃ u, wr.cell? ⟨B, j, none⟩ = some u := by
        rw [HOj.out.cellAt j (by omega)]
        exact ⟨_, List.getElem?_eq_getElem (by omega)⟩
      have hfr := HOj.out.frozenAt j
      have hst := HOj.out.stored j (.int .i64 (cur % z))
      rw [← List.map_set, rep_set] at hst
      have HST := Lib.hid hst
      have HD' : Hid (digs z m at_ = digs z j (cur / z) ++ ((cur % z) :: tail)) := by unfold Hid; rw [HDj.out, digs, List.append_assoc]; rfl
      clear hst hlen
      go_wp2
      go_roundw
      case rel => exact ⟨j, cur / z, (cur % z) :: tail, by omega, by go_num, by go_num, d0, by omega, HD', HST.out.1, HBj.out.grown HST.out.2 (by have := HBj.out.size; omega) (by intro b hb; cases hb; exact Nat.le_refl _)⟩
      case measure => (simp [intOf]) <;> omega

set_option maxHeartbeats 1000000 in
theorem args6_spec (z at_ : Int) (m : Nat) (hm : m ≤ 6) (w : World) (hz1 : 1 ≤ z) (hz2 : z ≤ 8) (h0 : 0 ≤ at_) (h1 : at_ ≤ 262144) :
    Calls Try.prog 112 #[.int .i64 z, .int .i64 (m : Int), .int .i64 at_] w fun e w' => e = .returned (.slice (some ⟨w.heap.size, 0, none⟩) m m) ∧ w'.ownsRow w.heap.size 3 1 (.slice (some ⟨w.heap.size, 0, none⟩) m m) m ((digs z m at_).map (Value.int .i64)) ∧ Below w.heap.size w w' := by
  obtain ⟨w2, hmk, ho2, hb2⟩ := make_ints w m (by omega)
  obtain ⟨B, hB⟩ : ∃ B : Nat, B = w.heap.size := ⟨_, rfl⟩
  rw [← hB] at hmk ho2 hb2 ⊢
  have HB2 := Lib.hid hb2
  have HO2 : Hid (w2.ownsRow B 3 1 (.slice (some ⟨B, 0, none⟩) m m) m ((List.replicate m (0 : Int) ++ []).map (Value.int .i64))) := by unfold Hid; rw [List.append_nil]; exact ho2
  have HD : Hid (digs z m at_ = digs z m at_ ++ []) := by unfold Hid; rw [List.append_nil]
  have hbw : B ≤ w.heap.size := by omega
  clear hB ho2 hb2
  go_enter Try.func112, Try.ntmps112
  go_wp2
  go_loopw [2, 8] (fun a i wr => ∃ (j : Nat) (cur : Int) (tail : List Int), j ≤ m ∧ a = .int .i64 cur ∧ i = .int .i64 ((j : Int) - 1) ∧ 0 ≤ cur ∧ cur ≤ 262144 ∧ Hid (digs z m at_ = digs z j cur ++ tail) ∧ Hid (wr.ownsRow B 3 1 (.slice (some ⟨B, 0, none⟩) m m) m ((List.replicate j (0 : Int) ++ tail).map (Value.int .i64))) ∧ Hid (Below B w wr)) (fun _ i _ => (intOf i + 1).toNat)
  case atStart => exact ⟨m, at_, [], Nat.le_refl _, rfl, by first | rfl | (congr 1; omega), h0, h1, HD, HO2, HB2⟩
  case round =>
    obtain ⟨j, cur, tail, hj, rfl, rfl, hc0, hc1, HDj, HOj, HBj⟩ := hrel
    clear HD HO2 HB2
    cases j with
    | zero =>
      have e0 : (((0 : Nat) : Int) - 1) = -1 := by omega
      rw [e0]
      clear e0
      have hO := HOj.out
      rw [List.replicate_zero, List.nil_append] at hO
      have hD := HDj.out
      rw [digs, List.nil_append] at hD
      rw [← hD] at hO
      have HO := Lib.hid hO
      clear hO hD
      go_wp2
      go_ret
      exact ⟨rfl, HO.out, HBj.out⟩
    | succ j =>
      have e1 : (((j + 1 : Nat) : Int) - 1) = (j : Int) := by omega
      rw [e1]
      clear e1
      obtain ⟨d0, d1⟩ := digs_bd hz1 hc0
      have hzp : 0 < z := by omega
      have hjm : (j : Int) < (m : Int) := by omega
      have hjm' : j < m := by omega
      have hem0 := Int.emod_nonneg cur (show z ≠ 0 by omega)
      have hem1 := Int.emod_lt_of_pos cur hzp
      have hlen := HOj.out.1
      obtain ⟨u, hu⟩ : ∃ u, wr.cell? ⟨B, j, none⟩ = some u := by
        rw [HOj.out.cellAt j (by omega)]
        exact ⟨_, List.getElem?_eq_getElem (by omega)⟩
      have hfr := HOj.out.frozenAt j
      have hst := HOj.out.stored j (.int .i64 (cur % z))
      rw [← List.map_set, rep_set] at hst
      have HST := Lib.hid hst
      have HD' : Hid (digs z m at_ = digs z j (cur / z) ++ ((cur % z) :: tail)) := by unfold Hid; rw [HDj.out, digs, List.append_assoc]; rfl
      clear hst hlen
      go_wp2
      go_roundw
      case rel => exact ⟨j, cur / z, (cur % z) :: tail, by omega, by go_num, by go_num, d0, by omega, HD', HST.out.1, HBj.out.grown HST.out.2 (by have := HBj.out.size; omega) (by intro b hb; cases hb; exact Nat.le_refl _)⟩
      case measure => (simp [intOf]) <;> omega
end

section
open Go.RowKit
set_option linter.unusedVariables false
set_option linter.unusedSimpArgs false

/-- Values put at places, one after another. -/
def putVs : List Int → List Int → List Int → List Int
  | acc, v :: vs, d :: ds => putVs (acc.set v.toNat d) vs ds
  | acc, _, _ => acc
def lkV : List Int → List Int → Nat → Option Int
  | v :: vs, d :: ds, i => match lkV vs ds i with
    | some x => some x
    | none => if v.toNat = i then some d else none
  | _, _, _ => none
theorem putVs_len : ∀ (vs ds acc : List Int), (putVs acc vs ds).length = acc.length
  | [], _, _ => rfl
  | _ :: _, [], _ => rfl
  | v :: vs, d :: ds, acc => by rw [putVs, putVs_len]; simp
theorem putVs_get : ∀ (vs ds acc : List Int) (i : Nat), i < acc.length → (putVs acc vs ds)[i]? = match lkV vs ds i with | some x => some x | none => acc[i]?
  | [], _, _, _, _ => by simp [putVs, lkV]
  | _ :: _, [], _, _, _ => by simp [putVs, lkV]
  | v :: vs, d :: ds, acc, i, h => by
    rw [putVs, putVs_get vs ds _ i (by simpa using h), lkV]
    cases hl : lkV vs ds i with
    | some x => rfl
    | none =>
      dsimp only
      rw [List.getElem?_set]
      by_cases hv : v.toNat = i
      · simp [hv, h]
      · simp [hv]
theorem lkV_same : ∀ (vs ds es : List Int) (i : Nat), ds.length = vs.length → es.length = vs.length → (lkV vs ds i).isSome = (lkV vs es i).isSome
  | [], _, _, _, _, _ => by simp [lkV]
  | v :: vs, [], _, _, h, _ => by simp at h
  | v :: vs, d :: ds, [], _, _, h => by simp at h
  | v :: vs, d :: ds, e :: es, i, h1, h2 => by
    have ih := lkV_same vs ds es i (by simpa using h1) (by simpa using h2)
    simp only [lkV]
    cases hd : lkV vs ds i <;> cases he : lkV vs es i <;> rw [hd, he] at ih <;> simp at ih ⊢
    split <;> rfl
/-- What was put before at the same places does not matter. -/
theorem putVs_again (acc vs ds es : List Int) (h1 : ds.length = vs.length) (h2 : es.length = vs.length) : putVs (putVs acc vs ds) vs es = putVs acc vs es := by
  apply List.ext_getElem?
  intro i
  by_cases hi : i < acc.length
  · rw [putVs_get vs es (putVs acc vs ds) i (by rw [putVs_len]; exact hi), putVs_get vs es acc i hi]
    cases he : lkV vs es i with
    | some x => rfl
    | none =>
      have := lkV_same vs ds es i h1 h2
      rw [he] at this
      dsimp only
      rw [putVs_get vs ds acc i hi]
      cases hd : lkV vs ds i with
      | some x => rw [hd] at this; simp at this
      | none => rfl
  · rw [List.getElem?_eq_none (by rw [putVs_len, putVs_len]; omega), List.getElem?_eq_none (by rw [putVs_len]; omega)]
theorem putVs_succ : ∀ (vs ds acc : List Int) (k : Nat) (v d : Int), vs[k]? = some v → ds[k]? = some d → putVs acc (vs.take (k + 1)) (ds.take (k + 1)) = (putVs acc (vs.take k) (ds.take k)).set v.toNat d
  | [], _, _, k, v, d, h, _ => by simp at h
  | _ :: _, [], _, k, v, d, _, h => by simp at h
  | v0 :: vs, d0 :: ds, acc, 0, v, d, h1, h2 => by
    simp at h1 h2; subst h1; subst h2
    simp [putVs]
  | v0 :: vs, d0 :: ds, acc, k + 1, v, d, h1, h2 => by
    rw [List.take_succ_cons, List.take_succ_cons, putVs, putVs_succ vs ds _ k v d (by simpa using h1) (by simpa using h2), List.take_succ_cons, List.take_succ_cons, putVs]
theorem putVs_zero (acc vs ds : List Int) : putVs acc (vs.take 0) (ds.take 0) = acc := by simp [putVs]
theorem putVs_all {acc vs ds : List Int} {k : Nat} (h1 : vs.length ≤ k) (h2 : ds.length ≤ k) : putVs acc (vs.take k) (ds.take k) = putVs acc vs ds := by
  rw [List.take_of_length_le h1, List.take_of_length_le h2]
theorem allIn_set {z : Int} {xs : List Int} {k : Nat} {x : Int} (h : allIn z xs = true) (h0 : 0 ≤ x ∧ x < z) : allIn z (xs.set k x) = true := by
  unfold allIn at h ⊢
  rw [List.all_eq_true] at h ⊢
  intro y hy
  rcases List.mem_or_eq_of_mem_set hy with h1 | h1
  · exact h y h1
  · subst h1; simpa using h0
theorem putVs_in {z : Int} : ∀ (vs ds acc : List Int), allIn z acc = true → allIn z ds = true → allIn z (putVs acc vs ds) = true
  | [], _, _, h, _ => h
  | _ :: _, [], _, h, _ => h
  | v :: vs, d :: ds, acc, h, hd => by
    rw [putVs]
    have h1 : (0 ≤ d ∧ d < z) ∧ allIn z ds = true := by
      unfold allIn at hd ⊢
      simpa using hd
    exact putVs_in vs ds _ (allIn_set h h1.1) h1.2
theorem allIn_rep {z : Int} (hz : 1 ≤ z) (n : Nat) : allIn z (List.replicate n 0) = true := by
  unfold allIn
  rw [List.all_eq_true]
  intro y hy
  have := List.eq_of_mem_replicate hy
  subst this
  simp; omega

/-- How many values, from the variable 0 on, are enough. -/
def needN (zs : List Int) : Nat := if zs.contains 5 then 6 else if zs.contains 4 then 5 else if zs.contains 3 then 4 else if zs.contains 2 then 3 else if zs.contains 1 then 2 else if zs.contains 0 then 1 else 0
theorem needN_le (zs : List Int) : needN zs ≤ 6 := by
  unfold needN
  repeat' split
  all_goals omega
theorem need_last (zs : List Int) : ((varsL zs).length = 0 ∧ needN zs = 0) ∨ (∃ q : Nat, (varsL zs)[(varsL zs).length - 1]? = some (q : Int) ∧ needN zs = q + 1 ∧ 0 < (varsL zs).length) := by
  unfold varsL needN
  rw [show List.range 6 = [0, 1, 2, 3, 4, 5] from rfl]
  simp only [List.map_cons, List.map_nil, List.filter_cons, List.filter_nil]
  rw [show ((0 : Nat) : Int) = 0 from rfl, show ((1 : Nat) : Int) = 1 from rfl, show ((2 : Nat) : Int) = 2 from rfl, show ((3 : Nat) : Int) = 3 from rfl, show ((4 : Nat) : Int) = 4 from rfl, show ((5 : Nat) : Int) = 5 from rfl]
  generalize zs.contains 0 = b0
  generalize zs.contains 1 = b1
  generalize zs.contains 2 = b2
  generalize zs.contains 3 = b3
  generalize zs.contains 4 = b4
  generalize zs.contains 5 = b5
  cases b5 <;> cases b4 <;> cases b3 <;> cases b2 <;> cases b1 <;> cases b0 <;> first
    | exact Or.inl ⟨rfl, rfl⟩
    | exact Or.inr ⟨0, rfl, rfl, by decide⟩
    | exact Or.inr ⟨1, rfl, rfl, by decide⟩
    | exact Or.inr ⟨2, rfl, rfl, by decide⟩
    | exact Or.inr ⟨3, rfl, rfl, by decide⟩
    | exact Or.inr ⟨4, rfl, rfl, by decide⟩
    | exact Or.inr ⟨5, rfl, rfl, by decide⟩
theorem need_fit {zs : List Int} {x : Int} (hx : x ∈ zs) (h6 : x < 6) : x < (needN zs : Int) := by
  by_cases h0 : x < 0
  · omega
  · have hc : zs.contains x = true := List.contains_iff_mem.2 hx
    have h : x = 0 ∨ x = 1 ∨ x = 2 ∨ x = 3 ∨ x = 4 ∨ x = 5 := by omega
    unfold needN
    rcases h with rfl | rfl | rfl | rfl | rfl | rfl <;> (simp only [hc]; (repeat' split) <;> simp_all)
theorem need_mem {zs : List Int} (h : 0 < needN zs) : ((needN zs : Int) - 1) ∈ zs := by
  unfold needN at h ⊢
  have hm : ∀ x : Int, zs.contains x = true → x ∈ zs := fun x hx => List.contains_iff_mem.1 hx
  repeat' split
  all_goals first
    | (rename_i h_; exact hm _ h_)
    | (simp_all; done)
theorem vars_need {zs : List Int} {v : Int} (h : v ∈ varsL zs) : 0 ≤ v ∧ v < 6 ∧ v ∈ zs := by
  unfold varsL at h
  rw [List.mem_filter] at h
  obtain ⟨h1, h2⟩ := h
  obtain ⟨j, hj, rfl⟩ := List.mem_map.1 h1
  have := List.mem_range.1 hj
  exact ⟨by omega, by omega, List.contains_iff_mem.1 h2⟩
theorem need_max {xs ys : List Int} (h1 : xs ≠ []) (h2 : ys ≠ []) (hb1 : ∀ x, x ∈ xs → x < 6) (hb2 : ∀ x, x ∈ ys → x < 6) : max (max (maxL xs + 1) 0) (max (maxL ys + 1) 0) = (needN (xs ++ ys) : Int) := by
  have f1 := need_fit (zs := xs ++ ys) (List.mem_append_left ys (maxL_mem h1)) (hb1 _ (maxL_mem h1))
  have f2 := need_fit (zs := xs ++ ys) (List.mem_append_right xs (maxL_mem h2)) (hb2 _ (maxL_mem h2))
  rcases Nat.eq_zero_or_pos (needN (xs ++ ys)) with h0 | h0
  · omega
  · have hm := need_mem h0
    rcases List.mem_append.1 hm with h | h
    · have := maxL_ge h; omega
    · have := maxL_ge h; omega

/-- The values at a number: those of the variables are its digits. -/
def cntV (z : Int) (zs : List Int) (at_ : Nat) : List Int := putVs (List.replicate (needN zs) 0) (varsL zs) (digs z (varsL zs).length (at_ : Int))
theorem cntV_len (z : Int) (zs : List Int) (at_ : Nat) : (cntV z zs at_).length = needN zs := by unfold cntV; rw [putVs_len]; simp
theorem cntV_in {z : Int} (hz : 1 ≤ z) (zs : List Int) (at_ : Nat) : allIn z (cntV z zs at_) = true := putVs_in _ _ _ (allIn_rep hz _) (digs_in hz _ _)
theorem cntV_again (z : Int) (zs : List Int) (i j : Nat) : putVs (cntV z zs i) (varsL zs) (digs z (varsL zs).length (j : Int)) = cntV z zs j := putVs_again _ _ _ _ (digs_len _ _ _) (digs_len _ _ _)

/-- The first number below n that has a property. -/
def firstN (P : Nat → Bool) : Nat → Option Nat
  | 0 => none
  | n + 1 => match firstN P n with
    | some k => some k
    | none => if P n then some n else none
theorem firstN_none {P : Nat → Bool} : ∀ {n : Nat}, (∀ i, i < n → P i = false) → firstN P n = none
  | 0, _ => rfl
  | n + 1, h => by rw [firstN, firstN_none (fun i hi => h i (by omega)), h n (by omega)]; rfl
theorem firstN_some {P : Nat → Bool} {j : Nat} (h : ∀ i, i < j → P i = false) (hj : P j = true) : ∀ {n : Nat}, j < n → firstN P n = some j
  | 0, hn => by omega
  | n + 1, hn => by
    rw [firstN]
    by_cases hjn : j = n
    · subst hjn; rw [firstN_none h, hj]; rfl
    · rw [firstN_some h hj (by omega)]

/-- Whether the values at a number refute an identity. -/
def badB (z : Int) (fs : List OpD) (xs ys : List Int) (at_ : Nat) : Bool := evT z fs (cntV z (xs ++ ys) at_) xs != evT z fs (cntV z (xs ++ ys) at_) ys
def cntR (z : Int) (fs : List OpD) (xs ys : List Int) : List Int × Bool :=
  match firstN (badB z fs xs ys) (powI z (varsL (xs ++ ys)).length).toNat with
  | some k => (cntV z (xs ++ ys) k, true)
  | none => ([], false)
theorem cntR_some {z : Int} {fs : List OpD} {xs ys : List Int} {j p : Nat} (hp : powI z (varsL (xs ++ ys)).length = (p : Int)) (h : ∀ i, i < j → badB z fs xs ys i = false) (hj : badB z fs xs ys j = true) (hn : j < p) : cntR z fs xs ys = (cntV z (xs ++ ys) j, true) := by
  unfold cntR
  rw [hp, Int.toNat_natCast, firstN_some h hj hn]
theorem cntR_none {z : Int} {fs : List OpD} {xs ys : List Int} {p : Nat} (hp : powI z (varsL (xs ++ ys)).length = (p : Int)) (h : ∀ i, i < p → badB z fs xs ys i = false) : cntR z fs xs ys = ([], false) := by
  unfold cntR
  rw [hp, Int.toNat_natCast, firstN_none h]
/-- Whether an identity can be checked. -/
def askB (z : Int) (fs : List OpD) (xs ys : List Int) : Bool := (algOkB z fs && (termB fs xs && termB fs ys)) && decide (powI z (varsL (xs ++ ys)).length ≤ 5000)
def valFirstCounter (z : Int) (fs : List OpD) (xs ys : List Int) : List Int × Bool := if askB z fs xs ys then cntR z fs xs ys else ([], false)
def valDoesHold (z : Int) (fs : List OpD) (xs ys : List Int) : Bool × Bool := if askB z fs xs ys then (!(cntR z fs xs ys).2, true) else (false, false)
theorem cntR_len (z : Int) (fs : List OpD) (xs ys : List Int) : (cntR z fs xs ys).1.length ≤ 6 := by
  unfold cntR
  split
  · rw [cntV_len]; exact needN_le _
  · simp
theorem smallFirstCounter (z : Int) (fs : List OpD) (xs ys : List Int) : (valFirstCounter z fs xs ys).1.length ≤ 4194304 := by
  unfold valFirstCounter
  split
  · have := cntR_len z fs xs ys; omega
  · simp
end

section
open Go.RowKit
set_option linter.unusedVariables false
set_option linter.unusedSimpArgs false
attribute [local go_sem ↓] Go.wp_at_zero Go.wp_at_succ

theorem cells_add {W : World} {b o : Nat} {ys : List Int} (h : ∀ j y, ys[j]? = some y → W.cell? ⟨b, o + j, none⟩ = some (.int .i64 y)) : ∀ j y, ys[j]? = some y → W.cell? ((⟨b, o, none⟩ : Addr).add j) = some (.int .i64 y) := fun j y hj => by
  have h1 := h j y hj
  by_cases hj0 : j = 0
  · subst hj0; rw [Nat.add_zero] at h1; simpa [Addr.add] using h1
  · simpa [Addr.add, hj0] using h1

/-- Whether two terms can be checked for an identity. -/
def askT (z : Int) (fs : List OpD) (xs ys : List Int) : Bool := (termB fs xs && termB fs ys) && decide (powI z (varsL (xs ++ ys)).length ≤ 5000)

set_option maxRecDepth 100000 in
set_option maxHeartbeats 4000000 in
theorem l3Asked_any (lo hi : Nat) (z : Int) (ao : Option Addr) (c n : Nat) (fs : List OpD) (lo2 hi2 : Nat) (bo : Option Addr) (d m : Nat) (xs : List Int) (lo3 hi3 : Nat) (co : Option Addr) (d2 m2 : Nat) (ys : List Int) (w : World) (hv : OView w lo hi ao n fs) (hhi : hi ≤ w.heap.size) (hok : algOkB z fs = true)
    (hx : IView w lo2 hi2 bo m xs) (hhi2 : hi2 ≤ w.heap.size) (hmd : m ≤ d) (hm : d ≤ maxLen)
    (hy : IView w lo3 hi3 co m2 ys) (hhi3 : hi3 ≤ w.heap.size) (hmd2 : m2 ≤ d2) (hm2 : d2 ≤ maxLen) :
    Calls Try.prog 94 #[.agg #[.int .i64 z, .slice ao n c], .agg #[.slice bo m d, .slice co m2 d2]] w fun e w' => e = .returned (.bool (askT z fs xs ys)) ∧ Below w.heap.size w w' := by
  have HG1 := fun (W : World) (hb : Below w.heap.size w W) => l3Good_any lo hi lo2 hi2 z ao bo c n d m fs xs W (hv.kept (Kept.of_below hb hhi)) (Nat.le_trans hhi hb.size) hok (hx.kept (Kept.of_below hb hhi2)) (Nat.le_trans hhi2 hb.size) (Nat.le_trans hmd hm)
  have HG2 := fun (W : World) (hb : Below w.heap.size w W) => l3Good_any lo hi lo3 hi3 z ao co c n d2 m2 fs ys W (hv.kept (Kept.of_below hb hhi)) (Nat.le_trans hhi hb.size) hok (hy.kept (Kept.of_below hb hhi3)) (Nat.le_trans hhi3 hb.size) (Nat.le_trans hmd2 hm2)
  have HB := Lib.hid (below_then (below_alloc w (.cells #[.int .i64 z, .slice ao n c] 30)) (below_alloc _ (.cells #[.slice bo m d, .slice co m2 d2] 64)))
  obtain ⟨r, hr⟩ : ∃ r, termB fs xs = r := ⟨_, rfl⟩
  obtain ⟨s, hs⟩ : ∃ s, termB fs ys = s := ⟨_, rfl⟩
  unfold askT
  simp only [hr] at HG1 ⊢
  simp only [hs] at HG2 ⊢
  have HG1 := Lib.hid HG1
  have HG2 := Lib.hid HG2
  cases r with
  | false =>
    simp only [Bool.false_and]
    clear hv hx hy hr hs
    go_enter Try.func94, Try.ntmps94
    go_wp2_with fail
    refine (HG1.out _ HB.out).mono ?_
    rintro e w1 ⟨rfl, b1⟩
    have HB1 := Lib.hid (HB.out.trans (b1.mono HB.out.size))
    clear b1
    go_wp2_with fail
    go_ret
    exact ⟨rfl, HB1.out⟩
  | true =>
    cases s with
    | false =>
      simp only [Bool.and_false, Bool.false_and]
      clear hv hx hy hr hs
      go_enter Try.func94, Try.ntmps94
      go_wp2_with fail
      refine (HG1.out _ HB.out).mono ?_
      rintro e w1 ⟨rfl, b1⟩
      have cz1 : w1.cell? ⟨w.heap.size, 0, none⟩ = some (.int .i64 z) := cell_b b1 (by go_simp)
      have ca1 : w1.cell? ⟨w.heap.size, 1, none⟩ = some (.slice ao n c) := cell_b b1 (by go_simp)
      have cj1 : w1.cell? ⟨w.heap.size + 1, 1, none⟩ = some (.slice co m2 d2) := cell_b b1 (by go_simp)
      have HB1 := Lib.hid (HB.out.trans (b1.mono HB.out.size))
      clear b1
      go_wp2_with fail
      refine (HG2.out _ HB1.out).mono ?_
      rintro e w2 ⟨rfl, b2⟩
      have HB2 := Lib.hid (HB1.out.trans (b2.mono HB1.out.size))
      clear b2
      go_wp2_with fail
      go_ret
      exact ⟨rfl, HB2.out⟩
    | true =>
      simp only [Bool.and_self, Bool.true_and]
      obtain ⟨_, h60, hend⟩ := isTermB_of (show isTermB z fs xs = true by simp [isTermB, hok, hr])
      obtain ⟨_, h602, hend2⟩ := isTermB_of (show isTermB z fs ys = true by simp [isTermB, hok, hs])
      obtain ⟨hz1, hz2⟩ := (algOkB_of hok).1
      have hlt : ∀ x, x ∈ xs ++ ys → x < 6 := fun x hxx => by
        rcases List.mem_append.1 hxx with hxx | hxx
        · obtain ⟨j, hj⟩ := List.getElem?_of_mem hxx
          exact (term_lt hok hend hj).1
        · obtain ⟨j, hj⟩ := List.getElem?_of_mem hxx
          exact (term_lt hok hend2 hj).1
      have hlx := hx.1
      have hly := hy.1
      have hm0 : 0 < m := by have := term_pos hend; omega
      have hm20 : 0 < m2 := by have := term_pos hend2; omega
      have hm60 : m ≤ 60 := by omega
      have hm260 : m2 ≤ 60 := by omega
      obtain ⟨b, o, rfl, _, _, hcx⟩ := hx.at_ hm0
      obtain ⟨b', o', rfl, _, _, hcy⟩ := hy.at_ hm20
      have HOwn := Lib.hid (fun (W : World) (hb : Below w.heap.size w W) => own_part b o m d xs W hlx (fun j x hj => cell_b hb (hcx j x hj)) (by omega))
      have HCy := Lib.hid hcy
      have HLy := Lib.hid hly
      have hL6 := varsL_len (xs ++ ys)
      have hvf := varsF_eq hlt
      have HVs := fun (g k c : Nat) (W : World) (hr : W.ownsRow w.heap.size 3 1 (.slice (some ⟨g, 0, none⟩) k c) k ((xs ++ ys).map (Value.int .i64))) (hk : k ≤ 1048576) => l3Vars_any w.heap.size W.heap.size (some ⟨g, 0, none⟩) c k (xs ++ ys) W (OwnsInts.of_row hr).view (Nat.le_refl _) hk
      simp only [hvf] at HVs
      obtain ⟨L, hL⟩ : ∃ L, (varsL (xs ++ ys)).length = L := ⟨_, rfl⟩
      rw [hL] at hL6
      simp only [hL] at HVs ⊢
      have HVs := Lib.hid HVs
      have HPb := Lib.hid (fun (k : Nat) (hk : k ≤ L) => powI_bd6 hz1 hz2 (k := k) (by omega))
      clear hv hx hy hr hs hok hend hend2 hlt hcx hcy hvf hL hlx hly
      go_enter Try.func94, Try.ntmps94
      go_wp2_with fail
      refine (HG1.out _ HB.out).mono ?_
      rintro e w1 ⟨rfl, b1⟩
      have cz1 : w1.cell? ⟨w.heap.size, 0, none⟩ = some (.int .i64 z) := cell_b b1 (by go_simp)
      have ca1 : w1.cell? ⟨w.heap.size, 1, none⟩ = some (.slice ao n c) := cell_b b1 (by go_simp)
      have ci1 : w1.cell? ⟨w.heap.size + 1, 0, none⟩ = some (.slice (some ⟨b, o, none⟩) m d) := cell_b b1 (by go_simp)
      have cj1 : w1.cell? ⟨w.heap.size + 1, 1, none⟩ = some (.slice (some ⟨b', o', none⟩) m2 d2) := cell_b b1 (by go_simp)
      have HB1 := Lib.hid (HB.out.trans (b1.mono HB.out.size))
      clear b1
      go_wp2_with fail
      refine (HG2.out _ HB1.out).mono ?_
      rintro e w2 ⟨rfl, b2⟩
      have cz2 := cell_b b2 cz1
      have ci2 := cell_b b2 ci1
      have cj2 := cell_b b2 cj1
      have HB2 := Lib.hid (HB1.out.trans (b2.mono HB1.out.size))
      have hs2 := HB2.out.size
      clear b2 cz1 ca1 ci1 cj1
      go_wp2_with fail
      go_region_law ((first
        | (go_simp
           go_at_call 70
           refine (HOwn.out _ ?_).mono ?_
           exact below_then HB2.out (below_drew _)
           rintro e w3 ⟨g, dd, rfl, ho, b3⟩
           have B3 : Below w2.heap.size w2 w3 := below_then (below_drew _) b3
           have HO3 : Hid (w3.ownsRow w2.heap.size 3 1 (.slice (some ⟨g, 0, none⟩) m dd) m (xs.map (Value.int .i64))) := ho
           have cz3 := cell_b B3 cz2
           have cj3 := cell_b B3 cj2
           have hs3 := B3.size
           have HB3 := Lib.hid (below_then HB2.out B3)
           clear ho b3 B3)
        | (refine step_append_ints ?_ _ _ rfl w2.heap.size g m dd xs ?_ ?_ ⟨b', o', none⟩ m2 d2 ys ?_ HLy.out ?_ ?_ ?_ ?_
           (focus (rfl; done))
           (focus (rfl; done))
           (focus (exact HO3.out))
           (focus (rfl; done))
           (focus (exact cells_add (fun j y hj => cell_b HB3.out (HCy.out j y hj))))
           (focus (omega; done))
           (focus (omega; done))
           intro gC cC wC hC hgC hatC
           have hgl := (HO3.out.lt g rfl)
           have bC : Below w.heap.size w wC := HB3.out.grown hgC (by omega) (by intro q hq; cases hq; omega)
           have hwl : w.heap.size < w2.heap.size := World.block_lt_of_cell? w2 _ cz2
           have hwl3 : w.heap.size < w3.heap.size := World.block_lt_of_cell? w3 _ cz3
           have h_ := hgC.block w.heap.size hwl3 (by intro h_; injection h_ with h_; omega)
           have czC : wC.cell? ⟨w.heap.size, 0, none⟩ = some (.int .i64 z) := (show wC.cell? ⟨w.heap.size, 0, none⟩ = w3.cell? ⟨w.heap.size, 0, none⟩ by simp only [World.cell?, h_]).trans cz3
           have HOC := Lib.hid (ownsRow_base hC hs2)
           have HBC := Lib.hid bC
           clear hC hgC hatC bC hgl h_ hwl hwl3)
        | (go_simp
           go_at_call 66
           refine (HVs.out _ _ _ _ HOC.out (by omega)).mono ?_
           rintro e w5 ⟨gv, mv, dv, rfl, rfl, hov, b5⟩
           have cz5 := cell_b b5 czC
           have HB5 := Lib.hid (below_then HBC.out b5)
           clear hov b5)))
      all_goals
        go_wp2_with fail
        go_loop [6, 7] (fun v i => ∃ (j : Nat) (x : Int), j ≤ mv ∧ v = .int .i64 x ∧ i = .int .i64 (j : Int) ∧ Hid (x = powI z j) ∧ 1 ≤ x ∧ x ≤ 262144) (fun _ i => mv - (intOf i).toNat)
        case atStart => exact ⟨0, 1, by omega, rfl, rfl, rfl, by omega, by omega⟩
        case round =>
          obtain ⟨j, x, hj, rfl, rfl, HX, hx0, hx1⟩ := hrel
          by_cases hlt : j < mv
          · have hb := HPb.out (j + 1) (by omega)
            have hmm : powI z (j + 1) = x * z := by rw [powI, HX.out]
            rw [hmm] at hb
            obtain ⟨hb1, hb2⟩ := hb
            have HM := Lib.hid hmm
            have hjm : (j : Int) < (mv : Int) := by omega
            clear hmm
            go_wp2
            go_round
            case rel => exact ⟨j + 1, x * z, by omega, rfl, by go_num, HM.out.symm, hb1, hb2⟩
            case measure => (simp [intOf]) <;> omega
          · obtain rfl : j = mv := by omega
            go_wp2
            go_ret
            exact ⟨by first | rfl | (rw [← HX.out]; done) | (rw [← HX.out]; rfl) | (rw [← HX.out]; simp), HB5.out⟩
end

section
open Go.RowKit
set_option linter.unusedVariables false
set_option linter.unusedSimpArgs false
attribute [local go_sem ↓] Go.wp_at_zero Go.wp_at_succ

theorem fits_any (lo hi : Nat) (ao : Option Addr) (c n k : Nat) (xs : List Int) (w : World) (hx : IView w lo hi ao n xs) (hn : n ≤ 1048576) :
    Calls Try.prog 83 #[.slice ao n c, .int .i64 (k : Int)] w fun e w' => e = .returned (.bool (fitsB xs k)) ∧ w = w' := by
  have HX := Lib.hid hx
  obtain ⟨r, hr⟩ : ∃ r, fitsB xs k = r := ⟨_, rfl⟩
  have HR := Lib.hid hr
  rw [hr]
  clear hx hr
  go_enter Try.func83, Try.ntmps83
  go_wp2
  go_loop [5] (fun i => ∃ j : Nat, j ≤ n ∧ i = .int .i64 (j : Int) ∧ Hid (fitsB (xs.take j) k = true)) (fun i => n - (intOf i).toNat)
  case atStart => exact ⟨0, Nat.zero_le _, rfl, rfl⟩
  case round =>
    obtain ⟨j, hj, rfl, HA⟩ := hrel
    by_cases hlt : j < n
    · obtain ⟨b, o, rfl, _, _, hc⟩ := HX.out.at_ (by omega)
      obtain ⟨x, hx⟩ := get_of_lt HX.out.1 hlt
      have cx := hc j x hx
      have HXj := Lib.hid hx
      have hjn : (j : Int) < (n : Int) := by omega
      clear hc hx
      by_cases h0 : x < (k : Int)
      · have HN : Hid (fitsB (xs.take (j + 1)) k = true) := by
          have h1 := HA.out
          unfold Hid fitsB at h1 ⊢
          rw [List.take_add_one, HXj.out, List.all_append, h1]
          simp [h0]
        have hge : ¬ (k : Int) ≤ x := by omega
        go_wp2
        go_round
        case rel => exact ⟨j + 1, by omega, by go_num, HN⟩
        case measure => simp [intOf]; omega
      · have HN : Hid (false = r) := by
          unfold Hid
          rw [← HR.out]
          refine (Bool.not_eq_true _ ▸ fun h => ?_ : fitsB xs k = false).symm
          unfold fitsB at h
          have := List.all_eq_true.1 h x (List.mem_of_getElem? HXj.out)
          simp only [decide_eq_true_eq] at this
          exact h0 this
        have hge : (k : Int) ≤ x := by omega
        go_wp2
        go_ret
        exact ⟨ret_bool HN.out, rfl⟩
    · have hjn : ¬ (j : Int) < (n : Int) := by omega
      have HN : Hid (true = r) := by
        have h1 := HA.out
        rw [List.take_of_length_le (by have := HX.out.1; omega)] at h1
        unfold Hid
        rw [← HR.out, h1]
      go_wp2
      go_ret
      exact ⟨ret_bool HN.out, rfl⟩
end

section
open Go.RowKit
set_option linter.unusedVariables false
set_option linter.unusedSimpArgs false
attribute [local go_sem ↓] Go.wp_at_zero Go.wp_at_succ

theorem rev_get {S : List Int} {t i : Nat} {v : Int} (hl : S.length = t) (hi : i < t) (h : S[i]? = some v) : S.reverse[t - 1 - i]? = some v := by
  rw [List.getElem?_reverse (by omega), show S.length - 1 - (t - 1 - i) = i by omega]; exact h
theorem take_snoc {S : List Int} {k : Nat} {v : Int} (h : S[k]? = some v) : S.take (k + 1) = S.take k ++ [v] := by rw [List.take_add_one, h]; rfl
theorem rev_new {S : List Int} {t r : Nat} {y : Int} (hl : S.length = t) (hr : r ≤ t) : (y :: S.drop r).reverse = S.reverse.take (t - r) ++ [y] := by
  rw [List.reverse_cons]
  congr 1
  rw [← hl, ← List.reverse_drop]

theorem wrap_tr {tr : Nat} (h : tr ≤ 60) : IntKind.i64.wrap (tr : Int) = (tr : Int) := by rw [IntKind.wrap_i64]; omega
theorem wrap_sub {t i tr : Nat} (h : (t : Int) - (i : Int) = (tr : Int)) (h2 : tr ≤ 60) : IntKind.i64.wrap ((t : Int) - (i : Int)) = (tr : Int) := by rw [h]; exact wrap_tr h2

set_option maxRecDepth 100000 in
set_option maxHeartbeats 4000000 in
theorem l3Value_any (lo hi lo2 hi2 lo3 hi3 : Nat) (z : Int) (ao bo vo : Option Addr) (n c m d nv cv : Nat) (fs : List OpD) (xs vs : List Int) (w : World) (hv : OView w lo hi ao n fs) (hhi : hi ≤ w.heap.size) (hok : algOkB z fs = true)
    (hx : IView w lo2 hi2 bo m xs) (hhi2 : hi2 ≤ w.heap.size) (hvs : IView w lo3 hi3 vo nv vs) (hhi3 : hi3 ≤ w.heap.size) (h60 : xs.length ≤ 60) (hend : endA fs xs 0 = some xs.length) (hvok : allIn z vs = true) (hfit : ∀ x, x ∈ xs → x < (nv : Int)) :
    Calls Try.prog 84 #[.agg #[.int .i64 z, .slice ao n c], .slice bo m d, .slice vo nv cv] w fun e w' => e = .returned (.int .i64 (evT z fs vs xs)) ∧ Below w.heap.size w w' := by
  obtain ⟨i0, hi0, hz0, hz1, hz2⟩ := info_parts Try.infoInt
  have hl := hx.1
  have hm0 : 0 < m := by have := term_pos hend; omega
  have hm60 : m ≤ 60 := by omega
  obtain ⟨b, o, rfl, _, _, hcx⟩ := hx.at_ hm0
  have hB := below_alloc w (.cells #[.int .i64 z, .slice ao n c] 30)
  have HO0 := Lib.hid (own_nil_lit (w.alloc (.cells #[.int .i64 z, .slice ao n c] 30)) (base := w.heap.size) (by simp))
  rw [World.size_alloc] at HO0
  have HB0 := Lib.hid (hB.alloc (by simp) (.cells #[] 3))
  have HV := Lib.hid hv
  have HX := Lib.hid hcx
  have HVs := Lib.hid hvs
  have HOk := Lib.hid hok
  have HEnd := Lib.hid hend
  have HFit := Lib.hid hfit
  have HL := Lib.hid hl
  have HIn := Lib.hid (evS_in (vs := vs) hok hend hvok (by rw [hvs.1]; exact hfit))
  obtain ⟨u, hu⟩ : ∃ u, evT z fs vs xs = u := ⟨_, rfl⟩
  have HU := Lib.hid hu
  rw [hu]
  clear hB hv hok hx hvs h60 hend hvok hfit hu hl hcx
  go_enter Try.func84, Try.ntmps84
  go_wp2
  go_loopw [7, 8, 9, 10, 11] (fun sv i _ _ _ wr => ∃ (k g t D : Nat), k ≤ m ∧ i = .int .i64 ((m : Int) - 1 - (k : Int)) ∧ sv = .slice (some ⟨g, 0, none⟩) t D ∧ t ≤ k ∧ Hid ((evS z fs vs (xs.drop (m - k))).length = t) ∧ Hid (wr.ownsRow w.heap.size 3 1 (.slice (some ⟨g, 0, none⟩) t D) t ((evS z fs vs (xs.drop (m - k))).reverse.map (Value.int .i64))) ∧ Hid (Below w.heap.size w wr) ∧ wr.cell? ⟨w.heap.size, 0, none⟩ = some (.int .i64 z) ∧ wr.cell? ⟨w.heap.size, 1, none⟩ = some (.slice ao n c) ∧ w.heap.size < wr.heap.size ∧ w.heap.size < g) (fun _ i _ _ _ _ => (intOf i + 1).toNat)
  case atStart =>
    have he : evS z fs vs (xs.drop (m - 0)) = [] := evS_end (by have := HL.out; omega)
    exact ⟨0, w.heap.size + 1, 0, 0, Nat.zero_le _, by simp, rfl, Nat.le_refl _, by unfold Hid; rw [he]; rfl, by rw [he]; exact HO0, HB0, by go_simp, by go_simp, by simp; omega, by omega⟩
  case round =>
    obtain ⟨k, g, t, D, hk, rfl, rfl, htk, HLs, HR, HBr, cz, ca, hsr, hgw⟩ := hrel
    by_cases hlt : k < m
    · obtain ⟨j, hj⟩ : ∃ j : Nat, (m : Int) - 1 - (k : Int) = (j : Int) := ⟨m - 1 - k, by omega⟩
      rw [hj]
      have hjm : j < xs.length := by have := HL.out; omega
      have hjk : m - k = j + 1 := by omega
      have hjk1 : m - (k + 1) = j := by omega
      rw [hjk] at HLs HR
      have hx : xs[j]? = some (xs[j]'hjm) := List.getElem?_eq_getElem hjm
      obtain ⟨x, hxe⟩ : ∃ x, xs[j]'hjm = x := ⟨_, rfl⟩
      rw [hxe] at hx
      have cx : wr.cell? ⟨b, o + j, none⟩ = some (.int .i64 x) := cell_b HBr.out (HX.out j x hx)
      obtain ⟨S, hS⟩ : ∃ S, evS z fs vs (xs.drop (j + 1)) = S := ⟨_, rfl⟩
      have hSin : allIn z S = true := by rw [← hS]; exact HIn.out k (j + 1) (by have := HL.out; omega)
      obtain ⟨bb, hbb⟩ := term_beh HOk.out HEnd.out hx
      have hroom := (evS_room (vs := vs) HOk.out HEnd.out hx hbb).1
      have hnew : evS z fs vs (xs.drop j) = evStep z fs vs x S := by rw [evS_drop hx, hS]
      rw [hS] at HLs HR hroom
      have hjm' : (j : Int) < (m : Int) := by have := HL.out; omega
      have hj0 : (0 : Int) ≤ (j : Int) := by omega
      have HJ := Lib.hid hj
      have hjn : (j : Int) - 1 = (m : Int) - 1 - ((k + 1 : Nat) : Int) := by omega
      have HJn := Lib.hid hjn
      have HJk1 := Lib.hid hjk1
      by_cases h0 : 0 ≤ x
      · obtain ⟨v, rfl⟩ : ∃ v : Nat, x = (v : Int) := ⟨x.toNat, by omega⟩
        have hvn : v < nv := by have := HFit.out _ (List.mem_of_getElem? hx); omega
        obtain ⟨b2, o2, rfl, _, _, hc2⟩ := HVs.out.at_ (by omega)
        obtain ⟨y, hy⟩ := get_of_lt HVs.out.1 hvn
        have cy : wr.cell? ⟨b2, o2 + v, none⟩ = some (.int .i64 y) := cell_b HBr.out (hc2 v y hy)
        have hnew2 : evS z fs vs (xs.drop j) = y :: S := by
          rw [hnew, evStep, if_pos h0, show ((v : Int)).toNat = v by omega, List.getD_eq_getElem?_getD, hy]; rfl
        have Hnew := Lib.hid hnew2
        have hvn' : (v : Int) < (nv : Int) := by omega
        clear hx hxe hbb hroom hnew hnew2 hy hc2 hj hjn hjk hjk1
        go_wp2_with (at_builtin; refine wpList_append_own_at _ rfl _ _ 25 rfl w.heap.size 3 i0 (.int .i64 0) 1 8 Try.underlying25 hi0 hz0 hz1 hz2 rfl (by decide) (.slice (some ⟨g, 0, none⟩) t D) t (S.reverse.map (Value.int .i64)) rfl (HR.out.alloc _) ⟨wr.heap.size, 0, none⟩ 1 1 [.int .i64 y] rfl rfl (cell_one_new _ _ _) (fun x hx => by simp at hx; subst hx; rfl) (by unfold maxLen; omega) (by omega) (by have := HBr.out.size; simp; omega) ?_; intro v' w3 hown' hgrow' hnil' hat')
        obtain ⟨g3, cap, rfl⟩ := ownsRow_succ hown'
        have HB3 := Lib.hid ((HBr.out.alloc HBr.out.size (.cells #[.int .i64 y] 3)).grown hgrow' (by have := HBr.out.size; simp; omega) (fun q hq => (HR.out.lt q hq).1))
        have hne : w.heap.size < (wr.alloc (.cells #[.int .i64 y] 3)).heap.size := by simp; omega
        have c3 : ∀ {o_ : Nat} {v_ : Value}, wr.cell? ⟨w.heap.size, o_, none⟩ = some v_ → w3.cell? ⟨w.heap.size, o_, none⟩ = some v_ := fun h => (World.cell?_of_block (a := ⟨w.heap.size, _, none⟩) (hgrow'.block w.heap.size hne (by simp [Value.ownBlock]; omega))).trans (cell_b (below_alloc wr _) h)
        have dz := c3 cz
        have da := c3 ca
        have hg3 : w.heap.size < g3 := by
          rcases hat' with h | h
          · have : g3 = g := by simpa [Value.ownBlock] using h
            omega
          · have : g3 = wr.heap.size + 1 := by simpa [Value.ownBlock] using h
            omega
        have hs3 : w.heap.size < w3.heap.size := by have := hgrow'.size; simp at this; omega
        have HN1 : Hid ((evS z fs vs (xs.drop (m - (k + 1)))).length = t + 1) := by unfold Hid; rw [HJk1.out, Hnew.out, List.length_cons, HLs.out]
        have HN2 : Hid (w3.ownsRow w.heap.size 3 1 (.slice (some ⟨g3, 0, none⟩) (t + 1) cap) (t + 1) ((evS z fs vs (xs.drop (m - (k + 1)))).reverse.map (Value.int .i64))) := by
          unfold Hid; rw [HJk1.out, Hnew.out, List.reverse_cons, List.map_append]; exact hown'
        clear hown' hgrow' hnil' hat' cz ca cx cy c3 hne
        go_wp2_with fail
        go_roundw
        case rel => exact ⟨k + 1, g3, t + 1, cap, by omega, by first | (rw [← HJn.out]) | (congr 1; have := HJn.out; omega), rfl, by omega, HN1, HN2, HB3, dz, da, hs3, hg3⟩
        case measure => have h_ := HJ.out; (simp [intOf]) <;> omega
      · have hx0 : x < 0 := Int.not_le.1 h0
        have hb2 := hbb
        unfold beh at hb2
        rw [if_neg h0] at hb2
        obtain ⟨f, hf, rfl⟩ := Option.map_eq_some_iff.1 hb2
        obtain ⟨q, hq⟩ : ∃ q : Nat, -1 - x = (q : Int) := ⟨(-1 - x).toNat, by omega⟩
        rw [show (-1 - x).toNat = q by omega] at hf
        have hqn : q < n := by rw [← HV.out.1]; exact (List.getElem?_eq_some_iff.1 hf).1
        have hfo := (algOkB_of HOk.out).2.2 f (List.mem_of_getElem? hf)
        obtain ⟨r, hr⟩ : ∃ r : Nat, f.1 = (r : Int) := ⟨f.1.toNat, by have := (opOkB_of hfo).1; omega⟩
        have hr3 : r ≤ 3 := by have := (opOkB_of hfo).1; omega
        rw [hr] at hroom
        have hrS : r ≤ t := by have := HLs.out; omega
        have hnew2 : evS z fs vs (xs.drop j) = atA z f (S.take r) :: S.drop r := by
          rw [hnew, evStep, if_neg h0, show (-1 - x).toNat = q by omega, show fs.getD q (0, []) = f by rw [List.getD_eq_getElem?_getD, hf]; rfl, hr]; rfl
        obtain ⟨b2, o2, rfl, hbl2, hbh2, hc2⟩ := HV.out.at_ (by omega)
        obtain ⟨a2, m2, c2, k0, _, _, _, _⟩ := hc2 q f hf
        rw [hr] at k0
        have K0 := Lib.hid k0
        have hn4 : n ≤ 4 := by have := (algOkB_of HOk.out).2.1; have := HV.out.1; omega
        have hqn' : (q : Int) < (n : Int) := by omega
        obtain ⟨y, hy⟩ : ∃ y, atA z f (S.take r) = y := ⟨_, rfl⟩
        have hin2 : allIn z (S.take r) = true := by
          unfold allIn at hSin ⊢
          rw [List.all_eq_true] at hSin ⊢
          exact fun v hv => hSin v (List.mem_of_mem_take hv)
        have HIn2 := Lib.hid hin2
        have HY := Lib.hid hy
        have HF := Lib.hid hf
        have HRr := Lib.hid hr
        rw [hy] at hnew2
        have Hnew := Lib.hid hnew2
        obtain ⟨wo, hwo⟩ : ∃ wo, wo = wr := ⟨_, rfl⟩
        rw [← hwo] at HR HBr cz ca hsr cx ⊢
        clear hwo
        have HOa := Lib.hid (own_nil_lit wo (base := wo.heap.size) (Nat.le_refl _))
        have ez : (wo.alloc (.cells #[] 3)).cell? ⟨w.heap.size, 0, none⟩ = some (.int .i64 z) := cell_b (below_alloc _ _) cz
        have ea : (wo.alloc (.cells #[] 3)).cell? ⟨w.heap.size, 1, none⟩ = some (.slice (some ⟨b2, o2, none⟩) n c) := cell_b (below_alloc _ _) ca
        clear hx hxe hbb hroom hnew hb2 hc2 k0 hfo hr hf hy hin2 hnew2 hSin hj hjn hjk hjk1 hS
        go_wp2
        go_loopw [10, 11] (fun av p wr => ∃ (i g2 D2 : Nat), i ≤ r ∧ p = .int .i64 (i : Int) ∧ av = .slice (some ⟨g2, 0, none⟩) i D2 ∧ Hid (wr.ownsRow wo.heap.size 3 1 (.slice (some ⟨g2, 0, none⟩) i D2) i ((S.take i).map (Value.int .i64))) ∧ Hid (Below wo.heap.size wo wr)) (fun _ p _ => r - (intOf p).toNat)
        case atStart => exact ⟨0, wo.heap.size, 0, Nat.zero_le _, rfl, rfl, HOa, below_alloc _ _⟩
        case round =>
          obtain ⟨i, g2, D2, hir, rfl, rfl, HA, HBq⟩ := hrel
          clear ez ea
          have k1 : wr.cell? ⟨b2, o2 + q * 2, none⟩ = some (.int .i64 (r : Int)) := cell_b HBq.out (cell_b HBr.out K0.out)
          have ez : wr.cell? ⟨w.heap.size, 0, none⟩ = some (.int .i64 z) := cell_b HBq.out cz
          have ea : wr.cell? ⟨w.heap.size, 1, none⟩ = some (.slice (some ⟨b2, o2, none⟩) n c) := cell_b HBq.out ca
          by_cases hlt2 : i < r
          · obtain ⟨v, hvi⟩ := get_of_lt HLs.out (show i < t by omega)
            have hrv := rev_get HLs.out (by omega) hvi
            obtain ⟨ti, hti⟩ : ∃ ti : Nat, ti = t - 1 - i := ⟨_, rfl⟩
            rw [← hti] at hrv
            have cs : wr.cell? ⟨g, ti, none⟩ = some (.int .i64 v) := cell_b HBq.out (own_at HR.out hrv)
            have hcti : (t : Int) - 1 - (i : Int) = (ti : Int) := by omega
            have htit : (ti : Int) < (t : Int) := by omega
            have hir' : (i : Int) < (r : Int) := by omega
            have HVi := Lib.hid hvi
            clear hvi hrv hti
            go_wp2_with (at_builtin; refine wpList_append_own_at _ rfl _ _ 25 rfl wo.heap.size 3 i0 (.int .i64 0) 1 8 Try.underlying25 hi0 hz0 hz1 hz2 rfl (by decide) (.slice (some ⟨g2, 0, none⟩) i D2) i ((S.take i).map (Value.int .i64)) rfl (HA.out.alloc _) ⟨wr.heap.size, 0, none⟩ 1 1 [.int .i64 v] rfl rfl (cell_one_new _ _ _) (fun x hx => by simp at hx; subst hx; rfl) (by unfold maxLen; omega) (by omega) (by have := HBq.out.size; simp; omega) ?_; intro v' w3 hown' hgrow' hnil' hat')
            obtain ⟨g3, cap, rfl⟩ := ownsRow_succ hown'
            have HB3 := Lib.hid ((HBq.out.alloc HBq.out.size (.cells #[.int .i64 v] 3)).grown hgrow' (by have := HBq.out.size; simp; omega) (fun q hq => (HA.out.lt q hq).1))
            have HN : Hid (w3.ownsRow wo.heap.size 3 1 (.slice (some ⟨g3, 0, none⟩) (i + 1) cap) (i + 1) ((S.take (i + 1)).map (Value.int .i64))) := by
              unfold Hid; rw [take_snoc HVi.out, List.map_append]; exact hown'
            clear hown' hgrow' hnil' hat'
            go_wp2_with fail
            go_roundw
            case rel => exact ⟨i + 1, g3, cap, by omega, by go_num, rfl, HN, HB3⟩
            case measure => simp [intOf]; omega
          · obtain rfl : i = r := by omega
            have hir' : ¬ (i : Int) < (i : Int) := by omega
            obtain ⟨W0, hW0⟩ : ∃ W0, W0 = wr := ⟨_, rfl⟩
            have HBw := Lib.hid (HBr.out.trans (HBq.out.mono HBr.out.size))
            have HR0 := Lib.hid (HR.out.kept (grown_of_below HBq.out none) (own_em _))
            rw [← hW0] at HA HBq k1 ez ea HBw HR0 ⊢
            clear hW0
            have Z0 := Lib.hid ez
            have Z1 := Lib.hid ea
            obtain ⟨tr, htr⟩ : ∃ tr, tr = t - i := ⟨_, rfl⟩
            have HTr := Lib.hid htr
            have hlti : (t : Int) - (i : Int) = (tr : Int) := by omega
            have htr60 : tr ≤ 60 := by omega
            clear htr
            have HOwn := Lib.hid (fun (V : World) (hV : Below W0.heap.size W0 V) => (own_part g 0 tr D (S.reverse.take tr) V (by rw [List.length_take, List.length_reverse, HLs.out]; have := HTr.out; omega) (fun j x hj => by
              rw [List.getElem?_take] at hj
              split at hj
              · rw [Nat.zero_add]; exact cell_b hV (own_at HR0.out hj)
              · cases hj) (by omega)).mono (R' := fun ε w' => ∃ g D, ε = .returned (.slice (some ⟨g, 0, none⟩) tr D) ∧ w'.ownsRow W0.heap.size 3 1 (.slice (some ⟨g, 0, none⟩) tr D) tr ((S.reverse.take tr).map (Value.int .i64)) ∧ Below W0.heap.size W0 w' ∧ Below V.heap.size V w') fun ε w' ⟨g, D, h_, hr_, hb_⟩ => ⟨g, D, h_, ownsRow_base hr_ hV.size, hV.trans (hb_.mono hV.size), hb_⟩)
            have HVal := Lib.hid (fun (V : World) (hV : Below W0.heap.size W0 V) => by
              have hB2 : Below w.heap.size w V := HBw.out.trans (hV.mono HBw.out.size)
              have h_ := value_spec lo hi 0 V.heap.size z (some ⟨b2, o2, none⟩) (some ⟨g2, 0, none⟩) c n D2 i q fs f (S.take i) V (HV.out.kept (Kept.of_below hB2 hhi)) (Nat.le_trans hhi hB2.size) HOk.out HF.out
                (((OwnsInts.of_row HA.out).view.kept (Kept.of_below hV (Nat.le_refl _))).mono (Nat.zero_le _) hV.size) (Nat.le_refl _) HIn2.out HRr.out.symm
              rw [HY.out] at h_
              exact h_.mono (R' := fun ε w' => ε = .returned (.int .i64 y) ∧ Below W0.heap.size W0 w' ∧ Below V.heap.size V w') fun ε w' ⟨a_, b_⟩ => ⟨a_, hV.trans (b_.mono hV.size), b_⟩)
            have tokA : True := trivial
            have tokB : True := trivial
            have tokC : True := trivial
            have yB : Below W0.heap.size W0 W0.drew := below_drew _
            have htD : t ≤ D := (by rcases HR0.out.2 with ⟨h1, _⟩ | ⟨_, _, _, h1, _, _, h2, _⟩; (cases h1); (cases h1; exact h2))
            have hti2 : (tr : Int) ≤ (D : Int) := by have := HTr.out; omega
            have htr0 : (0 : Int) ≤ (tr : Int) := by omega
            have hW0w : w.heap.size < W0.heap.size := World.block_lt_of_cell? W0 _ ez
            have hwr := wrap_sub hlti htr60
            have hwr2 := wrap_tr htr60
            go_wp2_with fail
            go_region_held3 (fun V => V.cell? ⟨w.heap.size, 0, none⟩ = some (.int .i64 z) ∧ V.cell? ⟨w.heap.size, 1, none⟩ = some (.slice (some ⟨b2, o2, none⟩) n c) ∧ Below W0.heap.size W0 V) (first | assumption | (refine ⟨?_, ?_, ?_⟩; (focus (first | assumption | go_keep)); (focus (first | assumption | go_keep)); (focus (repeat (first | assumption | exact Below.refl _ _ | apply keep_drew | apply keep_alloc))))) ((first | (go_at_call 70; have _t := tokA; clear tokA _t; refine (HOwn.out _ ?_).mono ?_; (focus ((repeat (first | assumption | exact Below.refl _ _ | apply keep_drew | apply keep_alloc)); done)); rintro ε wA ⟨gA, cA, rfl, hA, BA, bA⟩; have HA_ := Lib.hid hA; have hgA := (HA_.out.lt gA rfl).1; have q0_A := cell_b BA Z0.out; have q1_A := cell_b BA Z1.out; have HbA := Lib.hid bA; clear hA bA) | (go_at_call 106; have _t := tokB; clear tokB _t; refine (HVal.out _ ?_).mono ?_; (focus ((repeat (first | assumption | exact Below.refl _ _ | apply keep_drew | apply keep_alloc)); done)); rintro ε wV ⟨rfl, BV, bV⟩; (try (have HA2_ := Lib.hid (HA_.out.kept (grown_of_below bV none) (own_em _)); clear HA_; have HA_ := HA2_; clear HA2_)); have q0_V := cell_b BV Z0.out; have q1_V := cell_b BV Z1.out; clear bV) | (have _t := HA_; clear _t; have _t := tokC; refine step_append_ints ?_ _ _ rfl W0.heap.size gA tr cA (S.reverse.take tr) ?_ ?_ ⟨wV.heap.size, 0, none⟩ 1 1 [y] ?_ rfl ?_ ?_ ?_ ?_; (focus (rfl; done)); (focus (rfl; done)); (focus ((first | exact HA_.out | exact HA_.out.alloc _ | exact HA_.out.kept (grown_of_below (below_drew _) none) (own_em _)); done)); (focus (rfl; done)); (focus (refine one_at ?_; (first | (go_simp; done) | (simp; done) | (refine cell_b HbA.out ?_; go_simp; done) | (refine cell_b HbA.out ?_; simp; done)); done)); (focus (omega; done)); (focus (refine Below.size (B := W0.heap.size) ?_; (repeat (first | assumption | exact Below.refl _ _ | apply keep_drew | apply keep_alloc)); done)); intro gC cC wC hC hgC hatC; have BC : Below W0.heap.size W0 wC := below_row hgC (by (repeat (first | assumption | exact Below.refl _ _ | apply keep_drew | apply keep_alloc))) (Below.size (B := W0.heap.size) (by (repeat (first | assumption | exact Below.refl _ _ | apply keep_drew | apply keep_alloc)))) hgA; have HC_ := Lib.hid hC; have q0_C := cell_b BC Z0.out; have q1_C := cell_b BC Z1.out; clear hC hgC hatC HA_ tokC _t) | (have _t := HA_; clear _t; have _t := tokC; refine step_append_ints ?_ _ _ rfl W0.heap.size gA tr cA (S.reverse.take tr) ?_ ?_ ⟨wA.heap.size, 0, none⟩ 1 1 [y] ?_ rfl ?_ ?_ ?_ ?_; (focus (rfl; done)); (focus (rfl; done)); (focus ((first | exact HA_.out | exact HA_.out.alloc _ | exact HA_.out.kept (grown_of_below (below_drew _) none) (own_em _)); done)); (focus (rfl; done)); (focus (refine one_at ?_; (first | (go_simp; done) | (simp; done) | (refine cell_b HbA.out ?_; go_simp; done) | (refine cell_b HbA.out ?_; simp; done)); done)); (focus (omega; done)); (focus (refine Below.size (B := W0.heap.size) ?_; (repeat (first | assumption | exact Below.refl _ _ | apply keep_drew | apply keep_alloc)); done)); intro gC cC wC hC hgC hatC; have BC : Below W0.heap.size W0 wC := below_row hgC (by (repeat (first | assumption | exact Below.refl _ _ | apply keep_drew | apply keep_alloc))) (Below.size (B := W0.heap.size) (by (repeat (first | assumption | exact Below.refl _ _ | apply keep_drew | apply keep_alloc)))) hgA; have HC_ := Lib.hid hC; have q0_C := cell_b BC Z0.out; have q1_C := cell_b BC Z1.out; clear hC hgC hatC HA_ tokC _t)))
            all_goals
              clear hwr hwr2
              have hgC := (HC_.out.lt gC rfl).1
              have HN1 : Hid ((evS z fs vs (xs.drop (m - (k + 1)))).length = tr + 1) := by unfold Hid; rw [HJk1.out, Hnew.out, List.length_cons, List.length_drop, HLs.out, HTr.out]
              have HN2 : Hid (wC.ownsRow w.heap.size 3 1 (.slice (some ⟨gC, 0, none⟩) (tr + 1) cC) (tr + 1) ((evS z fs vs (xs.drop (m - (k + 1)))).reverse.map (Value.int .i64))) := by
                unfold Hid; rw [HJk1.out, Hnew.out, rev_new HLs.out hrS, ← HTr.out]; exact ownsRow_base HC_.out (by omega)
              have HBC := Lib.hid (HBw.out.trans (BC.mono HBw.out.size))
              have hsC : w.heap.size < wC.heap.size := by have := BC.size; omega
              go_wp2_with fail
              go_roundw
              case rel => exact ⟨k + 1, gC, tr + 1, cC, by omega, by first | (rw [← HJn.out]) | (congr 1; have := HJn.out; omega), rfl, by have := HTr.out; omega, HN1, HN2, HBC, q0_C, q1_C, hsC, by omega⟩
              case measure => have h_ := HJ.out; (simp [intOf]) <;> omega
    · obtain rfl : k = m := by omega
      have hneg : (k : Int) - 1 - (k : Int) = -1 := by omega
      rw [hneg]
      have h1 := evS_one (vs := vs) HOk.out HEnd.out
      have hdr : xs.drop (k - k) = xs := by rw [Nat.sub_self]; rfl
      rw [hdr] at HLs HR
      obtain ⟨y, hy⟩ : ∃ y, evS z fs vs xs = [y] := List.length_eq_one_iff.1 h1
      have hev : u = y := by rw [← HU.out]; unfold evT; rw [hy]; rfl
      have HEv := Lib.hid hev
      have ht1 : t = 1 := by rw [← HLs.out, hy]; rfl
      subst ht1
      have c0 := own_at HR.out (j := 0) (y := y) (by rw [hy]; rfl)
      clear hy hev hdr h1
      go_wp2
      go_ret
      exact ⟨ret_int HEv.out.symm, HBr.out⟩
end

section
open Go.RowKit
set_option linter.unusedVariables false
set_option linter.unusedSimpArgs false
attribute [local go_sem ↓] Go.wp_at_zero Go.wp_at_succ

def lenV : Value → Nat
  | .slice _ n _ => n
  | _ => 0

set_option maxRecDepth 100000 in
set_option maxHeartbeats 4000000 in
theorem l3Counter_any (lo hi : Nat) (z : Int) (ao : Option Addr) (c n : Nat) (fs : List OpD) (lo2 hi2 : Nat) (bo : Option Addr) (d m : Nat) (xs : List Int) (lo3 hi3 : Nat) (co : Option Addr) (d2 m2 : Nat) (ys : List Int) (w : World) (hv : OView w lo hi ao n fs) (hhi : hi ≤ w.heap.size)
    (hx : IView w lo2 hi2 bo m xs) (hhi2 : hi2 ≤ w.heap.size) (hmd : m ≤ d) (hm : d ≤ maxLen)
    (hy : IView w lo3 hi3 co m2 ys) (hhi3 : hi3 ≤ w.heap.size) (hmd2 : m2 ≤ d2) (hm2 : d2 ≤ maxLen) (hask : askB z fs xs ys = true) :
    Calls Try.prog 98 #[.agg #[.int .i64 z, .slice ao n c], .agg #[.slice bo m d, .slice co m2 d2]] w fun e w' => ResL w w' (cntR z fs xs ys).1 (cntR z fs xs ys).2 e := by
  unfold askB at hask
  simp only [Bool.and_eq_true, decide_eq_true_eq] at hask
  obtain ⟨⟨hok, ht1, ht2⟩, hpw⟩ := hask
  obtain ⟨_, h60, hend⟩ := isTermB_of (show isTermB z fs xs = true by simp [isTermB, hok, ht1])
  obtain ⟨_, h602, hend2⟩ := isTermB_of (show isTermB z fs ys = true by simp [isTermB, hok, ht2])
  obtain ⟨hz1, hz2⟩ := (algOkB_of hok).1
  have hlx := hx.1
  have hly := hy.1
  have hm0 : 0 < m := by have := term_pos hend; omega
  have hm20 : 0 < m2 := by have := term_pos hend2; omega
  have hb1 : ∀ x, x ∈ xs → x < 6 := fun x hxx => by
    obtain ⟨j, hj⟩ := List.getElem?_of_mem hxx
    exact (term_lt hok hend hj).1
  have hb2 : ∀ x, x ∈ ys → x < 6 := fun x hxx => by
    obtain ⟨j, hj⟩ := List.getElem?_of_mem hxx
    exact (term_lt hok hend2 hj).1
  have hc1 : ∀ x, x ∈ xs → -9223372036854775808 ≤ x ∧ x < 6 := fun x hxx => by
    obtain ⟨j, hj⟩ := List.getElem?_of_mem hxx
    have := term_lt hok hend hj
    have := (algOkB_of hok).2.1
    exact ⟨by omega, by omega⟩
  have hc2 : ∀ x, x ∈ ys → -9223372036854775808 ≤ x ∧ x < 6 := fun x hxx => by
    obtain ⟨j, hj⟩ := List.getElem?_of_mem hxx
    have := term_lt hok hend2 hj
    have := (algOkB_of hok).2.1
    exact ⟨by omega, by omega⟩
  have hne1 : xs ≠ [] := fun e => by rw [e] at hlx; simp at hlx; omega
  have hne2 : ys ≠ [] := fun e => by rw [e] at hly; simp at hly; omega
  obtain ⟨zs, hzs⟩ : ∃ zs, xs ++ ys = zs := ⟨_, rfl⟩
  have hfx : ∀ x, x ∈ xs → x < (needN zs : Int) := fun x hxx => need_fit (by rw [← hzs]; exact List.mem_append_left _ hxx) (hb1 x hxx)
  have hfy : ∀ x, x ∈ ys → x < (needN zs : Int) := fun x hxx => need_fit (by rw [← hzs]; exact List.mem_append_right _ hxx) (hb2 x hxx)
  have hzb : ∀ x, x ∈ zs → x < 6 := fun x hxx => by
    rw [← hzs] at hxx
    rcases List.mem_append.1 hxx with h | h
    · exact hb1 x h
    · exact hb2 x h
  have hvn : ∀ (j : Nat) (v : Int), (varsL zs)[j]? = some v → ∃ vn : Nat, v = (vn : Int) ∧ vn < needN zs := fun j v hj => by
    obtain ⟨h1, h2, h3⟩ := vars_need (List.mem_of_getElem? hj)
    have := need_fit h3 h2
    exact ⟨v.toNat, by omega, by omega⟩
  have hbad : ∀ j, badB z fs xs ys j = (evT z fs (cntV z zs j) xs != evT z fs (cntV z zs j) ys) := fun j => by unfold badB; rw [hzs]
  have hN6 := needN_le zs
  have hvf := varsF_eq hzb
  have hlen := need_last zs
  have hHVs := fun (g k c base : Nat) (W : World) (hr : W.ownsRow base 3 1 (.slice (some ⟨g, 0, none⟩) k c) k (zs.map (Value.int .i64))) (hk : k ≤ 1048576) => l3Vars_any base W.heap.size (some ⟨g, 0, none⟩) c k zs W (OwnsInts.of_row hr).view (Nat.le_refl _) hk
  simp only [hvf] at hHVs
  have hL6 := varsL_len zs
  obtain ⟨L, hL⟩ : ∃ L, (varsL zs).length = L := ⟨_, rfl⟩
  rw [hzs] at hpw
  rw [hL] at hL6 hpw hlen
  simp only [hL] at hHVs
  have hl6 := fun (W : World) => pow6_any z L W hz1 hz2 hL6
  have hpb := powI_bd6 hz1 hz2 hL6
  obtain ⟨p, hp⟩ : ∃ p : Nat, powI z L = (p : Int) := ⟨(powI z L).toNat, by omega⟩
  rw [hp] at hl6 hpb hpw
  have HSome := Lib.hid (fun (j : Nat) (h : ∀ i, i < j → badB z fs xs ys i = false) (hj : badB z fs xs ys j = true) (hn : j < p) => cntR_some (z := z) (fs := fs) (xs := xs) (ys := ys) (p := p) (by rw [hzs, hL]; exact hp) h hj hn)
  have HNone := Lib.hid (fun (h : ∀ i, i < p → badB z fs xs ys i = false) => cntR_none (z := z) (fs := fs) (xs := xs) (ys := ys) (p := p) (by rw [hzs, hL]; exact hp) h)
  simp only [hzs] at HSome
  have HVx := Lib.hid (fun (j g cv : Nat) (W : World) (hb : Below w.heap.size w W) (hd : IView W w.heap.size W.heap.size (some ⟨g, 0, none⟩) (needN zs) (cntV z zs j)) => l3Value_any lo hi lo2 hi2 w.heap.size W.heap.size z ao bo (some ⟨g, 0, none⟩) n c m d (needN zs) cv fs xs (cntV z zs j) W (hv.kept (Kept.of_below hb hhi)) (Nat.le_trans hhi hb.size) hok (hx.kept (Kept.of_below hb hhi2)) (Nat.le_trans hhi2 hb.size) hd (Nat.le_refl _) h60 hend (cntV_in hz1 zs j) hfx)
  have HVy := Lib.hid (fun (j g cv : Nat) (W : World) (hb : Below w.heap.size w W) (hd : IView W w.heap.size W.heap.size (some ⟨g, 0, none⟩) (needN zs) (cntV z zs j)) => l3Value_any lo hi lo3 hi3 w.heap.size W.heap.size z ao co (some ⟨g, 0, none⟩) n c m2 d2 (needN zs) cv fs ys (cntV z zs j) W (hv.kept (Kept.of_below hb hhi)) (Nat.le_trans hhi hb.size) hok (hy.kept (Kept.of_below hb hhi3)) (Nat.le_trans hhi3 hb.size) hd (Nat.le_refl _) h602 hend2 (cntV_in hz1 zs j) hfy)
  have HA := Lib.hid (fun (j : Nat) (hj : j < p) (W : World) => args6_spec z (j : Int) L hL6 W hz1 hz2 (by omega) (by omega))
  have HDl := Lib.hid (fun (j : Nat) => digs_len z L (j : Int))
  have HRz : Hid (∀ i : Nat, putVs (List.replicate (needN zs) 0) (varsL zs) (digs z L (i : Int)) = cntV z zs i) := fun i => by unfold cntV; rw [hL]
  have HRc : Hid (∀ j i : Nat, putVs (cntV z zs j) (varsL zs) (digs z L (i : Int)) = cntV z zs i) := fun j i => by have := cntV_again z zs j i; rw [hL] at this; exact this
  have HCl := Lib.hid (fun j : Nat => cntV_len z zs j)
  have HVn := Lib.hid hvn
  have HBad := Lib.hid hbad
  obtain ⟨N, hN⟩ : ∃ N, needN zs = N := ⟨_, rfl⟩
  rw [hN] at hN6 HVx HVy HRz HCl HVn hlen
  obtain ⟨vs, hvs⟩ : ∃ vs, varsL zs = vs := ⟨_, rfl⟩
  rw [hvs] at hHVs HRz HRc HVn hlen
  have HVs := Lib.hid hHVs
  have HLast := Lib.hid hlen
  have HL6 := Lib.hid hl6
  have HVl : Hid (vs.length = L) := by rw [← hvs]; exact hL
  obtain ⟨R, hR⟩ : ∃ R, cntR z fs xs ys = R := ⟨_, rfl⟩
  rw [hR] at HSome HNone ⊢
  obtain ⟨b, o, rfl, _, _, hcx⟩ := hx.at_ hm0
  obtain ⟨b', o', rfl, _, _, hcy⟩ := hy.at_ hm20
  have hmm : m ≤ 60 := by omega
  have hmm2 : m2 ≤ 60 := by omega
  have HOwn := Lib.hid (fun (W : World) (hb : Below w.heap.size w W) => own_part b o m d xs W hlx (fun j x hj => cell_b hb (hcx j x hj)) (by omega))
  have HCy := Lib.hid hcy
  have HLy := Lib.hid hly
  have HZs := Lib.hid hzs
  clear hv hx hy hok ht1 ht2 hpw hend hend2 hb1 hb2 hc1 hc2 hne1 hne2 hfx hfy hzb hvn hbad hN hp hvs hL hR hlx hly hHVs hl6 hlen hvf hcx hcy hzs
  have hB0 := Lib.hid (below_then (below_alloc w (.cells #[.int .i64 z, .slice ao n c] 30)) (below_alloc _ (.cells #[.slice (some ⟨b, o, none⟩) m d, .slice (some ⟨b', o', none⟩) m2 d2] 64)))
  unfold ResL
  go_enter Try.func98, Try.ntmps98
  go_wp2_with fail
  have yB : Below w.heap.size w ((w.alloc (.cells #[.int .i64 z, .slice ao n c] 30)).alloc (.cells #[.slice (some ⟨b, o, none⟩) m d, .slice (some ⟨b', o', none⟩) m2 d2] 64)).drew := (hB0.out).drew
  refine wp_region_noPanic ?_
  refine wp_region_held_drew (S := fun W => W.cell? ⟨w.heap.size, 0, none⟩ = some (.int .i64 z) ∧ W.cell? ⟨w.heap.size, 1, none⟩ = some (.slice ao n c) ∧ W.cell? ⟨w.heap.size + 1, 0, none⟩ = some (.slice (some ⟨b, o, none⟩) m d) ∧ W.cell? ⟨w.heap.size + 1, 1, none⟩ = some (.slice (some ⟨b', o', none⟩) m2 d2) ∧ Below w.heap.size w W) (by kernel_rfl) ?_ (fun hHeld => ?_)
  · exact ⟨by go_simp, by go_simp, by go_simp, by go_simp, yB⟩
  refine wpAnyH_take (i := 0) (oi := ⟨_, _, _, _, _, _⟩) (v := ?_) rfl (by kernel_rfl) (by kernel_rfl) (by kernel_rfl) (fun _ _ _ h => h) (Or.inl ⟨rfl, ?_⟩) (by assumption) ?_
  rotate_left 1
  · intro w_ hSw; (try dsimp only at hSw); go_simp; (try with_reducible rfl)
  (try simp only [Act.put, List.setIfInBounds_toArray, List.set_cons_zero, List.set_cons_succ])
  refine wpAnyH_take (i := 1) (oi := ⟨_, _, _, _, _, _⟩) (v := ?_) rfl (by kernel_rfl) (by kernel_rfl) (by kernel_rfl) (fun _ _ _ h => h) (Or.inl ⟨rfl, ?_⟩) (by assumption) ?_
  rotate_left 1
  · intro w_ hSw; (try dsimp only at hSw); go_simp; (try with_reducible rfl)
  (try simp only [Act.put, List.setIfInBounds_toArray, List.set_cons_zero, List.set_cons_succ])
  refine wpAnyH_take (i := 3) (oi := ⟨_, _, _, _, _, _⟩) (v := ?_) rfl (by kernel_rfl) (by kernel_rfl) (by kernel_rfl) (fun _ _ _ h => h) (Or.inl ⟨rfl, ?_⟩) (by assumption) ?_
  rotate_left 1
  · intro w_ hSw; (try dsimp only at hSw); go_simp; (try with_reducible rfl)
  (try simp only [Act.put, List.setIfInBounds_toArray, List.set_cons_zero, List.set_cons_succ])
  refine wpAnyH_take (i := 4) (oi := ⟨_, _, _, _, _, _⟩) (v := ?_) rfl (by kernel_rfl) (by kernel_rfl) (by kernel_rfl) (fun _ _ _ h => h) (Or.inl ⟨rfl, ?_⟩) (by assumption) ?_
  rotate_left 1
  · intro w_ hSw; (try dsimp only at hSw); go_simp; (try with_reducible rfl)
  (try simp only [Act.put, List.setIfInBounds_toArray, List.set_cons_zero, List.set_cons_succ])
  refine wpAnyH_ready (rs := [2]) (by kernel_rfl) (by simp) ?_
  refine AllReadyH.cons (o := ⟨_, _, _, _, _, _⟩) rfl (fun K hK => ?_) AllReadyH.nil
  go_simp
  obtain ⟨q1_, q2_, q3_, q4_, q5_⟩ := id hHeld
  go_at_call 70
  refine (HOwn.out _ q5_).mono ?_
  rintro e w3 ⟨g, dd, rfl, ho, b3⟩
  have g1 := cell_b b3 q1_
  have g2 := cell_b b3 q2_
  have g3 := cell_b b3 q3_
  have g4 := cell_b b3 q4_
  have g5 := q5_.trans (b3.mono q5_.size)
  have HO3 : Hid (w3.ownsRow (w.heap.size + 1 + 1) 3 1 (.slice (some ⟨g, 0, none⟩) m dd) m (xs.map (Value.int .i64))) := by
    have h_ := ho
    simp only [World.size_drew, World.size_alloc] at h_
    exact h_
  have hs3 : w.heap.size + 1 + 1 ≤ w3.heap.size := by have h_ := b3.size; simp only [World.size_drew, World.size_alloc] at h_; exact h_
  clear ho b3 q1_ q2_ q3_ q4_ q5_
  go_wp2_with fail
  refine hK.out _ _ ?_ (fun hHeld => ?_)
  · exact ⟨g1, g2, g3, g4, g5⟩
  clear hK K
  (try simp only [Act.put, List.setIfInBounds_toArray, List.set_cons_zero, List.set_cons_succ])
  refine wpAnyH_ready (rs := [5]) (by kernel_rfl) (by simp) ?_
  refine AllReadyH.cons (o := ⟨_, _, _, _, _, _⟩) rfl (fun K hK => ?_) AllReadyH.nil
  refine step_append_ints ?_ _ _ rfl (w.heap.size + 1 + 1) g m dd xs ?_ ?_ ⟨b', o', none⟩ m2 d2 ys ?_ HLy.out ?_ ?_ ?_ ?_
  · rfl
  · rfl
  · exact HO3.out
  · rfl
  · exact cells_add (fun j y hj => cell_b g5 (HCy.out j y hj))
  · omega
  · exact hs3
  intro gC cC wC hC hgC hatC
  have hgl := (HO3.out.lt g rfl).1
  have hbC : Below (w.heap.size + 1 + 1) w3 wC := (Below.refl _ _).grown hgC hs3 (by intro q hq; cases hq; exact hgl)
  have h1 : wC.cell? ⟨w.heap.size, 0, none⟩ = some (.int .i64 z) := (hbC.cell (p := ⟨w.heap.size, 0, none⟩) (by show w.heap.size < _; omega)).trans g1
  have h2 : wC.cell? ⟨w.heap.size, 1, none⟩ = some (.slice ao n c) := (hbC.cell (p := ⟨w.heap.size, 1, none⟩) (by show w.heap.size < _; omega)).trans g2
  have h3 : wC.cell? ⟨w.heap.size + 1, 0, none⟩ = some (.slice (some ⟨b, o, none⟩) m d) := (hbC.cell (p := ⟨w.heap.size + 1, 0, none⟩) (by show w.heap.size + 1 < _; omega)).trans g3
  have h4 : wC.cell? ⟨w.heap.size + 1, 1, none⟩ = some (.slice (some ⟨b', o', none⟩) m2 d2) := (hbC.cell (p := ⟨w.heap.size + 1, 1, none⟩) (by show w.heap.size + 1 < _; omega)).trans g4
  have h5 : Below w.heap.size w wC := g5.trans (hbC.mono (by omega))
  rw [HZs.out] at hC
  have HCC := Lib.hid hC
  clear hC hgC hatC hgl hbC
  refine hK.out _ _ ?_ (fun hHeld => ?_)
  · exact ⟨h1, h2, h3, h4, h5⟩
  clear hK K
  (try simp only [Act.put, List.setIfInBounds_toArray, List.set_cons_zero, List.set_cons_succ])
  refine wpAnyH_ready (rs := [6]) (by kernel_rfl) (by simp) ?_
  refine AllReadyH.cons (o := ⟨_, _, _, _, _, _⟩) rfl (fun K hK => ?_) AllReadyH.nil
  go_simp
  go_at_call 66
  refine (HVs.out _ _ _ _ _ HCC.out (by omega)).mono ?_
  rintro e w5 ⟨gv, vm, vd, rfl, hvm, hov, b5⟩
  have k1 := cell_b b5 h1
  have k2 := cell_b b5 h2
  have k3 := cell_b b5 h3
  have k4 := cell_b b5 h4
  have k5 := h5.trans (b5.mono h5.size)
  have HOv := Lib.hid hov
  have hgv := (hov.lt gv rfl)
  have hwC := h5.size
  clear hov b5
  go_wp2_with fail
  refine hK.out _ _ ?_ (fun hHeld => ?_)
  · exact ⟨k1, k2, k3, k4, k5⟩
  clear hK K
  (try simp only [Act.put, List.setIfInBounds_toArray, List.set_cons_zero, List.set_cons_succ])
  refine wpAnyH_take (i := 7) (oi := ⟨_, _, _, _, _, _⟩) (v := ?_) rfl (by kernel_rfl) (by kernel_rfl) (by kernel_rfl) (fun _ _ _ h => h) (Or.inl ⟨rfl, ?_⟩) (by assumption) ?_
  rotate_left 1
  · intro w_ hSw; (try dsimp only at hSw); go_simp; (try with_reducible rfl)
  (try simp only [Act.put, List.setIfInBounds_toArray, List.set_cons_zero, List.set_cons_succ])
  refine wpAnyH_done (by kernel_rfl) ?_ _
  refine NoPanic.normal ?_
  subst hvm
  have hwk : w.heap.size + 1 < w5.heap.size := World.block_lt_of_cell? w5 _ k3
  have HB5 := Lib.hid k5
  clear g1 g2 g3 g4 g5 h1 h2 h3 h4 h5 HO3 HCC hs3 yB k5 HVs HOwn HCy HLy HZs
  obtain ⟨i0, hi0, hz0, hz1_, hz2_⟩ := info_parts Try.infoInt
  go_wp2_with fail
  have HZ0 := Lib.hid (own_nil_lit w5 (base := w5.heap.size) (Nat.le_refl _))
  have HZ1 := Lib.hid (below_alloc w5 (.cells #[] 3))
  go_loopw [7] (fun v wr => ∃ k g0 c0 : Nat, k ≤ N ∧ v = .slice (some ⟨g0, 0, none⟩) k c0 ∧ Hid (wr.ownsRow w5.heap.size 3 1 (.slice (some ⟨g0, 0, none⟩) k c0) k ((List.replicate k (0 : Int)).map (Value.int .i64))) ∧ Hid (Below w5.heap.size w5 wr)) (fun v _ => N - lenV v)
  case atStart => exact ⟨0, _, _, Nat.zero_le _, rfl, HZ0, HZ1⟩
  case round =>
    obtain ⟨k, G, cG, hk, rfl, HZr, HZb⟩ := hrel
    clear HZ0 HZ1
    by_cases hltk : k < N
    · rcases HLast.out with ⟨_, h_⟩ | ⟨q, hq1, hq2, hq3⟩
      · omega
      · have hv0 : (0 : Int) < (vm : Int) := by omega
        obtain ⟨l, hl⟩ : ∃ l : Nat, vm - 1 = l := ⟨_, rfl⟩
        rw [hl] at hq1
        have hvm1 : (vm : Int) - 1 = (l : Int) := by omega
        have hlv : (l : Int) < (vm : Int) := by omega
        have hkq : (k : Int) ≤ (q : Int) := by omega
        have kl : wr.cell? ⟨gv, l, none⟩ = some (.int .i64 (q : Int)) := cell_b HZb.out (own_at HOv.out hq1)
        clear hq1 hl
        go_wp2_with (at_builtin; refine wpList_append_own_at _ rfl _ _ 25 rfl w5.heap.size 3 i0 (.int .i64 0) 1 8 Try.underlying25 hi0 hz0 hz1_ hz2_ rfl (by decide) (.slice (some ⟨G, 0, none⟩) k cG) k ((List.replicate k (0 : Int)).map (Value.int .i64)) rfl (HZr.out.alloc _) ⟨wr.heap.size, 0, none⟩ 1 1 [.int .i64 0] rfl rfl (cell_one_new _ _ _) (fun x hx => by simp at hx; subst hx; rfl) (by unfold maxLen; omega) (by omega) (by have := HZb.out.size; simp; omega) ?_; intro v' w3 hown' hgrow' hnil' hat')
        obtain ⟨g3, cap, rfl⟩ := ownsRow_succ hown'
        have HB3 := Lib.hid ((HZb.out.alloc HZb.out.size (.cells #[.int .i64 0] 3)).grown hgrow' (by have := HZb.out.size; simp; omega) (fun q hq => (HZr.out.lt q hq).1))
        have HN3 : Hid (w3.ownsRow w5.heap.size 3 1 (.slice (some ⟨g3, 0, none⟩) (k + 1) cap) (k + 1) ((List.replicate (k + 1) (0 : Int)).map (Value.int .i64))) := by
          unfold Hid; rw [List.replicate_succ', List.map_append]; exact hown'
        clear hown' hgrow' hnil' hat' kl
        go_wp2_with fail
        go_roundw
        case rel => exact ⟨k + 1, g3, cap, by omega, rfl, HN3, HB3⟩
        case measure => simp [lenV]; omega
    · obtain rfl : k = N := by omega
      obtain ⟨w7, hw7⟩ : ∃ w7 : World, w7 = wr := ⟨_, rfl⟩
      rw [← hw7]
      rw [← hw7] at HZr HZb
      clear hw7
      have d1 := cell_b HZb.out k1
      have d2_ := cell_b HZb.out k2
      have d3 := cell_b HZb.out k3
      have d4 := cell_b HZb.out k4
      have HB7 := Lib.hid (HB5.out.trans (HZb.out.mono HB5.out.size))
      have hGl := HZr.out.lt G rfl
      have hwG : w.heap.size + 1 < G := by omega
      have HVv : Hid (IView w7 w.heap.size w5.heap.size (some ⟨gv, 0, none⟩) vm vs) := ((OwnsInts.of_row (ownsRow_base (b' := w.heap.size) HOv.out (by omega))).kept (Kept.of_below HZb.out (Nat.le_refl _))).view
      have HO7 := Lib.hid (ownsRow_base (b' := w.heap.size) HZr.out (by omega))
      have hGs : G < w7.heap.size := hGl.2
      have hG5 : w5.heap.size ≤ G := hGl.1
      clear k1 k2 k3 k4 hGl HZr HZb HB5 HOv
      rcases Nat.eq_zero_or_pos vm with hv0 | hv0
      · have hv0' : ¬ (0 : Int) < (vm : Int) := by omega
        clear hv0
        go_wp2_with fail
        go_loopw [8, 9, 10] (fun i _ _ wr => ∃ j : Nat, j ≤ p ∧ i = .int .i64 (j : Int) ∧ Hid (∀ i', i' < j → badB z fs xs ys i' = false) ∧ Hid (∃ cur : List Int, (∀ i' : Nat, putVs cur vs (digs z vm (i' : Int)) = cntV z zs i') ∧ cur.length = k ∧ wr.ownsRow w.heap.size 3 1 (.slice (some ⟨G, 0, none⟩) k cG) k (cur.map (Value.int .i64))) ∧ Hid (IView wr w.heap.size w5.heap.size (some ⟨gv, 0, none⟩) vm vs) ∧ wr.cell? ⟨w.heap.size, 0, none⟩ = some (.int .i64 z) ∧ wr.cell? ⟨w.heap.size, 1, none⟩ = some (.slice ao n c) ∧ wr.cell? ⟨w.heap.size + 1, 0, none⟩ = some (.slice (some ⟨b, o, none⟩) m d) ∧ wr.cell? ⟨w.heap.size + 1, 1, none⟩ = some (.slice (some ⟨b', o', none⟩) m2 d2) ∧ Hid (Below w.heap.size w wr) ∧ G < wr.heap.size) (fun i _ _ _ => p - (intOf i).toNat)
        case atStart => exact ⟨0, Nat.zero_le _, rfl, (fun i' h => by omega), ⟨_, HRz.out, by simp, HO7.out⟩, HVv, d1, d2_, d3, d4, HB7, hGs⟩
        case round =>
          obtain ⟨j, hj, rfl, HNo, HCur, HVw, z1, z2, z3, z4, HBr, hGr⟩ := hrel
          clear d1 d2_ d3 d4 HVv HO7 HB7 hGs
          by_cases hlt : j < p
          · obtain ⟨wi, hwi⟩ : ∃ wi : World, wi = wr := ⟨_, rfl⟩
            rw [← hwi]
            rw [← hwi] at HCur HVw z1 z2 z3 z4 HBr hGr
            clear hwi
            have hjp : (j : Int) < (p : Int) := by omega
            obtain ⟨cur, hcur, hcl, ho⟩ := HCur.out
            have HCu := Lib.hid hcur
            have HOi := Lib.hid ho
            clear hcur ho
            go_wp2_with fail
            refine (HL6.out _).mono ?_
            rintro e w_ ⟨rfl, rfl⟩
            go_wp2_with fail
            refine (HA.out j hlt _).mono ?_
            rintro e wA ⟨rfl, hoA, bA⟩
            have e1 := cell_b bA z1
            have e2 := cell_b bA z2
            have e3 := cell_b bA z3
            have e4 := cell_b bA z4
            have HVA := Lib.hid (HVw.out.kept (Kept.of_below bA (by omega)))
            have HRA := Lib.hid (HOi.out.kept (grown_of_below bA none) (own_em _))
            have HBA := Lib.hid (HBr.out.trans (bA.mono HBr.out.size))
            obtain ⟨D, hD⟩ : ∃ D : Nat, D = wi.heap.size := ⟨_, rfl⟩
            rw [← hD] at hoA ⊢
            have hGD : G < D := by omega
            have hDs : D < wA.heap.size := (hoA.lt D rfl).2
            have HDA := Lib.hid hoA
            clear hoA bA hD z1 z2 z3 z4 HVw HOi
            go_wp2_with fail
            go_loopw [10] (fun i wq => ∃ q : Nat, q ≤ vm ∧ i = .int .i64 (q : Int) ∧ Hid (wq.ownsRow w.heap.size 3 1 (.slice (some ⟨G, 0, none⟩) k cG) k ((putVs cur (vs.take q) ((digs z vm (j : Int)).take q)).map (Value.int .i64))) ∧ Hid (wA.grownBy wq (some G))) (fun i _ => vm - (intOf i).toNat)
            case atStart => exact ⟨0, Nat.zero_le _, rfl, by rw [putVs_zero]; exact HRA, World.grownBy.refl _ _⟩
            case round =>
              obtain ⟨q, hq, rfl, HRq, HGq⟩ := hrel
              by_cases hlt2 : q < vm
              · obtain ⟨x, hxq⟩ := get_of_lt (HDl.out j) hlt2
                obtain ⟨v, hvq⟩ := get_of_lt HVl.out hlt2
                obtain ⟨vn, rfl, hvn⟩ := HVn.out q v hvq
                obtain ⟨bV, oV, hva, hbl, hbh, hcv⟩ := HVA.out.at_ (by omega)
                cases hva
                have k1 : wr.cell? ⟨gv, q, none⟩ = some (.int .i64 (vn : Int)) := (World.cell?_of_block (a := ⟨gv, q, none⟩) (HGq.out.block gv (by omega) (by intro h_; injection h_ with h_; omega))).trans (by have h_ := hcv q _ hvq; rwa [Nat.zero_add] at h_)
                have k2 : wr.cell? ⟨D, q, none⟩ = some (.int .i64 x) := (World.cell?_of_block (a := ⟨D, q, none⟩) (HGq.out.block D (by omega) (by intro h_; injection h_ with h_; omega))).trans (own_at HDA.out hxq)
                have hlen := HRq.out.1
                obtain ⟨u, hu⟩ : ∃ u, wr.cell? ⟨G, vn, none⟩ = some u := by
                  rw [HRq.out.cellAt vn (by omega)]
                  exact ⟨_, List.getElem?_eq_getElem (by omega)⟩
                have hfr := HRq.out.frozenAt vn
                have hst := World.ownsRow.stored (w := wr.drew) HRq.out vn (.int .i64 x)
                have hps := putVs_succ vs (digs z vm (j : Int)) cur q (vn : Int) x hvq hxq
                rw [Int.toNat_natCast] at hps
                rw [← List.map_set, ← hps] at hst
                have HST := Lib.hid hst
                have hvN : (vn : Int) < (k : Int) := by omega
                have hqv : (q : Int) < (vm : Int) := by omega
                have hkv1 : (wr.drew.setCell ⟨G, vn, none⟩ (.int .i64 x)).cell? ⟨gv, q, none⟩ = some (.int .i64 (vn : Int)) := keepS (w := wr.drew) k1 (by show G ≠ gv; omega)
                have hkv2 : (wr.drew.setCell ⟨G, vn, none⟩ (.int .i64 x)).cell? ⟨D, q, none⟩ = some (.int .i64 x) := keepS (w := wr.drew) k2 (by show G ≠ D; omega)
                clear hst hps hcv hxq hvq hlen
                go_wp2_with fail
                refine wp_region_noPanic ?_
                refine wp_region_held_drew (S := fun W => W.cell? ⟨gv, q, none⟩ = some (.int .i64 (vn : Int)) ∧ W.cell? ⟨D, q, none⟩ = some (.int .i64 x)) (by kernel_rfl) ?_ (fun hHeld => ?_)
                · exact ⟨k1, k2⟩
                refine wpAnyH_take (i := 0) (oi := ⟨_, _, _, _, _, _⟩) (v := ?_) rfl (by kernel_rfl) (by kernel_rfl) (by kernel_rfl) (fun _ _ _ h => h) (Or.inl ⟨rfl, ?_⟩) (by assumption) ?_
                rotate_left 1
                · intro w_ hSw; (try dsimp only at hSw); go_simp; (try with_reducible rfl)
                (try simp only [Act.put, List.setIfInBounds_toArray, List.set_cons_zero, List.set_cons_succ])
                refine wpAnyH_take (i := 1) (oi := ⟨_, _, _, _, _, _⟩) (v := ?_) rfl (by kernel_rfl) (by kernel_rfl) (by kernel_rfl) (fun _ _ _ h => h) (Or.inl ⟨rfl, ?_⟩) (by assumption) ?_
                rotate_left 1
                · intro w_ hSw; (try dsimp only at hSw); go_simp; (try with_reducible rfl)
                (try simp only [Act.put, List.setIfInBounds_toArray, List.set_cons_zero, List.set_cons_succ])
                refine wpAnyH_take (i := 2) (oi := ⟨_, _, _, _, _, _⟩) (v := ?_) rfl (by kernel_rfl) (by kernel_rfl) (by kernel_rfl) (fun _ _ _ h => h) (Or.inl ⟨rfl, ?_⟩) (by assumption) ?_
                rotate_left 1
                · intro w_ hSw; (try dsimp only at hSw); go_simp; (try with_reducible rfl)
                (try simp only [Act.put, List.setIfInBounds_toArray, List.set_cons_zero, List.set_cons_succ])
                refine wpAnyH_take (i := 3) (oi := ⟨_, _, _, _, _, _⟩) (v := ?_) rfl (by kernel_rfl) (by kernel_rfl) (by kernel_rfl) (fun _ _ _ h => h) (Or.inl ⟨rfl, ?_⟩) (by assumption) ?_
                rotate_left 1
                · intro w_ hSw; (try dsimp only at hSw); go_simp; (try with_reducible rfl)
                (try simp only [Act.put, List.setIfInBounds_toArray, List.set_cons_zero, List.set_cons_succ])
                refine wpAnyH_take (i := 4) (oi := ⟨_, _, _, _, _, _⟩) (v := ?_) rfl (by kernel_rfl) (by kernel_rfl) (by kernel_rfl) (fun _ _ _ h => h) (Or.inl ⟨rfl, ?_⟩) (by assumption) ?_
                rotate_left 1
                · intro w_ hSw; (try dsimp only at hSw); go_simp; (try with_reducible rfl)
                (try simp only [Act.put, List.setIfInBounds_toArray, List.set_cons_zero, List.set_cons_succ])
                refine wpAnyH_take (i := 5) (oi := ⟨_, _, _, _, _, _⟩) (v := ?_) rfl (by kernel_rfl) (by kernel_rfl) (by kernel_rfl) (fun _ _ _ h => h) (Or.inl ⟨rfl, ?_⟩) (by assumption) ?_
                rotate_left 1
                · intro w_ hSw; (try dsimp only at hSw); go_simp; (try with_reducible rfl)
                (try simp only [Act.put, List.setIfInBounds_toArray, List.set_cons_zero, List.set_cons_succ])
                refine wpAnyH_take (i := 6) (oi := ⟨_, _, _, _, _, _⟩) (v := ?_) rfl (by kernel_rfl) (by kernel_rfl) (by kernel_rfl) (fun _ _ _ h => h) (Or.inl ⟨rfl, ?_⟩) (by assumption) ?_
                rotate_left 1
                · intro w_ hSw; (try dsimp only at hSw); go_simp; (try with_reducible rfl)
                (try simp only [Act.put, List.setIfInBounds_toArray, List.set_cons_zero, List.set_cons_succ])
                refine wpAnyH_take (i := 7) (oi := ⟨_, _, _, _, _, _⟩) (v := ?_) rfl (by kernel_rfl) (by kernel_rfl) (by kernel_rfl) (fun _ _ _ h => h) (Or.inl ⟨rfl, ?_⟩) (by assumption) ?_
                rotate_left 1
                · intro w_ hSw; (try dsimp only at hSw); go_simp; (try with_reducible rfl)
                (try simp only [Act.put, List.setIfInBounds_toArray, List.set_cons_zero, List.set_cons_succ])
                refine wpAnyH_take (i := 8) (oi := ⟨_, _, _, _, _, _⟩) (v := ?_) rfl (by kernel_rfl) (by kernel_rfl) (by kernel_rfl) (fun _ _ _ h => h) (Or.inl ⟨rfl, ?_⟩) (by assumption) ?_
                rotate_left 1
                · intro w_ hSw; (try dsimp only at hSw); go_simp; (try with_reducible rfl)
                (try simp only [Act.put, List.setIfInBounds_toArray, List.set_cons_zero, List.set_cons_succ])
                refine wpAnyH_take (i := 9) (oi := ⟨_, _, _, _, _, _⟩) (v := ?_) rfl (by kernel_rfl) (by kernel_rfl) (by kernel_rfl) (fun _ _ _ h => h) (Or.inl ⟨rfl, ?_⟩) (by assumption) ?_
                rotate_left 1
                · intro w_ hSw; (try dsimp only at hSw); go_simp; (try with_reducible rfl)
                (try simp only [Act.put, List.setIfInBounds_toArray, List.set_cons_zero, List.set_cons_succ])
                refine wpAnyH_ready (rs := [10]) (by kernel_rfl) (by simp) ?_
                refine AllReadyH.cons (o := ⟨_, _, _, _, _, _⟩) rfl (fun K hK => ?_) AllReadyH.nil
                go_simp
                refine hK.out _ _ ?_ (fun hHeld => ?_)
                · exact ⟨hkv1, hkv2⟩
                clear hK K
                (try simp only [Act.put, List.setIfInBounds_toArray, List.set_cons_zero, List.set_cons_succ])
                refine wpAnyH_done (by kernel_rfl) ?_ _
                refine NoPanic.normal ?_
                have HG2 : Hid (wA.grownBy (wr.drew.setCell ⟨G, vn, none⟩ (.int .i64 x)) (some G)) := (HGq.out.trans (show wr.grownBy wr.drew (some G) from ⟨rfl, rfl, rfl, Nat.le_refl _, fun _ _ _ => rfl⟩)).trans HST.out.2
                have HR2 := Lib.hid HST.out.1
                clear hkv1 hkv2 k1 k2 hu hfr
                go_wp2_with fail
                go_roundw
                case rel => exact ⟨q + 1, by omega, by go_num, HR2, HG2⟩
                case measure => (simp [intOf]) <;> omega
              · obtain rfl : q = vm := by omega
                obtain ⟨w6, hw6⟩ : ∃ w6 : World, w6 = wr := ⟨_, rfl⟩
                rw [← hw6]
                rw [← hw6] at HRq HGq
                clear hw6
                have hgc : ∀ {o_ : Nat} {B_ : Nat} {v_ : Value}, B_ ≤ w.heap.size + 1 → wA.cell? ⟨B_, o_, none⟩ = some v_ → w6.cell? ⟨B_, o_, none⟩ = some v_ := fun {o_} {B_} {v_} hB h => (World.cell?_of_block (a := ⟨B_, o_, none⟩) (HGq.out.block B_ (by omega) (by intro h_; injection h_ with h_; omega))).trans h
                have f1 := hgc (by omega) e1
                have f2 := hgc (by omega) e2
                have f3 := hgc (by omega) e3
                have f4 := hgc (by omega) e4
                have HV6 := Lib.hid (HVA.out.kept (fun k_ h1_ h2_ => HGq.out.block k_ (by omega) (by intro h_; injection h_ with h_; omega)))
                have hs6 := HGq.out.size
                have HB6 := Lib.hid (HBA.out.grown HGq.out (by have := HBA.out.size; omega) (by intro b hb; cases hb; omega))
                have HR6 : Hid (w6.ownsRow w.heap.size 3 1 (.slice (some ⟨G, 0, none⟩) k cG) k ((cntV z zs j).map (Value.int .i64))) := by
                  unfold Hid
                  have h_ := HRq.out
                  rw [putVs_all (Nat.le_of_eq HVl.out) (Nat.le_of_eq (HDl.out j)), HCu.out j] at h_
                  exact h_
                clear hgc e1 e2 e3 e4 HVA HRA HBA HDA HRq HGq
                have hG6 : G < w6.heap.size := by omega
                have hv1 := fun (W : World) (hb : Below w6.heap.size w6 W) => HVx.out j G cG W (HB6.out.trans (hb.mono HB6.out.size)) ((OwnsInts.of_row (HR6.out.kept (grown_of_below hb none) (own_em _))).view)
                have hv2 := fun (W : World) (hb : Below w6.heap.size w6 W) => HVy.out j G cG W (HB6.out.trans (hb.mono HB6.out.size)) ((OwnsInts.of_row (HR6.out.kept (grown_of_below hb none) (own_em _))).view)
                have hbj := HBad.out j
                obtain ⟨ex, hex⟩ : ∃ e_, evT z fs (cntV z zs j) xs = e_ := ⟨_, rfl⟩
                obtain ⟨ey, hey⟩ : ∃ e_, evT z fs (cntV z zs j) ys = e_ := ⟨_, rfl⟩
                rw [hex] at hv1 hbj
                rw [hey] at hv2 hbj
                have HV1 := Lib.hid hv1
                have HV2 := Lib.hid hv2
                have HBj := Lib.hid hbj
                clear hv1 hv2 hbj hex hey
                have yC : Below w6.heap.size w6 w6.drew := below_drew _
                have hqq : ¬ (q : Int) < (q : Int) := by omega
                by_cases heq : ex = ey
                · subst heq
                  go_wp2_with fail
                  refine wp_region_noPanic ?_
                  refine wp_region_held_drew (S := fun W => W.cell? ⟨w.heap.size, 0, none⟩ = some (.int .i64 z) ∧ W.cell? ⟨w.heap.size, 1, none⟩ = some (.slice ao n c) ∧ W.cell? ⟨w.heap.size + 1, 0, none⟩ = some (.slice (some ⟨b, o, none⟩) m d) ∧ W.cell? ⟨w.heap.size + 1, 1, none⟩ = some (.slice (some ⟨b', o', none⟩) m2 d2) ∧ Below w6.heap.size w6 W) (by kernel_rfl) ?_ (fun hHeld => ?_)
                  · exact ⟨by go_simp, by go_simp, by go_simp, by go_simp, yC⟩
                  refine wpAnyH_take (i := 0) (oi := ⟨_, _, _, _, _, _⟩) (v := ?_) rfl (by kernel_rfl) (by kernel_rfl) (by kernel_rfl) (fun _ _ _ h => h) (Or.inl ⟨rfl, ?_⟩) (by assumption) ?_
                  rotate_left 1
                  · intro w_ hSw; (try dsimp only at hSw); go_simp; (try with_reducible rfl)
                  (try simp only [Act.put, List.setIfInBounds_toArray, List.set_cons_zero, List.set_cons_succ])
                  refine wpAnyH_take (i := 1) (oi := ⟨_, _, _, _, _, _⟩) (v := ?_) rfl (by kernel_rfl) (by kernel_rfl) (by kernel_rfl) (fun _ _ _ h => h) (Or.inl ⟨rfl, ?_⟩) (by assumption) ?_
                  rotate_left 1
                  · intro w_ hSw; (try dsimp only at hSw); go_simp; (try with_reducible rfl)
                  (try simp only [Act.put, List.setIfInBounds_toArray, List.set_cons_zero, List.set_cons_succ])
                  refine wpAnyH_take (i := 2) (oi := ⟨_, _, _, _, _, _⟩) (v := ?_) rfl (by kernel_rfl) (by kernel_rfl) (by kernel_rfl) (fun _ _ _ h => h) (Or.inl ⟨rfl, ?_⟩) (by assumption) ?_
                  rotate_left 1
                  · intro w_ hSw; (try dsimp only at hSw); go_simp; (try with_reducible rfl)
                  (try simp only [Act.put, List.setIfInBounds_toArray, List.set_cons_zero, List.set_cons_succ])
                  refine wpAnyH_take (i := 3) (oi := ⟨_, _, _, _, _, _⟩) (v := ?_) rfl (by kernel_rfl) (by kernel_rfl) (by kernel_rfl) (fun _ _ _ h => h) (Or.inl ⟨rfl, ?_⟩) (by assumption) ?_
                  rotate_left 1
                  · intro w_ hSw; (try dsimp only at hSw); go_simp; (try with_reducible rfl)
                  (try simp only [Act.put, List.setIfInBounds_toArray, List.set_cons_zero, List.set_cons_succ])
                  refine wpAnyH_take (i := 5) (oi := ⟨_, _, _, _, _, _⟩) (v := ?_) rfl (by kernel_rfl) (by kernel_rfl) (by kernel_rfl) (fun _ _ _ h => h) (Or.inl ⟨rfl, ?_⟩) (by assumption) ?_
                  rotate_left 1
                  · intro w_ hSw; (try dsimp only at hSw); go_simp; (try with_reducible rfl)
                  (try simp only [Act.put, List.setIfInBounds_toArray, List.set_cons_zero, List.set_cons_succ])
                  refine wpAnyH_take (i := 6) (oi := ⟨_, _, _, _, _, _⟩) (v := ?_) rfl (by kernel_rfl) (by kernel_rfl) (by kernel_rfl) (fun _ _ _ h => h) (Or.inl ⟨rfl, ?_⟩) (by assumption) ?_
                  rotate_left 1
                  · intro w_ hSw; (try dsimp only at hSw); go_simp; (try with_reducible rfl)
                  (try simp only [Act.put, List.setIfInBounds_toArray, List.set_cons_zero, List.set_cons_succ])
                  refine wpAnyH_take (i := 7) (oi := ⟨_, _, _, _, _, _⟩) (v := ?_) rfl (by kernel_rfl) (by kernel_rfl) (by kernel_rfl) (fun _ _ _ h => h) (Or.inl ⟨rfl, ?_⟩) (by assumption) ?_
                  rotate_left 1
                  · intro w_ hSw; (try dsimp only at hSw); go_simp; (try with_reducible rfl)
                  (try simp only [Act.put, List.setIfInBounds_toArray, List.set_cons_zero, List.set_cons_succ])
                  refine wpAnyH_take (i := 8) (oi := ⟨_, _, _, _, _, _⟩) (v := ?_) rfl (by kernel_rfl) (by kernel_rfl) (by kernel_rfl) (fun _ _ _ h => h) (Or.inl ⟨rfl, ?_⟩) (by assumption) ?_
                  rotate_left 1
                  · intro w_ hSw; (try dsimp only at hSw); go_simp; (try with_reducible rfl)
                  (try simp only [Act.put, List.setIfInBounds_toArray, List.set_cons_zero, List.set_cons_succ])
                  refine wpAnyH_ready (rs := [4]) (by kernel_rfl) (by simp) ?_
                  refine AllReadyH.cons (o := ⟨_, _, _, _, _, _⟩) rfl (fun K hK => ?_) AllReadyH.nil
                  go_simp
                  obtain ⟨q1_, q2_, q3_, q4_, q5_⟩ := id hHeld
                  go_at_call 84
                  refine (HV1.out _ q5_).mono ?_
                  rintro e w7_ ⟨rfl, b7⟩
                  have g1 := cell_b b7 q1_
                  have g2 := cell_b b7 q2_
                  have g3 := cell_b b7 q3_
                  have g4 := cell_b b7 q4_
                  have g5 := q5_.trans (b7.mono q5_.size)
                  clear b7 q1_ q2_ q3_ q4_ q5_
                  go_wp2_with fail
                  refine hK.out _ _ ?_ (fun hHeld => ?_)
                  · exact ⟨g1, g2, g3, g4, g5⟩
                  clear hK K
                  (try simp only [Act.put, List.setIfInBounds_toArray, List.set_cons_zero, List.set_cons_succ])
                  refine wpAnyH_ready (rs := [9]) (by kernel_rfl) (by simp) ?_
                  refine AllReadyH.cons (o := ⟨_, _, _, _, _, _⟩) rfl (fun K hK => ?_) AllReadyH.nil
                  go_simp
                  obtain ⟨q1_, q2_, q3_, q4_, q5_⟩ := id hHeld
                  go_at_call 84
                  refine (HV2.out _ q5_).mono ?_
                  rintro e w8 ⟨rfl, b7⟩
                  have h1 := cell_b b7 q1_
                  have h2 := cell_b b7 q2_
                  have h3 := cell_b b7 q3_
                  have h4 := cell_b b7 q4_
                  have h5 := q5_.trans (b7.mono q5_.size)
                  clear b7 q1_ q2_ q3_ q4_ q5_
                  go_wp2_with fail
                  refine hK.out _ _ ?_ (fun hHeld => ?_)
                  · exact ⟨h1, h2, h3, h4, h5⟩
                  clear hK K
                  (try simp only [Act.put, List.setIfInBounds_toArray, List.set_cons_zero, List.set_cons_succ])
                  refine wpAnyH_take (i := 10) (oi := ⟨_, _, _, _, _, _⟩) (v := ?_) rfl (by kernel_rfl) (by kernel_rfl) (by kernel_rfl) (fun _ _ _ h => h) (Or.inl ⟨rfl, ?_⟩) (by assumption) ?_
                  rotate_left 1
                  · intro w_ hSw; (try dsimp only at hSw); go_simp; (try with_reducible rfl)
                  (try simp only [Act.put, List.setIfInBounds_toArray, List.set_cons_zero, List.set_cons_succ])
                  refine wpAnyH_done (by kernel_rfl) ?_ _
                  refine NoPanic.normal ?_
                  have HR8 := Lib.hid (HR6.out.kept (grown_of_below h5 none) (own_em _))
                  have HV8 := Lib.hid (HV6.out.kept (Kept.of_below h5 (by omega)))
                  have HB8 := Lib.hid (HB6.out.trans (h5.mono HB6.out.size))
                  have hs8 := h5.size
                  have HNo2 : Hid (∀ i', i' < j + 1 → badB z fs xs ys i' = false) := fun i' hi' => by
                    by_cases h_ : i' < j
                    · exact HNo.out i' h_
                    · obtain rfl : i' = j := by omega
                      rw [HBj.out]; simp
                  clear g1 g2 g3 g4 g5 yC
                  go_wp2_with fail
                  go_roundw
                  case rel => exact ⟨j + 1, by omega, by go_num, HNo2, ⟨_, HRc.out j, HCl.out j, HR8.out⟩, HV8, h1, h2, h3, h4, HB8, by omega⟩
                  case measure => (simp [intOf]) <;> omega
                · have hne : (ex == ey) = false := by rw [beq_eq_false_iff_ne]; exact heq
                  have hne2 : (ex != ey) = true := by rw [bne_iff_ne]; exact heq
                  go_wp2_with fail
                  refine wp_region_noPanic ?_
                  refine wp_region_held_drew (S := fun W => W.cell? ⟨w.heap.size, 0, none⟩ = some (.int .i64 z) ∧ W.cell? ⟨w.heap.size, 1, none⟩ = some (.slice ao n c) ∧ W.cell? ⟨w.heap.size + 1, 0, none⟩ = some (.slice (some ⟨b, o, none⟩) m d) ∧ W.cell? ⟨w.heap.size + 1, 1, none⟩ = some (.slice (some ⟨b', o', none⟩) m2 d2) ∧ Below w6.heap.size w6 W) (by kernel_rfl) ?_ (fun hHeld => ?_)
                  · exact ⟨by go_simp, by go_simp, by go_simp, by go_simp, yC⟩
                  refine wpAnyH_take (i := 0) (oi := ⟨_, _, _, _, _, _⟩) (v := ?_) rfl (by kernel_rfl) (by kernel_rfl) (by kernel_rfl) (fun _ _ _ h => h) (Or.inl ⟨rfl, ?_⟩) (by assumption) ?_
                  rotate_left 1
                  · intro w_ hSw; (try dsimp only at hSw); go_simp; (try with_reducible rfl)
                  (try simp only [Act.put, List.setIfInBounds_toArray, List.set_cons_zero, List.set_cons_succ])
                  refine wpAnyH_take (i := 1) (oi := ⟨_, _, _, _, _, _⟩) (v := ?_) rfl (by kernel_rfl) (by kernel_rfl) (by kernel_rfl) (fun _ _ _ h => h) (Or.inl ⟨rfl, ?_⟩) (by assumption) ?_
                  rotate_left 1
                  · intro w_ hSw; (try dsimp only at hSw); go_simp; (try with_reducible rfl)
                  (try simp only [Act.put, List.setIfInBounds_toArray, List.set_cons_zero, List.set_cons_succ])
                  refine wpAnyH_take (i := 2) (oi := ⟨_, _, _, _, _, _⟩) (v := ?_) rfl (by kernel_rfl) (by kernel_rfl) (by kernel_rfl) (fun _ _ _ h => h) (Or.inl ⟨rfl, ?_⟩) (by assumption) ?_
                  rotate_left 1
                  · intro w_ hSw; (try dsimp only at hSw); go_simp; (try with_reducible rfl)
                  (try simp only [Act.put, List.setIfInBounds_toArray, List.set_cons_zero, List.set_cons_succ])
                  refine wpAnyH_take (i := 3) (oi := ⟨_, _, _, _, _, _⟩) (v := ?_) rfl (by kernel_rfl) (by kernel_rfl) (by kernel_rfl) (fun _ _ _ h => h) (Or.inl ⟨rfl, ?_⟩) (by assumption) ?_
                  rotate_left 1
                  · intro w_ hSw; (try dsimp only at hSw); go_simp; (try with_reducible rfl)
                  (try simp only [Act.put, List.setIfInBounds_toArray, List.set_cons_zero, List.set_cons_succ])
                  refine wpAnyH_take (i := 5) (oi := ⟨_, _, _, _, _, _⟩) (v := ?_) rfl (by kernel_rfl) (by kernel_rfl) (by kernel_rfl) (fun _ _ _ h => h) (Or.inl ⟨rfl, ?_⟩) (by assumption) ?_
                  rotate_left 1
                  · intro w_ hSw; (try dsimp only at hSw); go_simp; (try with_reducible rfl)
                  (try simp only [Act.put, List.setIfInBounds_toArray, List.set_cons_zero, List.set_cons_succ])
                  refine wpAnyH_take (i := 6) (oi := ⟨_, _, _, _, _, _⟩) (v := ?_) rfl (by kernel_rfl) (by kernel_rfl) (by kernel_rfl) (fun _ _ _ h => h) (Or.inl ⟨rfl, ?_⟩) (by assumption) ?_
                  rotate_left 1
                  · intro w_ hSw; (try dsimp only at hSw); go_simp; (try with_reducible rfl)
                  (try simp only [Act.put, List.setIfInBounds_toArray, List.set_cons_zero, List.set_cons_succ])
                  refine wpAnyH_take (i := 7) (oi := ⟨_, _, _, _, _, _⟩) (v := ?_) rfl (by kernel_rfl) (by kernel_rfl) (by kernel_rfl) (fun _ _ _ h => h) (Or.inl ⟨rfl, ?_⟩) (by assumption) ?_
                  rotate_left 1
                  · intro w_ hSw; (try dsimp only at hSw); go_simp; (try with_reducible rfl)
                  (try simp only [Act.put, List.setIfInBounds_toArray, List.set_cons_zero, List.set_cons_succ])
                  refine wpAnyH_take (i := 8) (oi := ⟨_, _, _, _, _, _⟩) (v := ?_) rfl (by kernel_rfl) (by kernel_rfl) (by kernel_rfl) (fun _ _ _ h => h) (Or.inl ⟨rfl, ?_⟩) (by assumption) ?_
                  rotate_left 1
                  · intro w_ hSw; (try dsimp only at hSw); go_simp; (try with_reducible rfl)
                  (try simp only [Act.put, List.setIfInBounds_toArray, List.set_cons_zero, List.set_cons_succ])
                  refine wpAnyH_ready (rs := [4]) (by kernel_rfl) (by simp) ?_
                  refine AllReadyH.cons (o := ⟨_, _, _, _, _, _⟩) rfl (fun K hK => ?_) AllReadyH.nil
                  go_simp
                  obtain ⟨q1_, q2_, q3_, q4_, q5_⟩ := id hHeld
                  go_at_call 84
                  refine (HV1.out _ q5_).mono ?_
                  rintro e w7_ ⟨rfl, b7⟩
                  have g1 := cell_b b7 q1_
                  have g2 := cell_b b7 q2_
                  have g3 := cell_b b7 q3_
                  have g4 := cell_b b7 q4_
                  have g5 := q5_.trans (b7.mono q5_.size)
                  clear b7 q1_ q2_ q3_ q4_ q5_
                  go_wp2_with fail
                  refine hK.out _ _ ?_ (fun hHeld => ?_)
                  · exact ⟨g1, g2, g3, g4, g5⟩
                  clear hK K
                  (try simp only [Act.put, List.setIfInBounds_toArray, List.set_cons_zero, List.set_cons_succ])
                  refine wpAnyH_ready (rs := [9]) (by kernel_rfl) (by simp) ?_
                  refine AllReadyH.cons (o := ⟨_, _, _, _, _, _⟩) rfl (fun K hK => ?_) AllReadyH.nil
                  go_simp
                  obtain ⟨q1_, q2_, q3_, q4_, q5_⟩ := id hHeld
                  go_at_call 84
                  refine (HV2.out _ q5_).mono ?_
                  rintro e w8 ⟨rfl, b7⟩
                  have h1 := cell_b b7 q1_
                  have h2 := cell_b b7 q2_
                  have h3 := cell_b b7 q3_
                  have h4 := cell_b b7 q4_
                  have h5 := q5_.trans (b7.mono q5_.size)
                  clear b7 q1_ q2_ q3_ q4_ q5_
                  go_wp2_with fail
                  refine hK.out _ _ ?_ (fun hHeld => ?_)
                  · exact ⟨h1, h2, h3, h4, h5⟩
                  clear hK K
                  (try simp only [Act.put, List.setIfInBounds_toArray, List.set_cons_zero, List.set_cons_succ])
                  refine wpAnyH_take (i := 10) (oi := ⟨_, _, _, _, _, _⟩) (v := ?_) rfl (by kernel_rfl) (by kernel_rfl) (by kernel_rfl) (fun _ _ _ h => h) (Or.inl ⟨rfl, ?_⟩) (by assumption) ?_
                  rotate_left 1
                  · intro w_ hSw; (try dsimp only at hSw); go_simp; (try with_reducible rfl)
                  (try simp only [Act.put, List.setIfInBounds_toArray, List.set_cons_zero, List.set_cons_succ])
                  refine wpAnyH_done (by kernel_rfl) ?_ _
                  refine NoPanic.normal ?_
                  have HR8 := Lib.hid (HR6.out.kept (grown_of_below h5 none) (own_em _))
                  have HB8 := Lib.hid (HB6.out.trans (h5.mono HB6.out.size))
                  obtain rfl : R = (cntV z zs j, true) := HSome.out j HNo.out (by rw [HBj.out]; exact hne2) hlt
                  clear g1 g2 g3 g4 g5 yC h1 h2 h3 h4
                  go_wp2_with fail
                  go_ret2
                  exact ⟨_, k, cG, rfl, (by first | rfl | exact (HCl.out j).symm), OwnsInts.of_row HR8.out, HB8.out⟩
          · obtain rfl : j = p := by omega
            obtain rfl : R = ([], false) := HNone.out HNo.out
            go_wp2_with fail
            refine (HL6.out _).mono ?_
            rintro e w_ ⟨rfl, rfl⟩
            go_wp2_with fail
            go_ret2
            exact ⟨_, 0, 0, rfl, rfl, own_nil_res HBr.out, HBr.out.alloc HBr.out.size _⟩
      · rcases HLast.out with ⟨h_, _⟩ | ⟨q, hq1, hq2, hq3⟩
        · omega
        have hv0' : (0 : Int) < (vm : Int) := by omega
        obtain ⟨l, hl⟩ : ∃ l : Nat, vm - 1 = l := ⟨_, rfl⟩
        rw [hl] at hq1
        have hvm1 : (vm : Int) - 1 = (l : Int) := by omega
        have hlv : (l : Int) < (vm : Int) := by omega
        have hkq : ¬ (k : Int) ≤ (q : Int) := by omega
        obtain ⟨bV, oV, hva, _, _, hcv⟩ := HVv.out.at_ hv0
        cases hva
        have kl : w7.cell? ⟨gv, l, none⟩ = some (.int .i64 (q : Int)) := by have h_ := hcv l _ hq1; rwa [Nat.zero_add] at h_
        clear hq1 hl hcv hq2
        go_wp2_with fail
        go_loopw [8, 9, 10] (fun i _ _ wr => ∃ j : Nat, j ≤ p ∧ i = .int .i64 (j : Int) ∧ Hid (∀ i', i' < j → badB z fs xs ys i' = false) ∧ Hid (∃ cur : List Int, (∀ i' : Nat, putVs cur vs (digs z vm (i' : Int)) = cntV z zs i') ∧ cur.length = k ∧ wr.ownsRow w.heap.size 3 1 (.slice (some ⟨G, 0, none⟩) k cG) k (cur.map (Value.int .i64))) ∧ Hid (IView wr w.heap.size w5.heap.size (some ⟨gv, 0, none⟩) vm vs) ∧ wr.cell? ⟨w.heap.size, 0, none⟩ = some (.int .i64 z) ∧ wr.cell? ⟨w.heap.size, 1, none⟩ = some (.slice ao n c) ∧ wr.cell? ⟨w.heap.size + 1, 0, none⟩ = some (.slice (some ⟨b, o, none⟩) m d) ∧ wr.cell? ⟨w.heap.size + 1, 1, none⟩ = some (.slice (some ⟨b', o', none⟩) m2 d2) ∧ Hid (Below w.heap.size w wr) ∧ G < wr.heap.size) (fun i _ _ _ => p - (intOf i).toNat)
        case atStart => exact ⟨0, Nat.zero_le _, rfl, (fun i' h => by omega), ⟨_, HRz.out, by simp, HO7.out⟩, HVv, d1, d2_, d3, d4, HB7, hGs⟩
        case round =>
          obtain ⟨j, hj, rfl, HNo, HCur, HVw, z1, z2, z3, z4, HBr, hGr⟩ := hrel
          clear d1 d2_ d3 d4 HVv HO7 HB7 hGs
          by_cases hlt : j < p
          · obtain ⟨wi, hwi⟩ : ∃ wi : World, wi = wr := ⟨_, rfl⟩
            rw [← hwi]
            rw [← hwi] at HCur HVw z1 z2 z3 z4 HBr hGr
            clear hwi
            have hjp : (j : Int) < (p : Int) := by omega
            obtain ⟨cur, hcur, hcl, ho⟩ := HCur.out
            have HCu := Lib.hid hcur
            have HOi := Lib.hid ho
            clear hcur ho
            go_wp2_with fail
            refine (HL6.out _).mono ?_
            rintro e w_ ⟨rfl, rfl⟩
            go_wp2_with fail
            refine (HA.out j hlt _).mono ?_
            rintro e wA ⟨rfl, hoA, bA⟩
            have e1 := cell_b bA z1
            have e2 := cell_b bA z2
            have e3 := cell_b bA z3
            have e4 := cell_b bA z4
            have HVA := Lib.hid (HVw.out.kept (Kept.of_below bA (by omega)))
            have HRA := Lib.hid (HOi.out.kept (grown_of_below bA none) (own_em _))
            have HBA := Lib.hid (HBr.out.trans (bA.mono HBr.out.size))
            obtain ⟨D, hD⟩ : ∃ D : Nat, D = wi.heap.size := ⟨_, rfl⟩
            rw [← hD] at hoA ⊢
            have hGD : G < D := by omega
            have hDs : D < wA.heap.size := (hoA.lt D rfl).2
            have HDA := Lib.hid hoA
            clear hoA bA hD z1 z2 z3 z4 HVw HOi
            go_wp2_with fail
            go_loopw [10] (fun i wq => ∃ q : Nat, q ≤ vm ∧ i = .int .i64 (q : Int) ∧ Hid (wq.ownsRow w.heap.size 3 1 (.slice (some ⟨G, 0, none⟩) k cG) k ((putVs cur (vs.take q) ((digs z vm (j : Int)).take q)).map (Value.int .i64))) ∧ Hid (wA.grownBy wq (some G))) (fun i _ => vm - (intOf i).toNat)
            case atStart => exact ⟨0, Nat.zero_le _, rfl, by rw [putVs_zero]; exact HRA, World.grownBy.refl _ _⟩
            case round =>
              obtain ⟨q, hq, rfl, HRq, HGq⟩ := hrel
              by_cases hlt2 : q < vm
              · obtain ⟨x, hxq⟩ := get_of_lt (HDl.out j) hlt2
                obtain ⟨v, hvq⟩ := get_of_lt HVl.out hlt2
                obtain ⟨vn, rfl, hvn⟩ := HVn.out q v hvq
                obtain ⟨bV, oV, hva, hbl, hbh, hcv⟩ := HVA.out.at_ (by omega)
                cases hva
                have k1 : wr.cell? ⟨gv, q, none⟩ = some (.int .i64 (vn : Int)) := (World.cell?_of_block (a := ⟨gv, q, none⟩) (HGq.out.block gv (by omega) (by intro h_; injection h_ with h_; omega))).trans (by have h_ := hcv q _ hvq; rwa [Nat.zero_add] at h_)
                have k2 : wr.cell? ⟨D, q, none⟩ = some (.int .i64 x) := (World.cell?_of_block (a := ⟨D, q, none⟩) (HGq.out.block D (by omega) (by intro h_; injection h_ with h_; omega))).trans (own_at HDA.out hxq)
                have hlen := HRq.out.1
                obtain ⟨u, hu⟩ : ∃ u, wr.cell? ⟨G, vn, none⟩ = some u := by
                  rw [HRq.out.cellAt vn (by omega)]
                  exact ⟨_, List.getElem?_eq_getElem (by omega)⟩
                have hfr := HRq.out.frozenAt vn
                have hst := World.ownsRow.stored (w := wr.drew) HRq.out vn (.int .i64 x)
                have hps := putVs_succ vs (digs z vm (j : Int)) cur q (vn : Int) x hvq hxq
                rw [Int.toNat_natCast] at hps
                rw [← List.map_set, ← hps] at hst
                have HST := Lib.hid hst
                have hvN : (vn : Int) < (k : Int) := by omega
                have hqv : (q : Int) < (vm : Int) := by omega
                have hkv1 : (wr.drew.setCell ⟨G, vn, none⟩ (.int .i64 x)).cell? ⟨gv, q, none⟩ = some (.int .i64 (vn : Int)) := keepS (w := wr.drew) k1 (by show G ≠ gv; omega)
                have hkv2 : (wr.drew.setCell ⟨G, vn, none⟩ (.int .i64 x)).cell? ⟨D, q, none⟩ = some (.int .i64 x) := keepS (w := wr.drew) k2 (by show G ≠ D; omega)
                clear hst hps hcv hxq hvq hlen
                go_wp2_with fail
                refine wp_region_noPanic ?_
                refine wp_region_held_drew (S := fun W => W.cell? ⟨gv, q, none⟩ = some (.int .i64 (vn : Int)) ∧ W.cell? ⟨D, q, none⟩ = some (.int .i64 x)) (by kernel_rfl) ?_ (fun hHeld => ?_)
                · exact ⟨k1, k2⟩
                refine wpAnyH_take (i := 0) (oi := ⟨_, _, _, _, _, _⟩) (v := ?_) rfl (by kernel_rfl) (by kernel_rfl) (by kernel_rfl) (fun _ _ _ h => h) (Or.inl ⟨rfl, ?_⟩) (by assumption) ?_
                rotate_left 1
                · intro w_ hSw; (try dsimp only at hSw); go_simp; (try with_reducible rfl)
                (try simp only [Act.put, List.setIfInBounds_toArray, List.set_cons_zero, List.set_cons_succ])
                refine wpAnyH_take (i := 1) (oi := ⟨_, _, _, _, _, _⟩) (v := ?_) rfl (by kernel_rfl) (by kernel_rfl) (by kernel_rfl) (fun _ _ _ h => h) (Or.inl ⟨rfl, ?_⟩) (by assumption) ?_
                rotate_left 1
                · intro w_ hSw; (try dsimp only at hSw); go_simp; (try with_reducible rfl)
                (try simp only [Act.put, List.setIfInBounds_toArray, List.set_cons_zero, List.set_cons_succ])
                refine wpAnyH_take (i := 2) (oi := ⟨_, _, _, _, _, _⟩) (v := ?_) rfl (by kernel_rfl) (by kernel_rfl) (by kernel_rfl) (fun _ _ _ h => h) (Or.inl ⟨rfl, ?_⟩) (by assumption) ?_
                rotate_left 1
                · intro w_ hSw; (try dsimp only at hSw); go_simp; (try with_reducible rfl)
                (try simp only [Act.put, List.setIfInBounds_toArray, List.set_cons_zero, List.set_cons_succ])
                refine wpAnyH_take (i := 3) (oi := ⟨_, _, _, _, _, _⟩) (v := ?_) rfl (by kernel_rfl) (by kernel_rfl) (by kernel_rfl) (fun _ _ _ h => h) (Or.inl ⟨rfl, ?_⟩) (by assumption) ?_
                rotate_left 1
                · intro w_ hSw; (try dsimp only at hSw); go_simp; (try with_reducible rfl)
                (try simp only [Act.put, List.setIfInBounds_toArray, List.set_cons_zero, List.set_cons_succ])
                refine wpAnyH_take (i := 4) (oi := ⟨_, _, _, _, _, _⟩) (v := ?_) rfl (by kernel_rfl) (by kernel_rfl) (by kernel_rfl) (fun _ _ _ h => h) (Or.inl ⟨rfl, ?_⟩) (by assumption) ?_
                rotate_left 1
                · intro w_ hSw; (try dsimp only at hSw); go_simp; (try with_reducible rfl)
                (try simp only [Act.put, List.setIfInBounds_toArray, List.set_cons_zero, List.set_cons_succ])
                refine wpAnyH_take (i := 5) (oi := ⟨_, _, _, _, _, _⟩) (v := ?_) rfl (by kernel_rfl) (by kernel_rfl) (by kernel_rfl) (fun _ _ _ h => h) (Or.inl ⟨rfl, ?_⟩) (by assumption) ?_
                rotate_left 1
                · intro w_ hSw; (try dsimp only at hSw); go_simp; (try with_reducible rfl)
                (try simp only [Act.put, List.setIfInBounds_toArray, List.set_cons_zero, List.set_cons_succ])
                refine wpAnyH_take (i := 6) (oi := ⟨_, _, _, _, _, _⟩) (v := ?_) rfl (by kernel_rfl) (by kernel_rfl) (by kernel_rfl) (fun _ _ _ h => h) (Or.inl ⟨rfl, ?_⟩) (by assumption) ?_
                rotate_left 1
                · intro w_ hSw; (try dsimp only at hSw); go_simp; (try with_reducible rfl)
                (try simp only [Act.put, List.setIfInBounds_toArray, List.set_cons_zero, List.set_cons_succ])
                refine wpAnyH_take (i := 7) (oi := ⟨_, _, _, _, _, _⟩) (v := ?_) rfl (by kernel_rfl) (by kernel_rfl) (by kernel_rfl) (fun _ _ _ h => h) (Or.inl ⟨rfl, ?_⟩) (by assumption) ?_
                rotate_left 1
                · intro w_ hSw; (try dsimp only at hSw); go_simp; (try with_reducible rfl)
                (try simp only [Act.put, List.setIfInBounds_toArray, List.set_cons_zero, List.set_cons_succ])
                refine wpAnyH_take (i := 8) (oi := ⟨_, _, _, _, _, _⟩) (v := ?_) rfl (by kernel_rfl) (by kernel_rfl) (by kernel_rfl) (fun _ _ _ h => h) (Or.inl ⟨rfl, ?_⟩) (by assumption) ?_
                rotate_left 1
                · intro w_ hSw; (try dsimp only at hSw); go_simp; (try with_reducible rfl)
                (try simp only [Act.put, List.setIfInBounds_toArray, List.set_cons_zero, List.set_cons_succ])
                refine wpAnyH_take (i := 9) (oi := ⟨_, _, _, _, _, _⟩) (v := ?_) rfl (by kernel_rfl) (by kernel_rfl) (by kernel_rfl) (fun _ _ _ h => h) (Or.inl ⟨rfl, ?_⟩) (by assumption) ?_
                rotate_left 1
                · intro w_ hSw; (try dsimp only at hSw); go_simp; (try with_reducible rfl)
                (try simp only [Act.put, List.setIfInBounds_toArray, List.set_cons_zero, List.set_cons_succ])
                refine wpAnyH_ready (rs := [10]) (by kernel_rfl) (by simp) ?_
                refine AllReadyH.cons (o := ⟨_, _, _, _, _, _⟩) rfl (fun K hK => ?_) AllReadyH.nil
                go_simp
                refine hK.out _ _ ?_ (fun hHeld => ?_)
                · exact ⟨hkv1, hkv2⟩
                clear hK K
                (try simp only [Act.put, List.setIfInBounds_toArray, List.set_cons_zero, List.set_cons_succ])
                refine wpAnyH_done (by kernel_rfl) ?_ _
                refine NoPanic.normal ?_
                have HG2 : Hid (wA.grownBy (wr.drew.setCell ⟨G, vn, none⟩ (.int .i64 x)) (some G)) := (HGq.out.trans (show wr.grownBy wr.drew (some G) from ⟨rfl, rfl, rfl, Nat.le_refl _, fun _ _ _ => rfl⟩)).trans HST.out.2
                have HR2 := Lib.hid HST.out.1
                clear hkv1 hkv2 k1 k2 hu hfr
                go_wp2_with fail
                go_roundw
                case rel => exact ⟨q + 1, by omega, by go_num, HR2, HG2⟩
                case measure => (simp [intOf]) <;> omega
              · obtain rfl : q = vm := by omega
                obtain ⟨w6, hw6⟩ : ∃ w6 : World, w6 = wr := ⟨_, rfl⟩
                rw [← hw6]
                rw [← hw6] at HRq HGq
                clear hw6
                have hgc : ∀ {o_ : Nat} {B_ : Nat} {v_ : Value}, B_ ≤ w.heap.size + 1 → wA.cell? ⟨B_, o_, none⟩ = some v_ → w6.cell? ⟨B_, o_, none⟩ = some v_ := fun {o_} {B_} {v_} hB h => (World.cell?_of_block (a := ⟨B_, o_, none⟩) (HGq.out.block B_ (by omega) (by intro h_; injection h_ with h_; omega))).trans h
                have f1 := hgc (by omega) e1
                have f2 := hgc (by omega) e2
                have f3 := hgc (by omega) e3
                have f4 := hgc (by omega) e4
                have HV6 := Lib.hid (HVA.out.kept (fun k_ h1_ h2_ => HGq.out.block k_ (by omega) (by intro h_; injection h_ with h_; omega)))
                have hs6 := HGq.out.size
                have HB6 := Lib.hid (HBA.out.grown HGq.out (by have := HBA.out.size; omega) (by intro b hb; cases hb; omega))
                have HR6 : Hid (w6.ownsRow w.heap.size 3 1 (.slice (some ⟨G, 0, none⟩) k cG) k ((cntV z zs j).map (Value.int .i64))) := by
                  unfold Hid
                  have h_ := HRq.out
                  rw [putVs_all (Nat.le_of_eq HVl.out) (Nat.le_of_eq (HDl.out j)), HCu.out j] at h_
                  exact h_
                clear hgc e1 e2 e3 e4 HVA HRA HBA HDA HRq HGq
                have hG6 : G < w6.heap.size := by omega
                have hv1 := fun (W : World) (hb : Below w6.heap.size w6 W) => HVx.out j G cG W (HB6.out.trans (hb.mono HB6.out.size)) ((OwnsInts.of_row (HR6.out.kept (grown_of_below hb none) (own_em _))).view)
                have hv2 := fun (W : World) (hb : Below w6.heap.size w6 W) => HVy.out j G cG W (HB6.out.trans (hb.mono HB6.out.size)) ((OwnsInts.of_row (HR6.out.kept (grown_of_below hb none) (own_em _))).view)
                have hbj := HBad.out j
                obtain ⟨ex, hex⟩ : ∃ e_, evT z fs (cntV z zs j) xs = e_ := ⟨_, rfl⟩
                obtain ⟨ey, hey⟩ : ∃ e_, evT z fs (cntV z zs j) ys = e_ := ⟨_, rfl⟩
                rw [hex] at hv1 hbj
                rw [hey] at hv2 hbj
                have HV1 := Lib.hid hv1
                have HV2 := Lib.hid hv2
                have HBj := Lib.hid hbj
                clear hv1 hv2 hbj hex hey
                have yC : Below w6.heap.size w6 w6.drew := below_drew _
                have hqq : ¬ (q : Int) < (q : Int) := by omega
                by_cases heq : ex = ey
                · subst heq
                  go_wp2_with fail
                  refine wp_region_noPanic ?_
                  refine wp_region_held_drew (S := fun W => W.cell? ⟨w.heap.size, 0, none⟩ = some (.int .i64 z) ∧ W.cell? ⟨w.heap.size, 1, none⟩ = some (.slice ao n c) ∧ W.cell? ⟨w.heap.size + 1, 0, none⟩ = some (.slice (some ⟨b, o, none⟩) m d) ∧ W.cell? ⟨w.heap.size + 1, 1, none⟩ = some (.slice (some ⟨b', o', none⟩) m2 d2) ∧ Below w6.heap.size w6 W) (by kernel_rfl) ?_ (fun hHeld => ?_)
                  · exact ⟨by go_simp, by go_simp, by go_simp, by go_simp, yC⟩
                  refine wpAnyH_take (i := 0) (oi := ⟨_, _, _, _, _, _⟩) (v := ?_) rfl (by kernel_rfl) (by kernel_rfl) (by kernel_rfl) (fun _ _ _ h => h) (Or.inl ⟨rfl, ?_⟩) (by assumption) ?_
                  rotate_left 1
                  · intro w_ hSw; (try dsimp only at hSw); go_simp; (try with_reducible rfl)
                  (try simp only [Act.put, List.setIfInBounds_toArray, List.set_cons_zero, List.set_cons_succ])
                  refine wpAnyH_take (i := 1) (oi := ⟨_, _, _, _, _, _⟩) (v := ?_) rfl (by kernel_rfl) (by kernel_rfl) (by kernel_rfl) (fun _ _ _ h => h) (Or.inl ⟨rfl, ?_⟩) (by assumption) ?_
                  rotate_left 1
                  · intro w_ hSw; (try dsimp only at hSw); go_simp; (try with_reducible rfl)
                  (try simp only [Act.put, List.setIfInBounds_toArray, List.set_cons_zero, List.set_cons_succ])
                  refine wpAnyH_take (i := 2) (oi := ⟨_, _, _, _, _, _⟩) (v := ?_) rfl (by kernel_rfl) (by kernel_rfl) (by kernel_rfl) (fun _ _ _ h => h) (Or.inl ⟨rfl, ?_⟩) (by assumption) ?_
                  rotate_left 1
                  · intro w_ hSw; (try dsimp only at hSw); go_simp; (try with_reducible rfl)
                  (try simp only [Act.put, List.setIfInBounds_toArray, List.set_cons_zero, List.set_cons_succ])
                  refine wpAnyH_take (i := 3) (oi := ⟨_, _, _, _, _, _⟩) (v := ?_) rfl (by kernel_rfl) (by kernel_rfl) (by kernel_rfl) (fun _ _ _ h => h) (Or.inl ⟨rfl, ?_⟩) (by assumption) ?_
                  rotate_left 1
                  · intro w_ hSw; (try dsimp only at hSw); go_simp; (try with_reducible rfl)
                  (try simp only [Act.put, List.setIfInBounds_toArray, List.set_cons_zero, List.set_cons_succ])
                  refine wpAnyH_take (i := 5) (oi := ⟨_, _, _, _, _, _⟩) (v := ?_) rfl (by kernel_rfl) (by kernel_rfl) (by kernel_rfl) (fun _ _ _ h => h) (Or.inl ⟨rfl, ?_⟩) (by assumption) ?_
                  rotate_left 1
                  · intro w_ hSw; (try dsimp only at hSw); go_simp; (try with_reducible rfl)
                  (try simp only [Act.put, List.setIfInBounds_toArray, List.set_cons_zero, List.set_cons_succ])
                  refine wpAnyH_take (i := 6) (oi := ⟨_, _, _, _, _, _⟩) (v := ?_) rfl (by kernel_rfl) (by kernel_rfl) (by kernel_rfl) (fun _ _ _ h => h) (Or.inl ⟨rfl, ?_⟩) (by assumption) ?_
                  rotate_left 1
                  · intro w_ hSw; (try dsimp only at hSw); go_simp; (try with_reducible rfl)
                  (try simp only [Act.put, List.setIfInBounds_toArray, List.set_cons_zero, List.set_cons_succ])
                  refine wpAnyH_take (i := 7) (oi := ⟨_, _, _, _, _, _⟩) (v := ?_) rfl (by kernel_rfl) (by kernel_rfl) (by kernel_rfl) (fun _ _ _ h => h) (Or.inl ⟨rfl, ?_⟩) (by assumption) ?_
                  rotate_left 1
                  · intro w_ hSw; (try dsimp only at hSw); go_simp; (try with_reducible rfl)
                  (try simp only [Act.put, List.setIfInBounds_toArray, List.set_cons_zero, List.set_cons_succ])
                  refine wpAnyH_take (i := 8) (oi := ⟨_, _, _, _, _, _⟩) (v := ?_) rfl (by kernel_rfl) (by kernel_rfl) (by kernel_rfl) (fun _ _ _ h => h) (Or.inl ⟨rfl, ?_⟩) (by assumption) ?_
                  rotate_left 1
                  · intro w_ hSw; (try dsimp only at hSw); go_simp; (try with_reducible rfl)
                  (try simp only [Act.put, List.setIfInBounds_toArray, List.set_cons_zero, List.set_cons_succ])
                  refine wpAnyH_ready (rs := [4]) (by kernel_rfl) (by simp) ?_
                  refine AllReadyH.cons (o := ⟨_, _, _, _, _, _⟩) rfl (fun K hK => ?_) AllReadyH.nil
                  go_simp
                  obtain ⟨q1_, q2_, q3_, q4_, q5_⟩ := id hHeld
                  go_at_call 84
                  refine (HV1.out _ q5_).mono ?_
                  rintro e w7_ ⟨rfl, b7⟩
                  have g1 := cell_b b7 q1_
                  have g2 := cell_b b7 q2_
                  have g3 := cell_b b7 q3_
                  have g4 := cell_b b7 q4_
                  have g5 := q5_.trans (b7.mono q5_.size)
                  clear b7 q1_ q2_ q3_ q4_ q5_
                  go_wp2_with fail
                  refine hK.out _ _ ?_ (fun hHeld => ?_)
                  · exact ⟨g1, g2, g3, g4, g5⟩
                  clear hK K
                  (try simp only [Act.put, List.setIfInBounds_toArray, List.set_cons_zero, List.set_cons_succ])
                  refine wpAnyH_ready (rs := [9]) (by kernel_rfl) (by simp) ?_
                  refine AllReadyH.cons (o := ⟨_, _, _, _, _, _⟩) rfl (fun K hK => ?_) AllReadyH.nil
                  go_simp
                  obtain ⟨q1_, q2_, q3_, q4_, q5_⟩ := id hHeld
                  go_at_call 84
                  refine (HV2.out _ q5_).mono ?_
                  rintro e w8 ⟨rfl, b7⟩
                  have h1 := cell_b b7 q1_
                  have h2 := cell_b b7 q2_
                  have h3 := cell_b b7 q3_
                  have h4 := cell_b b7 q4_
                  have h5 := q5_.trans (b7.mono q5_.size)
                  clear b7 q1_ q2_ q3_ q4_ q5_
                  go_wp2_with fail
                  refine hK.out _ _ ?_ (fun hHeld => ?_)
                  · exact ⟨h1, h2, h3, h4, h5⟩
                  clear hK K
                  (try simp only [Act.put, List.setIfInBounds_toArray, List.set_cons_zero, List.set_cons_succ])
                  refine wpAnyH_take (i := 10) (oi := ⟨_, _, _, _, _, _⟩) (v := ?_) rfl (by kernel_rfl) (by kernel_rfl) (by kernel_rfl) (fun _ _ _ h => h) (Or.inl ⟨rfl, ?_⟩) (by assumption) ?_
                  rotate_left 1
                  · intro w_ hSw; (try dsimp only at hSw); go_simp; (try with_reducible rfl)
                  (try simp only [Act.put, List.setIfInBounds_toArray, List.set_cons_zero, List.set_cons_succ])
                  refine wpAnyH_done (by kernel_rfl) ?_ _
                  refine NoPanic.normal ?_
                  have HR8 := Lib.hid (HR6.out.kept (grown_of_below h5 none) (own_em _))
                  have HV8 := Lib.hid (HV6.out.kept (Kept.of_below h5 (by omega)))
                  have HB8 := Lib.hid (HB6.out.trans (h5.mono HB6.out.size))
                  have hs8 := h5.size
                  have HNo2 : Hid (∀ i', i' < j + 1 → badB z fs xs ys i' = false) := fun i' hi' => by
                    by_cases h_ : i' < j
                    · exact HNo.out i' h_
                    · obtain rfl : i' = j := by omega
                      rw [HBj.out]; simp
                  clear g1 g2 g3 g4 g5 yC
                  go_wp2_with fail
                  go_roundw
                  case rel => exact ⟨j + 1, by omega, by go_num, HNo2, ⟨_, HRc.out j, HCl.out j, HR8.out⟩, HV8, h1, h2, h3, h4, HB8, by omega⟩
                  case measure => (simp [intOf]) <;> omega
                · have hne : (ex == ey) = false := by rw [beq_eq_false_iff_ne]; exact heq
                  have hne2 : (ex != ey) = true := by rw [bne_iff_ne]; exact heq
                  go_wp2_with fail
                  refine wp_region_noPanic ?_
                  refine wp_region_held_drew (S := fun W => W.cell? ⟨w.heap.size, 0, none⟩ = some (.int .i64 z) ∧ W.cell? ⟨w.heap.size, 1, none⟩ = some (.slice ao n c) ∧ W.cell? ⟨w.heap.size + 1, 0, none⟩ = some (.slice (some ⟨b, o, none⟩) m d) ∧ W.cell? ⟨w.heap.size + 1, 1, none⟩ = some (.slice (some ⟨b', o', none⟩) m2 d2) ∧ Below w6.heap.size w6 W) (by kernel_rfl) ?_ (fun hHeld => ?_)
                  · exact ⟨by go_simp, by go_simp, by go_simp, by go_simp, yC⟩
                  refine wpAnyH_take (i := 0) (oi := ⟨_, _, _, _, _, _⟩) (v := ?_) rfl (by kernel_rfl) (by kernel_rfl) (by kernel_rfl) (fun _ _ _ h => h) (Or.inl ⟨rfl, ?_⟩) (by assumption) ?_
                  rotate_left 1
                  · intro w_ hSw; (try dsimp only at hSw); go_simp; (try with_reducible rfl)
                  (try simp only [Act.put, List.setIfInBounds_toArray, List.set_cons_zero, List.set_cons_succ])
                  refine wpAnyH_take (i := 1) (oi := ⟨_, _, _, _, _, _⟩) (v := ?_) rfl (by kernel_rfl) (by kernel_rfl) (by kernel_rfl) (fun _ _ _ h => h) (Or.inl ⟨rfl, ?_⟩) (by assumption) ?_
                  rotate_left 1
                  · intro w_ hSw; (try dsimp only at hSw); go_simp; (try with_reducible rfl)
                  (try simp only [Act.put, List.setIfInBounds_toArray, List.set_cons_zero, List.set_cons_succ])
                  refine wpAnyH_take (i := 2) (oi := ⟨_, _, _, _, _, _⟩) (v := ?_) rfl (by kernel_rfl) (by kernel_rfl) (by kernel_rfl) (fun _ _ _ h => h) (Or.inl ⟨rfl, ?_⟩) (by assumption) ?_
                  rotate_left 1
                  · intro w_ hSw; (try dsimp only at hSw); go_simp; (try with_reducible rfl)
                  (try simp only [Act.put, List.setIfInBounds_toArray, List.set_cons_zero, List.set_cons_succ])
                  refine wpAnyH_take (i := 3) (oi := ⟨_, _, _, _, _, _⟩) (v := ?_) rfl (by kernel_rfl) (by kernel_rfl) (by kernel_rfl) (fun _ _ _ h => h) (Or.inl ⟨rfl, ?_⟩) (by assumption) ?_
                  rotate_left 1
                  · intro w_ hSw; (try dsimp only at hSw); go_simp; (try with_reducible rfl)
                  (try simp only [Act.put, List.setIfInBounds_toArray, List.set_cons_zero, List.set_cons_succ])
                  refine wpAnyH_take (i := 5) (oi := ⟨_, _, _, _, _, _⟩) (v := ?_) rfl (by kernel_rfl) (by kernel_rfl) (by kernel_rfl) (fun _ _ _ h => h) (Or.inl ⟨rfl, ?_⟩) (by assumption) ?_
                  rotate_left 1
                  · intro w_ hSw; (try dsimp only at hSw); go_simp; (try with_reducible rfl)
                  (try simp only [Act.put, List.setIfInBounds_toArray, List.set_cons_zero, List.set_cons_succ])
                  refine wpAnyH_take (i := 6) (oi := ⟨_, _, _, _, _, _⟩) (v := ?_) rfl (by kernel_rfl) (by kernel_rfl) (by kernel_rfl) (fun _ _ _ h => h) (Or.inl ⟨rfl, ?_⟩) (by assumption) ?_
                  rotate_left 1
                  · intro w_ hSw; (try dsimp only at hSw); go_simp; (try with_reducible rfl)
                  (try simp only [Act.put, List.setIfInBounds_toArray, List.set_cons_zero, List.set_cons_succ])
                  refine wpAnyH_take (i := 7) (oi := ⟨_, _, _, _, _, _⟩) (v := ?_) rfl (by kernel_rfl) (by kernel_rfl) (by kernel_rfl) (fun _ _ _ h => h) (Or.inl ⟨rfl, ?_⟩) (by assumption) ?_
                  rotate_left 1
                  · intro w_ hSw; (try dsimp only at hSw); go_simp; (try with_reducible rfl)
                  (try simp only [Act.put, List.setIfInBounds_toArray, List.set_cons_zero, List.set_cons_succ])
                  refine wpAnyH_take (i := 8) (oi := ⟨_, _, _, _, _, _⟩) (v := ?_) rfl (by kernel_rfl) (by kernel_rfl) (by kernel_rfl) (fun _ _ _ h => h) (Or.inl ⟨rfl, ?_⟩) (by assumption) ?_
                  rotate_left 1
                  · intro w_ hSw; (try dsimp only at hSw); go_simp; (try with_reducible rfl)
                  (try simp only [Act.put, List.setIfInBounds_toArray, List.set_cons_zero, List.set_cons_succ])
                  refine wpAnyH_ready (rs := [4]) (by kernel_rfl) (by simp) ?_
                  refine AllReadyH.cons (o := ⟨_, _, _, _, _, _⟩) rfl (fun K hK => ?_) AllReadyH.nil
                  go_simp
                  obtain ⟨q1_, q2_, q3_, q4_, q5_⟩ := id hHeld
                  go_at_call 84
                  refine (HV1.out _ q5_).mono ?_
                  rintro e w7_ ⟨rfl, b7⟩
                  have g1 := cell_b b7 q1_
                  have g2 := cell_b b7 q2_
                  have g3 := cell_b b7 q3_
                  have g4 := cell_b b7 q4_
                  have g5 := q5_.trans (b7.mono q5_.size)
                  clear b7 q1_ q2_ q3_ q4_ q5_
                  go_wp2_with fail
                  refine hK.out _ _ ?_ (fun hHeld => ?_)
                  · exact ⟨g1, g2, g3, g4, g5⟩
                  clear hK K
                  (try simp only [Act.put, List.setIfInBounds_toArray, List.set_cons_zero, List.set_cons_succ])
                  refine wpAnyH_ready (rs := [9]) (by kernel_rfl) (by simp) ?_
                  refine AllReadyH.cons (o := ⟨_, _, _, _, _, _⟩) rfl (fun K hK => ?_) AllReadyH.nil
                  go_simp
                  obtain ⟨q1_, q2_, q3_, q4_, q5_⟩ := id hHeld
                  go_at_call 84
                  refine (HV2.out _ q5_).mono ?_
                  rintro e w8 ⟨rfl, b7⟩
                  have h1 := cell_b b7 q1_
                  have h2 := cell_b b7 q2_
                  have h3 := cell_b b7 q3_
                  have h4 := cell_b b7 q4_
                  have h5 := q5_.trans (b7.mono q5_.size)
                  clear b7 q1_ q2_ q3_ q4_ q5_
                  go_wp2_with fail
                  refine hK.out _ _ ?_ (fun hHeld => ?_)
                  · exact ⟨h1, h2, h3, h4, h5⟩
                  clear hK K
                  (try simp only [Act.put, List.setIfInBounds_toArray, List.set_cons_zero, List.set_cons_succ])
                  refine wpAnyH_take (i := 10) (oi := ⟨_, _, _, _, _, _⟩) (v := ?_) rfl (by kernel_rfl) (by kernel_rfl) (by kernel_rfl) (fun _ _ _ h => h) (Or.inl ⟨rfl, ?_⟩) (by assumption) ?_
                  rotate_left 1
                  · intro w_ hSw; (try dsimp only at hSw); go_simp; (try with_reducible rfl)
                  (try simp only [Act.put, List.setIfInBounds_toArray, List.set_cons_zero, List.set_cons_succ])
                  refine wpAnyH_done (by kernel_rfl) ?_ _
                  refine NoPanic.normal ?_
                  have HR8 := Lib.hid (HR6.out.kept (grown_of_below h5 none) (own_em _))
                  have HB8 := Lib.hid (HB6.out.trans (h5.mono HB6.out.size))
                  obtain rfl : R = (cntV z zs j, true) := HSome.out j HNo.out (by rw [HBj.out]; exact hne2) hlt
                  clear g1 g2 g3 g4 g5 yC h1 h2 h3 h4
                  go_wp2_with fail
                  go_ret2
                  exact ⟨_, k, cG, rfl, (by first | rfl | exact (HCl.out j).symm), OwnsInts.of_row HR8.out, HB8.out⟩
          · obtain rfl : j = p := by omega
            obtain rfl : R = ([], false) := HNone.out HNo.out
            go_wp2_with fail
            refine (HL6.out _).mono ?_
            rintro e w_ ⟨rfl, rfl⟩
            go_wp2_with fail
            go_ret2
            exact ⟨_, 0, 0, rfl, rfl, own_nil_res HBr.out, HBr.out.alloc HBr.out.size _⟩
end

section
open Go.RowKit
set_option linter.unusedVariables false
set_option linter.unusedSimpArgs false
attribute [local go_sem ↓] Go.wp_at_zero Go.wp_at_succ

theorem ask_and (z : Int) (fs : List OpD) (xs ys : List Int) : askB z fs xs ys = (algOkB z fs && askT z fs xs ys) := by unfold askB askT; rw [Bool.and_assoc]

set_option maxHeartbeats 1000000 in
theorem l3Holds_any (lo hi : Nat) (z : Int) (ao : Option Addr) (c n : Nat) (fs : List OpD) (lo2 hi2 : Nat) (bo : Option Addr) (d m : Nat) (xs : List Int) (lo3 hi3 : Nat) (co : Option Addr) (d2 m2 : Nat) (ys : List Int) (w : World) (hv : OView w lo hi ao n fs) (hhi : hi ≤ w.heap.size)
    (hx : IView w lo2 hi2 bo m xs) (hhi2 : hi2 ≤ w.heap.size) (hmd : m ≤ d) (hm : d ≤ maxLen)
    (hy : IView w lo3 hi3 co m2 ys) (hhi3 : hi3 ≤ w.heap.size) (hmd2 : m2 ≤ d2) (hm2 : d2 ≤ maxLen) (hask : askB z fs xs ys = true) :
    Calls Try.prog 95 #[.agg #[.int .i64 z, .slice ao n c], .agg #[.slice bo m d, .slice co m2 d2]] w fun e w' => e = .returned (.bool (!(cntR z fs xs ys).2)) ∧ Below w.heap.size w w' := by
  have HB := Lib.hid (below_then (below_alloc w (.cells #[.int .i64 z, .slice ao n c] 30)) (below_alloc _ (.cells #[.slice bo m d, .slice co m2 d2] 64)))
  have HC := Lib.hid (fun (W : World) (hb : Below w.heap.size w W) => l3Counter_any lo hi z ao c n fs lo2 hi2 bo d m xs lo3 hi3 co d2 m2 ys W (hv.kept (Kept.of_below hb hhi)) (Nat.le_trans hhi hb.size) (hx.kept (Kept.of_below hb hhi2)) (Nat.le_trans hhi2 hb.size) hmd hm (hy.kept (Kept.of_below hb hhi3)) (Nat.le_trans hhi3 hb.size) hmd2 hm2 hask)
  obtain ⟨⟨rs, ok⟩, hR⟩ : ∃ R, cntR z fs xs ys = R := ⟨_, rfl⟩
  simp only [hR] at HC ⊢
  unfold ResL at HC
  clear hv hx hy hask hR
  go_enter Try.func95, Try.ntmps95
  go_wp2_with fail
  refine (HC.out _ HB.out).mono ?_
  rintro e w2 ⟨ga, gn, gc, rfl, hgn, ho, b2⟩
  have HB2 := Lib.hid (HB.out.trans (b2.mono HB.out.size))
  clear ho b2 hgn
  go_wp2_with fail
  go_ret
  exact ⟨rfl, HB2.out⟩

set_option maxHeartbeats 1000000 in
theorem specDoesHold (lo hi : Nat) (z : Int) (ao : Option Addr) (c n : Nat) (fs : List OpD) (lo2 hi2 : Nat) (bo : Option Addr) (d m : Nat) (xs : List Int) (lo3 hi3 : Nat) (co : Option Addr) (d2 m2 : Nat) (ys : List Int) (w : World) (hv : OView w lo hi ao n fs) (hhi : hi ≤ w.heap.size) (hs : ∀ (j : Nat) (f : OpD), fs[j]? = some f → f.2.length ≤ maxLen)
    (hx : IView w lo2 hi2 bo m xs) (hhi2 : hi2 ≤ w.heap.size) (hmd : m ≤ d) (hm : d ≤ maxLen) (hq : ∀ x, x ∈ xs → (Lit.int .i64 x).wf = true)
    (hy : IView w lo3 hi3 co m2 ys) (hhi3 : hi3 ≤ w.heap.size) (hmd2 : m2 ≤ d2) (hm2 : d2 ≤ maxLen) (hq2 : ∀ x, x ∈ ys → (Lit.int .i64 x).wf = true) :
    Calls Try.prog 49 #[.agg #[.int .i64 z, .slice ao n c], .agg #[.slice bo m d, .slice co m2 d2]] w fun e w' => e = .returned (.tuple #[.bool (valDoesHold z fs xs ys).1, .bool (valDoesHold z fs xs ys).2]) ∧ Below w.heap.size w w' := by
  have HB := Lib.hid (below_then (below_alloc w (.cells #[.int .i64 z, .slice ao n c] 30)) (below_alloc _ (.cells #[.slice bo m d, .slice co m2 d2] 64)))
  have hgood := fun (W : World) (hb : Below w.heap.size w W) => good_any lo hi z ao c n fs W (hv.kept (Kept.of_below hb hhi)) (Nat.le_trans hhi hb.size) hs
  unfold valDoesHold
  have hand := ask_and z fs xs ys
  obtain ⟨r, hr⟩ : ∃ r, algOkB z fs = r := ⟨_, rfl⟩
  simp only [hr] at hgood hand
  have HG := Lib.hid hgood
  cases r with
  | false =>
    rw [Bool.false_and] at hand
    simp only [hand, Bool.false_eq_true, if_false]
    clear hv hs hx hq hy hq2 hgood hr hand
    go_enter Try.func49, Try.ntmps49
    go_wp2_with fail
    refine (HG.out _ HB.out).mono ?_
    rintro e w1 ⟨rfl, b1⟩
    have HB1 := Lib.hid (HB.out.trans (b1.mono HB.out.size))
    clear b1
    go_wp2_with fail
    go_ret2
    exact ⟨rfl, HB1.out⟩
  | true =>
    rw [Bool.true_and] at hand
    have hask := fun (W : World) (hb : Below w.heap.size w W) => l3Asked_any lo hi z ao c n fs lo2 hi2 bo d m xs lo3 hi3 co d2 m2 ys W (hv.kept (Kept.of_below hb hhi)) (Nat.le_trans hhi hb.size) hr (hx.kept (Kept.of_below hb hhi2)) (Nat.le_trans hhi2 hb.size) hmd hm (hy.kept (Kept.of_below hb hhi3)) (Nat.le_trans hhi3 hb.size) hmd2 hm2
    rw [← hand] at hask
    obtain ⟨s, hs2⟩ : ∃ s, askB z fs xs ys = s := ⟨_, rfl⟩
    simp only [hs2] at hask ⊢
    have HA := Lib.hid hask
    cases s with
    | false =>
      simp only [Bool.false_eq_true, if_false]
      clear hv hs hx hq hy hq2 hgood hr hand hask hs2
      go_enter Try.func49, Try.ntmps49
      go_wp2_with fail
      refine (HG.out _ HB.out).mono ?_
      rintro e w1 ⟨rfl, b1⟩
      have HB1 := Lib.hid (HB.out.trans (b1.mono HB.out.size))
      have c1 : w1.cell? ⟨w.heap.size, 0, none⟩ = some (.int .i64 z) := cell_b b1 (by go_simp)
      have c2 : w1.cell? ⟨w.heap.size, 1, none⟩ = some (.slice ao n c) := cell_b b1 (by go_simp)
      have c3 : w1.cell? ⟨w.heap.size + 1, 0, none⟩ = some (.slice bo m d) := cell_b b1 (by go_simp)
      have c4 : w1.cell? ⟨w.heap.size + 1, 1, none⟩ = some (.slice co m2 d2) := cell_b b1 (by go_simp)
      clear b1
      go_wp2_with fail
      refine (HA.out _ HB1.out).mono ?_
      rintro e w2 ⟨rfl, b2⟩
      have HB2 := Lib.hid (HB1.out.trans (b2.mono HB1.out.size))
      clear b2
      go_wp2_with fail
      go_ret2
      exact ⟨rfl, HB2.out⟩
    | true =>
      simp only [if_true]
      have HC := Lib.hid (fun (W : World) (hb : Below w.heap.size w W) => l3Holds_any lo hi z ao c n fs lo2 hi2 bo d m xs lo3 hi3 co d2 m2 ys W (hv.kept (Kept.of_below hb hhi)) (Nat.le_trans hhi hb.size) (hx.kept (Kept.of_below hb hhi2)) (Nat.le_trans hhi2 hb.size) hmd hm (hy.kept (Kept.of_below hb hhi3)) (Nat.le_trans hhi3 hb.size) hmd2 hm2 hs2)
      obtain ⟨⟨rs, ok⟩, hR⟩ : ∃ R, cntR z fs xs ys = R := ⟨_, rfl⟩
      simp only [hR] at HC ⊢
      clear hv hs hx hq hy hq2 hgood hr hand hask hs2 hR
      go_enter Try.func49, Try.ntmps49
      go_wp2_with fail
      refine (HG.out _ HB.out).mono ?_
      rintro e w1 ⟨rfl, b1⟩
      have HB1 := Lib.hid (HB.out.trans (b1.mono HB.out.size))
      have c1 : w1.cell? ⟨w.heap.size, 0, none⟩ = some (.int .i64 z) := cell_b b1 (by go_simp)
      have c2 : w1.cell? ⟨w.heap.size, 1, none⟩ = some (.slice ao n c) := cell_b b1 (by go_simp)
      have c3 : w1.cell? ⟨w.heap.size + 1, 0, none⟩ = some (.slice bo m d) := cell_b b1 (by go_simp)
      have c4 : w1.cell? ⟨w.heap.size + 1, 1, none⟩ = some (.slice co m2 d2) := cell_b b1 (by go_simp)
      clear b1
      go_wp2_with fail
      refine (HA.out _ HB1.out).mono ?_
      rintro e w2 ⟨rfl, b2⟩
      have HB2 := Lib.hid (HB1.out.trans (b2.mono HB1.out.size))
      have d1 := cell_b b2 c1
      have d2_ := cell_b b2 c2
      have d3 := cell_b b2 c3
      have d4 := cell_b b2 c4
      clear b2
      go_wp2_with fail
      refine (HC.out _ HB2.out).mono ?_
      rintro e w3 ⟨rfl, b3⟩
      have HB3 := Lib.hid (HB2.out.trans (b3.mono HB2.out.size))
      clear b3
      go_wp2_with fail
      go_ret2
      exact ⟨rfl, HB3.out⟩

set_option maxHeartbeats 1000000 in
theorem specFirstCounter (lo hi : Nat) (z : Int) (ao : Option Addr) (c n : Nat) (fs : List OpD) (lo2 hi2 : Nat) (bo : Option Addr) (d m : Nat) (xs : List Int) (lo3 hi3 : Nat) (co : Option Addr) (d2 m2 : Nat) (ys : List Int) (w : World) (hv : OView w lo hi ao n fs) (hhi : hi ≤ w.heap.size) (hs : ∀ (j : Nat) (f : OpD), fs[j]? = some f → f.2.length ≤ maxLen)
    (hx : IView w lo2 hi2 bo m xs) (hhi2 : hi2 ≤ w.heap.size) (hmd : m ≤ d) (hm : d ≤ maxLen) (hq : ∀ x, x ∈ xs → (Lit.int .i64 x).wf = true)
    (hy : IView w lo3 hi3 co m2 ys) (hhi3 : hi3 ≤ w.heap.size) (hmd2 : m2 ≤ d2) (hm2 : d2 ≤ maxLen) (hq2 : ∀ x, x ∈ ys → (Lit.int .i64 x).wf = true) :
    Calls Try.prog 53 #[.agg #[.int .i64 z, .slice ao n c], .agg #[.slice bo m d, .slice co m2 d2]] w fun e w' => ResL w w' (valFirstCounter z fs xs ys).1 (valFirstCounter z fs xs ys).2 e := by
  have HB := Lib.hid (below_then (below_alloc w (.cells #[.int .i64 z, .slice ao n c] 30)) (below_alloc _ (.cells #[.slice bo m d, .slice co m2 d2] 64)))
  have hgood := fun (W : World) (hb : Below w.heap.size w W) => good_any lo hi z ao c n fs W (hv.kept (Kept.of_below hb hhi)) (Nat.le_trans hhi hb.size) hs
  unfold valFirstCounter ResL
  have hand := ask_and z fs xs ys
  obtain ⟨r, hr⟩ : ∃ r, algOkB z fs = r := ⟨_, rfl⟩
  simp only [hr] at hgood hand
  have HG := Lib.hid hgood
  cases r with
  | false =>
    rw [Bool.false_and] at hand
    simp only [hand, Bool.false_eq_true, if_false]
    clear hv hs hx hq hy hq2 hgood hr hand
    go_enter Try.func53, Try.ntmps53
    go_wp2_with fail
    refine (HG.out _ HB.out).mono ?_
    rintro e w1 ⟨rfl, b1⟩
    have HB1 := Lib.hid (HB.out.trans (b1.mono HB.out.size))
    clear b1
    go_wp2_with fail
    go_ret2
    exact ⟨_, 0, 0, rfl, rfl, own_nil_res HB1.out, HB1.out.alloc HB1.out.size _⟩
  | true =>
    rw [Bool.true_and] at hand
    have hask := fun (W : World) (hb : Below w.heap.size w W) => l3Asked_any lo hi z ao c n fs lo2 hi2 bo d m xs lo3 hi3 co d2 m2 ys W (hv.kept (Kept.of_below hb hhi)) (Nat.le_trans hhi hb.size) hr (hx.kept (Kept.of_below hb hhi2)) (Nat.le_trans hhi2 hb.size) hmd hm (hy.kept (Kept.of_below hb hhi3)) (Nat.le_trans hhi3 hb.size) hmd2 hm2
    rw [← hand] at hask
    obtain ⟨s, hs2⟩ : ∃ s, askB z fs xs ys = s := ⟨_, rfl⟩
    simp only [hs2] at hask ⊢
    have HA := Lib.hid hask
    cases s with
    | false =>
      simp only [Bool.false_eq_true, if_false]
      clear hv hs hx hq hy hq2 hgood hr hand hask hs2
      go_enter Try.func53, Try.ntmps53
      go_wp2_with fail
      refine (HG.out _ HB.out).mono ?_
      rintro e w1 ⟨rfl, b1⟩
      have HB1 := Lib.hid (HB.out.trans (b1.mono HB.out.size))
      have c1 : w1.cell? ⟨w.heap.size, 0, none⟩ = some (.int .i64 z) := cell_b b1 (by go_simp)
      have c2 : w1.cell? ⟨w.heap.size, 1, none⟩ = some (.slice ao n c) := cell_b b1 (by go_simp)
      have c3 : w1.cell? ⟨w.heap.size + 1, 0, none⟩ = some (.slice bo m d) := cell_b b1 (by go_simp)
      have c4 : w1.cell? ⟨w.heap.size + 1, 1, none⟩ = some (.slice co m2 d2) := cell_b b1 (by go_simp)
      clear b1
      go_wp2_with fail
      refine (HA.out _ HB1.out).mono ?_
      rintro e w2 ⟨rfl, b2⟩
      have HB2 := Lib.hid (HB1.out.trans (b2.mono HB1.out.size))
      clear b2
      go_wp2_with fail
      go_ret2
      exact ⟨_, 0, 0, rfl, rfl, own_nil_res HB2.out, HB2.out.alloc HB2.out.size _⟩
    | true =>
      simp only [if_true]
      have HC := Lib.hid (fun (W : World) (hb : Below w.heap.size w W) => l3Counter_any lo hi z ao c n fs lo2 hi2 bo d m xs lo3 hi3 co d2 m2 ys W (hv.kept (Kept.of_below hb hhi)) (Nat.le_trans hhi hb.size) (hx.kept (Kept.of_below hb hhi2)) (Nat.le_trans hhi2 hb.size) hmd hm (hy.kept (Kept.of_below hb hhi3)) (Nat.le_trans hhi3 hb.size) hmd2 hm2 hs2)
      obtain ⟨⟨rs, ok⟩, hR⟩ : ∃ R, cntR z fs xs ys = R := ⟨_, rfl⟩
      simp only [hR] at HC ⊢
      unfold ResL at HC
      clear hv hs hx hq hy hq2 hgood hr hand hask hs2 hR
      go_enter Try.func53, Try.ntmps53
      go_wp2_with fail
      refine (HG.out _ HB.out).mono ?_
      rintro e w1 ⟨rfl, b1⟩
      have HB1 := Lib.hid (HB.out.trans (b1.mono HB.out.size))
      have c1 : w1.cell? ⟨w.heap.size, 0, none⟩ = some (.int .i64 z) := cell_b b1 (by go_simp)
      have c2 : w1.cell? ⟨w.heap.size, 1, none⟩ = some (.slice ao n c) := cell_b b1 (by go_simp)
      have c3 : w1.cell? ⟨w.heap.size + 1, 0, none⟩ = some (.slice bo m d) := cell_b b1 (by go_simp)
      have c4 : w1.cell? ⟨w.heap.size + 1, 1, none⟩ = some (.slice co m2 d2) := cell_b b1 (by go_simp)
      clear b1
      go_wp2_with fail
      refine (HA.out _ HB1.out).mono ?_
      rintro e w2 ⟨rfl, b2⟩
      have HB2 := Lib.hid (HB1.out.trans (b2.mono HB1.out.size))
      have d1 := cell_b b2 c1
      have d2_ := cell_b b2 c2
      have d3 := cell_b b2 c3
      have d4 := cell_b b2 c4
      clear b2
      go_wp2_with fail
      refine (HC.out _ HB2.out).mono ?_
      rintro e w3 ⟨ga, gn, gc, rfl, hgn, ho, b3⟩
      have HO := Lib.hid (OwnsInts.lo_mono ho HB2.out.size)
      have HB3 := Lib.hid (HB2.out.trans (b3.mono HB2.out.size))
      have HGn := Lib.hid hgn
      clear ho b3 hgn
      go_wp2_with fail
      go_ret2
      exact ⟨ga, gn, gc, rfl, HGn.out, HO.out, HB3.out⟩
end

section
open Go.RowKit
set_option linter.unusedVariables false
set_option linter.unusedSimpArgs false
attribute [local go_sem ↓] Go.wp_at_zero Go.wp_at_succ

set_option maxRecDepth 100000 in
set_option maxHeartbeats 2000000 in
theorem canCheck_no (lo hi : Nat) (z : Int) (ao : Option Addr) (c n : Nat) (fs : List OpD) (lo2 hi2 : Nat) (bo : Option Addr) (d m : Nat) (xs : List Int) (lo3 hi3 : Nat) (co : Option Addr) (d2 m2 : Nat) (ys : List Int) (w : World) (hv : OView w lo hi ao n fs) (hhi : hi ≤ w.heap.size) (hs : ∀ (j : Nat) (f : OpD), fs[j]? = some f → f.2.length ≤ maxLen)
    (hx : IView w lo2 hi2 bo m xs) (hhi2 : hi2 ≤ w.heap.size) (hmd : m ≤ d) (hm : d ≤ maxLen) (hq : ∀ x, x ∈ xs → (Lit.int .i64 x).wf = true)
    (hy : IView w lo3 hi3 co m2 ys) (hhi3 : hi3 ≤ w.heap.size) (hmd2 : m2 ≤ d2) (hm2 : d2 ≤ maxLen) (hq2 : ∀ x, x ∈ ys → (Lit.int .i64 x).wf = true) (hno : (algOkB z fs && (termB fs xs && termB fs ys)) = false) :
    Calls Try.prog 96 #[.agg #[.int .i64 z, .slice ao n c], .agg #[.slice bo m d, .slice co m2 d2]] w fun e w' => e = .returned (.bool false) ∧ Below w.heap.size w w' := by
  have HC := fun (W : World) (hB : Below w.heap.size w W) (b : Nat) (hb : b < W.heap.size) (hc : W.cell? ⟨b, 0, none⟩ = some (.slice bo m d)) (hc2 : W.cell? ⟨b, 1, none⟩ = some (.slice co m2 d2)) (cc : Nat) =>
    areT_two lo hi lo2 hi2 lo3 hi3 z ao bo co c n d m d2 m2 fs xs ys w W hB hv hhi hs hx hhi2 hmd hm hq hy hhi3 hmd2 hm2 hq2 b hb hc hc2 cc
  rw [hno] at HC
  have HC := Lib.hid HC
  clear hv hs hx hq hy hq2 hno
  go_enter Try.func96, Try.ntmps96
  go_wp2_with fail
  refine wp_region_noPanic ?_
  have yB : Below w.heap.size w ((w.alloc (.cells #[.int .i64 z, .slice ao n c] 30)).alloc (.cells #[.slice bo m d, .slice co m2 d2] 64)).drew := by (repeat (first | assumption | exact Below.refl _ _ | apply keep_drew | apply keep_alloc))
  refine wp_region_held_drew (S := fun W => W.cell? ⟨w.heap.size, 0, none⟩ = some (.int .i64 z) ∧ W.cell? ⟨w.heap.size, 1, none⟩ = some (.slice ao n c) ∧ W.cell? ⟨w.heap.size + 1, 0, none⟩ = some (.slice bo m d) ∧ W.cell? ⟨w.heap.size + 1, 1, none⟩ = some (.slice co m2 d2) ∧ Below w.heap.size w W) (by kernel_rfl) ?_ (fun hHeld => ?_)
  · exact ⟨by go_simp, by go_simp, by go_simp, by go_simp, yB⟩
  refine wpAnyH_take (i := 0) (oi := ⟨_, _, _, _, _, _⟩) (v := ?_) rfl (by kernel_rfl) (by kernel_rfl) (by kernel_rfl) (fun _ _ _ h => h) (Or.inl ⟨rfl, ?_⟩) (by assumption) ?_
  rotate_left 1
  · intro w_ hSw; (try dsimp only at hSw); go_simp; (try with_reducible rfl)
  (try simp only [Act.put, List.setIfInBounds_toArray, List.set_cons_zero, List.set_cons_succ])
  refine wpAnyH_take (i := 1) (oi := ⟨_, _, _, _, _, _⟩) (v := ?_) rfl (by kernel_rfl) (by kernel_rfl) (by kernel_rfl) (fun _ _ _ h => h) (Or.inl ⟨rfl, ?_⟩) (by assumption) ?_
  rotate_left 1
  · intro w_ hSw; (try dsimp only at hSw); go_simp; (try with_reducible rfl)
  (try simp only [Act.put, List.setIfInBounds_toArray, List.set_cons_zero, List.set_cons_succ])
  refine wpAnyH_take (i := 2) (oi := ⟨_, _, _, _, _, _⟩) (v := ?_) rfl (by kernel_rfl) (by kernel_rfl) (by kernel_rfl) (fun _ _ _ h => h) (Or.inl ⟨rfl, ?_⟩) (by assumption) ?_
  rotate_left 1
  · intro w_ hSw; (try dsimp only at hSw); go_simp; (try with_reducible rfl)
  (try simp only [Act.put, List.setIfInBounds_toArray, List.set_cons_zero, List.set_cons_succ])
  refine wpAnyH_take (i := 3) (oi := ⟨_, _, _, _, _, _⟩) (v := ?_) rfl (by kernel_rfl) (by kernel_rfl) (by kernel_rfl) (fun _ _ _ h => h) (Or.inl ⟨rfl, ?_⟩) (by assumption) ?_
  rotate_left 1
  · intro w_ hSw; (try dsimp only at hSw); go_simp; (try with_reducible rfl)
  (try simp only [Act.put, List.setIfInBounds_toArray, List.set_cons_zero, List.set_cons_succ])
  refine wpAnyH_take (i := 4) (oi := ⟨_, _, _, _, _, _⟩) (v := ?_) rfl (by kernel_rfl) (by kernel_rfl) (by kernel_rfl) (fun _ _ _ h => h) (Or.inl ⟨rfl, ?_⟩) (by assumption) ?_
  rotate_left 1
  · intro w_ hSw; (try dsimp only at hSw); go_simp; (try with_reducible rfl)
  (try simp only [Act.put, List.setIfInBounds_toArray, List.set_cons_zero, List.set_cons_succ])
  refine wpAnyH_ready (rs := [5]) (by kernel_rfl) (by simp) ?_
  refine AllReadyH.cons (o := ⟨_, _, _, _, _, _⟩) rfl (fun K hK => ?_) AllReadyH.nil
  go_simp
  refine hK.out _ _ ?_ (fun hHeld => ?_)
  · obtain ⟨h1_, h2_, h3_, h4_, h5_⟩ := hHeld
    exact ⟨by go_simp, by go_simp, by go_simp, by go_simp, keep_alloc (by assumption) _⟩
  clear hK K
  (try simp only [Act.put, List.setIfInBounds_toArray, List.set_cons_zero, List.set_cons_succ])
  obtain ⟨hXc1, hXc2, hXc3, hXc4, hX5⟩ := id hHeld
  refine wpAnyH_ready (rs := [6]) (by kernel_rfl) (by simp) ?_
  refine AllReadyH.cons (o := ⟨_, _, _, _, _, _⟩) rfl (fun K hK => ?_) AllReadyH.nil
  go_simp
  go_at_call 64
  refine (HC.out _ ?_ _ ?_ ?_ ?_ _).mono ?_
  · exact hX5
  · simp
  · go_simp
  · go_simp
  rintro e w1 ⟨rfl, b1⟩
  have hX6 := hX5.trans (b1.mono hX5.size)
  have hC1 := cell_b b1 hXc1
  have hC2 := cell_b b1 hXc2
  have hC3 := cell_b b1 hXc3
  have hC4 := cell_b b1 hXc4
  have HB1 := Lib.hid hX6
  clear b1
  go_wp2_with fail
  refine hK.out _ _ ?_ (fun hHeld => ?_)
  · exact ⟨hC1, hC2, hC3, hC4, HB1.out⟩
  clear hK K
  (try simp only [Act.put, List.setIfInBounds_toArray, List.set_cons_zero, List.set_cons_succ])
  refine wpAnyH_take (i := 7) (oi := ⟨_, _, _, _, _, _⟩) (v := ?_) rfl (by kernel_rfl) (by kernel_rfl) (by kernel_rfl) (fun _ _ _ h => h) (Or.inl ⟨rfl, ?_⟩) (by assumption) ?_
  rotate_left 1
  · intro w_ hSw; (try dsimp only at hSw); go_simp; (try with_reducible rfl)
  (try simp only [Act.put, List.setIfInBounds_toArray, List.set_cons_zero, List.set_cons_succ])
  refine wpAnyH_take (i := 8) (oi := ⟨_, _, _, _, _, _⟩) (v := undef) rfl (by kernel_rfl) (by kernel_rfl) (by kernel_rfl) (fun _ _ _ h => h) (Or.inr ⟨rfl, rfl⟩) (by assumption) ?_
  (try simp only [Act.put, List.setIfInBounds_toArray, List.set_cons_zero, List.set_cons_succ])
  refine wpAnyH_take (i := 9) (oi := ⟨_, _, _, _, _, _⟩) (v := undef) rfl (by kernel_rfl) (by kernel_rfl) (by kernel_rfl) (fun _ _ _ h => h) (Or.inr ⟨rfl, rfl⟩) (by assumption) ?_
  (try simp only [Act.put, List.setIfInBounds_toArray, List.set_cons_zero, List.set_cons_succ])
  refine wpAnyH_take (i := 10) (oi := ⟨_, _, _, _, _, _⟩) (v := undef) rfl (by kernel_rfl) (by kernel_rfl) (by kernel_rfl) (fun _ _ _ h => h) (Or.inr ⟨rfl, rfl⟩) (by assumption) ?_
  (try simp only [Act.put, List.setIfInBounds_toArray, List.set_cons_zero, List.set_cons_succ])
  refine wpAnyH_take (i := 11) (oi := ⟨_, _, _, _, _, _⟩) (v := undef) rfl (by kernel_rfl) (by kernel_rfl) (by kernel_rfl) (fun _ _ _ h => h) (Or.inr ⟨rfl, rfl⟩) (by assumption) ?_
  (try simp only [Act.put, List.setIfInBounds_toArray, List.set_cons_zero, List.set_cons_succ])
  refine wpAnyH_take (i := 12) (oi := ⟨_, _, _, _, _, _⟩) (v := undef) rfl (by kernel_rfl) (by kernel_rfl) (by kernel_rfl) (fun _ _ _ h => h) (Or.inr ⟨rfl, rfl⟩) (by assumption) ?_
  (try simp only [Act.put, List.setIfInBounds_toArray, List.set_cons_zero, List.set_cons_succ])
  refine wpAnyH_take (i := 13) (oi := ⟨_, _, _, _, _, _⟩) (v := undef) rfl (by kernel_rfl) (by kernel_rfl) (by kernel_rfl) (fun _ _ _ h => h) (Or.inr ⟨rfl, rfl⟩) (by assumption) ?_
  (try simp only [Act.put, List.setIfInBounds_toArray, List.set_cons_zero, List.set_cons_succ])
  refine wpAnyH_take (i := 14) (oi := ⟨_, _, _, _, _, _⟩) (v := undef) rfl (by kernel_rfl) (by kernel_rfl) (by kernel_rfl) (fun _ _ _ h => h) (Or.inr ⟨rfl, rfl⟩) (by assumption) ?_
  (try simp only [Act.put, List.setIfInBounds_toArray, List.set_cons_zero, List.set_cons_succ])
  refine wpAnyH_take (i := 15) (oi := ⟨_, _, _, _, _, _⟩) (v := undef) rfl (by kernel_rfl) (by kernel_rfl) (by kernel_rfl) (fun _ _ _ h => h) (Or.inr ⟨rfl, rfl⟩) (by assumption) ?_
  (try simp only [Act.put, List.setIfInBounds_toArray, List.set_cons_zero, List.set_cons_succ])
  refine wpAnyH_take (i := 16) (oi := ⟨_, _, _, _, _, _⟩) (v := undef) rfl (by kernel_rfl) (by kernel_rfl) (by kernel_rfl) (fun _ _ _ h => h) (Or.inr ⟨rfl, rfl⟩) (by assumption) ?_
  (try simp only [Act.put, List.setIfInBounds_toArray, List.set_cons_zero, List.set_cons_succ])
  refine wpAnyH_take (i := 17) (oi := ⟨_, _, _, _, _, _⟩) (v := undef) rfl (by kernel_rfl) (by kernel_rfl) (by kernel_rfl) (fun _ _ _ h => h) (Or.inr ⟨rfl, rfl⟩) (by assumption) ?_
  (try simp only [Act.put, List.setIfInBounds_toArray, List.set_cons_zero, List.set_cons_succ])
  refine wpAnyH_take (i := 18) (oi := ⟨_, _, _, _, _, _⟩) (v := undef) rfl (by kernel_rfl) (by kernel_rfl) (by kernel_rfl) (fun _ _ _ h => h) (Or.inr ⟨rfl, rfl⟩) (by assumption) ?_
  (try simp only [Act.put, List.setIfInBounds_toArray, List.set_cons_zero, List.set_cons_succ])
  refine wpAnyH_take (i := 19) (oi := ⟨_, _, _, _, _, _⟩) (v := ?_) rfl (by kernel_rfl) (by kernel_rfl) (by kernel_rfl) (fun _ _ _ h => h) (Or.inl ⟨rfl, ?_⟩) (by assumption) ?_
  rotate_left 1
  · intro w_ hSw; (try dsimp only at hSw); go_simp; (try with_reducible rfl)
  (try simp only [Act.put, List.setIfInBounds_toArray, List.set_cons_zero, List.set_cons_succ])
  refine wpAnyH_take (i := 20) (oi := ⟨_, _, _, _, _, _⟩) (v := ?_) rfl (by kernel_rfl) (by kernel_rfl) (by kernel_rfl) (fun _ _ _ h => h) (Or.inl ⟨rfl, ?_⟩) (by assumption) ?_
  rotate_left 1
  · intro w_ hSw; (try dsimp only at hSw); go_simp; (try with_reducible rfl)
  (try simp only [Act.put, List.setIfInBounds_toArray, List.set_cons_zero, List.set_cons_succ])
  refine wpAnyH_done (by kernel_rfl) ?_ _
  refine NoPanic.normal ?_
  go_wp2_with fail
  go_ret
  exact ⟨rfl, HB1.out⟩
end

section
open Go.RowKit
set_option linter.unusedVariables false
set_option linter.unusedSimpArgs false
attribute [local go_sem ↓] Go.wp_at_zero Go.wp_at_succ

set_option maxRecDepth 100000 in
set_option maxHeartbeats 4000000 in
theorem canCheck_yes (lo hi : Nat) (z : Int) (ao : Option Addr) (c n : Nat) (fs : List OpD) (lo2 hi2 : Nat) (bo : Option Addr) (d m : Nat) (xs : List Int) (lo3 hi3 : Nat) (co : Option Addr) (d2 m2 : Nat) (ys : List Int) (w : World) (hv : OView w lo hi ao n fs) (hhi : hi ≤ w.heap.size) (hs : ∀ (j : Nat) (f : OpD), fs[j]? = some f → f.2.length ≤ maxLen)
    (hx : IView w lo2 hi2 bo m xs) (hhi2 : hi2 ≤ w.heap.size) (hmd : m ≤ d) (hm : d ≤ maxLen) (hq : ∀ x, x ∈ xs → (Lit.int .i64 x).wf = true)
    (hy : IView w lo3 hi3 co m2 ys) (hhi3 : hi3 ≤ w.heap.size) (hmd2 : m2 ≤ d2) (hm2 : d2 ≤ maxLen) (hq2 : ∀ x, x ∈ ys → (Lit.int .i64 x).wf = true) (hr : (algOkB z fs && (termB fs xs && termB fs ys)) = true) :
    Calls Try.prog 96 #[.agg #[.int .i64 z, .slice ao n c], .agg #[.slice bo m d, .slice co m2 d2]] w fun e w' => e = .returned (.bool (askB z fs xs ys)) ∧ Below w.heap.size w w' := by
  have HC := fun (W : World) (hB : Below w.heap.size w W) (b : Nat) (hb : b < W.heap.size) (hc : W.cell? ⟨b, 0, none⟩ = some (.slice bo m d)) (hc2 : W.cell? ⟨b, 1, none⟩ = some (.slice co m2 d2)) (cc : Nat) =>
    areT_two lo hi lo2 hi2 lo3 hi3 z ao bo co c n d m d2 m2 fs xs ys w W hB hv hhi hs hx hhi2 hmd hm hq hy hhi3 hmd2 hm2 hq2 b hb hc hc2 cc
  rw [hr] at HC
  have HC := Lib.hid HC
  unfold askB
  simp only [hr]
  rw [Bool.true_and]
  simp only [Bool.and_eq_true] at hr
  obtain ⟨hok, ht1, ht2⟩ := hr
  have hi1 : isTermB z fs xs = true := by simp [isTermB, hok, ht1]
  have hi2_ : isTermB z fs ys = true := by simp [isTermB, hok, ht2]
  obtain ⟨_, h60, hend⟩ := isTermB_of hi1
  obtain ⟨_, h602, hend2⟩ := isTermB_of hi2_
  obtain ⟨hz1, hz2⟩ := (algOkB_of hok).1
  have hlt : ∀ zs, zs ∈ [xs, ys] → ∀ x, x ∈ zs → x < 6 := fun zs hzs x hxx => by
    obtain ⟨j, hj⟩ := List.getElem?_of_mem hxx
    simp at hzs
    rcases hzs with rfl | rfl
    · exact (term_lt hok hend hj).1
    · exact (term_lt hok hend2 hj).1
  have hle : ∀ zs, zs ∈ [xs, ys] → zs.length ≤ 60 := fun zs hzs => by
    simp at hzs
    rcases hzs with rfl | rfl
    · exact h60
    · exact h602
  have HCV := fun (w1 : World) (hB1 : Below w.heap.size w w1) => varsIn_any 0 (w1.heap.size + 1) (some ⟨w1.heap.size, 0, none⟩) 2 2 [xs, ys] (w1.alloc (.cells #[.slice bo m d, .slice co m2 d2] 25))
    (LView.two (by simp) (by simp) (Nat.zero_le _) (by omega) hmd hm ((hx.kept (Kept.of_below (below_then hB1 (below_alloc _ _)) hhi2)).mono (Nat.zero_le _) (by have := hB1.size; omega)) hmd2 hm2 ((hy.kept (Kept.of_below (below_then hB1 (below_alloc _ _)) hhi3)).mono (Nat.zero_le _) (by have := hB1.size; omega))) (by simp) (by omega) hle hlt
  simp only [List.flatten_cons, List.flatten_nil, List.append_nil] at HCV
  have hL6 := varsL_len (xs ++ ys)
  obtain ⟨L, hL⟩ : ∃ L, (varsL (xs ++ ys)).length = L := ⟨_, rfl⟩
  rw [hL] at hL6
  simp only [hL] at HCV ⊢
  have HCV := Lib.hid HCV
  have HL := fun (W : World) => len6_any z L W hz1 hz2 hL6
  have hpb := powI_bd6 hz1 hz2 hL6
  obtain ⟨p, hp⟩ : ∃ p, powI z L = p := ⟨_, rfl⟩
  rw [hp] at HL hpb ⊢
  have HL := Lib.hid HL
  obtain ⟨hpb0, hpb1⟩ := hpb
  clear hv hs hx hq hy hq2 hok ht1 ht2 hi1 hi2_ hend hend2 hlt hle hL hp
  go_enter Try.func96, Try.ntmps96
  go_wp2_with fail
  refine wp_region_noPanic ?_
  have yB : Below w.heap.size w ((w.alloc (.cells #[.int .i64 z, .slice ao n c] 30)).alloc (.cells #[.slice bo m d, .slice co m2 d2] 64)).drew := by (repeat (first | assumption | exact Below.refl _ _ | apply keep_drew | apply keep_alloc))
  refine wp_region_held_drew (S := fun W => W.cell? ⟨w.heap.size, 0, none⟩ = some (.int .i64 z) ∧ W.cell? ⟨w.heap.size, 1, none⟩ = some (.slice ao n c) ∧ W.cell? ⟨w.heap.size + 1, 0, none⟩ = some (.slice bo m d) ∧ W.cell? ⟨w.heap.size + 1, 1, none⟩ = some (.slice co m2 d2) ∧ Below w.heap.size w W) (by kernel_rfl) ?_ (fun hHeld => ?_)
  · exact ⟨by go_simp, by go_simp, by go_simp, by go_simp, yB⟩
  refine wpAnyH_take (i := 0) (oi := ⟨_, _, _, _, _, _⟩) (v := ?_) rfl (by kernel_rfl) (by kernel_rfl) (by kernel_rfl) (fun _ _ _ h => h) (Or.inl ⟨rfl, ?_⟩) (by assumption) ?_
  rotate_left 1
  · intro w_ hSw; (try dsimp only at hSw); go_simp; (try with_reducible rfl)
  (try simp only [Act.put, List.setIfInBounds_toArray, List.set_cons_zero, List.set_cons_succ])
  refine wpAnyH_take (i := 1) (oi := ⟨_, _, _, _, _, _⟩) (v := ?_) rfl (by kernel_rfl) (by kernel_rfl) (by kernel_rfl) (fun _ _ _ h => h) (Or.inl ⟨rfl, ?_⟩) (by assumption) ?_
  rotate_left 1
  · intro w_ hSw; (try dsimp only at hSw); go_simp; (try with_reducible rfl)
  (try simp only [Act.put, List.setIfInBounds_toArray, List.set_cons_zero, List.set_cons_succ])
  refine wpAnyH_take (i := 2) (oi := ⟨_, _, _, _, _, _⟩) (v := ?_) rfl (by kernel_rfl) (by kernel_rfl) (by kernel_rfl) (fun _ _ _ h => h) (Or.inl ⟨rfl, ?_⟩) (by assumption) ?_
  rotate_left 1
  · intro w_ hSw; (try dsimp only at hSw); go_simp; (try with_reducible rfl)
  (try simp only [Act.put, List.setIfInBounds_toArray, List.set_cons_zero, List.set_cons_succ])
  refine wpAnyH_take (i := 3) (oi := ⟨_, _, _, _, _, _⟩) (v := ?_) rfl (by kernel_rfl) (by kernel_rfl) (by kernel_rfl) (fun _ _ _ h => h) (Or.inl ⟨rfl, ?_⟩) (by assumption) ?_
  rotate_left 1
  · intro w_ hSw; (try dsimp only at hSw); go_simp; (try with_reducible rfl)
  (try simp only [Act.put, List.setIfInBounds_toArray, List.set_cons_zero, List.set_cons_succ])
  refine wpAnyH_take (i := 4) (oi := ⟨_, _, _, _, _, _⟩) (v := ?_) rfl (by kernel_rfl) (by kernel_rfl) (by kernel_rfl) (fun _ _ _ h => h) (Or.inl ⟨rfl, ?_⟩) (by assumption) ?_
  rotate_left 1
  · intro w_ hSw; (try dsimp only at hSw); go_simp; (try with_reducible rfl)
  (try simp only [Act.put, List.setIfInBounds_toArray, List.set_cons_zero, List.set_cons_succ])
  refine wpAnyH_ready (rs := [5]) (by kernel_rfl) (by simp) ?_
  refine AllReadyH.cons (o := ⟨_, _, _, _, _, _⟩) rfl (fun K hK => ?_) AllReadyH.nil
  go_simp
  refine hK.out _ _ ?_ (fun hHeld => ?_)
  · obtain ⟨h1_, h2_, h3_, h4_, h5_⟩ := hHeld
    exact ⟨by go_simp, by go_simp, by go_simp, by go_simp, keep_alloc (by assumption) _⟩
  clear hK K
  (try simp only [Act.put, List.setIfInBounds_toArray, List.set_cons_zero, List.set_cons_succ])
  obtain ⟨hXc1, hXc2, hXc3, hXc4, hX5⟩ := id hHeld
  refine wpAnyH_ready (rs := [6]) (by kernel_rfl) (by simp) ?_
  refine AllReadyH.cons (o := ⟨_, _, _, _, _, _⟩) rfl (fun K hK => ?_) AllReadyH.nil
  go_simp
  go_at_call 64
  refine (HC.out _ ?_ _ ?_ ?_ ?_ _).mono ?_
  · exact hX5
  · simp
  · go_simp
  · go_simp
  rintro e w1 ⟨rfl, b1⟩
  have hX6 := hX5.trans (b1.mono hX5.size)
  have hC1 := cell_b b1 hXc1
  have hC2 := cell_b b1 hXc2
  have hC3 := cell_b b1 hXc3
  have hC4 := cell_b b1 hXc4
  have HB1 := Lib.hid hX6
  clear b1
  go_wp2_with fail
  refine hK.out _ _ ?_ (fun hHeld => ?_)
  · exact ⟨hC1, hC2, hC3, hC4, HB1.out⟩
  clear hK K
  (try simp only [Act.put, List.setIfInBounds_toArray, List.set_cons_zero, List.set_cons_succ])
  refine wpAnyH_take (i := 7) (oi := ⟨_, _, _, _, _, _⟩) (v := ?_) rfl (by kernel_rfl) (by kernel_rfl) (by kernel_rfl) (fun _ _ _ h => h) (Or.inl ⟨rfl, ?_⟩) (by assumption) ?_
  rotate_left 1
  · intro w_ hSw; (try dsimp only at hSw); go_simp; (try with_reducible rfl)
  (try simp only [Act.put, List.setIfInBounds_toArray, List.set_cons_zero, List.set_cons_succ])
  refine wpAnyH_take (i := 8) (oi := ⟨_, _, _, _, _, _⟩) (v := ?_) rfl (by kernel_rfl) (by kernel_rfl) (by kernel_rfl) (fun _ _ _ h => h) (Or.inl ⟨rfl, ?_⟩) (by assumption) ?_
  rotate_left 1
  · intro w_ hSw; (try dsimp only at hSw); go_simp; (try with_reducible rfl)
  (try simp only [Act.put, List.setIfInBounds_toArray, List.set_cons_zero, List.set_cons_succ])
  refine wpAnyH_take (i := 9) (oi := ⟨_, _, _, _, _, _⟩) (v := ?_) rfl (by kernel_rfl) (by kernel_rfl) (by kernel_rfl) (fun _ _ _ h => h) (Or.inl ⟨rfl, ?_⟩) (by assumption) ?_
  rotate_left 1
  · intro w_ hSw; (try dsimp only at hSw); go_simp; (try with_reducible rfl)
  (try simp only [Act.put, List.setIfInBounds_toArray, List.set_cons_zero, List.set_cons_succ])
  refine wpAnyH_take (i := 10) (oi := ⟨_, _, _, _, _, _⟩) (v := ?_) rfl (by kernel_rfl) (by kernel_rfl) (by kernel_rfl) (fun _ _ _ h => h) (Or.inl ⟨rfl, ?_⟩) (by assumption) ?_
  rotate_left 1
  · intro w_ hSw; (try dsimp only at hSw); go_simp; (try with_reducible rfl)
  (try simp only [Act.put, List.setIfInBounds_toArray, List.set_cons_zero, List.set_cons_succ])
  refine wpAnyH_take (i := 11) (oi := ⟨_, _, _, _, _, _⟩) (v := ?_) rfl (by kernel_rfl) (by kernel_rfl) (by kernel_rfl) (fun _ _ _ h => h) (Or.inl ⟨rfl, ?_⟩) (by assumption) ?_
  rotate_left 1
  · intro w_ hSw; (try dsimp only at hSw); go_simp; (try with_reducible rfl)
  (try simp only [Act.put, List.setIfInBounds_toArray, List.set_cons_zero, List.set_cons_succ])
  refine wpAnyH_take (i := 12) (oi := ⟨_, _, _, _, _, _⟩) (v := ?_) rfl (by kernel_rfl) (by kernel_rfl) (by kernel_rfl) (fun _ _ _ h => h) (Or.inl ⟨rfl, ?_⟩) (by assumption) ?_
  rotate_left 1
  · intro w_ hSw; (try dsimp only at hSw); go_simp; (try with_reducible rfl)
  (try simp only [Act.put, List.setIfInBounds_toArray, List.set_cons_zero, List.set_cons_succ])
  refine wpAnyH_take (i := 13) (oi := ⟨_, _, _, _, _, _⟩) (v := ?_) rfl (by kernel_rfl) (by kernel_rfl) (by kernel_rfl) (fun _ _ _ h => h) (Or.inl ⟨rfl, ?_⟩) (by assumption) ?_
  rotate_left 1
  · intro w_ hSw; (try dsimp only at hSw); go_simp; (try with_reducible rfl)
  (try simp only [Act.put, List.setIfInBounds_toArray, List.set_cons_zero, List.set_cons_succ])
  refine wpAnyH_ready (rs := [14]) (by kernel_rfl) (by simp) ?_
  refine AllReadyH.cons (o := ⟨_, _, _, _, _, _⟩) rfl (fun K hK => ?_) AllReadyH.nil
  go_simp
  refine hK.out _ _ ?_ (fun hHeld => ?_)
  · obtain ⟨h1_, h2_, h3_, h4_, h5_⟩ := hHeld
    exact ⟨cell_b (below_alloc _ _) h1_, cell_b (below_alloc _ _) h2_, cell_b (below_alloc _ _) h3_, cell_b (below_alloc _ _) h4_, keep_alloc h5_ _⟩
  clear hK K
  (try simp only [Act.put, List.setIfInBounds_toArray, List.set_cons_zero, List.set_cons_succ])
  obtain ⟨hXd1, hXd2, hXd3, hXd4, hX14⟩ := id hHeld
  refine wpAnyH_ready (rs := [15]) (by kernel_rfl) (by simp) ?_
  refine AllReadyH.cons (o := ⟨_, _, _, _, _, _⟩) rfl (fun K hK => ?_) AllReadyH.nil
  go_simp
  go_at_call 67
  refine (HCV.out _ hX6).mono ?_
  rintro e w2 ⟨va, vm, vd, rfl, rfl, vo, b2⟩
  have hD1 := cell_b b2 hXd1
  have hD2 := cell_b b2 hXd2
  have hD3 := cell_b b2 hXd3
  have hD4 := cell_b b2 hXd4
  have hX15 := hX14.trans (b2.mono hX14.size)
  have HB2 := Lib.hid hX15
  clear vo b2
  go_wp2_with fail
  refine hK.out _ _ ?_ (fun hHeld => ?_)
  · exact ⟨hD1, hD2, hD3, hD4, HB2.out⟩
  clear hK K
  (try simp only [Act.put, List.setIfInBounds_toArray, List.set_cons_zero, List.set_cons_succ])
  refine wpAnyH_take (i := 16) (oi := ⟨_, _, _, _, _, _⟩) (v := ?_) rfl (by kernel_rfl) (by kernel_rfl) (by kernel_rfl) (fun _ _ _ h => h) (Or.inl ⟨rfl, ?_⟩) (by assumption) ?_
  rotate_left 1
  · intro w_ hSw; (try dsimp only at hSw); go_simp; (try with_reducible rfl)
  (try simp only [Act.put, List.setIfInBounds_toArray, List.set_cons_zero, List.set_cons_succ])
  refine wpAnyH_ready (rs := [17]) (by kernel_rfl) (by simp) ?_
  refine AllReadyH.cons (o := ⟨_, _, _, _, _, _⟩) rfl (fun K hK => ?_) AllReadyH.nil
  go_simp
  go_at_call 88
  refine (HL.out _).mono ?_
  rintro e w3 ⟨rfl, rfl⟩
  go_wp2_with fail
  refine hK.out _ _ ?_ (fun hHeld => ?_)
  · assumption
  clear hK K
  (try simp only [Act.put, List.setIfInBounds_toArray, List.set_cons_zero, List.set_cons_succ])
  refine wpAnyH_take (i := 18) (oi := ⟨_, _, _, _, _, _⟩) (v := ?_) rfl (by kernel_rfl) (by kernel_rfl) (by kernel_rfl) (fun _ _ _ h => h) (Or.inl ⟨rfl, ?_⟩) (by assumption) ?_
  rotate_left 1
  · intro w_ hSw; (try dsimp only at hSw); go_simp; (try with_reducible rfl)
  (try simp only [Act.put, List.setIfInBounds_toArray, List.set_cons_zero, List.set_cons_succ])
  refine wpAnyH_take (i := 19) (oi := ⟨_, _, _, _, _, _⟩) (v := ?_) rfl (by kernel_rfl) (by kernel_rfl) (by kernel_rfl) (fun _ _ _ h => h) (Or.inl ⟨rfl, ?_⟩) (by assumption) ?_
  rotate_left 1
  · intro w_ hSw; (try dsimp only at hSw); go_simp; (try with_reducible rfl)
  (try simp only [Act.put, List.setIfInBounds_toArray, List.set_cons_zero, List.set_cons_succ])
  refine wpAnyH_take (i := 20) (oi := ⟨_, _, _, _, _, _⟩) (v := ?_) rfl (by kernel_rfl) (by kernel_rfl) (by kernel_rfl) (fun _ _ _ h => h) (Or.inl ⟨rfl, ?_⟩) (by assumption) ?_
  rotate_left 1
  · intro w_ hSw; (try dsimp only at hSw); go_simp; (try with_reducible rfl)
  (try simp only [Act.put, List.setIfInBounds_toArray, List.set_cons_zero, List.set_cons_succ])
  refine wpAnyH_done (by kernel_rfl) ?_ _
  refine NoPanic.normal ?_
  go_wp2_with fail
  go_ret
  exact ⟨by first | rfl | simp, HB2.out⟩

theorem canCheck_any (lo hi : Nat) (z : Int) (ao : Option Addr) (c n : Nat) (fs : List OpD) (lo2 hi2 : Nat) (bo : Option Addr) (d m : Nat) (xs : List Int) (lo3 hi3 : Nat) (co : Option Addr) (d2 m2 : Nat) (ys : List Int) (w : World) (hv : OView w lo hi ao n fs) (hhi : hi ≤ w.heap.size) (hs : ∀ (j : Nat) (f : OpD), fs[j]? = some f → f.2.length ≤ maxLen)
    (hx : IView w lo2 hi2 bo m xs) (hhi2 : hi2 ≤ w.heap.size) (hmd : m ≤ d) (hm : d ≤ maxLen) (hq : ∀ x, x ∈ xs → (Lit.int .i64 x).wf = true)
    (hy : IView w lo3 hi3 co m2 ys) (hhi3 : hi3 ≤ w.heap.size) (hmd2 : m2 ≤ d2) (hm2 : d2 ≤ maxLen) (hq2 : ∀ x, x ∈ ys → (Lit.int .i64 x).wf = true) :
    Calls Try.prog 96 #[.agg #[.int .i64 z, .slice ao n c], .agg #[.slice bo m d, .slice co m2 d2]] w fun e w' => e = .returned (.bool (askB z fs xs ys)) ∧ Below w.heap.size w w' := by
  obtain ⟨r, hr⟩ : ∃ r, (algOkB z fs && (termB fs xs && termB fs ys)) = r := ⟨_, rfl⟩
  cases r with
  | false =>
    have h := canCheck_no lo hi z ao c n fs lo2 hi2 bo d m xs lo3 hi3 co d2 m2 ys w hv hhi hs hx hhi2 hmd hm hq hy hhi3 hmd2 hm2 hq2 hr
    unfold askB
    rw [hr, Bool.false_and]
    exact h
  | true => exact canCheck_yes lo hi z ao c n fs lo2 hi2 bo d m xs lo3 hi3 co d2 m2 ys w hv hhi hs hx hhi2 hmd hm hq hy hhi3 hmd2 hm2 hq2 hr
end

section
open Go.RowKit
set_option linter.unusedVariables false
set_option linter.unusedSimpArgs false
attribute [local go_sem ↓] Go.wp_at_zero Go.wp_at_succ

set_option maxRecDepth 100000 in
set_option maxHeartbeats 4000000 in
theorem counterOf_any (lo hi : Nat) (z : Int) (ao : Option Addr) (c n : Nat) (fs : List OpD) (lo2 hi2 : Nat) (bo : Option Addr) (d m : Nat) (xs : List Int) (lo3 hi3 : Nat) (co : Option Addr) (d2 m2 : Nat) (ys : List Int) (w : World) (hv : OView w lo hi ao n fs) (hhi : hi ≤ w.heap.size)
    (hx : IView w lo2 hi2 bo m xs) (hhi2 : hi2 ≤ w.heap.size) (hmd : m ≤ d) (hm : d ≤ maxLen)
    (hy : IView w lo3 hi3 co m2 ys) (hhi3 : hi3 ≤ w.heap.size) (hmd2 : m2 ≤ d2) (hm2 : d2 ≤ maxLen) (hask : askB z fs xs ys = true) :
    Calls Try.prog 97 #[.agg #[.int .i64 z, .slice ao n c], .agg #[.slice bo m d, .slice co m2 d2]] w fun e w' => ResL w w' (cntR z fs xs ys).1 (cntR z fs xs ys).2 e := by
  unfold askB at hask
  simp only [Bool.and_eq_true, decide_eq_true_eq] at hask
  obtain ⟨⟨hok, ht1, ht2⟩, hpw⟩ := hask
  obtain ⟨_, h60, hend⟩ := isTermB_of (show isTermB z fs xs = true by simp [isTermB, hok, ht1])
  obtain ⟨_, h602, hend2⟩ := isTermB_of (show isTermB z fs ys = true by simp [isTermB, hok, ht2])
  obtain ⟨hz1, hz2⟩ := (algOkB_of hok).1
  have hlx := hx.1
  have hly := hy.1
  have hm0 : 0 < m := by have := term_pos hend; omega
  have hm20 : 0 < m2 := by have := term_pos hend2; omega
  have hb1 : ∀ x, x ∈ xs → x < 6 := fun x hxx => by
    obtain ⟨j, hj⟩ := List.getElem?_of_mem hxx
    exact (term_lt hok hend hj).1
  have hb2 : ∀ x, x ∈ ys → x < 6 := fun x hxx => by
    obtain ⟨j, hj⟩ := List.getElem?_of_mem hxx
    exact (term_lt hok hend2 hj).1
  have hc1 : ∀ x, x ∈ xs → -9223372036854775808 ≤ x ∧ x < 6 := fun x hxx => by
    obtain ⟨j, hj⟩ := List.getElem?_of_mem hxx
    have := term_lt hok hend hj
    have := (algOkB_of hok).2.1
    exact ⟨by omega, by omega⟩
  have hc2 : ∀ x, x ∈ ys → -9223372036854775808 ≤ x ∧ x < 6 := fun x hxx => by
    obtain ⟨j, hj⟩ := List.getElem?_of_mem hxx
    have := term_lt hok hend2 hj
    have := (algOkB_of hok).2.1
    exact ⟨by omega, by omega⟩
  have hne1 : xs ≠ [] := fun e => by rw [e] at hlx; simp at hlx; omega
  have hne2 : ys ≠ [] := fun e => by rw [e] at hly; simp at hly; omega
  obtain ⟨zs, hzs⟩ : ∃ zs, xs ++ ys = zs := ⟨_, rfl⟩
  have hfx : ∀ x, x ∈ xs → x < (needN zs : Int) := fun x hxx => need_fit (by rw [← hzs]; exact List.mem_append_left _ hxx) (hb1 x hxx)
  have hfy : ∀ x, x ∈ ys → x < (needN zs : Int) := fun x hxx => need_fit (by rw [← hzs]; exact List.mem_append_right _ hxx) (hb2 x hxx)
  have hzb : ∀ x, x ∈ zs → x < 6 := fun x hxx => by
    rw [← hzs] at hxx
    rcases List.mem_append.1 hxx with h | h
    · exact hb1 x h
    · exact hb2 x h
  have hvn : ∀ (j : Nat) (v : Int), (varsL zs)[j]? = some v → ∃ vn : Nat, v = (vn : Int) ∧ vn < needN zs := fun j v hj => by
    obtain ⟨h1, h2, h3⟩ := vars_need (List.mem_of_getElem? hj)
    have := need_fit h3 h2
    exact ⟨v.toNat, by omega, by omega⟩
  have hbad : ∀ j, badB z fs xs ys j = (evT z fs (cntV z zs j) xs != evT z fs (cntV z zs j) ys) := fun j => by unfold badB; rw [hzs]
  have hCV := fun (w1 : World) (hB1 : Below w.heap.size w w1) => varsIn_any 0 (w1.heap.size + 1) (some ⟨w1.heap.size, 0, none⟩) 2 2 [xs, ys] (w1.alloc (.cells #[.slice bo m d, .slice co m2 d2] 25))
    (LView.two (by simp) (by simp) (Nat.zero_le _) (by omega) hmd hm ((hx.kept (Kept.of_below (below_then hB1 (below_alloc _ _)) hhi2)).mono (Nat.zero_le _) (by have := hB1.size; omega)) hmd2 hm2 ((hy.kept (Kept.of_below (below_then hB1 (below_alloc _ _)) hhi3)).mono (Nat.zero_le _) (by have := hB1.size; omega))) (by simp) (by omega) (fun zs_ hzs_ => by
      simp at hzs_
      rcases hzs_ with rfl | rfl
      · exact h60
      · exact h602) (fun zs_ hzs_ x hxx => by
      simp at hzs_
      rcases hzs_ with rfl | rfl
      · exact hb1 x hxx
      · exact hb2 x hxx)
  simp only [List.flatten_cons, List.flatten_nil, List.append_nil, hzs] at hCV
  have hN1 := fun (w1 : World) (hB1 : Below w.heap.size w w1) => needed_any lo2 hi2 bo d m xs w1 (hx.kept (Kept.of_below hB1 hhi2)) hm0 (by omega) hc1
  have hN2 := fun (w1 : World) (hB1 : Below w.heap.size w w1) => needed_any lo3 hi3 co d2 m2 ys w1 (hy.kept (Kept.of_below hB1 hhi3)) hm20 (by omega) hc2
  have hmx := need_max hne1 hne2 hb1 hb2
  rw [hzs] at hmx hpw
  have hL6 := varsL_len zs
  have hN6 := needN_le zs
  obtain ⟨L, hL⟩ : ∃ L, (varsL zs).length = L := ⟨_, rfl⟩
  rw [hL] at hL6
  have hl6 := fun (W : World) => len6_any z L W hz1 hz2 hL6
  have hpb := powI_bd6 hz1 hz2 hL6
  rw [hL] at hpw
  obtain ⟨p, hp⟩ : ∃ p : Nat, powI z L = (p : Int) := ⟨(powI z L).toNat, by omega⟩
  rw [hp] at hl6 hpb hpw
  have HSome := Lib.hid (fun (j : Nat) (h : ∀ i, i < j → badB z fs xs ys i = false) (hj : badB z fs xs ys j = true) (hn : j < p) => cntR_some (z := z) (fs := fs) (xs := xs) (ys := ys) (p := p) (by rw [hzs, hL]; exact hp) h hj hn)
  have HNone := Lib.hid (fun (h : ∀ i, i < p → badB z fs xs ys i = false) => cntR_none (z := z) (fs := fs) (xs := xs) (ys := ys) (p := p) (by rw [hzs, hL]; exact hp) h)
  simp only [hzs] at HSome
  have HVx := Lib.hid (fun (j g : Nat) (W : World) (hb : Below w.heap.size w W) (hd : IView W g W.heap.size (some ⟨g, 0, none⟩) (needN zs) (cntV z zs j)) => valueT_any lo hi lo2 hi2 g W.heap.size z ao bo (some ⟨g, 0, none⟩) n c m d (needN zs) (needN zs) fs xs (cntV z zs j) W (hv.kept (Kept.of_below hb hhi)) (Nat.le_trans hhi hb.size) hok (hx.kept (Kept.of_below hb hhi2)) (Nat.le_trans hhi2 hb.size) hd (Nat.le_refl _) h60 hend (cntV_in hz1 zs j) hfx)
  have HVy := Lib.hid (fun (j g : Nat) (W : World) (hb : Below w.heap.size w W) (hd : IView W g W.heap.size (some ⟨g, 0, none⟩) (needN zs) (cntV z zs j)) => valueT_any lo hi lo3 hi3 g W.heap.size z ao co (some ⟨g, 0, none⟩) n c m2 d2 (needN zs) (needN zs) fs ys (cntV z zs j) W (hv.kept (Kept.of_below hb hhi)) (Nat.le_trans hhi hb.size) hok (hy.kept (Kept.of_below hb hhi3)) (Nat.le_trans hhi3 hb.size) hd (Nat.le_refl _) h602 hend2 (cntV_in hz1 zs j) hfy)
  have HA := Lib.hid (fun (j : Nat) (hj : j < p) (W : World) => args6_impl z (j : Int) L hL6 W hz1 hz2 (by omega) (by omega))
  have HDl := Lib.hid (fun (j : Nat) => digs_len z L (j : Int))
  have HRz : Hid (∀ i : Nat, putVs (List.replicate (needN zs) 0) (varsL zs) (digs z L (i : Int)) = cntV z zs i) := fun i => by unfold cntV; rw [hL]
  have HRc : Hid (∀ j i : Nat, putVs (cntV z zs j) (varsL zs) (digs z L (i : Int)) = cntV z zs i) := fun j i => by have := cntV_again z zs j i; rw [hL] at this; exact this
  have HCl := Lib.hid (fun j : Nat => cntV_len z zs j)
  have HVn := Lib.hid hvn
  have HBad := Lib.hid hbad
  obtain ⟨N, hN⟩ : ∃ N, needN zs = N := ⟨_, rfl⟩
  rw [hN] at hmx hN6 HVx HVy HRz HCl HVn
  obtain ⟨qx, hqx⟩ : ∃ q, max (maxL xs + 1) 0 = q := ⟨_, rfl⟩
  obtain ⟨qy, hqy⟩ : ∃ q, max (maxL ys + 1) 0 = q := ⟨_, rfl⟩
  rw [hqx] at hN1 hmx
  rw [hqy] at hN2 hmx
  have HN1 := Lib.hid hN1
  have HN2 := Lib.hid hN2
  rw [hL] at hCV
  
  obtain ⟨vs, hvs⟩ : ∃ vs, varsL zs = vs := ⟨_, rfl⟩
  rw [hvs] at hCV HRz HRc HVn
  have HCV := Lib.hid hCV
  have HL6 := Lib.hid hl6
  have HVl : Hid (vs.length = L) := by rw [← hvs]; exact hL
  obtain ⟨R, hR⟩ : ∃ R, cntR z fs xs ys = R := ⟨_, rfl⟩
  rw [hR] at HSome HNone ⊢
  clear hv hx hy hok ht1 ht2 hpw hend hend2 hb1 hb2 hc1 hc2 hne1 hne2 hfx hfy hzb hvn hbad hqx hqy hN hp hvs hL hR hlx hly hCV hN1 hN2 hl6
  have HMx := Lib.hid hmx
  clear hmx
  have hB0 := Lib.hid (below_then (below_alloc w (.cells #[.int .i64 z, .slice ao n c] 30)) (below_alloc _ (.cells #[.slice bo m d, .slice co m2 d2] 64)))
  have hcv := HCV.out _ hB0.out
  simp only [World.size_alloc] at hcv
  have HCV0 := Lib.hid hcv
  clear hcv
  unfold ResL
  go_enter Try.func97, Try.ntmps97
  go_wp2_with fail
  refine HCV0.out.mono ?_
  rintro e w2 ⟨va, vm, vd, rfl, rfl, vo, b2⟩
  have bw2 := (below_alloc ((w.alloc (.cells #[.int .i64 z, .slice ao n c] 30)).alloc (.cells #[.slice bo m d, .slice co m2 d2] 64)) (.cells #[.slice bo m d, .slice co m2 d2] 25)).trans (b2.mono (by simp))
  have c1 : w2.cell? ⟨w.heap.size, 0, none⟩ = some (.int .i64 z) := cell_b bw2 (by go_simp)
  have c2 : w2.cell? ⟨w.heap.size, 1, none⟩ = some (.slice ao n c) := cell_b bw2 (by go_simp)
  have c3 : w2.cell? ⟨w.heap.size + 1, 0, none⟩ = some (.slice bo m d) := cell_b bw2 (by go_simp)
  have c4 : w2.cell? ⟨w.heap.size + 1, 1, none⟩ = some (.slice co m2 d2) := cell_b bw2 (by go_simp)
  have HB2 := Lib.hid (hB0.out.trans (bw2.mono hB0.out.size))
  have HVo := Lib.hid (OwnsInts.of_row (ownsRow_base (b' := w.heap.size) vo (by omega)))
  clear vo b2 bw2 hB0
  obtain ⟨w5, hmk, ho5, hb5⟩ := make_ints w2.drew N (by omega)
  simp only [World.size_drew] at hmk ho5 hb5
  have yB : Below w2.heap.size w2 w2.drew := below_drew _
  have hb25 : Below w2.heap.size w2 w5 := yB.trans hb5
  have d1 := cell_b hb25 c1
  have d2_ := cell_b hb25 c2
  have d3 := cell_b hb25 c3
  have d4 := cell_b hb25 c4
  have HB5 := Lib.hid (HB2.out.trans (hb25.mono HB2.out.size))
  have HVv := Lib.hid (HVo.out.kept (Kept.of_below hb25 (Nat.le_refl _))).view
  have HO5 := Lib.hid ho5
  have HX5 := Lib.hid hb25
  obtain ⟨G, hG⟩ : ∃ G : Nat, G = w2.heap.size := ⟨_, rfl⟩
  have hwG : w.heap.size + 1 < G := by rw [hG]; exact World.block_lt_of_cell? w2 _ c3
  rw [← hG] at hmk HVv HO5
  have hGs : G < w5.heap.size := (HO5.out.lt G rfl).2
  have hmx := HMx.out
  have hmx2 := hmx
  rw [show max qx qy = (if qx < qy then qy else qx) by rw [Int.max_def]; split <;> split <;> omega] at hmx2
  clear hG ho5 hb5 hb25 HVo
  go_wp2_with fail

  refine wp_region_noPanic ?_
  refine wp_region_held_drew (S := fun W => W.cell? ⟨w.heap.size, 0, none⟩ = some (.int .i64 z) ∧ W.cell? ⟨w.heap.size, 1, none⟩ = some (.slice ao n c) ∧ W.cell? ⟨w.heap.size + 1, 0, none⟩ = some (.slice bo m d) ∧ W.cell? ⟨w.heap.size + 1, 1, none⟩ = some (.slice co m2 d2) ∧ Below w2.heap.size w2 W) (by kernel_rfl) ?_ (fun hHeld => ?_)
  · exact ⟨by go_simp, by go_simp, by go_simp, by go_simp, yB⟩
  refine wpAnyH_take (i := 0) (oi := ⟨_, _, _, _, _, _⟩) (v := ?_) rfl (by kernel_rfl) (by kernel_rfl) (by kernel_rfl) (fun _ _ _ h => h) (Or.inl ⟨rfl, ?_⟩) (by assumption) ?_
  rotate_left 1
  · intro w_ hSw; (try dsimp only at hSw); go_simp; (try with_reducible rfl)
  (try simp only [Act.put, List.setIfInBounds_toArray, List.set_cons_zero, List.set_cons_succ])
  refine wpAnyH_take (i := 1) (oi := ⟨_, _, _, _, _, _⟩) (v := ?_) rfl (by kernel_rfl) (by kernel_rfl) (by kernel_rfl) (fun _ _ _ h => h) (Or.inl ⟨rfl, ?_⟩) (by assumption) ?_
  rotate_left 1
  · intro w_ hSw; (try dsimp only at hSw); go_simp; (try with_reducible rfl)
  (try simp only [Act.put, List.setIfInBounds_toArray, List.set_cons_zero, List.set_cons_succ])
  refine wpAnyH_take (i := 3) (oi := ⟨_, _, _, _, _, _⟩) (v := ?_) rfl (by kernel_rfl) (by kernel_rfl) (by kernel_rfl) (fun _ _ _ h => h) (Or.inl ⟨rfl, ?_⟩) (by assumption) ?_
  rotate_left 1
  · intro w_ hSw; (try dsimp only at hSw); go_simp; (try with_reducible rfl)
  (try simp only [Act.put, List.setIfInBounds_toArray, List.set_cons_zero, List.set_cons_succ])
  refine wpAnyH_take (i := 4) (oi := ⟨_, _, _, _, _, _⟩) (v := ?_) rfl (by kernel_rfl) (by kernel_rfl) (by kernel_rfl) (fun _ _ _ h => h) (Or.inl ⟨rfl, ?_⟩) (by assumption) ?_
  rotate_left 1
  · intro w_ hSw; (try dsimp only at hSw); go_simp; (try with_reducible rfl)
  (try simp only [Act.put, List.setIfInBounds_toArray, List.set_cons_zero, List.set_cons_succ])
  refine wpAnyH_ready (rs := [2]) (by kernel_rfl) (by simp) ?_
  refine AllReadyH.cons (o := ⟨_, _, _, _, _, _⟩) rfl (fun K hK => ?_) AllReadyH.nil
  go_simp
  go_at_call 80
  refine (HN1.out _ (HB2.out.trans (yB.mono HB2.out.size))).mono ?_
  rintro e w_ ⟨rfl, rfl⟩
  go_wp2_with fail
  refine hK.out _ _ ?_ (fun hHeld => ?_)
  · assumption
  clear hK K
  (try simp only [Act.put, List.setIfInBounds_toArray, List.set_cons_zero, List.set_cons_succ])
  refine wpAnyH_ready (rs := [5]) (by kernel_rfl) (by simp) ?_
  refine AllReadyH.cons (o := ⟨_, _, _, _, _, _⟩) rfl (fun K hK => ?_) AllReadyH.nil
  go_simp
  go_at_call 80
  refine (HN2.out _ (HB2.out.trans (yB.mono HB2.out.size))).mono ?_
  rintro e w_ ⟨rfl, rfl⟩
  go_wp2_with fail
  refine hK.out _ _ ?_ (fun hHeld => ?_)
  · assumption
  clear hK K
  (try simp only [Act.put, List.setIfInBounds_toArray, List.set_cons_zero, List.set_cons_succ])
  refine wpAnyH_take (i := 6) (oi := ⟨_, _, _, _, _, _⟩) (v := ?_) rfl (by kernel_rfl) (by kernel_rfl) (by kernel_rfl) (fun _ _ _ h => h) (Or.inl ⟨rfl, ?_⟩) (by assumption) ?_
  rotate_left 1
  · intro w_ hSw; (try dsimp only at hSw); go_simp; (try with_reducible rfl)
  (try simp only [Act.put, List.setIfInBounds_toArray, List.set_cons_zero, List.set_cons_succ])
  refine wpAnyH_ready (rs := [7]) (by kernel_rfl) (by simp) ?_
  refine AllReadyH.cons (o := ⟨_, _, _, _, _, _⟩) rfl (fun K hK => ?_) AllReadyH.nil
  go_simp
  refine hK.out _ _ ?_ (fun hHeld => ?_)
  · exact ⟨d1, d2_, d3, d4, HX5.out⟩
  clear hK K
  (try simp only [Act.put, List.setIfInBounds_toArray, List.set_cons_zero, List.set_cons_succ])
  refine wpAnyH_take (i := 8) (oi := ⟨_, _, _, _, _, _⟩) (v := ?_) rfl (by kernel_rfl) (by kernel_rfl) (by kernel_rfl) (fun _ _ _ h => h) (Or.inl ⟨rfl, ?_⟩) (by assumption) ?_
  rotate_left 1
  · intro w_ hSw; (try dsimp only at hSw); go_simp; (try with_reducible rfl)
  (try simp only [Act.put, List.setIfInBounds_toArray, List.set_cons_zero, List.set_cons_succ])
  refine wpAnyH_done (by kernel_rfl) ?_ _
  refine NoPanic.normal ?_
  clear hmx hmx2 hmk yB c1 c2 c3 c4 HX5 HMx HN1 HN2 HCV0 HCV
  go_wp2_with fail
  refine (HL6.out _).mono ?_
  rintro e w_ ⟨rfl, rfl⟩
  go_wp2_with fail
  go_loopw [8, 9, 10, 30] (fun _ _ _ i wr => ∃ j : Nat, j ≤ p ∧ i = .int .i64 (j : Int) ∧ Hid (∀ i', i' < j → badB z fs xs ys i' = false) ∧ Hid (∃ cur : List Int, (∀ i' : Nat, putVs cur vs (digs z vm (i' : Int)) = cntV z zs i') ∧ cur.length = N ∧ wr.ownsRow G 3 1 (.slice (some ⟨G, 0, none⟩) N N) N (cur.map (Value.int .i64))) ∧ Hid (IView wr w.heap.size G va vm vs) ∧ wr.cell? ⟨w.heap.size, 0, none⟩ = some (.int .i64 z) ∧ wr.cell? ⟨w.heap.size, 1, none⟩ = some (.slice ao n c) ∧ wr.cell? ⟨w.heap.size + 1, 0, none⟩ = some (.slice bo m d) ∧ wr.cell? ⟨w.heap.size + 1, 1, none⟩ = some (.slice co m2 d2) ∧ Hid (Below w.heap.size w wr) ∧ G < wr.heap.size) (fun _ _ _ i _ => p - (intOf i).toNat)
  case atStart => exact ⟨0, Nat.zero_le _, rfl, (fun i' h => by omega), ⟨_, HRz.out, by simp, HO5.out⟩, HVv, d1, d2_, d3, d4, HB5, hGs⟩
  case round =>
    obtain ⟨j, hj, rfl, HNo, HCur, HVw, z1, z2, z3, z4, HBr, hGr⟩ := hrel
    clear d1 d2_ d3 d4 HVv HO5 HB5 hGs
    by_cases hlt : j < p
    · obtain ⟨wi, hwi⟩ : ∃ wi : World, wi = wr := ⟨_, rfl⟩
      rw [← hwi]
      rw [← hwi] at HCur HVw z1 z2 z3 z4 HBr hGr
      clear hwi
      have hjp : (j : Int) < (p : Int) := by omega
      obtain ⟨cur, hcur, hcl, ho⟩ := HCur.out
      have HCu := Lib.hid hcur
      have HOi := Lib.hid ho
      clear hcur ho
      go_wp2_with fail
      refine (HA.out j hlt _).mono ?_
      rintro e wA ⟨rfl, hoA, bA⟩
      have e1 := cell_b bA z1
      have e2 := cell_b bA z2
      have e3 := cell_b bA z3
      have e4 := cell_b bA z4
      have HVA := Lib.hid (HVw.out.kept (Kept.of_below bA (by omega)))
      have HRA := Lib.hid (HOi.out.kept (grown_of_below bA none) (own_em _))
      have HBA := Lib.hid (HBr.out.trans (bA.mono HBr.out.size))
      obtain ⟨D, hD⟩ : ∃ D : Nat, D = wi.heap.size := ⟨_, rfl⟩
      rw [← hD] at hoA ⊢
      have hGD : G < D := by omega
      have hDs : D < wA.heap.size := (hoA.lt D rfl).2
      have HDA := Lib.hid hoA
      clear hoA bA hD z1 z2 z3 z4 HVw HOi
      go_wp2_with fail
      go_loopw [9, 10, 40] (fun _ _ k wq => ∃ q : Nat, q ≤ vm ∧ k = .int .i64 (q : Int) ∧ Hid (wq.ownsRow G 3 1 (.slice (some ⟨G, 0, none⟩) N N) N ((putVs cur (vs.take q) ((digs z vm (j : Int)).take q)).map (Value.int .i64))) ∧ Hid (wA.grownBy wq (some G))) (fun _ _ k _ => vm - (intOf k).toNat)
      case atStart => exact ⟨0, Nat.zero_le _, rfl, by rw [putVs_zero]; exact HRA, World.grownBy.refl _ _⟩
      case round =>
        obtain ⟨q, hq, rfl, HRq, HGq⟩ := hrel
        by_cases hlt2 : q < vm
        · obtain ⟨x, hxq⟩ := get_of_lt (HDl.out j) hlt2
          obtain ⟨v, hvq⟩ := get_of_lt HVl.out hlt2
          obtain ⟨vn, rfl, hvn⟩ := HVn.out q v hvq
          obtain ⟨bV, oV, rfl, hbl, hbh, hcv⟩ := HVA.out.at_ (by omega)
          have k1 : wr.cell? ⟨bV, oV + q, none⟩ = some (.int .i64 (vn : Int)) := (World.cell?_of_block (a := ⟨bV, oV + q, none⟩) (HGq.out.block bV (by omega) (by intro h_; injection h_ with h_; omega))).trans (hcv q _ hvq)
          have k2 : wr.cell? ⟨D, q, none⟩ = some (.int .i64 x) := (World.cell?_of_block (a := ⟨D, q, none⟩) (HGq.out.block D (by omega) (by intro h_; injection h_ with h_; omega))).trans (own_at HDA.out hxq)
          have hlen := HRq.out.1
          obtain ⟨u, hu⟩ : ∃ u, wr.cell? ⟨G, vn, none⟩ = some u := by
            rw [HRq.out.cellAt vn (by omega)]
            exact ⟨_, List.getElem?_eq_getElem (by omega)⟩
          have hfr := HRq.out.frozenAt vn
          have hst := HRq.out.stored vn (.int .i64 x)
          have hps := putVs_succ vs (digs z vm (j : Int)) cur q (vn : Int) x hvq hxq
          rw [Int.toNat_natCast] at hps
          rw [← List.map_set, ← hps] at hst
          have HST := Lib.hid hst
          have hvN : (vn : Int) < (N : Int) := by omega
          have hqv : (q : Int) < (vm : Int) := by omega
          clear hst hps hcv hxq hvq hlen
          go_wp2_with fail
          go_roundw
          case rel => exact ⟨q + 1, by omega, by go_num, HST.out.1, HGq.out.trans HST.out.2⟩
          case measure => (simp [intOf]) <;> omega
        · obtain rfl : q = vm := by omega
          obtain ⟨w6, hw6⟩ : ∃ w6 : World, w6 = wr := ⟨_, rfl⟩
          rw [← hw6]
          rw [← hw6] at HRq HGq
          clear hw6
          have hgc : ∀ {o_ : Nat} {B_ : Nat} {v_ : Value}, B_ ≤ w.heap.size + 1 → wA.cell? ⟨B_, o_, none⟩ = some v_ → w6.cell? ⟨B_, o_, none⟩ = some v_ := fun {o_} {B_} {v_} hB h => (World.cell?_of_block (a := ⟨B_, o_, none⟩) (HGq.out.block B_ (by omega) (by intro h_; injection h_ with h_; omega))).trans h
          have f1 := hgc (by omega) e1
          have f2 := hgc (by omega) e2
          have f3 := hgc (by omega) e3
          have f4 := hgc (by omega) e4
          have HV6 := Lib.hid (HVA.out.kept (fun k_ h1_ h2_ => HGq.out.block k_ (by omega) (by intro h_; injection h_ with h_; omega)))
          have hs6 := HGq.out.size
          have HB6 := Lib.hid (HBA.out.grown HGq.out (by have := HBA.out.size; omega) (by intro b hb; cases hb; omega))
          have HR6 : Hid (w6.ownsRow G 3 1 (.slice (some ⟨G, 0, none⟩) N N) N ((cntV z zs j).map (Value.int .i64))) := by
            unfold Hid
            have h_ := HRq.out
            rw [putVs_all (Nat.le_of_eq HVl.out) (Nat.le_of_eq (HDl.out j)), HCu.out j] at h_
            exact h_
          clear hgc e1 e2 e3 e4 HVA HRA HBA HDA HRq HGq
          have hG6 : G < w6.heap.size := by omega
          have hv1 := fun (W : World) (hb : Below w6.heap.size w6 W) => HVx.out j G W (HB6.out.trans (hb.mono HB6.out.size)) ((OwnsInts.of_row (HR6.out.kept (grown_of_below hb none) (own_em _))).view)
          have hv2 := fun (W : World) (hb : Below w6.heap.size w6 W) => HVy.out j G W (HB6.out.trans (hb.mono HB6.out.size)) ((OwnsInts.of_row (HR6.out.kept (grown_of_below hb none) (own_em _))).view)
          have hbj := HBad.out j
          obtain ⟨ex, hex⟩ : ∃ e_, evT z fs (cntV z zs j) xs = e_ := ⟨_, rfl⟩
          obtain ⟨ey, hey⟩ : ∃ e_, evT z fs (cntV z zs j) ys = e_ := ⟨_, rfl⟩
          rw [hex] at hv1 hbj
          rw [hey] at hv2 hbj
          have HV1 := Lib.hid hv1
          have HV2 := Lib.hid hv2
          have HBj := Lib.hid hbj
          clear hv1 hv2 hbj hex hey
          have yC : Below w6.heap.size w6 w6.drew := below_drew _
          have hqq : ¬ (q : Int) < (q : Int) := by omega
          by_cases heq : ex = ey
          · subst heq
            go_wp2_with fail
            refine wp_region_noPanic ?_
            refine wp_region_held_drew (S := fun W => W.cell? ⟨w.heap.size, 0, none⟩ = some (.int .i64 z) ∧ W.cell? ⟨w.heap.size, 1, none⟩ = some (.slice ao n c) ∧ W.cell? ⟨w.heap.size + 1, 0, none⟩ = some (.slice bo m d) ∧ W.cell? ⟨w.heap.size + 1, 1, none⟩ = some (.slice co m2 d2) ∧ Below w6.heap.size w6 W) (by kernel_rfl) ?_ (fun hHeld => ?_)
            · exact ⟨by go_simp, by go_simp, by go_simp, by go_simp, yC⟩
            refine wpAnyH_take (i := 0) (oi := ⟨_, _, _, _, _, _⟩) (v := ?_) rfl (by kernel_rfl) (by kernel_rfl) (by kernel_rfl) (fun _ _ _ h => h) (Or.inl ⟨rfl, ?_⟩) (by assumption) ?_
            rotate_left 1
            · intro w_ hSw; (try dsimp only at hSw); go_simp; (try with_reducible rfl)
            (try simp only [Act.put, List.setIfInBounds_toArray, List.set_cons_zero, List.set_cons_succ])
            refine wpAnyH_take (i := 1) (oi := ⟨_, _, _, _, _, _⟩) (v := ?_) rfl (by kernel_rfl) (by kernel_rfl) (by kernel_rfl) (fun _ _ _ h => h) (Or.inl ⟨rfl, ?_⟩) (by assumption) ?_
            rotate_left 1
            · intro w_ hSw; (try dsimp only at hSw); go_simp; (try with_reducible rfl)
            (try simp only [Act.put, List.setIfInBounds_toArray, List.set_cons_zero, List.set_cons_succ])
            refine wpAnyH_take (i := 2) (oi := ⟨_, _, _, _, _, _⟩) (v := ?_) rfl (by kernel_rfl) (by kernel_rfl) (by kernel_rfl) (fun _ _ _ h => h) (Or.inl ⟨rfl, ?_⟩) (by assumption) ?_
            rotate_left 1
            · intro w_ hSw; (try dsimp only at hSw); go_simp; (try with_reducible rfl)
            (try simp only [Act.put, List.setIfInBounds_toArray, List.set_cons_zero, List.set_cons_succ])
            refine wpAnyH_take (i := 3) (oi := ⟨_, _, _, _, _, _⟩) (v := ?_) rfl (by kernel_rfl) (by kernel_rfl) (by kernel_rfl) (fun _ _ _ h => h) (Or.inl ⟨rfl, ?_⟩) (by assumption) ?_
            rotate_left 1
            · intro w_ hSw; (try dsimp only at hSw); go_simp; (try with_reducible rfl)
            (try simp only [Act.put, List.setIfInBounds_toArray, List.set_cons_zero, List.set_cons_succ])
            refine wpAnyH_take (i := 5) (oi := ⟨_, _, _, _, _, _⟩) (v := ?_) rfl (by kernel_rfl) (by kernel_rfl) (by kernel_rfl) (fun _ _ _ h => h) (Or.inl ⟨rfl, ?_⟩) (by assumption) ?_
            rotate_left 1
            · intro w_ hSw; (try dsimp only at hSw); go_simp; (try with_reducible rfl)
            (try simp only [Act.put, List.setIfInBounds_toArray, List.set_cons_zero, List.set_cons_succ])
            refine wpAnyH_take (i := 6) (oi := ⟨_, _, _, _, _, _⟩) (v := ?_) rfl (by kernel_rfl) (by kernel_rfl) (by kernel_rfl) (fun _ _ _ h => h) (Or.inl ⟨rfl, ?_⟩) (by assumption) ?_
            rotate_left 1
            · intro w_ hSw; (try dsimp only at hSw); go_simp; (try with_reducible rfl)
            (try simp only [Act.put, List.setIfInBounds_toArray, List.set_cons_zero, List.set_cons_succ])
            refine wpAnyH_take (i := 7) (oi := ⟨_, _, _, _, _, _⟩) (v := ?_) rfl (by kernel_rfl) (by kernel_rfl) (by kernel_rfl) (fun _ _ _ h => h) (Or.inl ⟨rfl, ?_⟩) (by assumption) ?_
            rotate_left 1
            · intro w_ hSw; (try dsimp only at hSw); go_simp; (try with_reducible rfl)
            (try simp only [Act.put, List.setIfInBounds_toArray, List.set_cons_zero, List.set_cons_succ])
            refine wpAnyH_take (i := 8) (oi := ⟨_, _, _, _, _, _⟩) (v := ?_) rfl (by kernel_rfl) (by kernel_rfl) (by kernel_rfl) (fun _ _ _ h => h) (Or.inl ⟨rfl, ?_⟩) (by assumption) ?_
            rotate_left 1
            · intro w_ hSw; (try dsimp only at hSw); go_simp; (try with_reducible rfl)
            (try simp only [Act.put, List.setIfInBounds_toArray, List.set_cons_zero, List.set_cons_succ])
            refine wpAnyH_ready (rs := [4]) (by kernel_rfl) (by simp) ?_
            refine AllReadyH.cons (o := ⟨_, _, _, _, _, _⟩) rfl (fun K hK => ?_) AllReadyH.nil
            go_simp
            obtain ⟨q1_, q2_, q3_, q4_, q5_⟩ := id hHeld
            go_at_call 86
            refine (HV1.out _ q5_).mono ?_
            rintro e w7 ⟨rfl, b7⟩
            have g1 := cell_b b7 q1_
            have g2 := cell_b b7 q2_
            have g3 := cell_b b7 q3_
            have g4 := cell_b b7 q4_
            have g5 := q5_.trans (b7.mono q5_.size)
            clear b7 q1_ q2_ q3_ q4_ q5_
            go_wp2_with fail
            refine hK.out _ _ ?_ (fun hHeld => ?_)
            · exact ⟨g1, g2, g3, g4, g5⟩
            clear hK K
            (try simp only [Act.put, List.setIfInBounds_toArray, List.set_cons_zero, List.set_cons_succ])
            refine wpAnyH_ready (rs := [9]) (by kernel_rfl) (by simp) ?_
            refine AllReadyH.cons (o := ⟨_, _, _, _, _, _⟩) rfl (fun K hK => ?_) AllReadyH.nil
            go_simp
            obtain ⟨q1_, q2_, q3_, q4_, q5_⟩ := id hHeld
            go_at_call 86
            refine (HV2.out _ q5_).mono ?_
            rintro e w8 ⟨rfl, b7⟩
            have h1 := cell_b b7 q1_
            have h2 := cell_b b7 q2_
            have h3 := cell_b b7 q3_
            have h4 := cell_b b7 q4_
            have h5 := q5_.trans (b7.mono q5_.size)
            clear b7 q1_ q2_ q3_ q4_ q5_
            go_wp2_with fail
            refine hK.out _ _ ?_ (fun hHeld => ?_)
            · exact ⟨h1, h2, h3, h4, h5⟩
            clear hK K
            (try simp only [Act.put, List.setIfInBounds_toArray, List.set_cons_zero, List.set_cons_succ])
            refine wpAnyH_take (i := 10) (oi := ⟨_, _, _, _, _, _⟩) (v := ?_) rfl (by kernel_rfl) (by kernel_rfl) (by kernel_rfl) (fun _ _ _ h => h) (Or.inl ⟨rfl, ?_⟩) (by assumption) ?_
            rotate_left 1
            · intro w_ hSw; (try dsimp only at hSw); go_simp; (try with_reducible rfl)
            (try simp only [Act.put, List.setIfInBounds_toArray, List.set_cons_zero, List.set_cons_succ])
            refine wpAnyH_done (by kernel_rfl) ?_ _
            refine NoPanic.normal ?_
            have hR8 := HR6.out.kept (grown_of_below h5 none) (own_em _)
            have HR8 := Lib.hid hR8
            have HV8 := Lib.hid (HV6.out.kept (Kept.of_below h5 (by omega)))
            have HB8 := Lib.hid (HB6.out.trans (h5.mono HB6.out.size))
            have hs8 := h5.size
            have HNo2 : Hid (∀ i', i' < j + 1 → badB z fs xs ys i' = false) := fun i' hi' => by
              by_cases h_ : i' < j
              · exact HNo.out i' h_
              · obtain rfl : i' = j := by omega
                rw [HBj.out]; simp
            clear hR8 g1 g2 g3 g4 g5 yC
            go_wp2_with fail
            go_roundw
            case rel => exact ⟨j + 1, by omega, by go_num, HNo2, ⟨_, HRc.out j, HCl.out j, HR8.out⟩, HV8, h1, h2, h3, h4, HB8, by omega⟩
            case measure => (simp [intOf]) <;> omega
          · have hne : (ex == ey) = false := by rw [beq_eq_false_iff_ne]; exact heq
            have hne2 : (ex != ey) = true := by rw [bne_iff_ne]; exact heq
            go_wp2_with fail
            refine wp_region_noPanic ?_
            refine wp_region_held_drew (S := fun W => W.cell? ⟨w.heap.size, 0, none⟩ = some (.int .i64 z) ∧ W.cell? ⟨w.heap.size, 1, none⟩ = some (.slice ao n c) ∧ W.cell? ⟨w.heap.size + 1, 0, none⟩ = some (.slice bo m d) ∧ W.cell? ⟨w.heap.size + 1, 1, none⟩ = some (.slice co m2 d2) ∧ Below w6.heap.size w6 W) (by kernel_rfl) ?_ (fun hHeld => ?_)
            · exact ⟨by go_simp, by go_simp, by go_simp, by go_simp, yC⟩
            refine wpAnyH_take (i := 0) (oi := ⟨_, _, _, _, _, _⟩) (v := ?_) rfl (by kernel_rfl) (by kernel_rfl) (by kernel_rfl) (fun _ _ _ h => h) (Or.inl ⟨rfl, ?_⟩) (by assumption) ?_
            rotate_left 1
            · intro w_ hSw; (try dsimp only at hSw); go_simp; (try with_reducible rfl)
            (try simp only [Act.put, List.setIfInBounds_toArray, List.set_cons_zero, List.set_cons_succ])
            refine wpAnyH_take (i := 1) (oi := ⟨_, _, _, _, _, _⟩) (v := ?_) rfl (by kernel_rfl) (by kernel_rfl) (by kernel_rfl) (fun _ _ _ h => h) (Or.inl ⟨rfl, ?_⟩) (by assumption) ?_
            rotate_left 1
            · intro w_ hSw; (try dsimp only at hSw); go_simp; (try with_reducible rfl)
            (try simp only [Act.put, List.setIfInBounds_toArray, List.set_cons_zero, List.set_cons_succ])
            refine wpAnyH_take (i := 2) (oi := ⟨_, _, _, _, _, _⟩) (v := ?_) rfl (by kernel_rfl) (by kernel_rfl) (by kernel_rfl) (fun _ _ _ h => h) (Or.inl ⟨rfl, ?_⟩) (by assumption) ?_
            rotate_left 1
            · intro w_ hSw; (try dsimp only at hSw); go_simp; (try with_reducible rfl)
            (try simp only [Act.put, List.setIfInBounds_toArray, List.set_cons_zero, List.set_cons_succ])
            refine wpAnyH_take (i := 3) (oi := ⟨_, _, _, _, _, _⟩) (v := ?_) rfl (by kernel_rfl) (by kernel_rfl) (by kernel_rfl) (fun _ _ _ h => h) (Or.inl ⟨rfl, ?_⟩) (by assumption) ?_
            rotate_left 1
            · intro w_ hSw; (try dsimp only at hSw); go_simp; (try with_reducible rfl)
            (try simp only [Act.put, List.setIfInBounds_toArray, List.set_cons_zero, List.set_cons_succ])
            refine wpAnyH_take (i := 5) (oi := ⟨_, _, _, _, _, _⟩) (v := ?_) rfl (by kernel_rfl) (by kernel_rfl) (by kernel_rfl) (fun _ _ _ h => h) (Or.inl ⟨rfl, ?_⟩) (by assumption) ?_
            rotate_left 1
            · intro w_ hSw; (try dsimp only at hSw); go_simp; (try with_reducible rfl)
            (try simp only [Act.put, List.setIfInBounds_toArray, List.set_cons_zero, List.set_cons_succ])
            refine wpAnyH_take (i := 6) (oi := ⟨_, _, _, _, _, _⟩) (v := ?_) rfl (by kernel_rfl) (by kernel_rfl) (by kernel_rfl) (fun _ _ _ h => h) (Or.inl ⟨rfl, ?_⟩) (by assumption) ?_
            rotate_left 1
            · intro w_ hSw; (try dsimp only at hSw); go_simp; (try with_reducible rfl)
            (try simp only [Act.put, List.setIfInBounds_toArray, List.set_cons_zero, List.set_cons_succ])
            refine wpAnyH_take (i := 7) (oi := ⟨_, _, _, _, _, _⟩) (v := ?_) rfl (by kernel_rfl) (by kernel_rfl) (by kernel_rfl) (fun _ _ _ h => h) (Or.inl ⟨rfl, ?_⟩) (by assumption) ?_
            rotate_left 1
            · intro w_ hSw; (try dsimp only at hSw); go_simp; (try with_reducible rfl)
            (try simp only [Act.put, List.setIfInBounds_toArray, List.set_cons_zero, List.set_cons_succ])
            refine wpAnyH_take (i := 8) (oi := ⟨_, _, _, _, _, _⟩) (v := ?_) rfl (by kernel_rfl) (by kernel_rfl) (by kernel_rfl) (fun _ _ _ h => h) (Or.inl ⟨rfl, ?_⟩) (by assumption) ?_
            rotate_left 1
            · intro w_ hSw; (try dsimp only at hSw); go_simp; (try with_reducible rfl)
            (try simp only [Act.put, List.setIfInBounds_toArray, List.set_cons_zero, List.set_cons_succ])
            refine wpAnyH_ready (rs := [4]) (by kernel_rfl) (by simp) ?_
            refine AllReadyH.cons (o := ⟨_, _, _, _, _, _⟩) rfl (fun K hK => ?_) AllReadyH.nil
            go_simp
            obtain ⟨q1_, q2_, q3_, q4_, q5_⟩ := id hHeld
            go_at_call 86
            refine (HV1.out _ q5_).mono ?_
            rintro e w7 ⟨rfl, b7⟩
            have g1 := cell_b b7 q1_
            have g2 := cell_b b7 q2_
            have g3 := cell_b b7 q3_
            have g4 := cell_b b7 q4_
            have g5 := q5_.trans (b7.mono q5_.size)
            clear b7 q1_ q2_ q3_ q4_ q5_
            go_wp2_with fail
            refine hK.out _ _ ?_ (fun hHeld => ?_)
            · exact ⟨g1, g2, g3, g4, g5⟩
            clear hK K
            (try simp only [Act.put, List.setIfInBounds_toArray, List.set_cons_zero, List.set_cons_succ])
            refine wpAnyH_ready (rs := [9]) (by kernel_rfl) (by simp) ?_
            refine AllReadyH.cons (o := ⟨_, _, _, _, _, _⟩) rfl (fun K hK => ?_) AllReadyH.nil
            go_simp
            obtain ⟨q1_, q2_, q3_, q4_, q5_⟩ := id hHeld
            go_at_call 86
            refine (HV2.out _ q5_).mono ?_
            rintro e w8 ⟨rfl, b7⟩
            have h1 := cell_b b7 q1_
            have h2 := cell_b b7 q2_
            have h3 := cell_b b7 q3_
            have h4 := cell_b b7 q4_
            have h5 := q5_.trans (b7.mono q5_.size)
            clear b7 q1_ q2_ q3_ q4_ q5_
            go_wp2_with fail
            refine hK.out _ _ ?_ (fun hHeld => ?_)
            · exact ⟨h1, h2, h3, h4, h5⟩
            clear hK K
            (try simp only [Act.put, List.setIfInBounds_toArray, List.set_cons_zero, List.set_cons_succ])
            refine wpAnyH_take (i := 10) (oi := ⟨_, _, _, _, _, _⟩) (v := ?_) rfl (by kernel_rfl) (by kernel_rfl) (by kernel_rfl) (fun _ _ _ h => h) (Or.inl ⟨rfl, ?_⟩) (by assumption) ?_
            rotate_left 1
            · intro w_ hSw; (try dsimp only at hSw); go_simp; (try with_reducible rfl)
            (try simp only [Act.put, List.setIfInBounds_toArray, List.set_cons_zero, List.set_cons_succ])
            refine wpAnyH_done (by kernel_rfl) ?_ _
            refine NoPanic.normal ?_
            have HR8 := Lib.hid (HR6.out.kept (grown_of_below h5 none) (own_em _))
            have HB8 := Lib.hid (HB6.out.trans (h5.mono HB6.out.size))
            obtain rfl : R = (cntV z zs j, true) := HSome.out j HNo.out (by rw [HBj.out]; exact hne2) hlt
            have hcl2 := HCl.out j
            clear g1 g2 g3 g4 g5 yC h1 h2 h3 h4
            go_wp2_with fail
            go_ret2
            exact ⟨_, N, N, rfl, (by first | rfl | exact (HCl.out j).symm), OwnsInts.of_row (ownsRow_base HR8.out (by omega)), HB8.out⟩
    · obtain rfl : j = p := by omega
      obtain rfl : R = ([], false) := HNone.out HNo.out
      go_wp2_with fail
      go_ret2
      exact ⟨none, 0, 0, rfl, rfl, OwnsInts.none_ _ _ _, HBr.out⟩
end

section
open Go.RowKit
set_option linter.unusedVariables false
set_option linter.unusedSimpArgs false
attribute [local go_sem ↓] Go.wp_at_zero Go.wp_at_succ

set_option maxHeartbeats 1000000 in
theorem implDoesHold (lo hi : Nat) (z : Int) (ao : Option Addr) (c n : Nat) (fs : List OpD) (lo2 hi2 : Nat) (bo : Option Addr) (d m : Nat) (xs : List Int) (lo3 hi3 : Nat) (co : Option Addr) (d2 m2 : Nat) (ys : List Int) (w : World) (hv : OView w lo hi ao n fs) (hhi : hi ≤ w.heap.size) (hs : ∀ (j : Nat) (f : OpD), fs[j]? = some f → f.2.length ≤ maxLen)
    (hx : IView w lo2 hi2 bo m xs) (hhi2 : hi2 ≤ w.heap.size) (hmd : m ≤ d) (hm : d ≤ maxLen) (hq : ∀ x, x ∈ xs → (Lit.int .i64 x).wf = true)
    (hy : IView w lo3 hi3 co m2 ys) (hhi3 : hi3 ≤ w.heap.size) (hmd2 : m2 ≤ d2) (hm2 : d2 ≤ maxLen) (hq2 : ∀ x, x ∈ ys → (Lit.int .i64 x).wf = true) :
    Calls Try.prog 51 #[.agg #[.int .i64 z, .slice ao n c], .agg #[.slice bo m d, .slice co m2 d2]] w fun e w' => e = .returned (.tuple #[.bool (valDoesHold z fs xs ys).1, .bool (valDoesHold z fs xs ys).2]) ∧ Below w.heap.size w w' := by
  have HB := Lib.hid (below_then (below_alloc w (.cells #[.int .i64 z, .slice ao n c] 30)) (below_alloc _ (.cells #[.slice bo m d, .slice co m2 d2] 64)))
  have hask := fun (W : World) (hb : Below w.heap.size w W) => canCheck_any lo hi z ao c n fs lo2 hi2 bo d m xs lo3 hi3 co d2 m2 ys W (hv.kept (Kept.of_below hb hhi)) (Nat.le_trans hhi hb.size) hs (hx.kept (Kept.of_below hb hhi2)) (Nat.le_trans hhi2 hb.size) hmd hm hq (hy.kept (Kept.of_below hb hhi3)) (Nat.le_trans hhi3 hb.size) hmd2 hm2 hq2
  unfold valDoesHold
  obtain ⟨r, hr⟩ : ∃ r, askB z fs xs ys = r := ⟨_, rfl⟩
  simp only [hr] at hask ⊢
  have HA := Lib.hid hask
  cases r with
  | false =>
    simp only [Bool.false_eq_true, if_false]
    clear hv hs hx hq hy hq2 hask hr
    go_enter Try.func51, Try.ntmps51
    go_wp2_with fail
    refine (HA.out _ HB.out).mono ?_
    rintro e w1 ⟨rfl, b1⟩
    have HB1 := Lib.hid (HB.out.trans (b1.mono HB.out.size))
    clear b1
    go_wp2_with fail
    go_ret2
    exact ⟨rfl, HB1.out⟩
  | true =>
    simp only [if_true]
    have HC := Lib.hid (fun (W : World) (hb : Below w.heap.size w W) => counterOf_any lo hi z ao c n fs lo2 hi2 bo d m xs lo3 hi3 co d2 m2 ys W (hv.kept (Kept.of_below hb hhi)) (Nat.le_trans hhi hb.size) (hx.kept (Kept.of_below hb hhi2)) (Nat.le_trans hhi2 hb.size) hmd hm (hy.kept (Kept.of_below hb hhi3)) (Nat.le_trans hhi3 hb.size) hmd2 hm2 hr)
    obtain ⟨⟨rs, ok⟩, hR⟩ : ∃ R, cntR z fs xs ys = R := ⟨_, rfl⟩
    simp only [hR] at HC ⊢
    unfold ResL at HC
    clear hv hs hx hq hy hq2 hask hr hR
    go_enter Try.func51, Try.ntmps51
    go_wp2_with fail
    refine (HA.out _ HB.out).mono ?_
    rintro e w1 ⟨rfl, b1⟩
    have HB1 := Lib.hid (HB.out.trans (b1.mono HB.out.size))
    have c1 : w1.cell? ⟨w.heap.size, 0, none⟩ = some (.int .i64 z) := cell_b b1 (by go_simp)
    have c2 : w1.cell? ⟨w.heap.size, 1, none⟩ = some (.slice ao n c) := cell_b b1 (by go_simp)
    have c3 : w1.cell? ⟨w.heap.size + 1, 0, none⟩ = some (.slice bo m d) := cell_b b1 (by go_simp)
    have c4 : w1.cell? ⟨w.heap.size + 1, 1, none⟩ = some (.slice co m2 d2) := cell_b b1 (by go_simp)
    clear b1
    go_wp2_with fail
    refine (HC.out _ HB1.out).mono ?_
    rintro e w2 ⟨ga, gn, gc, rfl, hgn, ho, b2⟩
    have HO := Lib.hid (OwnsInts.lo_mono ho HB1.out.size)
    have HB2 := Lib.hid (HB1.out.trans (b2.mono HB1.out.size))
    have HGn := Lib.hid hgn
    clear ho b2 hgn
    go_wp2_with fail
    go_ret2
    exact ⟨rfl, HB2.out⟩

set_option maxHeartbeats 1000000 in
theorem implFirstCounter (lo hi : Nat) (z : Int) (ao : Option Addr) (c n : Nat) (fs : List OpD) (lo2 hi2 : Nat) (bo : Option Addr) (d m : Nat) (xs : List Int) (lo3 hi3 : Nat) (co : Option Addr) (d2 m2 : Nat) (ys : List Int) (w : World) (hv : OView w lo hi ao n fs) (hhi : hi ≤ w.heap.size) (hs : ∀ (j : Nat) (f : OpD), fs[j]? = some f → f.2.length ≤ maxLen)
    (hx : IView w lo2 hi2 bo m xs) (hhi2 : hi2 ≤ w.heap.size) (hmd : m ≤ d) (hm : d ≤ maxLen) (hq : ∀ x, x ∈ xs → (Lit.int .i64 x).wf = true)
    (hy : IView w lo3 hi3 co m2 ys) (hhi3 : hi3 ≤ w.heap.size) (hmd2 : m2 ≤ d2) (hm2 : d2 ≤ maxLen) (hq2 : ∀ x, x ∈ ys → (Lit.int .i64 x).wf = true) :
    Calls Try.prog 54 #[.agg #[.int .i64 z, .slice ao n c], .agg #[.slice bo m d, .slice co m2 d2]] w fun e w' => ResL w w' (valFirstCounter z fs xs ys).1 (valFirstCounter z fs xs ys).2 e := by
  have HB := Lib.hid (below_then (below_alloc w (.cells #[.int .i64 z, .slice ao n c] 30)) (below_alloc _ (.cells #[.slice bo m d, .slice co m2 d2] 64)))
  have hask := fun (W : World) (hb : Below w.heap.size w W) => canCheck_any lo hi z ao c n fs lo2 hi2 bo d m xs lo3 hi3 co d2 m2 ys W (hv.kept (Kept.of_below hb hhi)) (Nat.le_trans hhi hb.size) hs (hx.kept (Kept.of_below hb hhi2)) (Nat.le_trans hhi2 hb.size) hmd hm hq (hy.kept (Kept.of_below hb hhi3)) (Nat.le_trans hhi3 hb.size) hmd2 hm2 hq2
  unfold valFirstCounter ResL
  obtain ⟨r, hr⟩ : ∃ r, askB z fs xs ys = r := ⟨_, rfl⟩
  simp only [hr] at hask ⊢
  have HA := Lib.hid hask
  cases r with
  | false =>
    simp only [Bool.false_eq_true, if_false]
    clear hv hs hx hq hy hq2 hask hr
    go_enter Try.func54, Try.ntmps54
    go_wp2_with fail
    refine (HA.out _ HB.out).mono ?_
    rintro e w1 ⟨rfl, b1⟩
    have HB1 := Lib.hid (HB.out.trans (b1.mono HB.out.size))
    clear b1
    go_wp2_with fail
    go_ret2
    exact ⟨none, 0, 0, rfl, rfl, OwnsInts.none_ _ _ _, HB1.out⟩
  | true =>
    simp only [if_true]
    have HC := Lib.hid (fun (W : World) (hb : Below w.heap.size w W) => counterOf_any lo hi z ao c n fs lo2 hi2 bo d m xs lo3 hi3 co d2 m2 ys W (hv.kept (Kept.of_below hb hhi)) (Nat.le_trans hhi hb.size) (hx.kept (Kept.of_below hb hhi2)) (Nat.le_trans hhi2 hb.size) hmd hm (hy.kept (Kept.of_below hb hhi3)) (Nat.le_trans hhi3 hb.size) hmd2 hm2 hr)
    obtain ⟨⟨rs, ok⟩, hR⟩ : ∃ R, cntR z fs xs ys = R := ⟨_, rfl⟩
    simp only [hR] at HC ⊢
    unfold ResL at HC
    clear hv hs hx hq hy hq2 hask hr hR
    go_enter Try.func54, Try.ntmps54
    go_wp2_with fail
    refine (HA.out _ HB.out).mono ?_
    rintro e w1 ⟨rfl, b1⟩
    have HB1 := Lib.hid (HB.out.trans (b1.mono HB.out.size))
    have c1 : w1.cell? ⟨w.heap.size, 0, none⟩ = some (.int .i64 z) := cell_b b1 (by go_simp)
    have c2 : w1.cell? ⟨w.heap.size, 1, none⟩ = some (.slice ao n c) := cell_b b1 (by go_simp)
    have c3 : w1.cell? ⟨w.heap.size + 1, 0, none⟩ = some (.slice bo m d) := cell_b b1 (by go_simp)
    have c4 : w1.cell? ⟨w.heap.size + 1, 1, none⟩ = some (.slice co m2 d2) := cell_b b1 (by go_simp)
    clear b1
    go_wp2_with fail
    refine (HC.out _ HB1.out).mono ?_
    rintro e w2 ⟨ga, gn, gc, rfl, hgn, ho, b2⟩
    have HO := Lib.hid (OwnsInts.lo_mono ho HB1.out.size)
    have HB2 := Lib.hid (HB1.out.trans (b2.mono HB1.out.size))
    have HGn := Lib.hid hgn
    clear ho b2 hgn
    go_wp2_with fail
    go_ret2
    exact ⟨ga, gn, gc, rfl, HGn.out, HO.out, HB2.out⟩
end

end Go.Proofs.Ytplheohkecooeaa
