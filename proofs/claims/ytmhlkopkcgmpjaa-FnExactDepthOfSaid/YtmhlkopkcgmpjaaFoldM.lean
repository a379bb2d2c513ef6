/-
  Plain mathematics: a value folded along a term (DepthOf, TermText). No condition.
-/
import Derived.Test.YtmhlkopkcgmpjaaMatM
namespace Go.Proofs.Ytmhlkopkcgmpjaa
open Go.RowKit
set_option linter.unusedVariables false
set_option linter.unusedSimpArgs false

/-- The end depends on what lies ahead of it only. -/
theorem endN_pre {fs : List OpD} : ∀ {l : List Int} {m : Int} {k e : Nat}, endN fs l m k = some e → ∀ j, endN fs (l.take (e - k)) m j = some (j + (e - k)) ∧ (l.take (e - k)).length = e - k
  | [], _, _, _, h, _ => by cases h
  | x :: r, m, k, e, h, j => by
    have hg := endN_gt h
    rw [endN] at h
    cases hb : beh fs x with
    | none => rw [hb] at h; cases h
    | some b =>
      rw [hb] at h
      dsimp only at h
      obtain ⟨q, hq⟩ : ∃ q, e - k = q + 1 := ⟨e - k - 1, by omega⟩
      rw [hq, List.take_succ_cons, endN, hb]
      dsimp only
      by_cases h0 : m + (b - 1) = 0
      · rw [if_pos h0] at h ⊢
        injection h with h
        obtain rfl : q = 0 := by omega
        simp
      · rw [if_neg h0] at h ⊢
        have h1 := endN_pre h (j + 1)
        rw [show e - (k + 1) = q by omega] at h1
        rw [h1.1, List.length_cons, h1.2]
        exact ⟨by congr 1; omega, rfl⟩

/-- How many terms an operation takes. -/
def arN (fs : List OpD) (x : Int) : Nat := (fs.getD (-1 - x).toNat (0, [])).1.toNat
/-- One number more in front: what stands on the stack, the first one on top. -/
def gStep {α : Type} (fs : List OpD) (lf : Int → α) (nd : Int → List α → α) (x : Int) (s : List α) : List α :=
  if 0 ≤ x then lf x :: s else nd x (s.take (arN fs x)) :: s.drop (arN fs x)
def gS {α : Type} (fs : List OpD) (lf : Int → α) (nd : Int → List α → α) (xs : List Int) : List α := xs.foldr (gStep fs lf nd) []
/-- The value of a term whose variables have values and whose operations make them. -/
def gT {α : Type} (fs : List OpD) (lf : Int → α) (nd : Int → List α → α) (d : α) (xs : List Int) : α := (gS fs lf nd xs).headD d

theorem beh_ar {fs : List OpD} {x b : Int} (h : x < 0) (hb : beh fs x = some b) (h0 : 0 ≤ b) : ((arN fs x : Nat) : Int) = b := by
  have h1 : ¬ 0 ≤ x := by omega
  simp only [beh, h1, if_false] at hb
  obtain ⟨f, hf, rfl⟩ := Option.map_eq_some_iff.1 hb
  have hg : fs.getD (-1 - x).toNat (0, []) = f := by rw [List.getD_eq_getElem?_getD, hf]; rfl
  unfold arN
  rw [hg]
  omega

/-- Terms in front of others: their values stand on the stack in front of the others'. -/
theorem gS_app {α : Type} {z : Int} {fs : List OpD} {lf : Int → α} {nd : Int → List α → α} (hok : algOkB z fs = true) : ∀ {l : List Int} {m : Int} {k : Nat}, 1 ≤ m → endN fs l m k = some (k + l.length) → ((gS fs lf nd l).length : Int) = m ∧ ∀ r, gS fs lf nd (l ++ r) = gS fs lf nd l ++ gS fs lf nd r
  | [], _, _, _, h => by cases h
  | x :: l, m, k, hm, h => by
    rw [endN] at h
    cases hb : beh fs x with
    | none => rw [hb] at h; cases h
    | some b =>
      have hbd := beh_bd hok hb
      rw [hb] at h
      dsimp only at h
      have hs : ∀ r, gS fs lf nd (x :: r) = gStep fs lf nd x (gS fs lf nd r) := fun _ => rfl
      have hz : x < 0 ∨ (0 ≤ x ∧ b = 0) := by
        by_cases h0 : 0 ≤ x
        · refine .inr ⟨h0, ?_⟩
          unfold beh at hb
          rw [if_pos h0] at hb
          split at hb
          · injection hb with hb; exact hb.symm
          · cases hb
        · exact .inl (by omega)
      split at h
      · injection h with h
        have hr : l = [] := List.eq_nil_of_length_eq_zero (by rw [List.length_cons] at h; omega)
        subst hr
        have hb0 : b = 0 := by omega
        subst hb0
        rcases hz with h1 | ⟨h1, _⟩
        · have ha := beh_ar h1 hb (by omega)
          have ha : arN fs x = 0 := by omega
          have hst : ∀ s, gStep fs lf nd x s = nd x [] :: s := fun s => by unfold gStep; rw [if_neg (by omega), ha]; rfl
          refine ⟨by rw [hs, hst]; simp [gS]; omega, fun r => ?_⟩
          rw [List.cons_append, hs, hst, hs, hst]; rfl
        · have hst : ∀ s, gStep fs lf nd x s = lf x :: s := fun s => by unfold gStep; rw [if_pos h1]
          refine ⟨by rw [hs, hst]; simp [gS]; omega, fun r => ?_⟩
          rw [List.cons_append, hs, hst, hs, hst]; rfl
      · obtain ⟨i1, i2⟩ := gS_app (lf := lf) (nd := nd) hok (by omega) (show endN fs l (m + (b - 1)) (k + 1) = some (k + 1 + l.length) by rw [h]; simp; omega)
        rcases hz with h1 | ⟨h1, hb0⟩
        · have ha := beh_ar h1 hb (by omega)
          have hst : ∀ s, gStep fs lf nd x s = nd x (s.take (arN fs x)) :: s.drop (arN fs x) := fun s => by unfold gStep; rw [if_neg (by omega)]
          refine ⟨by rw [hs, hst]; simp only [List.length_cons, List.length_drop]; omega, fun r => ?_⟩
          rw [List.cons_append, hs, hst, hs, hst, i2, List.take_append_of_le_length (by omega), List.drop_append_of_le_length (by omega)]; rfl
        · have hst : ∀ s, gStep fs lf nd x s = lf x :: s := fun s => by unfold gStep; rw [if_pos h1]
          refine ⟨by rw [hs, hst]; simp only [List.length_cons]; omega, fun r => ?_⟩
          rw [List.cons_append, hs, hst, hs, hst, i2]; rfl

/-- Terms behind one another, from a place on, n of them at most. -/
def partsN (fs : List OpD) (xs : List Int) : Nat → Nat → List (List Int)
  | 0, _ => []
  | n + 1, k => if k < xs.length then subA fs xs k :: partsN fs xs n ((endA fs xs k).getD 0) else []

theorem sub_app {fs : List OpD} {xs : List Int} {k e : Nat} (h : endA fs xs k = some e) : xs.drop k = subA fs xs k ++ xs.drop e := by
  obtain ⟨h1, h2⟩ := endA_gt h
  have h3 : subA fs xs k = (xs.drop k).take (e - k) := by unfold subA; rw [h, Option.getD_some, List.drop_take]
  rw [h3]
  have : xs.drop e = (xs.drop k).drop (e - k) := by rw [List.drop_drop]; congr 1; omega
  rw [this, List.take_append_drop]
theorem sub_term {fs : List OpD} {xs : List Int} {k e : Nat} (h : endA fs xs k = some e) : endA fs (subA fs xs k) 0 = some (subA fs xs k).length ∧ (subA fs xs k).length = e - k := by
  have h1 := endN_pre (show endN fs (xs.drop k) 1 k = some e from h) 0
  have h3 : subA fs xs k = (xs.drop k).take (e - k) := by unfold subA; rw [h, Option.getD_some, List.drop_take]
  rw [h3]
  refine ⟨?_, h1.2⟩
  unfold endA
  rw [List.drop_zero, h1.1, h1.2, Nat.zero_add]

/-- What stands on the stack are the values of the terms ahead. -/
theorem gS_parts {α : Type} {z : Int} {fs : List OpD} {lf : Int → α} {nd : Int → List α → α} (d : α) {xs : List Int} (hok : algOkB z fs = true) : ∀ {n k : Nat} {m : Int}, 1 ≤ m → m ≤ n → endN fs (xs.drop k) m k = some xs.length → gS fs lf nd (xs.drop k) = (partsN fs xs n k).map (gT fs lf nd d) ∧ ((partsN fs xs n k).length : Int) = m
  | 0, _, _, h1, h2, _ => by omega
  | n + 1, k, m, h1, h2, h => by
    have hg := endN_gt h
    rw [List.length_drop] at hg
    have hk : k < xs.length := hg.1
    obtain ⟨e, h3, h4⟩ := endN_less hok h (by omega : (1 : Int) ≤ 1) h1
    have h5 : endA fs xs k = some e := h3
    obtain ⟨g1, g2⟩ := endA_gt h5
    obtain ⟨t1, t2⟩ := sub_term h5
    unfold endA at t1
    rw [List.drop_zero] at t1
    obtain ⟨s1, s2⟩ := gS_app (lf := lf) (nd := nd) hok (by omega : (1 : Int) ≤ 1) (show endN fs (subA fs xs k) 1 0 = some (0 + (subA fs xs k).length) by rw [t1, Nat.zero_add])
    obtain ⟨v, hv⟩ : ∃ v, gS fs lf nd (subA fs xs k) = [v] := List.length_eq_one_iff.1 (by omega)
    have hT : gT fs lf nd d (subA fs xs k) = v := by unfold gT; rw [hv]; rfl
    rw [partsN, if_pos hk, h5, Option.getD_some, List.map_cons, hT, sub_app h5, s2, hv]
    rcases endN_more hok (q := 1) (p := m - 1) (by omega) (by omega) h3 (by rw [show 1 + (m - 1) = m by omega]; exact h) with ⟨p1, p2⟩ | ⟨p1, p2⟩
    · have hn : xs.drop e = [] := List.drop_eq_nil_of_le (by omega)
      have hp : partsN fs xs n e = [] := by
        cases n with
        | zero => rfl
        | succ n => rw [partsN, if_neg (by omega)]
      rw [hn, hp]
      exact ⟨rfl, by simp; omega⟩
    · rw [List.drop_drop, show k + (e - k) = e by omega] at p2
      obtain ⟨r1, r2⟩ := gS_parts (lf := lf) (nd := nd) d hok (n := n) p1 (by omega) p2
      rw [r1]
      exact ⟨rfl, by rw [List.length_cons]; omega⟩

/-- The value of an operation's term, from those of the terms behind it. -/
theorem gT_op {α : Type} {z : Int} {fs : List OpD} {lf : Int → α} {nd : Int → List α → α} (d : α) {xs : List Int} {x : Int} {n : Nat} (hok : algOkB z fs = true) (h : endA fs xs 0 = some xs.length) (hx : xs[0]? = some x) (h0 : x < 0) (hn : xs.length ≤ n) :
    gT fs lf nd d xs = nd x ((partsN fs xs n 1).map (gT fs lf nd d)) := by
  obtain ⟨b, hb⟩ := term_beh hok h hx
  have hbd := beh_bd hok hb
  have ha := beh_ar h0 hb hbd.1
  have hd := drop_get hx
  rw [List.drop_zero] at hd
  have hs : gS fs lf nd xs = gStep fs lf nd x (gS fs lf nd (xs.drop 1)) := by rw [show gS fs lf nd xs = gS fs lf nd (x :: xs.drop 1) by rw [← hd]]; rfl
  unfold endA at h
  unfold gT
  rw [hs]
  unfold gStep
  rw [if_neg (by omega)]
  show nd x _ = _
  congr 1
  by_cases hz : (1 : Int) + (b - 1) = 0
  · rw [endN_last hx hb hz] at h
    injection h with h
    have ha0 : arN fs x = 0 := by omega
    have hp : partsN fs xs n 1 = [] := by
      cases n with
      | zero => rfl
      | succ n => rw [partsN, if_neg (by omega)]
    rw [ha0, hp]; rfl
  · rw [endN_on hx hb hz] at h
    have hg := endN_gt h
    rw [List.length_drop] at hg
    have hl : b ≤ n := by
      obtain ⟨q1, q2⟩ := gS_app (lf := lf) (nd := nd) hok (l := xs.drop 1) (k := 1) (m := 1 + (b - 1)) (by omega) (by rw [h, List.length_drop]; congr 1; omega)
      have hle : ∀ ys : List Int, (gS fs lf nd ys).length ≤ ys.length := by
        intro ys
        induction ys with
        | nil => simp [gS]
        | cons y ys ih =>
          rw [show gS fs lf nd (y :: ys) = gStep fs lf nd y (gS fs lf nd ys) from rfl]
          unfold gStep
          split <;> simp <;> omega
      have := hle (xs.drop 1)
      rw [List.length_drop] at this
      omega
    obtain ⟨r1, r2⟩ := gS_parts (lf := lf) (nd := nd) d hok (n := n) (k := 1) (m := 1 + (b - 1)) (by omega) (by omega) h
    rw [r1, List.take_of_length_le (by rw [List.length_map]; omega)]
    rfl
theorem gT_var {α : Type} {fs : List OpD} {lf : Int → α} {nd : Int → List α → α} (d : α) {xs : List Int} {x : Int} (hx : xs[0]? = some x) (h0 : 0 ≤ x) : gT fs lf nd d xs = lf x := by
  have hd := drop_get hx
  rw [List.drop_zero] at hd
  rw [hd]
  unfold gT
  rw [show gS fs lf nd (x :: xs.drop 1) = gStep fs lf nd x (gS fs lf nd (xs.drop 1)) from rfl]
  unfold gStep
  rw [if_pos h0]
  rfl

end Go.Proofs.Ytmhlkopkcgmpjaa
