/-
  Plain mathematics: lists of lists in order. No condition.
-/
import Derived.Test.YtbpbbmfgkejgaaaCmpM
import Derived.Sort.Statements
namespace Go.Proofs.Ytbpbbmfgkejgaaa
open Go.RowKit
set_option linter.unusedVariables false

theorem cmpL_self : ∀ s : List Int, cmpL s s = 0
  | [] => rfl
  | a :: s => by simp [cmpL, cmpL_self s]
theorem cmpL_zero : ∀ {s t : List Int}, cmpL s t = 0 → s = t
  | [], [], _ => rfl
  | [], _ :: _, h => by simp [cmpL] at h
  | _ :: _, [], h => by simp [cmpL] at h
  | a :: s, b :: t, h => by
    simp only [cmpL] at h
    split at h
    · simp at h
    · split at h
      · simp at h
      · rw [cmpL_zero h, show a = b by omega]
theorem cmpL_trans : ∀ {s t u : List Int}, cmpL s t = -1 → cmpL t u = -1 → cmpL s u = -1
  | [], [], _, h, _ => by simp [cmpL] at h
  | _ :: _, [], _, h, _ => by simp [cmpL] at h
  | _, _ :: _, [], _, h => by simp [cmpL] at h
  | [], _ :: _, _ :: _, _, _ => rfl
  | a :: s, b :: t, c :: u, h1, h2 => by
    simp only [cmpL] at h1 h2 ⊢
    by_cases hab : a < b
    · by_cases hbc : b < c
      · rw [if_pos (by omega)]
      · rw [if_neg hbc] at h2
        split at h2
        · simp at h2
        · rw [if_pos (by omega)]
    · rw [if_neg hab] at h1
      split at h1
      · simp at h1
      · by_cases hbc : b < c
        · rw [if_pos (by omega)]
        · rw [if_neg hbc] at h2
          split at h2
          · simp at h2
          · rw [if_neg (by omega), if_neg (by omega)]
            exact cmpL_trans h1 h2
theorem ordL_self (s : List Int) : ordL s s = 0 := by simp [ordL, lenC, cmpL_self]
theorem ordL_zero {s t : List Int} (h : ordL s t = 0) : s = t := by
  unfold ordL lenC at h
  by_cases h1 : s.length < t.length
  · simp [h1] at h
  · by_cases h2 : t.length < s.length
    · simp [h1, h2] at h
    · simp [h1, h2] at h
      exact cmpL_zero h
theorem ordL_lt {s t : List Int} : ordL s t = -1 ↔ s.length < t.length ∨ (s.length = t.length ∧ cmpL s t = -1) := by
  unfold ordL lenC
  by_cases h1 : s.length < t.length
  · simp [h1]
  · by_cases h2 : t.length < s.length
    · simp [h1, h2]; omega
    · simp [h1, h2]; omega
theorem ordL_trans {s t u : List Int} (h1 : ordL s t = -1) (h2 : ordL t u = -1) : ordL s u = -1 := by
  rw [ordL_lt] at *
  rcases h1 with h1 | ⟨h1, h3⟩ <;> rcases h2 with h2 | ⟨h2, h4⟩
  · left; omega
  · left; omega
  · left; omega
  · right; exact ⟨by omega, cmpL_trans h3 h4⟩
theorem befB_iff {s t : List Int} : befB s t = true ↔ ordL s t = -1 := by simp [befB]
theorem befB_trans {s t u : List Int} (h1 : befB s t = true) (h2 : befB t u = true) : befB s u = true := by
  rw [befB_iff] at *; exact ordL_trans h1 h2
theorem befB_irrefl (s : List Int) : befB s s = false := by simp [befB, ordL_self]
theorem befB_asymm {s t : List Int} (h : befB s t = true) : befB t s = false := by
  rw [befB_iff] at h
  have h2 := ordL_swap s t
  simp [befB]; omega
theorem befB_total {s t : List Int} (h : befB s t = false) (hne : s ≠ t) : befB t s = true := by
  rw [befB_iff]
  have h2 := ordL_swap s t
  rcases ordL_cases s t with h3 | h3 | h3
  · rw [befB_iff.2 h3] at h; cases h
  · exact absurd (ordL_zero h3) hne
  · omega

/-- 'Before' is a strict weak order. -/
theorem ord_swo {α : Type} [Inhabited α] (g : α → List Int) : Go.Sort.SWO (fun x y => decide (ordL (g x) (g y) < 0)) where
  irrefl x := by simp [ordL_self]
  trans x y z h1 h2 := by
    simp only [decide_eq_true_eq] at *
    have h3 := ordL_cases (g x) (g y)
    have h4 := ordL_cases (g y) (g z)
    have := ordL_trans (s := g x) (t := g y) (u := g z) (by omega) (by omega)
    omega
  ntrans x y z h1 h2 := by
    simp only [decide_eq_false_iff_not] at *
    intro h
    have h0 := ordL_cases (g x) (g z)
    have h3 := ordL_cases (g x) (g y)
    have h4 := ordL_cases (g y) (g z)
    have e1 := ordL_swap (g x) (g y)
    have e2 := ordL_swap (g y) (g z)
    have e3 := ordL_swap (g x) (g z)
    by_cases hxy : ordL (g x) (g y) = 0
    · rw [ordL_zero hxy] at h; omega
    · by_cases hyz : ordL (g y) (g z) = 0
      · rw [← ordL_zero hyz] at h; omega
      · have := ordL_trans (s := g z) (t := g y) (u := g x) (by omega) (by omega)
        omega

/-- A list put into a list in order: ahead of the first one that it is before. -/
def insL : List (List Int) → List Int → List (List Int)
  | [], l => [l]
  | y :: r, l => if befB l y = true then l :: y :: r else y :: insL r l
def Asc (ls : List (List Int)) : Prop := ls.Pairwise fun a b => befB a b = true
theorem insL_mem {l y : List Int} : ∀ {ls : List (List Int)}, y ∈ insL ls l ↔ y = l ∨ y ∈ ls
  | [] => by simp [insL]
  | x :: r => by
    rw [insL]
    split
    · simp
    · rw [List.mem_cons, insL_mem, List.mem_cons]
      constructor
      · rintro (h | h | h)
        · exact .inr (.inl h)
        · exact .inl h
        · exact .inr (.inr h)
      · rintro (h | h | h)
        · exact .inr (.inl h)
        · exact .inl h
        · exact .inr (.inr h)
theorem insL_asc {l : List Int} : ∀ {ls : List (List Int)}, Asc ls → ¬ l ∈ ls → Asc (insL ls l)
  | [], _, _ => by simp [insL, Asc]
  | x :: r, h, hn => by
    obtain ⟨h1, h2⟩ := List.pairwise_cons.1 h
    rw [insL]
    split
    · rename_i hb
      refine List.pairwise_cons.2 ⟨fun y hy => ?_, h⟩
      rcases List.mem_cons.1 hy with rfl | hy
      · exact hb
      · exact befB_trans hb (h1 y hy)
    · rename_i hb
      refine List.pairwise_cons.2 ⟨fun y hy => ?_, insL_asc h2 fun hm => hn (List.mem_cons_of_mem _ hm)⟩
      rcases insL_mem.1 hy with rfl | hy
      · exact befB_total (by simpa using hb) (fun e => hn (by rw [e]; simp))
      · exact h1 y hy
/-- Two lists in order with the same members are the same. -/
theorem asc_unique : ∀ {s t : List (List Int)}, Asc s → Asc t → (∀ y, y ∈ s ↔ y ∈ t) → s = t
  | [], [], _, _, _ => rfl
  | [], y :: t, _, _, h => by have := (h y).2 (by simp); cases this
  | x :: s, [], _, _, h => by have := (h x).1 (by simp); cases this
  | x :: s, y :: t, h1, h2, h => by
    obtain ⟨a1, a2⟩ := List.pairwise_cons.1 h1
    obtain ⟨b1, b2⟩ := List.pairwise_cons.1 h2
    have hxy : x = y := by
      rcases List.mem_cons.1 ((h x).1 (by simp)) with e | e
      · exact e
      · rcases List.mem_cons.1 ((h y).2 (by simp)) with e2 | e2
        · exact e2.symm
        · have c1 := a1 y e2
          have c2 := befB_asymm (b1 x e)
          rw [c1] at c2; cases c2
    subst hxy
    rw [asc_unique a2 b2 fun y => ?_]
    constructor
    · intro hy
      rcases List.mem_cons.1 ((h y).1 (List.mem_cons_of_mem _ hy)) with rfl | hy2
      · have := a1 y hy; rw [befB_irrefl] at this; cases this
      · exact hy2
    · intro hy
      rcases List.mem_cons.1 ((h y).2 (List.mem_cons_of_mem _ hy)) with rfl | hy2
      · have := b1 y hy; rw [befB_irrefl] at this; cases this
      · exact hy2
/-- Put in from behind: the place k that is reached. -/
theorem insL_at {l : List Int} : ∀ {ls : List (List Int)} {k : Nat}, Asc ls → k ≤ ls.length → (∀ j y, k ≤ j → ls[j]? = some y → befB l y = true) → (∀ y, 1 ≤ k → ls[k - 1]? = some y → befB l y = false) → insL ls l = ls.take k ++ l :: ls.drop k
  | [], k, _, hk, _, _ => by simp [insL]
  | x :: r, 0, _, _, h1, _ => by
    have := h1 0 x (Nat.le_refl _) rfl
    rw [insL, if_pos this]; rfl
  | x :: r, k + 1, ha, hk, h1, h2 => by
    obtain ⟨a1, a2⟩ := List.pairwise_cons.1 ha
    have hx : befB l x = false := by
      cases k with
      | zero => exact h2 x (by omega) rfl
      | succ k =>
        have hlt : k < r.length := by simp at hk; omega
        have hy : r[k]? = some (r[k]'hlt) := List.getElem?_eq_getElem hlt
        have h3 := h2 (r[k]'hlt) (by omega) (by simp)
        cases hb : befB l x with
        | false => rfl
        | true => rw [befB_trans hb (a1 _ (List.mem_of_getElem? hy))] at h3; cases h3
    rw [insL, hx, if_neg (by simp), insL_at (k := k) a2 (by simp at hk; omega) (fun j y hj hy => h1 (j + 1) y (by omega) (by simpa using hy)) fun y h hy => h2 y (by omega) (by
      obtain ⟨k', rfl⟩ : ∃ k', k = k' + 1 := ⟨k - 1, by omega⟩
      simpa using hy)]
    rfl

end Go.Proofs.Ytbpbbmfgkejgaaa
