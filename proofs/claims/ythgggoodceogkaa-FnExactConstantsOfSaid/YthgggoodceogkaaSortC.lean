/-
  slices.Sort and slices.Compact on a list of integers of the call's own, and what both make of it: the numbers put to their places one by one. Conditions: the bounds that each theorem names.
-/
import Derived.Test.YthgggoodceogkaaPut
import Derived.Test.YthgggoodceogkaaShelf
import Derived.Sort.OwnSortedInts
import Derived.Lib.OwnBridge
import Derived.Lib.SlicesCompact
namespace Go.Proofs.Ythgggoodceogkaa
open Go.RowKit
set_option linter.unusedVariables false

/-- compact, of a list in ascending order: strictly ascending, with the same members. -/
theorem compactUpTo_sorted {d : Array Int} (hs : ∀ i j, i ≤ j → j < d.size → d[i]! ≤ d[j]!) : ∀ m, m ≤ d.size →
    (Go.Lib.compactUpTo d m).Pairwise (· < ·) ∧ (∀ y ∈ Go.Lib.compactUpTo d m, ∃ j, j < m ∧ d[j]! = y) ∧ (∀ j, j < m → d[j]! ∈ Go.Lib.compactUpTo d m) := by
  intro m
  induction m with
  | zero => intro _; refine ⟨by simp [Go.Lib.compactUpTo], fun y hy => by simp [Go.Lib.compactUpTo] at hy, fun j hj => by omega⟩
  | succ m ih =>
    intro hm
    obtain ⟨h1, h2, h3⟩ := ih (by omega)
    rw [Go.Lib.compactUpTo_succ]
    by_cases hk : Go.Lib.keeps d m = true
    · rw [if_pos hk]
      refine ⟨?_, ?_, ?_⟩
      · rw [List.pairwise_append]
        refine ⟨h1, by simp, fun a ha b hb => ?_⟩
        obtain ⟨j, hj, rfl⟩ := h2 a ha
        simp at hb
        subst hb
        have hne : d[m]! ≠ d[m - 1]! := by
          simp only [Go.Lib.keeps, decide_eq_true_eq] at hk
          rcases hk with hk | hk
          · omega
          · exact hk
        have ha1 := hs j (m - 1) (by omega) (by omega)
        have ha2 := hs (m - 1) m (by omega) (by omega)
        omega
      · intro y hy
        rcases List.mem_append.1 hy with hy | hy
        · obtain ⟨j, hj, e⟩ := h2 y hy
          exact ⟨j, by omega, e⟩
        · simp at hy
          exact ⟨m, by omega, hy.symm⟩
      · intro j hj
        by_cases hjm : j = m
        · subst hjm; simp
        · exact List.mem_append_left _ (h3 j (by omega))
    · rw [if_neg hk, List.append_nil]
      refine ⟨h1, fun y hy => ?_, fun j hj => ?_⟩
      · obtain ⟨j, hj, e⟩ := h2 y hy
        exact ⟨j, by omega, e⟩
      · by_cases hjm : j = m
        · subst hjm
          have h0 : j ≠ 0 := fun e => hk (by simp [Go.Lib.keeps, e])
          have he : d[j]! = d[j - 1]! := Classical.byContradiction fun hne => hk (by simp [Go.Lib.keeps, hne])
          rw [he]
          exact h3 (j - 1) (by omega)
        · exact h3 j (by omega)

def sortL (xs : List Int) : List Int := xs.mergeSort fun x y => decide (x ≤ y)
theorem sortL_len (xs : List Int) : (sortL xs).length = xs.length := by simp [sortL]
theorem sortL_mem {xs : List Int} {y : Int} : y ∈ sortL xs ↔ y ∈ xs := by simp [sortL, List.mem_mergeSort]
theorem sortL_sorted (xs : List Int) : (sortL xs).Pairwise (· ≤ ·) := by
  have h := List.pairwise_mergeSort (le := fun (x y : Int) => decide (x ≤ y)) (fun a b c h1 h2 => by simp only [decide_eq_true_eq] at h1 h2 ⊢; omega) (fun a b => by simp only [Bool.or_eq_true, decide_eq_true_eq]; omega) xs
  exact h.imp fun h => by simpa using h
theorem foldl_putR {xs : List Int} : ∀ {acc : List Int}, acc.Pairwise (· < ·) → (xs.foldl putR acc).Pairwise (· < ·) ∧ (∀ y, y ∈ xs.foldl putR acc ↔ y ∈ acc ∨ y ∈ xs) := by
  induction xs with
  | nil => intro acc h; exact ⟨h, fun y => by simp⟩
  | cons x l ih =>
    intro acc h
    obtain ⟨a, b⟩ := ih (putR_sorted h (n := x))
    refine ⟨a, fun y => ?_⟩
    rw [List.foldl_cons, b y, mem_putR, List.mem_cons]
    constructor
    · rintro ((h | h) | h)
      · exact .inr (.inl h)
      · exact .inl h
      · exact .inr (.inr h)
    · rintro (h | h | h)
      · exact .inl (.inr h)
      · exact .inl (.inl h)
      · exact .inr h
theorem compact_sort (xs : List Int) : Go.Lib.compact (sortL xs) = xs.foldl putR [] := by
  have hs : ∀ i j, i ≤ j → j < (sortL xs).toArray.size → (sortL xs).toArray[i]! ≤ (sortL xs).toArray[j]! := by
    intro i j hij hj
    have hj' : j < (sortL xs).length := by simpa using hj
    rcases Nat.lt_or_ge i j with h | h
    · have := List.pairwise_iff_getElem.1 (sortL_sorted xs) i j (by omega) hj' h
      simpa [getElem!_pos, hj', show i < (sortL xs).length by omega] using this
    · obtain rfl : i = j := by omega
      exact Int.le_refl _
  obtain ⟨a, b, c⟩ := compactUpTo_sorted hs (sortL xs).length (by simp)
  obtain ⟨d, e⟩ := foldl_putR (xs := xs) (acc := []) List.Pairwise.nil
  refine sorted_ext a d fun y => ?_
  rw [e y]
  constructor
  · intro hy
    obtain ⟨j, hj, rfl⟩ := b y hy
    refine .inr (sortL_mem.1 ?_)
    simp [getElem!_pos, hj]
  · rintro (h | h)
    · cases h
    · obtain ⟨j, hj, hx⟩ := List.getElem_of_mem (sortL_mem.2 h)
      have := c j hj
      rw [← hx]
      simpa [Go.Lib.compact, getElem!_pos, hj] using this

theorem sort_own (lo g n c : Nat) (xs : List Int) (w : World) (h : w.ownsRow lo 3 1 (.slice (some ⟨g, 0, none⟩) n c) n (xs.map (Value.int .i64))) (hn : n ≤ 1099511627776) :
    Calls Try.prog 63 #[.slice (some ⟨g, 0, none⟩) n c] w fun e w' => e = .returned (.tuple #[]) ∧ w'.ownsRow lo 3 1 (.slice (some ⟨g, 0, none⟩) n c) n ((sortL xs).map (Value.int .i64)) ∧ w.grownBy w' (some g) := by
  have hl : xs.length = n := by have := h.1; simpa using this
  rcases h.2 with ⟨e0, _⟩ | ⟨g', cap, cur, e0, hb, hg, hnc, hm, hs, ht⟩
  · cases e0
  · injection e0 with e1 _ e3
    injection e1 with e1
    injection e1 with e1
    subst e1; subst e3; subst hl
    have hH := holds_of_blockI hg (by simpa using ht)
    refine (Try.slices_Sort_int g 0 c xs w hH (h.lt g rfl).2 (by omega)).mono fun e w' ⟨he, q, os, hw⟩ => ?_
    subst hw
    exact ⟨he, ownsRow_sortedI (sortL_len xs) hb hg hnc hm hs, grownBy_sortedI _⟩

theorem compact_own (lo g n c : Nat) (xs : List Int) (w : World) (h : w.ownsRow lo 3 1 (.slice (some ⟨g, 0, none⟩) n c) n (xs.map (Value.int .i64))) (hn : n ≤ 1099511627776) (hk : (Go.Lib.compact xs).length ≤ n) :
    Calls Try.prog 64 #[.slice (some ⟨g, 0, none⟩) n c] w fun e w' => e = .returned (.slice (some ⟨g, 0, none⟩) (Go.Lib.compact xs).length c) ∧ w'.ownsRow lo 3 1 (.slice (some ⟨g, 0, none⟩) (Go.Lib.compact xs).length c) (Go.Lib.compact xs).length ((Go.Lib.compact xs).map (Value.int .i64)) ∧ w.grownBy w' (some g) := by
  obtain ⟨g', cap, e0, hb, hlt, hnc, hm, hl, hH⟩ := Go.Lib.holds_of_ownsRow h (by intro e; cases e)
  cases e0
  have hc : ∀ j, j < xs.length → w.cell? ⟨g, 0 + j, none⟩ = some (.int .i64 (xs.getD j 0)) := fun j hj => by
    have := (hH j (by simpa using hj)).1
    simpa [getElem!_pos, hj, List.getD_eq_getElem?_getD, List.getElem?_eq_getElem hj] using this
  have hf : ∀ j, j < n → w.frozen? ⟨g, 0 + j, none⟩ = false := fun j hj => (hH j (by simp; omega)).2
  refine (Try.slices_Compact_int_cells g 0 n c xs w (by omega) (by omega) hnc hc hf).mono fun e w' ⟨he, q, hw⟩ => ?_
  rw [List.take_of_length_le (by omega)] at he hw
  have hlen : (Go.Lib.compact xs ++ List.replicate (n - (Go.Lib.compact xs).length) (0 : Int)).length = n := by simp; omega
  rw [← Go.Lib.putRow_eq_setCells (Value.int .i64) w g 0 xs.toArray _ q hH (by rw [hlen]; simp [hl])] at hw
  subst hw
  refine ⟨he, ?_, ?_⟩
  · have := Go.Lib.ownsRow_putRow (q := q) h hlen hk
    rw [List.take_append_of_le_length (Nat.le_refl _), List.take_length] at this
    exact this
  · have := grownBy_sortedI (w := w) (g := g) (n := q) (os := #[]) (Go.Lib.compact xs ++ List.replicate (n - (Go.Lib.compact xs).length) (0 : Int)).toArray
    rw [Go.Sort.grow_empty] at this
    exact this

end Go.Proofs.Ythgggoodceogkaa
