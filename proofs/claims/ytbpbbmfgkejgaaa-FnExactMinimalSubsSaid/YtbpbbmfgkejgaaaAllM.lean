/-
  Plain mathematics: all subuniverses in their order. No condition.
-/
import Derived.Test.YtbpbbmfgkejgaaaOrdM
import Derived.Test.YtbpbbmfgkejgaaaSetM
namespace Go.Proofs.Ytbpbbmfgkejgaaa
open Go.RowKit
set_option linter.unusedVariables false

/-- The sets below b that p accepts, as lists, in their order. -/
def allL (p : Nat → Bool) : Nat → List (List Int)
  | 0 => []
  | b + 1 => if p b = true then insL (allL p b) (listK b 8) else allL p b
theorem allL_mem {p : Nat → Bool} {y : List Int} : ∀ {b : Nat}, y ∈ allL p b ↔ ∃ s, s < b ∧ p s = true ∧ y = listK s 8
  | 0 => by simp [allL]
  | b + 1 => by
    rw [allL]
    split
    · rename_i h
      rw [insL_mem, allL_mem]
      constructor
      · rintro (rfl | ⟨s, h1, h2, h3⟩)
        · exact ⟨b, by omega, h, rfl⟩
        · exact ⟨s, by omega, h2, h3⟩
      · rintro ⟨s, h1, h2, h3⟩
        by_cases hs : s = b
        · exact .inl (by rw [h3, hs])
        · exact .inr ⟨s, by omega, h2, h3⟩
    · rename_i h
      rw [allL_mem]
      constructor
      · rintro ⟨s, h1, h2, h3⟩
        exact ⟨s, by omega, h2, h3⟩
      · rintro ⟨s, h1, h2, h3⟩
        by_cases hs : s = b
        · rw [hs] at h2; exact absurd h2 h
        · exact ⟨s, by omega, h2, h3⟩
theorem listK_one {s t n : Nat} (hs : s < 2 ^ n) (ht : t < 2 ^ n) (h : listK s n = listK t n) : s = t := by
  rw [← set_list hs, ← set_list ht, h]
theorem allL_new {p : Nat → Bool} {b : Nat} (hb : b < 2 ^ 8) : ¬ listK b 8 ∈ allL p b := by
  rw [allL_mem]
  rintro ⟨s, h1, _, h3⟩
  have := listK_one hb (by omega) h3
  omega
theorem allL_asc {p : Nat → Bool} : ∀ {b : Nat}, b ≤ 2 ^ 8 → Asc (allL p b)
  | 0, _ => List.Pairwise.nil
  | b + 1, h => by
    rw [allL]
    split
    · exact insL_asc (allL_asc (by omega)) (allL_new (by omega))
    · exact allL_asc (by omega)
/-- What a sort of the sets gives. -/
theorem allL_sort {p : Nat → Bool} {b : Nat} {ds : List Nat} (hb : b ≤ 2 ^ 8) (hm : ∀ s, s ∈ ds ↔ s < b ∧ p s = true) (hn : ds.Nodup) (hs : ds.Pairwise fun x y => ¬ ordL (listK y 8) (listK x 8) < 0) : ds.map (fun s => listK s 8) = allL p b := by
  refine asc_unique ?_ (allL_asc hb) fun y => ?_
  · unfold Asc
    rw [List.pairwise_map]
    refine List.Pairwise.imp_of_mem (R := fun x y => ¬ ordL (listK y 8) (listK x 8) < 0 ∧ x ≠ y) ?_ (hs.and hn)
    rintro x y hx hy ⟨h1, h2⟩
    refine befB_total (s := listK y 8) (t := listK x 8) ?_ (fun e => h2 (listK_one (n := 8) (by have := (hm x).1 hx; omega) (by have := (hm y).1 hy; omega) e.symm))
    cases hbf : befB (listK y 8) (listK x 8) with
    | false => rfl
    | true => rw [befB_iff] at hbf; omega
  · rw [List.mem_map, allL_mem]
    constructor
    · rintro ⟨s, h1, rfl⟩
      exact ⟨s, ((hm s).1 h1).1, ((hm s).1 h1).2, rfl⟩
    · rintro ⟨s, h1, h2, rfl⟩
      exact ⟨s, (hm s).2 ⟨h1, h2⟩, rfl⟩
theorem insL_len (l : List Int) : ∀ ls : List (List Int), (insL ls l).length = ls.length + 1
  | [] => rfl
  | y :: r => by
    rw [insL]
    split
    · simp
    · simp [insL_len l r]
theorem allL_len (p : Nat → Bool) : ∀ b, (allL p b).length ≤ b
  | 0 => by simp [allL]
  | b + 1 => by
    have := allL_len p b
    rw [allL]
    split
    · rw [insL_len]; omega
    · omega

end Go.Proofs.Ytbpbbmfgkejgaaa
