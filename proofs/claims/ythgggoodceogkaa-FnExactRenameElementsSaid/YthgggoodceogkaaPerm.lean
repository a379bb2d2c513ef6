/-
  Plain mathematics: a list of names that has each of 0..z-1 once, and tables whose elements are renamed. No condition.
-/
import Derived.Test.YthgggoodceogkaaDigs
import Derived.Test.YthgggoodceogkaaRev
import Derived.Test.YthgggoodceogkaaPerM
namespace Go.Proofs.Ythgggoodceogkaa
open Go.RowKit
set_option linter.unusedVariables false
set_option linter.unusedSimpArgs false

theorem allIn_map {z : Int} {xs ys : List Int} (h : permB z xs = true) (hy : allIn z ys = true) : allIn z (ys.map (nm xs)) = true := by
  simp only [allIn, List.all_eq_true, Bool.and_eq_true, decide_eq_true_eq, List.mem_map] at hy ⊢
  rintro y ⟨x, hx, rfl⟩
  have := hy x hx
  exact nm_in h this.1 this.2
theorem map_onto {z : Int} {xs : List Int} (h : permB z xs = true) : ∀ {ys : List Int}, allIn z ys = true → ∃ us : List Int, us.length = ys.length ∧ allIn z us = true ∧ us.map (nm xs) = ys
  | [], _ => ⟨[], rfl, rfl, rfl⟩
  | y :: ys, hy => by
    simp only [allIn, List.all_cons, Bool.and_eq_true, decide_eq_true_eq] at hy
    obtain ⟨us, a, b, c⟩ := map_onto h (ys := ys) (by simpa [allIn] using hy.2)
    obtain ⟨u, u0, u1, u2⟩ := nm_onto h hy.1.1 hy.1.2
    refine ⟨u :: us, by simp [a], ?_, by simp [c, u2]⟩
    simp only [allIn, List.all_cons, Bool.and_eq_true, decide_eq_true_eq]
    exact ⟨⟨u0, u1⟩, by simpa [allIn] using b⟩
theorem digs_idx {z : Int} (hz : 1 ≤ z) : ∀ {m : Nat} {xs : List Int}, xs.length = m → allIn z xs = true → digs z m (idxA z xs) = xs := by
  intro m
  induction m with
  | zero => intro xs hl _; rw [List.eq_nil_of_length_eq_zero hl]; rfl
  | succ m ih =>
    intro xs hl ha
    have hne : xs ≠ [] := by intro e; simp [e] at hl
    have hx : xs = xs.dropLast ++ [xs.getLast hne] := (List.dropLast_concat_getLast hne).symm
    have ha2 : allIn z xs.dropLast = true ∧ 0 ≤ xs.getLast hne ∧ xs.getLast hne < z := by
      rw [hx] at ha
      simp only [allIn, List.all_append, List.all_cons, List.all_nil, Bool.and_true, Bool.and_eq_true, decide_eq_true_eq] at ha
      exact ⟨by simpa [allIn] using ha.1, by simpa using ha.2⟩
    obtain ⟨h1, h2, h3⟩ := ha2
    have e : idxA z xs = idxA z xs.dropLast * z + xs.getLast hne := by
      rw [← idxA_snoc, ← hx]
    have hd : (idxA z xs.dropLast * z + xs.getLast hne) / z = idxA z xs.dropLast := by
      rw [Int.mul_comm, Int.mul_add_ediv_left _ _ (by omega), Int.ediv_eq_zero_of_lt h2 h3, Int.add_zero]
    have hm : (idxA z xs.dropLast * z + xs.getLast hne) % z = xs.getLast hne := by
      rw [Int.add_comm, Int.add_mul_emod_self_right, Int.emod_eq_of_lt h2 h3]
    rw [e, digs, hd, hm, ih (by simp [hl]) h1, ← hx]

/-- Where the value for the arguments at a place goes. -/
def toI (z : Int) (m : Nat) (xs : List Int) (q : Nat) : Nat := (idxA z ((digs z m (q : Int)).map (nm xs))).toNat
theorem toI_spec {z : Int} {m : Nat} {xs : List Int} (hz : 1 ≤ z) (h : permB z xs = true) (q : Nat) : idxA z ((digs z m (q : Int)).map (nm xs)) = (toI z m xs q : Int) ∧ (toI z m xs q : Int) < powI z m := by
  have ha := allIn_map h (digs_in hz m (q : Int))
  obtain ⟨b0, b1⟩ := idxA_bd hz ha ((digs z m (q : Int)).map (nm xs)).length (Nat.le_refl _)
  rw [List.take_length, List.length_map, digs_len] at b1
  rw [List.take_length] at b0
  unfold toI
  exact ⟨by omega, by omega⟩
theorem toI_onto {z : Int} {m : Nat} {xs : List Int} (hz : 1 ≤ z) (h : permB z xs = true) {j : Nat} (hj : (j : Int) < powI z m) : ∃ q : Nat, (q : Int) < powI z m ∧ toI z m xs q = j := by
  obtain ⟨us, a, b, c⟩ := map_onto h (digs_in hz m (j : Int))
  rw [digs_len] at a
  obtain ⟨b0, b1⟩ := idxA_bd hz b us.length (Nat.le_refl _)
  rw [List.take_length] at b0 b1
  rw [a] at b1
  refine ⟨(idxA z us).toNat, by omega, ?_⟩
  unfold toI
  rw [Int.toNat_of_nonneg b0, digs_idx hz a b, c, idx_digs hz m (j : Int) (by omega) hj, Int.toNat_natCast]

/-- q values of the table t have gone to their places in the table l. -/
def putT (z : Int) (m : Nat) (xs t : List Int) (l : List Int) : Nat → List Int
  | 0 => l
  | q + 1 => (putT z m xs t l q).set (toI z m xs q) (nm xs (t.getD q 0))
theorem putT_len (z : Int) (m : Nat) (xs t l : List Int) (q : Nat) : (putT z m xs t l q).length = l.length := by
  induction q with
  | zero => rfl
  | succ q ih => simp [putT, ih]
theorem putT_ext {z : Int} {m : Nat} {xs t l l' : List Int} (hl : l.length = l'.length) : ∀ (q : Nat) (j : Nat), (∃ i, i < q ∧ toI z m xs i = j) → (putT z m xs t l q)[j]? = (putT z m xs t l' q)[j]? := by
  intro q
  induction q with
  | zero => rintro j ⟨i, hi, _⟩; omega
  | succ q ih =>
    rintro j ⟨i, hi, hj⟩
    simp only [putT]
    rw [List.getElem?_set, List.getElem?_set, putT_len, putT_len, hl]
    by_cases hq : toI z m xs q = j
    · rw [if_pos hq, if_pos hq]
    · rw [if_neg hq, if_neg hq]
      exact ih j ⟨i, by
        rcases Nat.lt_or_ge i q with h | h
        · exact h
        · exact absurd (by rw [show q = i by omega]; exact hj) hq, hj⟩
/-- Behind all of them it doesn't matter what was there. -/
theorem putT_all {z : Int} {m : Nat} {xs t l l' : List Int} (hz : 1 ≤ z) (h : permB z xs = true) (hl : (l.length : Int) = powI z m) (hl' : l'.length = l.length) : putT z m xs t l l.length = putT z m xs t l' l.length := by
  apply List.ext_getElem?
  intro j
  by_cases hj : j < l.length
  · obtain ⟨q, hq, e⟩ := toI_onto hz h (j := j) (m := m) (by omega)
    exact putT_ext hl'.symm _ j ⟨q, by omega, e⟩
  · rw [List.getElem?_eq_none (by rw [putT_len]; omega), List.getElem?_eq_none (by rw [putT_len]; omega)]

def renT (z : Int) (xs : List Int) (f : OpD) : OpD := (f.1, putT z f.1.toNat xs f.2 f.2 f.2.length)
def valRenameElements (z : Int) (fs : List OpD) (xs : List Int) : Int × List OpD × Bool := if algOkB z fs && permB z xs then (z, fs.map (renT z xs), true) else (0, [], false)
theorem renT_len (z : Int) (xs : List Int) (f : OpD) : (renT z xs f).2.length = f.2.length := putT_len _ _ _ _ _ _
theorem smallRenameElements (z : Int) (fs : List OpD) (xs : List Int) : (valRenameElements z fs xs).2.1.length + osum (valRenameElements z fs xs).2.1 ≤ 4194304 := by
  unfold valRenameElements
  split
  · rename_i h
    simp only [Bool.and_eq_true] at h
    have h1 := (algOkB_of h.1).2.1
    have h4 : osum (fs.map (renT z xs)) ≤ 512 * (fs.map (renT z xs)).length := osum_le fun f hf => by
      obtain ⟨g, hg, rfl⟩ := List.mem_map.1 hf
      rw [renT_len]
      exact (table_le h.1 hg).2
    simp only [List.length_map] at h4 ⊢
    omega
  · simp [osum]

end Go.Proofs.Ythgggoodceogkaa
