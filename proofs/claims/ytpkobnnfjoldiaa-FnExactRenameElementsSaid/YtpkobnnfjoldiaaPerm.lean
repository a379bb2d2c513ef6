/-
  Plain mathematics: a list of names that has each of 0..z-1 once, and tables whose elements are renamed. No condition.
-/
import Derived.Test.YtpkobnnfjoldiaaDigs
import Derived.Test.YtpkobnnfjoldiaaRev
namespace Go.Proofs.Ytpkobnnfjoldiaa
open Go.RowKit
set_option linter.unusedVariables false
set_option linter.unusedSimpArgs false

theorem nodup_len : ∀ (z : Nat) (xs : List Int), xs.Nodup → (∀ x ∈ xs, 0 ≤ x ∧ x < (z : Int)) → xs.length ≤ z := by
  intro z
  induction z with
  | zero =>
    intro xs _ h
    cases xs with
    | nil => simp
    | cons a l => have := h a (by simp); omega
  | succ z ih =>
    intro xs hn h
    have h1 := ih (xs.filter (fun x => decide (x ≠ (z : Int)))) (hn.filter _) (fun x hx => by
      have hm := (List.mem_filter.1 hx).1
      have hd := (List.mem_filter.1 hx).2
      have := h x hm
      simp only [decide_eq_true_eq] at hd
      omega)
    have h2 : xs.length ≤ (xs.filter (fun x => decide (x ≠ (z : Int)))).length + 1 := by
      clear ih h h1
      induction xs with
      | nil => simp
      | cons a l ih =>
        rw [List.nodup_cons] at hn
        have ih := ih hn.2
        rw [List.filter_cons]
        split
        · simp only [List.length_cons]; omega
        · rename_i ha
          simp only [decide_eq_true_eq, Classical.not_not] at ha
          have hl : l.filter (fun x => decide (x ≠ (z : Int))) = l := List.filter_eq_self.2 fun x hx => by
            simp only [decide_eq_true_eq]
            intro e
            exact hn.1 (by rw [ha, ← e]; exact hx)
          rw [hl]; simp
    omega
/-- Each number below z is there. -/
theorem perm_mem {z : Nat} {xs : List Int} (hn : xs.Nodup) (hl : xs.length = z) (h : ∀ x ∈ xs, 0 ≤ x ∧ x < (z : Int)) {v : Int} (h0 : 0 ≤ v) (h1 : v < (z : Int)) : v ∈ xs := by
  refine Classical.byContradiction fun hv => ?_
  have := nodup_len z (v :: xs) (List.nodup_cons.2 ⟨hv, hn⟩) (fun x hx => by
    rcases List.mem_cons.1 hx with rfl | hx
    · exact ⟨h0, h1⟩
    · exact h x hx)
  simp at this
  omega

def permB (z : Int) (xs : List Int) : Bool := decide ((xs.length : Int) = z) && (allIn z xs && decide xs.Nodup)
theorem permB_of {z : Int} {xs : List Int} (h : permB z xs = true) : (xs.length : Int) = z ∧ allIn z xs = true ∧ xs.Nodup := by
  simp only [permB, Bool.and_eq_true, decide_eq_true_eq] at h
  exact h
/-- The name of x. -/
def nm (xs : List Int) (x : Int) : Int := xs.getD x.toNat 0
theorem nm_get {z : Int} {xs : List Int} (hl : (xs.length : Int) = z) {x : Int} (h0 : 0 ≤ x) (h1 : x < z) : xs[x.toNat]? = some (nm xs x) := by
  have : x.toNat < xs.length := by omega
  unfold nm
  rw [List.getD_eq_getElem?_getD, List.getElem?_eq_getElem this]; rfl
theorem nm_in {z : Int} {xs : List Int} (h : permB z xs = true) {x : Int} (h0 : 0 ≤ x) (h1 : x < z) : 0 ≤ nm xs x ∧ nm xs x < z := by
  obtain ⟨hl, ha, _⟩ := permB_of h
  exact allIn_get ha (nm_get hl h0 h1)
theorem nm_onto {z : Int} {xs : List Int} (h : permB z xs = true) {v : Int} (h0 : 0 ≤ v) (h1 : v < z) : ∃ x, 0 ≤ x ∧ x < z ∧ nm xs x = v := by
  obtain ⟨hl, ha, hn⟩ := permB_of h
  have hz : z = ((xs.length : Nat) : Int) := hl.symm
  have hm := perm_mem (z := xs.length) hn rfl (fun x hx => by
    simp only [allIn, List.all_eq_true, Bool.and_eq_true, decide_eq_true_eq] at ha
    have := ha x hx
    omega) h0 (by omega)
  obtain ⟨j, hj, e⟩ := List.getElem_of_mem hm
  refine ⟨(j : Int), by omega, by omega, ?_⟩
  unfold nm
  rw [Int.toNat_natCast, List.getD_eq_getElem?_getD, List.getElem?_eq_getElem hj, e]; rfl

theorem allIn_map {z : Int} {xs ys : List Int} (h : permB z xs = true) (hy : allIn z ys = true) : allIn z (ys.map (nm xs)) = true := by
  simp only [allIn, List.all_eq_true, Bool.and_eq_true, decide_eq_true_eq, List.mem_map] at hy ⊢
  rintro y ⟨x, hx, rfl⟩
  have := hy x hx
  exact nm_in h this.1 this.2
theorem map_onto {z : Int} {xs : List Int} (h : permB z xs = true) : ∀ {ys : List Int}, allIn z ys = true → ∃ us : List Int, us.length = ys.length ∧ allIn z us = true ∧ us.map (nm xs) = ys
  | [], _ => ⟨[], rfl, rfl, rfl⟩
  | y :: ys, hy => by
    simp only [allIn, List.all_cons, Bool.and_eq_true, decide_eq_true_eq] at hy
    obtain ⟨us, a, b, c⟩ := map_onto h (ys := ys) (by simpa [allIn] using hy.2)
    obtain ⟨u, u0, u1, u2⟩ := nm_onto h hy.1.1 hy.1.2
    refine ⟨u :: us, by simp [a], ?_, by simp [c, u2]⟩
    simp only [allIn, List.all_cons, Bool.and_eq_true, decide_eq_true_eq]
    exact ⟨⟨u0, u1⟩, by simpa [allIn] using b⟩
theorem digs_idx {z : Int} (hz : 1 ≤ z) : ∀ {m : Nat} {xs : List Int}, xs.length = m → allIn z xs = true → digs z m (idxA z xs) = xs := by
  intro m
  induction m with
  | zero => intro xs hl _; rw [List.eq_nil_of_length_eq_zero hl]; rfl
  | succ m ih =>
    intro xs hl ha
    have hne : xs ≠ [] := by intro e; simp [e] at hl
    have hx : xs = xs.dropLast ++ [xs.getLast hne] := (List.dropLast_concat_getLast hne).symm
    have ha2 : allIn z xs.dropLast = true ∧ 0 ≤ xs.getLast hne ∧ xs.getLast hne < z := by
      rw [hx] at ha
      simp only [allIn, List.all_append, List.all_cons, List.all_nil, Bool.and_true, Bool.and_eq_true, decide_eq_true_eq] at ha
      exact ⟨by simpa [allIn] using ha.1, by simpa using ha.2⟩
    obtain ⟨h1, h2, h3⟩ := ha2
    have e : idxA z xs = idxA z xs.dropLast * z + xs.getLast hne := by
      rw [← idxA_snoc, ← hx]
    have hd : (idxA z xs.dropLast * z + xs.getLast hne) / z = idxA z xs.dropLast := by
      rw [Int.mul_comm, Int.mul_add_ediv_left _ _ (by omega), Int.ediv_eq_zero_of_lt h2 h3, Int.add_zero]
    have hm : (idxA z xs.dropLast * z + xs.getLast hne) % z = xs.getLast hne := by
      rw [Int.add_comm, Int.add_mul_emod_self_right, Int.emod_eq_of_lt h2 h3]
    rw [e, digs, hd, hm, ih (by simp [hl]) h1, ← hx]

/-- Where the value for the arguments at a place goes. -/
def toI (z : Int) (m : Nat) (xs : List Int) (q : Nat) : Nat := (idxA z ((digs z m (q : Int)).map (nm xs))).toNat
theorem toI_spec {z : Int} {m : Nat} {xs : List Int} (hz : 1 ≤ z) (h : permB z xs = true) (q : Nat) : idxA z ((digs z m (q : Int)).map (nm xs)) = (toI z m xs q : Int) ∧ (toI z m xs q : Int) < powI z m := by
  have ha := allIn_map h (digs_in hz m (q : Int))
  obtain ⟨b0, b1⟩ := idxA_bd hz ha ((digs z m (q : Int)).map (nm xs)).length (Nat.le_refl _)
  rw [List.take_length, List.length_map, digs_len] at b1
  rw [List.take_length] at b0
  unfold toI
  exact ⟨by omega, by omega⟩
theorem toI_onto {z : Int} {m : Nat} {xs : List Int} (hz : 1 ≤ z) (h : permB z xs = true) {j : Nat} (hj : (j : Int) < powI z m) : ∃ q : Nat, (q : Int) < powI z m ∧ toI z m xs q = j := by
  obtain ⟨us, a, b, c⟩ := map_onto h (digs_in hz m (j : Int))
  rw [digs_len] at a
  obtain ⟨b0, b1⟩ := idxA_bd hz b us.length (Nat.le_refl _)
  rw [List.take_length] at b0 b1
  rw [a] at b1
  refine ⟨(idxA z us).toNat, by omega, ?_⟩
  unfold toI
  rw [Int.toNat_of_nonneg b0, digs_idx hz a b, c, idx_digs hz m (j : Int) (by omega) hj, Int.toNat_natCast]

/-- q values of the table t have gone to their places in the table l. -/
def putT (z : Int) (m : Nat) (xs t : List Int) (l : List Int) : Nat → List Int
  | 0 => l
  | q + 1 => (putT z m xs t l q).set (toI z m xs q) (nm xs (t.getD q 0))
theorem putT_len (z : Int) (m : Nat) (xs t l : List Int) (q : Nat) : (putT z m xs t l q).length = l.length := by
  induction q with
  | zero => rfl
  | succ q ih => simp [putT, ih]
theorem putT_ext {z : Int} {m : Nat} {xs t l l' : List Int} (hl : l.length = l'.length) : ∀ (q : Nat) (j : Nat), (∃ i, i < q ∧ toI z m xs i = j) → (putT z m xs t l q)[j]? = (putT z m xs t l' q)[j]? := by
  intro q
  induction q with
  | zero => rintro j ⟨i, hi, _⟩; omega
  | succ q ih =>
    rintro j ⟨i, hi, hj⟩
    simp only [putT]
    rw [List.getElem?_set, List.getElem?_set, putT_len, putT_len, hl]
    by_cases hq : toI z m xs q = j
    · rw [if_pos hq, if_pos hq]
    · rw [if_neg hq, if_neg hq]
      exact ih j ⟨i, by
        rcases Nat.lt_or_ge i q with h | h
        · exact h
        · exact absurd (by rw [show q = i by omega]; exact hj) hq, hj⟩
/-- Behind all of them it doesn't matter what was there. -/
theorem putT_all {z : Int} {m : Nat} {xs t l l' : List Int} (hz : 1 ≤ z) (h : permB z xs = true) (hl : (l.length : Int) = powI z m) (hl' : l'.length = l.length) : putT z m xs t l l.length = putT z m xs t l' l.length := by
  apply List.ext_getElem?
  intro j
  by_cases hj : j < l.length
  · obtain ⟨q, hq, e⟩ := toI_onto hz h (j := j) (m := m) (by omega)
    exact putT_ext hl'.symm _ j ⟨q, by omega, e⟩
  · rw [List.getElem?_eq_none (by rw [putT_len]; omega), List.getElem?_eq_none (by rw [putT_len]; omega)]

def renT (z : Int) (xs : List Int) (f : OpD) : OpD := (f.1, putT z f.1.toNat xs f.2 f.2 f.2.length)
def valRenameElements (z : Int) (fs : List OpD) (xs : List Int) : Int × List OpD × Bool := if algOkB z fs && permB z xs then (z, fs.map (renT z xs), true) else (0, [], false)
theorem renT_len (z : Int) (xs : List Int) (f : OpD) : (renT z xs f).2.length = f.2.length := putT_len _ _ _ _ _ _
theorem smallRenameElements (z : Int) (fs : List OpD) (xs : List Int) : (valRenameElements z fs xs).2.1.length + osum (valRenameElements z fs xs).2.1 ≤ 4194304 := by
  unfold valRenameElements
  split
  · rename_i h
    simp only [Bool.and_eq_true] at h
    have h1 := (algOkB_of h.1).2.1
    have h4 : osum (fs.map (renT z xs)) ≤ 512 * (fs.map (renT z xs)).length := osum_le fun f hf => by
      obtain ⟨g, hg, rfl⟩ := List.mem_map.1 hf
      rw [renT_len]
      exact (table_le h.1 hg).2
    simp only [List.length_map] at h4 ⊢
    omega
  · simp [osum]

end Go.Proofs.Ytpkobnnfjoldiaa
