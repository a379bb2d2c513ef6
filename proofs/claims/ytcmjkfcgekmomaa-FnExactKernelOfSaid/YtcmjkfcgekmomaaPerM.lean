/-
  Plain mathematics: a list of names that has each of 0..z-1 once. No condition.
-/
import Derived.Test.YtcmjkfcgekmomaaPlain
namespace Go.Proofs.Ytcmjkfcgekmomaa
open Go.RowKit
set_option linter.unusedVariables false
set_option linter.unusedSimpArgs false

theorem nodup_len : ∀ (z : Nat) (xs : List Int), xs.Nodup → (∀ x ∈ xs, 0 ≤ x ∧ x < (z : Int)) → xs.length ≤ z := by
  intro z
  induction z with
  | zero =>
    intro xs _ h
    cases xs with
    | nil => simp
    | cons a l => have := h a (by simp); omega
  | succ z ih =>
    intro xs hn h
    have h1 := ih (xs.filter (fun x => decide (x ≠ (z : Int)))) (hn.filter _) (fun x hx => by
      have hm := (List.mem_filter.1 hx).1
      have hd := (List.mem_filter.1 hx).2
      have := h x hm
      simp only [decide_eq_true_eq] at hd
      omega)
    have h2 : xs.length ≤ (xs.filter (fun x => decide (x ≠ (z : Int)))).length + 1 := by
      clear ih h h1
      induction xs with
      | nil => simp
      | cons a l ih =>
        rw [List.nodup_cons] at hn
        have ih := ih hn.2
        rw [List.filter_cons]
        split
        · simp only [List.length_cons]; omega
        · rename_i ha
          simp only [decide_eq_true_eq, Classical.not_not] at ha
          have hl : l.filter (fun x => decide (x ≠ (z : Int))) = l := List.filter_eq_self.2 fun x hx => by
            simp only [decide_eq_true_eq]
            intro e
            exact hn.1 (by rw [ha, ← e]; exact hx)
          rw [hl]; simp
    omega
/-- Each number below z is there. -/
theorem perm_mem {z : Nat} {xs : List Int} (hn : xs.Nodup) (hl : xs.length = z) (h : ∀ x ∈ xs, 0 ≤ x ∧ x < (z : Int)) {v : Int} (h0 : 0 ≤ v) (h1 : v < (z : Int)) : v ∈ xs := by
  refine Classical.byContradiction fun hv => ?_
  have := nodup_len z (v :: xs) (List.nodup_cons.2 ⟨hv, hn⟩) (fun x hx => by
    rcases List.mem_cons.1 hx with rfl | hx
    · exact ⟨h0, h1⟩
    · exact h x hx)
  simp at this
  omega

def permB (z : Int) (xs : List Int) : Bool := decide ((xs.length : Int) = z) && (allIn z xs && decide xs.Nodup)
theorem permB_of {z : Int} {xs : List Int} (h : permB z xs = true) : (xs.length : Int) = z ∧ allIn z xs = true ∧ xs.Nodup := by
  simp only [permB, Bool.and_eq_true, decide_eq_true_eq] at h
  exact h
/-- The name of x. -/
def nm (xs : List Int) (x : Int) : Int := xs.getD x.toNat 0
theorem nm_get {z : Int} {xs : List Int} (hl : (xs.length : Int) = z) {x : Int} (h0 : 0 ≤ x) (h1 : x < z) : xs[x.toNat]? = some (nm xs x) := by
  have : x.toNat < xs.length := by omega
  unfold nm
  rw [List.getD_eq_getElem?_getD, List.getElem?_eq_getElem this]; rfl
theorem nm_in {z : Int} {xs : List Int} (h : permB z xs = true) {x : Int} (h0 : 0 ≤ x) (h1 : x < z) : 0 ≤ nm xs x ∧ nm xs x < z := by
  obtain ⟨hl, ha, _⟩ := permB_of h
  exact allIn_get ha (nm_get hl h0 h1)
theorem nm_onto {z : Int} {xs : List Int} (h : permB z xs = true) {v : Int} (h0 : 0 ≤ v) (h1 : v < z) : ∃ x, 0 ≤ x ∧ x < z ∧ nm xs x = v := by
  obtain ⟨hl, ha, hn⟩ := permB_of h
  have hz : z = ((xs.length : Nat) : Int) := hl.symm
  have hm := perm_mem (z := xs.length) hn rfl (fun x hx => by
    simp only [allIn, List.all_eq_true, Bool.and_eq_true, decide_eq_true_eq] at ha
    have := ha x hx
    omega) h0 (by omega)
  obtain ⟨j, hj, e⟩ := List.getElem_of_mem hm
  refine ⟨(j : Int), by omega, by omega, ?_⟩
  unfold nm
  rw [Int.toNat_natCast, List.getD_eq_getElem?_getD, List.getElem?_eq_getElem hj, e]; rfl

end Go.Proofs.Ytcmjkfcgekmomaa
