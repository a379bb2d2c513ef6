/-
  Plain mathematics: the algebra on a subuniverse. No condition.
-/
import Derived.Test.YtcmjkfcgekmomaaIsu
import Derived.Test.YtcmjkfcgekmomaaDigs
import Derived.Test.YtcmjkfcgekmomaaPlM
namespace Go.Proofs.Ytcmjkfcgekmomaa
open Go.RowKit
set_option linter.unusedVariables false
set_option linter.unusedSimpArgs false

/-- The element that stands at a place. -/
def nmP (xs : List Int) (x : Int) : Int := xs.getD x.toNat 0
theorem nmP_get {xs : List Int} {x : Int} (h0 : 0 ≤ x) (h1 : x < (xs.length : Int)) : xs[x.toNat]? = some (nmP xs x) := by
  unfold nmP
  rw [List.getD_eq_getElem?_getD, List.getElem?_eq_getElem (by omega)]; rfl
theorem nmP_in {z : Int} {xs ds : List Int} (ha : allIn z xs = true) (hd : allIn (xs.length : Int) ds = true) : allIn z (ds.map (nmP xs)) = true := by
  unfold allIn
  rw [List.all_eq_true]
  intro y hy
  obtain ⟨x, hx, rfl⟩ := List.mem_map.1 hy
  obtain ⟨j, hj⟩ := List.getElem?_of_mem hx
  obtain ⟨x0, x1⟩ := allIn_get hd hj
  have h2 := nmP_get x0 x1
  obtain ⟨y0, y1⟩ := allIn_get ha h2
  simp [y0, y1]

/-- What the operation f on the subuniverse gives at the place q of its table. -/
def sbE (z : Int) (xs : List Int) (f : OpD) (q : Nat) : Int := plI xs (atA z f ((digs (xs.length : Int) f.1.toNat (q : Int)).map (nmP xs)))
def sbL (xs : List Int) (f : OpD) : Nat := (powI (xs.length : Int) f.1.toNat).toNat
def sbT (z : Int) (xs : List Int) (f : OpD) (n : Nat) : List Int := (List.range n).map (sbE z xs f)
def sbO (z : Int) (xs : List Int) (f : OpD) : OpD := (f.1, sbT z xs f (sbL xs f))
theorem sbT_len (z : Int) (xs : List Int) (f : OpD) (n : Nat) : (sbT z xs f n).length = n := by simp [sbT]
theorem sbT_succ (z : Int) (xs : List Int) (f : OpD) (n : Nat) : sbT z xs f (n + 1) = sbT z xs f n ++ [sbE z xs f n] := by simp [sbT, List.range_succ]
/-- The table when q of its n places are filled. -/
def sbK (z : Int) (xs : List Int) (f : OpD) (n q : Nat) : List Int := sbT z xs f q ++ List.replicate (n - q) 0
theorem sbK_zero (z : Int) (xs : List Int) (f : OpD) (n : Nat) : sbK z xs f n 0 = List.replicate n 0 := by simp [sbK, sbT]
theorem sbK_all (z : Int) (xs : List Int) (f : OpD) (n : Nat) : sbK z xs f n n = sbT z xs f n := by simp [sbK]
theorem sbK_len (z : Int) (xs : List Int) (f : OpD) {n q : Nat} (h : q ≤ n) : (sbK z xs f n q).length = n := by simp [sbK, sbT]; omega
theorem sbK_set (z : Int) (xs : List Int) (f : OpD) {n q : Nat} (h : q < n) : (sbK z xs f n q).set q (sbE z xs f q) = sbK z xs f n (q + 1) := by
  unfold sbK
  rw [List.set_append_right _ _ (by rw [sbT_len]; exact Nat.le_refl _), sbT_len, Nat.sub_self, sbT_succ, show n - q = (n - (q + 1)) + 1 by omega, List.replicate_succ]
  simp

def sbaB (z : Int) (fs : List OpD) (xs : List Int) : Bool := subuB z fs xs && !xs.isEmpty
def valSubalgebraOf (z : Int) (fs : List OpD) (xs : List Int) : Int × List OpD × Bool := if sbaB z fs xs then ((xs.length : Int), fs.map (sbO z xs), true) else (0, [], false)
theorem sbaB_of {z : Int} {fs : List OpD} {xs : List Int} (h : sbaB z fs xs = true) : algOkB z fs = true ∧ isSubB z fs xs = true ∧ allIn z xs = true ∧ listK (setN xs) 8 = xs ∧ 1 ≤ xs.length ∧ xs.length ≤ 8 := by
  simp only [sbaB, Bool.and_eq_true, Bool.not_eq_true'] at h
  obtain ⟨h1, h2⟩ := h
  obtain ⟨h3, h4⟩ := subuB_of h1
  obtain ⟨h5, h6, _⟩ := isSubB_of h4
  have h7 := listK_le (setN xs) 8
  rw [h6] at h7
  refine ⟨h3, h4, h5, h6, ?_, h7⟩
  cases xs with
  | nil => cases h2
  | cons y r => simp
theorem sbL_bd {z : Int} {xs : List Int} {f : OpD} (h1 : 1 ≤ xs.length) (h8 : xs.length ≤ 8) (hok : opOkB z f = true) : powI (xs.length : Int) f.1.toNat = (sbL xs f : Int) ∧ 1 ≤ sbL xs f ∧ sbL xs f ≤ 512 := by
  have h2 := (opOkB_of hok).1
  have h3 := powI_bd (z := (xs.length : Int)) (k := f.1.toNat) (by omega) (by omega) (by omega)
  unfold sbL
  omega
theorem op_nat2 {z : Int} {f : OpD} (h1 : 1 ≤ z) (h2 : z ≤ 8) (hok : opOkB z f = true) : ∃ zn m : Nat, z = (zn : Int) ∧ f.1 = (m : Int) ∧ 1 ≤ zn ∧ zn ≤ 8 ∧ m ≤ 3 ∧ 1 ≤ f.2.length ∧ f.2.length ≤ 512 := by
  obtain ⟨⟨a, b⟩, hl, _⟩ := opOkB_of hok
  have := powI_bd h1 h2 (k := f.1.toNat) (by omega)
  exact ⟨z.toNat, f.1.toNat, by omega, by omega, by omega, by omega, by omega, by omega, by omega⟩
theorem osum_le2 {fs : List OpD} (h : ∀ f ∈ fs, f.2.length ≤ 512) : osum fs ≤ 512 * fs.length := by
  induction fs with
  | nil => simp [osum]
  | cons f r ih =>
    have h1 := ih fun g hg => h g (by simp [hg])
    have h2 := h f (by simp)
    simp only [osum, List.map_cons, List.sum_cons, List.length_cons] at h1 ⊢
    omega
theorem smallSubalgebraOf (z : Int) (fs : List OpD) (xs : List Int) : (valSubalgebraOf z fs xs).2.1.length + osum (valSubalgebraOf z fs xs).2.1 ≤ 4194304 := by
  unfold valSubalgebraOf
  split
  · rename_i h
    obtain ⟨h1, _, _, _, h5, h6⟩ := sbaB_of h
    obtain ⟨_, h7, h8⟩ := algOkB_of h1
    have h4 : osum (fs.map (sbO z xs)) ≤ 512 * (fs.map (sbO z xs)).length := osum_le2 fun f hf => by
      obtain ⟨g, hg, rfl⟩ := List.mem_map.1 hf
      rw [sbO]
      dsimp only
      rw [sbT_len]
      exact (sbL_bd h5 h6 (h8 g hg)).2.2
    simp at h4 ⊢
    omega
  · simp [osum]
theorem at_in {z : Int} {xs : List Int} {f : OpD} {q : Nat} (h1 : 1 ≤ xs.length) (ha : allIn z xs = true) : allIn z ((digs (xs.length : Int) f.1.toNat (q : Int)).map (nmP xs)) = true := nmP_in ha (digs_in (by omega) _ _)

/-- The first i of new, behind them what was there. -/
def mixI (new old : List Int) (i : Nat) : List Int := new.take i ++ old.drop i
theorem mixI_zero (new old : List Int) : mixI new old 0 = old := by simp [mixI]
theorem mixI_all {new old : List Int} {i : Nat} (h : new.length = old.length) (hi : old.length ≤ i) : mixI new old i = new := by
  simp [mixI, List.take_of_length_le (by omega : new.length ≤ i), List.drop_of_length_le hi]
theorem mixI_len {new old : List Int} (h : new.length = old.length) (i : Nat) : (mixI new old i).length = old.length := by
  simp [mixI]; omega
theorem mixI_get {new old : List Int} {i : Nat} (h : new.length = old.length) (hi : i < old.length) : (mixI new old i)[i]? = old[i]? := by
  unfold mixI
  rw [List.getElem?_append_right (by rw [List.length_take]; omega), List.length_take, Nat.min_eq_left (by omega), Nat.sub_self, List.getElem?_drop, Nat.add_zero]
theorem mixI_set {new old : List Int} {i : Nat} {x : Int} (h : new.length = old.length) (hi : i < old.length) (hx : new[i]? = some x) : (mixI new old i).set i x = mixI new old (i + 1) := by
  unfold mixI
  have hl : (new.take i).length = i := by simp; omega
  rw [List.set_append_right _ _ (by omega), hl, Nat.sub_self, List.drop_eq_getElem_cons hi, List.set_cons_zero, List.take_add_one, hx]
  simp

end Go.Proofs.Ytcmjkfcgekmomaa
