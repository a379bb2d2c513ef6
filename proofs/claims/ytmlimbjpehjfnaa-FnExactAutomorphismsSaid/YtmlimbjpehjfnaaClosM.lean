/-
  Plain mathematics: closing a partial map between two algebras. No condition.
-/
import Derived.Test.YtmlimbjpehjfnaaHomM
import Derived.Test.YtmlimbjpehjfnaaArr7
namespace Go.Proofs.Ytmlimbjpehjfnaa
set_option linter.unusedVariables false
set_option linter.unusedSimpArgs false

/-- One value of one operation: its image, if all images of the arguments are there. -/
def stF (z z1 : Int) (F G : OpD) (at_ : Nat) (f : Nat → Int) : Option (Nat → Int) :=
  if openB (imgF f (digs z F.1.toNat at_)) then some f
  else if f (F.2.getD at_ 0).toNat = -1 then some (put8 f (F.2.getD at_ 0).toNat (atA z1 G (imgF f (digs z F.1.toNat at_))))
  else if f (F.2.getD at_ 0).toNat = atA z1 G (imgF f (digs z F.1.toNat at_)) then some f else none
theorem stF_open {z z1 : Int} {F G : OpD} {at_ : Nat} {f : Nat → Int} (h : openB (imgF f (digs z F.1.toNat at_)) = true) : stF z z1 F G at_ f = some f := by rw [stF, h, if_pos rfl]
theorem stF_new {z z1 : Int} {F G : OpD} {at_ : Nat} {f : Nat → Int} (h : openB (imgF f (digs z F.1.toNat at_)) = false) (h2 : f (F.2.getD at_ 0).toNat = -1) : stF z z1 F G at_ f = some (put8 f (F.2.getD at_ 0).toNat (atA z1 G (imgF f (digs z F.1.toNat at_)))) := by
  rw [stF, h, if_neg (by simp), if_pos h2]
theorem stF_same {z z1 : Int} {F G : OpD} {at_ : Nat} {f : Nat → Int} (h : openB (imgF f (digs z F.1.toNat at_)) = false) (h2 : ¬ f (F.2.getD at_ 0).toNat = -1) (h3 : f (F.2.getD at_ 0).toNat = atA z1 G (imgF f (digs z F.1.toNat at_))) : stF z z1 F G at_ f = some f := by
  rw [stF, h, if_neg (by simp), if_neg h2, if_pos h3]
theorem stF_none {z z1 : Int} {F G : OpD} {at_ : Nat} {f : Nat → Int} (h : openB (imgF f (digs z F.1.toNat at_)) = false) (h2 : ¬ f (F.2.getD at_ 0).toNat = -1) (h3 : ¬ f (F.2.getD at_ 0).toNat = atA z1 G (imgF f (digs z F.1.toNat at_))) : stF z z1 F G at_ f = none := by
  rw [stF, h, if_neg (by simp), if_neg h2, if_neg h3]
/-- All values below a place of one operation; all operations below a number. -/
def stN (z z1 : Int) (F G : OpD) : Nat → (Nat → Int) → Option (Nat → Int)
  | 0, f => some f
  | k + 1, f => (stN z z1 F G k f).bind (stF z z1 F G k)
def stO (z z1 : Int) (fs gs : List OpD) : Nat → (Nat → Int) → Option (Nat → Int)
  | 0, f => some f
  | k + 1, f => (stO z z1 fs gs k f).bind (stN z z1 (opAt fs k) (opAt gs k) (opAt fs k).2.length)
def passF (z z1 : Int) (fs gs : List OpD) (f : Nat → Int) : Option (Nat → Int) := stO z z1 fs gs fs.length f
theorem stN_none {z z1 : Int} {F G : OpD} {f : Nat → Int} {k : Nat} (h : stN z z1 F G k f = none) : ∀ n, k ≤ n → stN z z1 F G n f = none := by
  intro n
  induction n with
  | zero => intro hk; obtain rfl : k = 0 := by omega
            exact h
  | succ n ih =>
    intro hk
    by_cases he : k = n + 1
    · subst he; exact h
    · rw [stN, ih (by omega)]; rfl
theorem stO_none {z z1 : Int} {fs gs : List OpD} {f : Nat → Int} {k : Nat} (h : stO z z1 fs gs k f = none) : ∀ n, k ≤ n → stO z z1 fs gs n f = none := by
  intro n
  induction n with
  | zero => intro hk; obtain rfl : k = 0 := by omega
            exact h
  | succ n ih =>
    intro hk
    by_cases he : k = n + 1
    · subst he; exact h
    · rw [stO, ih (by omega)]; rfl

/-- How many of the first n places are open. -/
def opens (f : Nat → Int) : Nat → Nat
  | 0 => 0
  | n + 1 => opens f n + if f n = -1 then 1 else 0
/-- f2 has all images of f, and perhaps more. -/
def More (f f2 : Nat → Int) : Prop := ∀ k, f k = -1 ∨ f2 k = f k
theorem More.refl (f : Nat → Int) : More f f := fun _ => .inr rfl
theorem More.trans {f g h : Nat → Int} (a : More f g) (b : More g h) : More f h := fun k => by
  rcases a k with h1 | h1
  · exact .inl h1
  · rcases b k with h2 | h2
    · exact .inl (by omega)
    · exact .inr (by omega)
theorem More.put {f : Nat → Int} {k : Nat} {x : Int} (h : f k = -1) : More f (put8 f k x) := fun j => by
  by_cases hj : j = k
  · subst hj; exact .inl h
  · exact .inr (put8_other hj)
theorem opens_le {f g : Nat → Int} (h : More f g) : ∀ n, opens g n ≤ opens f n := by
  intro n
  induction n with
  | zero => exact Nat.le_refl _
  | succ n ih =>
    rw [opens, opens]
    rcases h n with h1 | h1
    · rw [if_pos h1]; split <;> omega
    · rw [h1]; omega
theorem opens_lt {f g : Nat → Int} (h : More f g) : ∀ n, (∃ k, k < n ∧ f k ≠ g k) → opens g n < opens f n := by
  intro n
  induction n with
  | zero => rintro ⟨k, hk, _⟩; omega
  | succ n ih =>
    rintro ⟨k, hk, hne⟩
    rw [opens, opens]
    by_cases he : k = n
    · subst he
      have h2 := opens_le h k
      rcases h k with h1 | h1
      · rw [if_pos h1, if_neg (fun e => hne (by omega))]; omega
      · exact absurd h1.symm hne
    · have h2 := ih ⟨k, by omega, hne⟩
      rcases h n with h1 | h1
      · rw [if_pos h1]; split <;> omega
      · rw [h1]; omega
theorem opens_max (f : Nat → Int) : ∀ n, opens f n ≤ n := by
  intro n
  induction n with
  | zero => exact Nat.le_refl _
  | succ n ih => rw [opens]; split <;> omega

def eqA (g f : Nat → Int) : Bool := (List.range 8).all fun k => decide (g k = f k)
theorem eqA_iff {g f : Nat → Int} : eqA g f = true ↔ ∀ k, k < 8 → g k = f k := by
  unfold eqA
  rw [List.all_eq_true]
  exact ⟨fun h k hk => of_decide_eq_true (h k (by simpa using hk)), fun h k hk => decide_eq_true (h k (by simpa using hk))⟩
/-- Rounds until one gives nothing new. -/
def closF (z z1 : Int) (fs gs : List OpD) : Nat → (Nat → Int) → Option (Nat → Int)
  | 0, f => some f
  | j + 1, f => (passF z z1 fs gs f).bind fun g => if eqA g f = true then some g else closF z z1 fs gs j g
theorem closF_none {z z1 : Int} {fs gs : List OpD} {f : Nat → Int} {j : Nat} (h : passF z z1 fs gs f = none) : closF z z1 fs gs (j + 1) f = none := by rw [closF, h]; rfl
theorem closF_end {z z1 : Int} {fs gs : List OpD} {f g : Nat → Int} {j : Nat} (h : passF z z1 fs gs f = some g) (he : eqA g f = true) : closF z z1 fs gs (j + 1) f = some g := by
  rw [closF, h]; exact if_pos he
theorem closF_on {z z1 : Int} {fs gs : List OpD} {f g : Nat → Int} {j : Nat} (h : passF z z1 fs gs f = some g) (he : eqA g f = false) : closF z z1 fs gs (j + 1) f = closF z z1 fs gs j g := by
  rw [closF, h]; exact if_neg (by rw [he]; simp)
/-- The closed map, if there is one. -/
def closV (z z1 : Int) (fs gs : List OpD) (f : Nat → Int) : Option (Nat → Int) := closF z z1 fs gs 9 f

theorem stF_more {z z1 : Int} {F G : OpD} {at_ : Nat} {f g : Nat → Int} (h : stF z z1 F G at_ f = some g) : More f g := by
  unfold stF at h
  split at h
  · injection h with h; subst h; exact More.refl _
  · split at h
    · rename_i h1
      injection h with h; subst h; exact More.put h1
    · split at h
      · injection h with h; subst h; exact More.refl _
      · cases h
theorem stN_more {z z1 : Int} {F G : OpD} {f g : Nat → Int} : ∀ {k : Nat}, stN z z1 F G k f = some g → More f g := by
  intro k
  induction k generalizing g with
  | zero => intro h; injection h with h; subst h; exact More.refl _
  | succ k ih =>
    intro h
    rw [stN] at h
    cases h1 : stN z z1 F G k f with
    | none => rw [h1] at h; cases h
    | some g1 => rw [h1] at h; exact (ih h1).trans (stF_more h)
theorem stO_more {z z1 : Int} {fs gs : List OpD} {f g : Nat → Int} : ∀ {k : Nat}, stO z z1 fs gs k f = some g → More f g := by
  intro k
  induction k generalizing g with
  | zero => intro h; injection h with h; subst h; exact More.refl _
  | succ k ih =>
    intro h
    rw [stO] at h
    cases h1 : stO z z1 fs gs k f with
    | none => rw [h1] at h; cases h
    | some g1 => rw [h1] at h; exact (ih h1).trans (stN_more h)

end Go.Proofs.Ytmlimbjpehjfnaa
