/-
  Plain mathematics: the search for homomorphisms. No condition.
-/
import Derived.Test.YtmlimbjpehjfnaaCloI
namespace Go.Proofs.Ytmlimbjpehjfnaa
set_option linter.unusedVariables false
set_option linter.unusedSimpArgs false

/-- The tries and what has been found. -/
abbrev St := Nat × List (List Int)
/-- The search goes on. -/
def alive (most : Nat) (s : St) : Bool := decide (s.2.length < most) && decide (s.1 ≤ 5000)
/-- All images of one element, from y on, n of them. -/
def kids (most : Nat) (step : Nat → St → St) : Nat → Nat → St → St
  | 0, _, s => s
  | n + 1, y, s => if alive most s then (if s.1 + 1 > 5000 then (s.1 + 1, s.2) else kids most step n (y + 1) (step y (s.1 + 1, s.2))) else s
theorem kids_dead {most : Nat} {step : Nat → St → St} {s : St} (h : alive most s = false) : ∀ n y, kids most step n y s = s
  | 0, _ => rfl
  | n + 1, y => by rw [kids, h, if_neg (by simp)]
theorem kids_over {most : Nat} {step : Nat → St → St} {s : St} {n y : Nat} (h : alive most s = true) (h2 : s.1 + 1 > 5000) : kids most step (n + 1) y s = (s.1 + 1, s.2) := by rw [kids, h, if_pos rfl, if_pos h2]
theorem kids_on {most : Nat} {step : Nat → St → St} {s : St} {n y : Nat} (h : alive most s = true) (h2 : ¬ s.1 + 1 > 5000) : kids most step (n + 1) y s = kids most step n (y + 1) (step y (s.1 + 1, s.2)) := by rw [kids, h, if_pos rfl, if_neg h2]
/-- The first open place. -/
def firstOpen (f : Nat → Int) (l : Nat) : Option Nat := firstB (fun k => decide (f k = -1)) 0 l
theorem firstOpen_none {f : Nat → Int} {l : Nat} (h : ∀ k, k < l → ¬ f k = -1) : firstOpen f l = none := firstB_none fun j _ hj => decide_eq_false (h j (by omega))
theorem firstOpen_some {f : Nat → Int} {l x : Nat} (hx : x < l) (h : f x = -1) (hb : ∀ k, k < x → ¬ f k = -1) : firstOpen f l = some x :=
  firstB_some (p := fun k => decide (f k = -1)) (decide_eq_true h) (Nat.zero_le _) (by omega) fun j _ hj => decide_eq_false (hb j hj)
/-- What is closed and may lead on is gone on with. -/
def tryS (z z1 : Int) (fs gs : List OpD) (lead : (Nat → Int) → Bool) (walk : (Nat → Int) → St → St) (f : Nat → Int) (s : St) : St :=
  match closV z z1 fs gs f with
  | none => s
  | some c => if lead c then walk c s else s
theorem tryS_none {z z1 : Int} {fs gs : List OpD} {lead : (Nat → Int) → Bool} {walk : (Nat → Int) → St → St} {f : Nat → Int} {s : St} (h : closV z z1 fs gs f = none) : tryS z z1 fs gs lead walk f s = s := by rw [tryS, h]
theorem tryS_no {z z1 : Int} {fs gs : List OpD} {lead : (Nat → Int) → Bool} {walk : (Nat → Int) → St → St} {f c : Nat → Int} {s : St} (h : closV z z1 fs gs f = some c) (h2 : lead c = false) : tryS z z1 fs gs lead walk f s = s := by
  rw [tryS, h]; show (if lead c = true then walk c s else s) = s; rw [h2, if_neg (by simp)]
theorem tryS_yes {z z1 : Int} {fs gs : List OpD} {lead : (Nat → Int) → Bool} {walk : (Nat → Int) → St → St} {f c : Nat → Int} {s : St} (h : closV z z1 fs gs f = some c) (h2 : lead c = true) : tryS z z1 fs gs lead walk f s = walk c s := by
  rw [tryS, h]; show (if lead c = true then walk c s else s) = walk c s; rw [h2, if_pos rfl]
/-- The walk behind a closed map, at most d elements deep. -/
def walkS (l zb : Nat) (fs gs : List OpD) (lead want : (Nat → Int) → Bool) (most : Nat) : Nat → (Nat → Int) → St → St
  | 0, _, s => s
  | d + 1, f, s => match firstOpen f l with
    | none => if want f then (s.1, s.2 ++ [lstP l f]) else s
    | some x => kids most (fun y => tryS l zb fs gs lead (walkS l zb fs gs lead want most d) (put8 f x y)) zb 0 s
theorem walkS_leaf {l zb : Nat} {fs gs : List OpD} {lead want : (Nat → Int) → Bool} {most d : Nat} {f : Nat → Int} {s : St} (h : firstOpen f l = none) : walkS l zb fs gs lead want most (d + 1) f s = if want f then (s.1, s.2 ++ [lstP l f]) else s := by rw [walkS, h]
theorem walkS_node {l zb : Nat} {fs gs : List OpD} {lead want : (Nat → Int) → Bool} {most d x : Nat} {f : Nat → Int} {s : St} (h : firstOpen f l = some x) : walkS l zb fs gs lead want most (d + 1) f s = kids most (fun y => tryS l zb fs gs lead (walkS l zb fs gs lead want most d) (put8 f x y)) zb 0 s := by rw [walkS, h]

/-! Closing keeps what it was told. -/
theorem stF_keep {z z1 : Int} {F G : OpD} {at_ : Nat} {f g : Nat → Int} (h1 : 1 ≤ z) (k1 : 1 ≤ z1) (hF : opOkB z F = true) (hG : opOkB z1 G = true) (he : G.1 = F.1) (hat : at_ < F.2.length) (hp : Part z z1 f) (ho : ∀ k : Nat, z ≤ (k : Int) → f k = -1) (h : stF z z1 F G at_ f = some g) :
    Part z z1 g ∧ ∀ k : Nat, z ≤ (k : Int) → g k = -1 := by
  unfold stF at h
  split at h
  · injection h with h; subst h; exact ⟨hp, ho⟩
  · rename_i hop
    split at h
    · injection h with h; subst h
      have hop : openB (imgF f (digs z F.1.toNat at_)) = false := by simpa using hop
      have hdin := digs_in h1 F.1.toNat (at_ : Int)
      have hig := img_part hp hdin hop
      have hf := opOkB_of hF
      obtain ⟨p0, p1, p2⟩ := at_get k1 hG (by rw [imgF_len, digs_len, he]; omega) hig
      have hx : F.2[at_]? = some (F.2[at_]'hat) := List.getElem?_eq_getElem hat
      have hv := allIn_get hf.2.2 hx
      have hy := allIn_get (opOkB_of hG).2.2 p2
      have hval : F.2.getD at_ 0 = F.2[at_] := by rw [List.getD_eq_getElem?_getD, hx]; rfl
      rw [hval]
      exact ⟨hp.put hy.1 hy.2, out_put ho (by omega)⟩
    · split at h
      · injection h with h; subst h; exact ⟨hp, ho⟩
      · cases h
theorem stN_keep {z z1 : Int} {F G : OpD} {f : Nat → Int} (h1 : 1 ≤ z) (k1 : 1 ≤ z1) (hF : opOkB z F = true) (hG : opOkB z1 G = true) (he : G.1 = F.1) (hp : Part z z1 f) (ho : ∀ k : Nat, z ≤ (k : Int) → f k = -1) : ∀ {k : Nat} {g : Nat → Int}, k ≤ F.2.length → stN z z1 F G k f = some g →
    Part z z1 g ∧ ∀ k : Nat, z ≤ (k : Int) → g k = -1 := by
  intro k
  induction k with
  | zero => intro g _ h; injection h with h; subst h; exact ⟨hp, ho⟩
  | succ k ih =>
    intro g hk h
    rw [stN] at h
    cases hn : stN z z1 F G k f with
    | none => rw [hn] at h; cases h
    | some g1 =>
      rw [hn] at h
      obtain ⟨a, b⟩ := ih (by omega) hn
      exact stF_keep h1 k1 hF hG he (by omega) a b h
theorem stO_keep {z z1 : Int} {fs gs : List OpD} {f : Nat → Int} (hok : algOkB z fs = true) (hok2 : algOkB z1 gs = true) (ht : typeV fs = typeV gs) (hp : Part z z1 f) (ho : ∀ k : Nat, z ≤ (k : Int) → f k = -1) : ∀ {k : Nat} {g : Nat → Int}, k ≤ fs.length → stO z z1 fs gs k f = some g →
    Part z z1 g ∧ ∀ k : Nat, z ≤ (k : Int) → g k = -1 := by
  obtain ⟨⟨h1, _⟩, _, hall⟩ := algOkB_of hok
  obtain ⟨⟨k1, _⟩, _, hall2⟩ := algOkB_of hok2
  intro k
  induction k with
  | zero => intro g _ h; injection h with h; subst h; exact ⟨hp, ho⟩
  | succ k ih =>
    intro g hk h
    rw [stO] at h
    cases hn : stO z z1 fs gs k f with
    | none => rw [hn] at h; cases h
    | some g1 =>
      rw [hn] at h
      obtain ⟨a, b⟩ := ih (by omega) hn
      have hF : fs[k]? = some (fs[k]'(by omega)) := List.getElem?_eq_getElem (by omega)
      obtain ⟨G, hG, he⟩ := same_op ht hF
      rw [opAt_get hF, opAt_get hG] at h
      exact stN_keep h1 k1 (hall _ (List.mem_of_getElem? hF)) (hall2 _ (List.mem_of_getElem? hG)) he a b (Nat.le_refl _) h
theorem closF_keep {z z1 : Int} {fs gs : List OpD} (hok : algOkB z fs = true) (hok2 : algOkB z1 gs = true) (ht : typeV fs = typeV gs) : ∀ {j : Nat} {f g : Nat → Int}, Part z z1 f → (∀ k : Nat, z ≤ (k : Int) → f k = -1) → closF z z1 fs gs j f = some g →
    (Part z z1 g ∧ ∀ k : Nat, z ≤ (k : Int) → g k = -1) ∧ More f g := by
  intro j
  induction j with
  | zero => intro f g hp ho h; injection h with h; subst h; exact ⟨⟨hp, ho⟩, More.refl _⟩
  | succ j ih =>
    intro f g hp ho h
    rw [closF] at h
    cases hn : passF z z1 fs gs f with
    | none => rw [hn] at h; cases h
    | some g1 =>
      rw [hn] at h
      obtain ⟨a, b⟩ := stO_keep hok hok2 ht hp ho (Nat.le_refl _) hn
      have hm : More f g1 := stO_more hn
      have h' : (if eqA g1 f = true then some g1 else closF z z1 fs gs j g1) = some g := h
      split at h'
      · injection h' with h'; subst h'; exact ⟨⟨a, b⟩, hm⟩
      · obtain ⟨c, e⟩ := ih a b h'
        exact ⟨c, hm.trans e⟩
theorem closV_keep {z z1 : Int} {fs gs : List OpD} (hok : algOkB z fs = true) (hok2 : algOkB z1 gs = true) (ht : typeV fs = typeV gs) {f g : Nat → Int} (hp : Part z z1 f) (ho : ∀ k : Nat, z ≤ (k : Int) → f k = -1) (h : closV z z1 fs gs f = some g) :
    (Part z z1 g ∧ ∀ k : Nat, z ≤ (k : Int) → g k = -1) ∧ More f g := closF_keep hok hok2 ht hp ho h
/-- An element less is open where one has got an image. -/
theorem opens_put {f : Nat → Int} {x d : Nat} {y : Int} (hx : x < 8) (h : f x = -1) (hy : 0 ≤ y) (ho : opens f 8 < d + 1) : opens (put8 f x y) 8 < d := by
  have := opens_lt (More.put (x := y) h) 8 ⟨x, hx, by rw [put8_same]; omega⟩
  omega

end Go.Proofs.Ytmlimbjpehjfnaa
