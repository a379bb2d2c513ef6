/-
  Plain mathematics: maps between two algebras, the first place at which one is not a homomorphism, closing of partial maps. No condition.
-/
import Derived.Test.YtcmjkfcgekmomaaDigM
namespace Go.Proofs.Ytcmjkfcgekmomaa
set_option linter.unusedVariables false
set_option linter.unusedSimpArgs false

/-- A list as a function, with an open image behind its end. -/
def arrL (xs : List Int) : Nat → Int := fun k => xs.getD k (-1)
theorem arrL_get {xs : List Int} {k : Nat} {x : Int} (h : xs[k]? = some x) : arrL xs k = x := by simp [arrL, List.getD_eq_getElem?_getD, h]
theorem arrL_out {xs : List Int} {k : Nat} (h : xs.length ≤ k) : arrL xs k = -1 := by simp [arrL, List.getD_eq_getElem?_getD, List.getElem?_eq_none h]
/-- The images of some elements. -/
def imgF (f : Nat → Int) (args : List Int) : List Int := args.map fun x => f x.toNat
theorem imgF_len (f : Nat → Int) (args : List Int) : (imgF f args).length = args.length := by simp [imgF]
theorem imgF_succ {f : Nat → Int} {args : List Int} {k : Nat} {x : Int} (hx : args[k]? = some x) : imgF f (args.take (k + 1)) = imgF f (args.take k) ++ [f x.toNat] := by
  rw [List.take_add_one, hx]; simp [imgF]
theorem imgF_all {f : Nat → Int} {args : List Int} {k : Nat} (h : args.length ≤ k) : imgF f (args.take k) = imgF f args := by rw [List.take_of_length_le h]
/-- All values below z are open or elements. -/
def Part (z z1 : Int) (f : Nat → Int) : Prop := ∀ k : Nat, (k : Int) < z → f k = -1 ∨ (0 ≤ f k ∧ f k < z1)
def Full (z z1 : Int) (f : Nat → Int) : Prop := ∀ k : Nat, (k : Int) < z → 0 ≤ f k ∧ f k < z1
theorem Full.part {z z1 : Int} {f : Nat → Int} (h : Full z z1 f) : Part z z1 f := fun k hk => .inr (h k hk)
theorem img_full {z z1 : Int} {f : Nat → Int} {args : List Int} (hf : Full z z1 f) (ha : allIn z args = true) : allIn z1 (imgF f args) = true := by
  unfold allIn imgF
  rw [List.all_eq_true]
  intro y hy
  obtain ⟨x, hx, rfl⟩ := List.mem_map.1 hy
  have h1 : 0 ≤ x ∧ x < z := of_decide_eq_true (List.all_eq_true.1 ha x hx)
  have := hf x.toNat (by omega)
  simpa using this
def openB (xs : List Int) : Bool := xs.any fun x => decide (x = -1)
theorem img_part {z z1 : Int} {f : Nat → Int} {args : List Int} (hf : Part z z1 f) (ha : allIn z args = true) (ho : openB (imgF f args) = false) : allIn z1 (imgF f args) = true := by
  unfold allIn imgF
  rw [List.all_eq_true]
  intro y hy
  have hy2 := hy
  obtain ⟨x, hx, rfl⟩ := List.mem_map.1 hy
  have h1 : 0 ≤ x ∧ x < z := of_decide_eq_true (List.all_eq_true.1 ha x hx)
  rcases hf x.toNat (by omega) with h | h
  · have : openB (imgF f args) = true := List.any_eq_true.2 ⟨_, hy2, by simpa using h⟩
    rw [this] at ho; cases ho
  · simpa using h
theorem img_not_open {z z1 : Int} {f : Nat → Int} {args : List Int} (hf : Full z z1 f) (ha : allIn z args = true) : openB (imgF f args) = false := by
  cases h : openB (imgF f args) with
  | false => rfl
  | true =>
    obtain ⟨y, hy, h1⟩ := List.any_eq_true.1 h
    have h0 := img_full hf ha
    have h2 : 0 ≤ y ∧ y < z1 := of_decide_eq_true (List.all_eq_true.1 h0 y hy)
    have h3 : y = -1 := of_decide_eq_true h1
    omega

/-- The place, taken from the last argument on. -/
def low (z : Int) (at_ : Int) : Nat → Int
  | 0 => at_
  | i + 1 => low z at_ i / z
theorem low_bd {z at_ : Int} (hz : 1 ≤ z) (h0 : 0 ≤ at_) : ∀ i, 0 ≤ low z at_ i ∧ low z at_ i ≤ at_
  | 0 => ⟨h0, Int.le_refl _⟩
  | i + 1 => by
    obtain ⟨a, b⟩ := low_bd hz h0 i
    exact ⟨Int.ediv_nonneg a (by omega), Int.le_trans (Int.ediv_le_self _ a) b⟩
theorem digs_low {z at_ : Int} {m : Nat} : ∀ i, i ≤ m → ∃ r, digs z m at_ = digs z (m - i) (low z at_ i) ++ r ∧ r.length = i := by
  intro i
  induction i with
  | zero => intro _; exact ⟨[], by simp [low], rfl⟩
  | succ i ih =>
    intro hi
    obtain ⟨r, hr, hl⟩ := ih (by omega)
    rw [show m - i = (m - (i + 1)) + 1 by omega, digs] at hr
    exact ⟨low z at_ i % z :: r, by rw [hr, List.append_assoc]; rfl, by simp [hl]⟩
/-- What the loop of the place has after i arguments from behind. -/
def plF (z z1 : Int) (f : Nat → Int) (at_ : Int) : Nat → Int
  | 0 => 0
  | i + 1 => plF z z1 f at_ i + f (low z at_ i % z).toNat * powI z1 i
theorem plF_eq {z z1 : Int} {f : Nat → Int} {at_ : Int} {m : Nat} : ∀ i, i ≤ m → idxA z1 (imgF f (digs z m at_)) = plF z z1 f at_ i + powI z1 i * idxA z1 (imgF f (digs z (m - i) (low z at_ i))) := by
  intro i
  induction i with
  | zero => intro _; simp [plF, powI, low]
  | succ i ih =>
    intro hi
    rw [ih (by omega), show m - i = (m - (i + 1)) + 1 by omega]
    have : imgF f (digs z (m - (i + 1) + 1) (low z at_ i)) = imgF f (digs z (m - (i + 1)) (low z at_ (i + 1))) ++ [f (low z at_ i % z).toNat] := by simp [imgF, digs, low]
    rw [this, idxA_snoc, plF, powI, Int.mul_add, ← Int.mul_assoc, Int.mul_assoc (powI z1 i) _ z1, Int.mul_comm (idxA z1 _) z1, ← Int.mul_assoc, Int.mul_comm (f _) (powI z1 i)]
    omega
theorem plF_all {z z1 : Int} {f : Nat → Int} {at_ : Int} (m : Nat) : idxA z1 (imgF f (digs z m at_)) = plF z z1 f at_ m := by
  rw [plF_eq m (Nat.le_refl m), Nat.sub_self]; simp [digs, imgF, idxA_nil]
/-- Some argument of the last i is open. -/
def opF (z : Int) (f : Nat → Int) (at_ : Int) : Nat → Bool
  | 0 => false
  | i + 1 => opF z f at_ i || decide (f (low z at_ i % z).toNat = -1)
theorem opF_eq {z : Int} {f : Nat → Int} {at_ : Int} {m : Nat} : ∀ i, i ≤ m → openB (imgF f (digs z m at_)) = (openB (imgF f (digs z (m - i) (low z at_ i))) || opF z f at_ i) := by
  intro i
  induction i with
  | zero => intro _; simp [opF, low]
  | succ i ih =>
    intro hi
    rw [ih (by omega), show m - i = (m - (i + 1)) + 1 by omega]
    have : imgF f (digs z (m - (i + 1) + 1) (low z at_ i)) = imgF f (digs z (m - (i + 1)) (low z at_ (i + 1))) ++ [f (low z at_ i % z).toNat] := by simp [imgF, digs, low]
    rw [this, opF]
    unfold openB
    rw [List.any_append, Bool.or_assoc]
    congr 1
    simp [Bool.or_comm]
theorem opF_all {z : Int} {f : Nat → Int} {at_ : Int} (m : Nat) : openB (imgF f (digs z m at_)) = opF z f at_ m := by
  rw [opF_eq m (Nat.le_refl m), Nat.sub_self]; simp [digs, imgF, openB]
theorem opF_yes {z : Int} {f : Nat → Int} {at_ : Int} {m i : Nat} (hi : i < m) (h : f (low z at_ i % z).toNat = -1) : openB (imgF f (digs z m at_)) = true := by
  rw [opF_eq (i + 1) (by omega), opF, h]; simp
theorem opF_no {z : Int} {f : Nat → Int} {at_ : Int} {i : Nat} (h1 : opF z f at_ i = false) (h2 : ¬ f (low z at_ i % z).toNat = -1) : opF z f at_ (i + 1) = false := by simp [opF, h1, h2]
/-- Bounds in the loop, where no argument is open. -/
theorem plF_bd {z z1 : Int} {f : Nat → Int} {at_ : Int} (hz : 1 ≤ z) (h1 : 1 ≤ z1) (h2 : z1 ≤ 8) (hp : Part z z1 f) {i : Nat} (hi : i ≤ 3) (ho : opF z f at_ i = false) : 0 ≤ plF z z1 f at_ i ∧ plF z z1 f at_ i < powI z1 i := by
  induction i with
  | zero => simp [plF, powI]
  | succ i ih =>
    simp only [opF, Bool.or_eq_false_iff, decide_eq_false_iff_not] at ho
    obtain ⟨a, b⟩ := ih (by omega) ho.1
    have hm := Int.emod_nonneg (low z at_ i) (show z ≠ 0 by omega)
    have hm2 := Int.emod_lt_of_pos (low z at_ i) (show 0 < z by omega)
    rcases hp (low z at_ i % z).toNat (by omega) with h | ⟨c, d⟩
    · exact absurd h ho.2
    · obtain ⟨p1, p2⟩ := powI_bd h1 h2 (k := i) (by omega)
      have e1 : 0 ≤ f (low z at_ i % z).toNat * powI z1 i := Int.mul_nonneg c (by omega)
      have e2 : f (low z at_ i % z).toNat * powI z1 i ≤ (z1 - 1) * powI z1 i := Int.mul_le_mul_of_nonneg_right (by omega) (by omega)
      rw [Int.sub_mul, Int.one_mul, Int.mul_comm z1] at e2
      rw [plF, powI]
      omega

/-! The first fault. -/
def firstB (p : Nat → Bool) : Nat → Nat → Option Nat
  | _, 0 => none
  | i, n + 1 => if p i then some i else firstB p (i + 1) n
theorem firstB_none {p : Nat → Bool} {n : Nat} : ∀ {i : Nat}, (∀ j, i ≤ j → j < i + n → p j = false) → firstB p i n = none := by
  induction n with
  | zero => intro i _; rfl
  | succ n ih =>
    intro i h
    rw [firstB, h i (by omega) (by omega), if_neg (by simp)]
    exact ih fun j h1 h2 => h j (by omega) (by omega)
theorem firstB_some {p : Nat → Bool} {k n : Nat} (hk : p k = true) : ∀ {i : Nat}, i ≤ k → k < i + n → (∀ j, i ≤ j → j < k → p j = false) → firstB p i n = some k := by
  induction n with
  | zero => intro i h1 h2; omega
  | succ n ih =>
    intro i h1 h2 h
    by_cases he : i = k
    · subst he; rw [firstB, if_pos hk]
    · rw [firstB, h i (by omega) (by omega), if_neg (by simp)]
      exact ih (by omega) (by omega) fun j h3 h4 => h j (by omega) h4
theorem firstB_of {p : Nat → Bool} {k n : Nat} : ∀ {i : Nat}, firstB p i n = some k → i ≤ k ∧ k < i + n ∧ p k = true := by
  induction n with
  | zero => intro i h; cases h
  | succ n ih =>
    intro i h
    rw [firstB] at h
    split at h
    · rename_i hp
      injection h with h
      subst h
      exact ⟨Nat.le_refl _, by omega, hp⟩
    · obtain ⟨a, b, c⟩ := ih h
      exact ⟨by omega, by omega, c⟩
def firstO (q : Nat → Option Nat) : Nat → Nat → Option (Nat × Nat)
  | _, 0 => none
  | i, n + 1 => match q i with
    | some x => some (i, x)
    | none => firstO q (i + 1) n
theorem firstO_none {q : Nat → Option Nat} {n : Nat} : ∀ {i : Nat}, (∀ j, i ≤ j → j < i + n → q j = none) → firstO q i n = none := by
  induction n with
  | zero => intro i _; rfl
  | succ n ih =>
    intro i h
    rw [firstO, h i (by omega) (by omega)]
    exact ih fun j h1 h2 => h j (by omega) (by omega)
theorem firstO_some {q : Nat → Option Nat} {k n x : Nat} (hk : q k = some x) : ∀ {i : Nat}, i ≤ k → k < i + n → (∀ j, i ≤ j → j < k → q j = none) → firstO q i n = some (k, x) := by
  induction n with
  | zero => intro i h1 h2; omega
  | succ n ih =>
    intro i h1 h2 h
    by_cases he : i = k
    · subst he; rw [firstO, hk]
    · rw [firstO, h i (by omega) (by omega)]
      exact ih (by omega) (by omega) fun j h3 h4 => h j (by omega) h4
theorem firstO_of {q : Nat → Option Nat} {k n x : Nat} : ∀ {i : Nat}, firstO q i n = some (k, x) → i ≤ k ∧ k < i + n ∧ q k = some x := by
  induction n with
  | zero => intro i h; cases h
  | succ n ih =>
    intro i h
    rw [firstO] at h
    split at h
    · rename_i y hy
      injection h with h
      injection h with h1 h2
      subst h1; subst h2
      exact ⟨Nat.le_refl _, by omega, hy⟩
    · obtain ⟨a, b, c⟩ := ih h
      exact ⟨by omega, by omega, c⟩

def opAt (fs : List OpD) (k : Nat) : OpD := fs.getD k (0, [])
theorem opAt_get {fs : List OpD} {k : Nat} {F : OpD} (h : fs[k]? = some F) : opAt fs k = F := by simp [opAt, List.getD_eq_getElem?_getD, h]
/-- The image of the value is not the value of the images. -/
def badAt (z z1 : Int) (f : Nat → Int) (F G : OpD) (at_ : Nat) : Bool := !decide (f (F.2.getD at_ 0).toNat = atA z1 G (imgF f (digs z F.1.toNat at_)))
def badIn (z z1 : Int) (f : Nat → Int) (F G : OpD) : Option Nat := firstB (badAt z z1 f F G) 0 F.2.length
def faultV (z z1 : Int) (fs gs : List OpD) (f : Nat → Int) : Option (Nat × Nat) := firstO (fun k => badIn z z1 f (opAt fs k) (opAt gs k)) 0 fs.length
theorem badIn_none {z z1 : Int} {f : Nat → Int} {F G : OpD} (h : ∀ j, j < F.2.length → badAt z z1 f F G j = false) : badIn z z1 f F G = none := firstB_none (p := badAt z z1 f F G) fun j _ hj => h j (by omega)
theorem badIn_some {z z1 : Int} {f : Nat → Int} {F G : OpD} {k : Nat} (hl : k < F.2.length) (hk : badAt z z1 f F G k = true) (h : ∀ j, j < k → badAt z z1 f F G j = false) : badIn z z1 f F G = some k := firstB_some (p := badAt z z1 f F G) hk (Nat.zero_le _) (by omega) fun j _ hj => h j hj
theorem faultV_none {z z1 : Int} {f : Nat → Int} {fs gs : List OpD} (h : ∀ j, j < fs.length → badIn z z1 f (opAt fs j) (opAt gs j) = none) : faultV z z1 fs gs f = none := firstO_none (q := fun k => badIn z z1 f (opAt fs k) (opAt gs k)) fun j _ hj => h j (by omega)
theorem faultV_some {z z1 : Int} {f : Nat → Int} {fs gs : List OpD} {k x : Nat} (hl : k < fs.length) (hk : badIn z z1 f (opAt fs k) (opAt gs k) = some x) (h : ∀ j, j < k → badIn z z1 f (opAt fs j) (opAt gs j) = none) : faultV z z1 fs gs f = some (k, x) := firstO_some (q := fun k => badIn z z1 f (opAt fs k) (opAt gs k)) hk (Nat.zero_le _) (by omega) fun j _ hj => h j hj
theorem faultV_of {z z1 : Int} {f : Nat → Int} {fs gs : List OpD} {k x : Nat} (h : faultV z z1 fs gs f = some (k, x)) : ∃ F, fs[k]? = some F ∧ x < F.2.length := by
  obtain ⟨_, h1, h2⟩ := firstO_of h
  obtain ⟨_, h3, _⟩ := firstB_of h2
  have hk : fs[k]? = some (fs[k]'(by omega)) := List.getElem?_eq_getElem (by omega)
  rw [opAt_get hk] at h3
  exact ⟨_, hk, by omega⟩

end Go.Proofs.Ytcmjkfcgekmomaa
