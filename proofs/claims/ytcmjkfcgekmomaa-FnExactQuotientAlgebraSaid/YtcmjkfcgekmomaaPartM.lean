/-
  Plain mathematics: partitions as lists of the least elements of blocks, their order, meets and joins. No condition.
-/
import Derived.Test.YtcmjkfcgekmomaaPlain
namespace Go.Proofs.Ytcmjkfcgekmomaa
open Go.RowKit
set_option linter.unusedVariables false
set_option linter.unusedSimpArgs false

def gI (xs : List Int) (k : Nat) : Int := xs.getD k 0
theorem gI_get {xs : List Int} {k : Nat} {x : Int} (h : xs[k]? = some x) : gI xs k = x := by unfold gI; rw [List.getD_eq_getElem?_getD, h]; rfl
theorem get_gI {xs : List Int} {k n : Nat} (hn : xs.length = n) (h : k < n) : xs[k]? = some (gI xs k) := by
  obtain ⟨x, hx⟩ := get_of_lt hn h
  rw [hx, gI_get hx]
/-- The first n values of a function. -/
def lstP (n : Nat) (f : Nat → Int) : List Int := (List.range n).map f
theorem lstP_len (n : Nat) (f : Nat → Int) : (lstP n f).length = n := by simp [lstP]
theorem lstP_get {n : Nat} (f : Nat → Int) {k : Nat} (h : k < n) : (lstP n f)[k]? = some (f k) := by simp [lstP, h]
theorem gI_lstP {n : Nat} (f : Nat → Int) {k : Nat} (h : k < n) : gI (lstP n f) k = f k := gI_get (lstP_get f h)
theorem lstP_congr {n : Nat} {f g : Nat → Int} (h : ∀ k, k < n → f k = g k) : lstP n f = lstP n g := by
  unfold lstP
  exact List.map_congr_left fun k hk => h k (List.mem_range.1 hk)
theorem lstP_succ (n : Nat) (f : Nat → Int) : lstP (n + 1) f = lstP n f ++ [f n] := by simp [lstP, List.range_succ]
theorem lstP_gI (xs : List Int) : lstP xs.length (gI xs) = xs := by
  apply List.ext_getElem?
  intro k
  by_cases h : k < xs.length
  · rw [lstP_get _ h, get_gI rfl h]
  · rw [List.getElem?_eq_none (by rw [lstP_len]; omega), List.getElem?_eq_none (by omega)]

/-- What a partition says of one element. -/
def okP (f : Nat → Int) (x : Nat) : Bool := inB 0 x (f x) && (f (f x).toNat == f x)
theorem okP_out {f : Nat → Int} {x : Nat} (h : inB 0 x (f x) = false) : okP f x = false := by simp [okP, h]
theorem okP_ne {f : Nat → Int} {x : Nat} (h : ¬ f (f x).toNat = f x) : okP f x = false := by simp [okP, h]
theorem okP_yes {f : Nat → Int} {x : Nat} (h : inB 0 x (f x) = true) (h2 : f (f x).toNat = f x) : okP f x = true := by simp [okP, h, h2]
theorem okP_of {f : Nat → Int} {x : Nat} (h : okP f x = true) : (0 ≤ f x ∧ f x ≤ x) ∧ f (f x).toNat = f x := by
  simp only [okP, inB, Bool.and_eq_true, decide_eq_true_eq, beq_iff_eq] at h
  exact h
def okAll (f : Nat → Int) (k : Nat) : Bool := (List.range k).all (okP f)
theorem okAll_zero (f : Nat → Int) : okAll f 0 = true := rfl
theorem okAll_succ {f : Nat → Int} {k : Nat} (h : okAll f k = true) (h2 : okP f k = true) : okAll f (k + 1) = true := by
  unfold okAll at h ⊢; rw [List.range_succ, List.all_append, h]; simp [h2]
theorem okAll_no {f : Nat → Int} {k n : Nat} (h : k < n) (h2 : okP f k = false) : okAll f n = false := by
  rw [← Bool.not_eq_true]
  intro h3
  have := List.all_eq_true.1 h3 k (List.mem_range.2 h)
  rw [h2] at this; cases this
theorem okAll_get {f : Nat → Int} {k n : Nat} (h : okAll f n = true) (hk : k < n) : (0 ≤ f k ∧ f k ≤ k) ∧ f (f k).toNat = f k := okP_of (List.all_eq_true.1 h k (List.mem_range.2 hk))
/-- A list is a partition of n elements. -/
def partB (n : Int) (xs : List Int) : Bool := decide ((xs.length : Int) = n) && okAll (gI xs) xs.length
theorem partB_len {n : Int} {xs : List Int} (h : ¬ (xs.length : Int) = n) : partB n xs = false := by simp [partB, h]
theorem partB_at {n : Int} {xs : List Int} (h : (xs.length : Int) = n) : partB n xs = okAll (gI xs) xs.length := by simp [partB, h]
theorem partB_of {n : Int} {xs : List Int} (h : partB n xs = true) : (xs.length : Int) = n ∧ okAll (gI xs) xs.length = true := by
  simpa [partB] using h
/-- A partition as an array of eight: the places behind have themselves. -/
def extP (xs : List Int) (k : Nat) : Int := if k < xs.length then gI xs k else k
theorem extP_lt {xs : List Int} {k : Nat} (h : k < xs.length) : extP xs k = gI xs k := if_pos h
theorem extP_ge {xs : List Int} {k : Nat} (h : ¬ k < xs.length) : extP xs k = k := if_neg h
theorem part_in {n : Int} {xs : List Int} (h : allIn n xs = false) : partB n xs = false := by
  rw [← Bool.not_eq_true]
  intro h2
  obtain ⟨h3, h4⟩ := partB_of h2
  rw [← Bool.not_eq_true] at h
  apply h
  unfold allIn
  rw [List.all_eq_true]
  intro x hx
  obtain ⟨k, hk⟩ := List.mem_iff_getElem?.1 hx
  have hk2 : k < xs.length := (List.getElem?_eq_some_iff.1 hk).1
  have h5 := (okAll_get h4 hk2).1
  rw [gI_get hk] at h5
  simp; omega
theorem ext_okP {n : Int} {xs : List Int} (hl : (xs.length : Int) = n) (ha : allIn n xs = true) {k : Nat} (hk : k < xs.length) : okP (extP xs) k = okP (gI xs) k := by
  have h1 := allIn_get ha (get_gI rfl hk)
  unfold okP
  rw [extP_lt hk, extP_lt (k := (gI xs k).toNat) (by omega)]
theorem ext_okAll {n : Int} {xs : List Int} (hl : (xs.length : Int) = n) (ha : allIn n xs = true) : ∀ k, okAll (extP xs) (xs.length + k) = okAll (gI xs) xs.length
  | 0 => by
    rw [Nat.add_zero]
    unfold okAll
    rw [Bool.eq_iff_iff, List.all_eq_true, List.all_eq_true]
    constructor
    · intro h x hx
      rw [← ext_okP hl ha (List.mem_range.1 hx)]; exact h x hx
    · intro h x hx
      rw [ext_okP hl ha (List.mem_range.1 hx)]; exact h x hx
  | k + 1 => by
    rw [← ext_okAll hl ha k]
    have h1 : okP (extP xs) (xs.length + k) = true := by
      refine okP_yes ?_ ?_
      · rw [extP_ge (by omega)]; exact inB_yes (by omega) (by omega)
      · rw [extP_ge (k := xs.length + k) (by omega), Int.toNat_natCast, extP_ge (by omega)]
    cases h : okAll (extP xs) (xs.length + k) with
    | true => exact okAll_succ h h1
    | false =>
      rw [← Bool.not_eq_true] at h ⊢
      intro h2
      apply h
      unfold okAll at h2 ⊢
      rw [List.all_eq_true] at h2 ⊢
      exact fun x hx => h2 x (List.mem_range.2 (by have := List.mem_range.1 hx; omega))
theorem part_ext {n : Int} {xs : List Int} (hl : (xs.length : Int) = n) (ha : allIn n xs = true) (h8 : n ≤ 8) : partB n xs = okAll (extP xs) 8 := by
  rw [partB_at hl, ← ext_okAll hl ha (8 - xs.length), show xs.length + (8 - xs.length) = 8 by omega]
theorem ext_bd {n : Int} {xs : List Int} (h : partB n xs = true) (k : Nat) : 0 ≤ extP xs k ∧ extP xs k ≤ k := by
  obtain ⟨h1, h2⟩ := partB_of h
  by_cases hk : k < xs.length
  · rw [extP_lt hk]; exact (okAll_get h2 hk).1
  · rw [extP_ge hk]; omega

/-- Finer. -/
def finB (f g : Nat → Int) (n : Nat) : Bool := (List.range n).all fun x => g x == g (f x).toNat
theorem finB_zero (f g : Nat → Int) : finB f g 0 = true := rfl
theorem finB_succ {f g : Nat → Int} {k : Nat} (h : finB f g k = true) (h2 : g k = g (f k).toNat) : finB f g (k + 1) = true := by
  unfold finB at h ⊢; rw [List.range_succ, List.all_append, h]; simp [← h2]
theorem finB_no {f g : Nat → Int} {k n : Nat} (h : k < n) (h2 : ¬ g k = g (f k).toNat) : finB f g n = false := by
  rw [← Bool.not_eq_true]
  intro h3
  have := List.all_eq_true.1 h3 k (List.mem_range.2 h)
  exact h2 (by simpa using this)
theorem finB_ext {n : Int} {xs ys : List Int} (hx : partB n xs = true) (hy : partB n ys = true) (h8 : n ≤ 8) : finB (extP xs) (extP ys) 8 = finB (gI xs) (gI ys) xs.length := by
  obtain ⟨a1, a2⟩ := partB_of hx
  obtain ⟨b1, b2⟩ := partB_of hy
  unfold finB
  rw [Bool.eq_iff_iff, List.all_eq_true, List.all_eq_true]
  constructor
  · intro h x hx
    have hx := List.mem_range.1 hx
    have h1 := h x (List.mem_range.2 (by omega))
    have h2 := (okAll_get a2 hx).1
    rw [extP_lt hx, extP_lt (xs := ys) (by omega), extP_lt (xs := ys) (k := (gI xs x).toNat) (by omega)] at h1
    exact h1
  · intro h x _
    by_cases hx : x < xs.length
    · have h2 := (okAll_get a2 hx).1
      rw [extP_lt hx, extP_lt (xs := ys) (by omega), extP_lt (xs := ys) (k := (gI xs x).toNat) (by omega)]
      exact h x (List.mem_range.2 hx)
    · rw [extP_ge hx, Int.toNat_natCast]; simp

/-- The blocks of two elements put into one. -/
def joinF (f : Nat → Int) (x y : Nat) : Nat → Int := fun z => if f z = max (f x) (f y) then min (f x) (f y) else f z
theorem joinF_self (f : Nat → Int) (x z : Nat) : joinF f x x z = f z := by
  unfold joinF; split <;> omega
def joinA (f g : Nat → Int) : Nat → Nat → Int
  | 0 => f
  | k + 1 => joinF (joinA f g k) k (g k).toNat
theorem joinF_congr {f g : Nat → Int} {n x y : Nat} (h : ∀ k, k < n → f k = g k) (hx : x < n) (hy : y < n) {z : Nat} (hz : z < n) : joinF f x y z = joinF g x y z := by
  unfold joinF; rw [h x hx, h y hy, h z hz]
theorem joinA_congr {f g f' g' : Nat → Int} {n : Nat} (hf : ∀ k, k < n → f k = f' k) (hg : ∀ k, k < n → g k = g' k) (hb : ∀ k, k < n → g k < n ∧ 0 ≤ g k) : ∀ k, k ≤ n → ∀ z, z < n → joinA f g k z = joinA f' g' k z
  | 0, _, z, hz => hf z hz
  | k + 1, hk, z, hz => by
    show joinF (joinA f g k) k (g k).toNat z = joinF (joinA f' g' k) k (g' k).toNat z
    rw [← hg k (by omega)]
    have := hb k (by omega)
    exact joinF_congr (fun j hj => joinA_congr hf hg hb k (by omega) j hj) (by omega) (by omega) hz
theorem joinA_bd {f g : Nat → Int} (hf : ∀ k, k < 8 → 0 ≤ f k ∧ f k < 8) (hg : ∀ k, k < 8 → 0 ≤ g k ∧ g k < 8) : ∀ k, k ≤ 8 → ∀ z, z < 8 → 0 ≤ joinA f g k z ∧ joinA f g k z < 8
  | 0, _, z, hz => hf z hz
  | k + 1, hk, z, hz => by
    show 0 ≤ joinF (joinA f g k) k (g k).toNat z ∧ joinF (joinA f g k) k (g k).toNat z < 8
    have h1 := hg k (by omega)
    have h2 := joinA_bd hf hg k (by omega) z hz
    have h3 := joinA_bd hf hg k (by omega) k (by omega)
    have h4 := joinA_bd hf hg k (by omega) (g k).toNat (by omega)
    unfold joinF
    split <;> omega
theorem joinA_more {f g : Nat → Int} {n : Nat} (h : ∀ k, n ≤ k → g k = k) : ∀ j z, joinA f g (n + j) z = joinA f g n z
  | 0, z => rfl
  | j + 1, z => by
    show joinF (joinA f g (n + j)) (n + j) (g (n + j)).toNat z = _
    rw [h (n + j) (by omega), Int.toNat_natCast, joinF_self, joinA_more h j z]
theorem joinA_ext {n : Int} {xs ys : List Int} (hx : partB n xs = true) (hy : partB n ys = true) (h8 : n ≤ 8) : lstP xs.length (joinA (extP xs) (extP ys) 8) = lstP xs.length (joinA (gI xs) (gI ys) xs.length) := by
  obtain ⟨a1, a2⟩ := partB_of hx
  obtain ⟨b1, b2⟩ := partB_of hy
  refine lstP_congr fun z hz => ?_
  have h1 := joinA_more (f := extP xs) (g := extP ys) (n := xs.length) (fun k hk => extP_ge (by omega)) (8 - xs.length) z
  rw [show xs.length + (8 - xs.length) = 8 by omega] at h1
  rw [h1]
  refine joinA_congr (n := xs.length) (fun k hk => extP_lt hk) (fun k hk => extP_lt (by omega)) (fun k hk => ?_) xs.length (Nat.le_refl _) z hz
  rw [extP_lt (xs := ys) (by omega)]
  have := (okAll_get b2 (k := k) (by omega)).1
  omega

/-- The meet: the first element that is in one block with x in both. -/
def inBoth (f g : Nat → Int) (x y : Nat) : Bool := (f y == f x) && (g y == g x)
def meetN (f g : Nat → Int) (x : Nat) : Nat → Nat → Nat
  | 0, y => y
  | r + 1, y => if inBoth f g x y = true then y else meetN f g x r (y + 1)
def meetF (f g : Nat → Int) (x : Nat) : Int := ((meetN f g x x 0 : Nat) : Int)
theorem meetN_yes {f g : Nat → Int} {x r y : Nat} (h : inBoth f g x y = true) : meetN f g x (r + 1) y = y := by rw [meetN, if_pos h]
theorem meetN_no {f g : Nat → Int} {x r y : Nat} (h : inBoth f g x y = false) : meetN f g x (r + 1) y = meetN f g x r (y + 1) := by rw [meetN, h, if_neg (by simp)]
theorem inBoth_self (f g : Nat → Int) (x : Nat) : inBoth f g x x = true := by simp [inBoth]
theorem meetN_congr {f g f' g' : Nat → Int} {n x : Nat} (hf : ∀ k, k < n → f k = f' k) (hg : ∀ k, k < n → g k = g' k) (hx : x < n) : ∀ r y, y + r ≤ n → meetN f g x r y = meetN f' g' x r y
  | 0, _, _ => rfl
  | r + 1, y, h => by
    have : inBoth f g x y = inBoth f' g' x y := by unfold inBoth; rw [hf x hx, hg x hx, hf y (by omega), hg y (by omega)]
    rw [meetN, meetN, this, meetN_congr hf hg hx r (y + 1) (by omega)]
theorem meet_ext {n : Int} {xs ys : List Int} (hx : partB n xs = true) (hy : partB n ys = true) : lstP xs.length (meetF (extP xs) (extP ys)) = lstP xs.length (meetF (gI xs) (gI ys)) := by
  obtain ⟨a1, a2⟩ := partB_of hx
  obtain ⟨b1, b2⟩ := partB_of hy
  refine lstP_congr fun z hz => ?_
  unfold meetF
  rw [meetN_congr (n := xs.length) (fun k hk => extP_lt hk) (fun k hk => extP_lt (by omega)) hz z 0 (by omega)]

end Go.Proofs.Ytcmjkfcgekmomaa
