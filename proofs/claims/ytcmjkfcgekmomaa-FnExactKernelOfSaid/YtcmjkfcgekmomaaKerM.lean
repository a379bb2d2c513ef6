/-
  Plain mathematics: the kernel, the images and the inverse of a map. No condition.
-/
import Derived.Test.YtcmjkfcgekmomaaHomA
import Derived.Test.YtcmjkfcgekmomaaPlM
import Derived.Test.YtcmjkfcgekmomaaKrlM
import Derived.Test.YtcmjkfcgekmomaaPerM
import Derived.Test.YtcmjkfcgekmomaaRiseM
import Derived.Test.YtcmjkfcgekmomaaPut3
namespace Go.Proofs.Ytcmjkfcgekmomaa
set_option linter.unusedVariables false
set_option linter.unusedSimpArgs false

/-- One more place of the second list gives way to the first one. -/
theorem mix_set {α : Type} {A B : List α} {k : Nat} {a : α} (hl : A.length = B.length) (ha : A[k]? = some a) : (A.take k ++ B.drop k).set k a = A.take (k + 1) ++ B.drop (k + 1) := by
  obtain ⟨hk, _⟩ := List.getElem?_eq_some_iff.1 ha
  have hB : k < B.length := by omega
  have ht : (A.take k).length = k := by rw [List.length_take]; omega
  rw [List.drop_eq_getElem_cons hB, List.take_add_one, ha, List.set_append_right _ _ (by omega), ht, Nat.sub_self, List.set_cons_zero, Option.toList_some, List.append_assoc]
  rfl
theorem lstP_arrL {xs : List Int} {l : Nat} (h : xs.length = l) : lstP l (arrL xs) = xs := by
  subst h
  apply List.ext_getElem?
  intro k
  by_cases h : k < xs.length
  · rw [lstP_get _ h, arrL_get (List.getElem?_eq_getElem h), List.getElem?_eq_getElem h]
  · rw [List.getElem?_eq_none (by rw [lstP_len]; omega), List.getElem?_eq_none (by omega)]

/-! The kernel. -/
def kerP (xs : List Int) (k : Nat) : List Int := (kerL xs).take k ++ xs.drop k
theorem kerP_zero (xs : List Int) : kerP xs 0 = xs := by simp [kerP]
theorem kerP_set {xs : List Int} {k : Nat} {x : Int} (h : xs[k]? = some x) : ((kerP xs k).map (Value.int .i64)).set k (.int .i64 (plI xs x)) = (kerP xs (k + 1)).map (Value.int .i64) := by
  rw [← List.map_set]; unfold kerP; rw [mix_set (kerL_len xs) (kerL_get h)]
theorem kerP_all {xs : List Int} {l : Nat} (h : xs.length = l) : kerP xs l = kerL xs := by
  unfold kerP; rw [List.take_of_length_le (by rw [kerL_len]; omega), List.drop_of_length_le (by omega)]; simp
theorem kerP_len (xs : List Int) (k : Nat) : (kerP xs k).length = xs.length := by
  unfold kerP; rw [List.length_append, List.length_take, List.length_drop, kerL_len]; omega
def valKernelOf (z : Int) (fs : List OpD) (z1 : Int) (gs : List OpD) (xs : List Int) : List Int × Bool := if homB z z1 fs gs xs = true then (kerL xs, true) else ([], false)

/-- The images as a set. -/
def setF (f : Nat → Int) : Nat → Nat
  | 0 => 0
  | k + 1 => if f k = -1 then setF f k else setF f k ||| 2 ^ (f k).toNat
theorem setF_no {f : Nat → Int} {k : Nat} (h : f k = -1) : setF f (k + 1) = setF f k := by rw [setF, if_pos h]
theorem setF_yes {f : Nat → Int} {k : Nat} (h : ¬ f k = -1) : setF f (k + 1) = setF f k ||| 2 ^ (f k).toNat := by rw [setF, if_neg h]
theorem setF_lt {f : Nat → Int} (h : ∀ k, k < 8 → f k = -1 ∨ (0 ≤ f k ∧ f k < 8)) : ∀ k, k ≤ 8 → setF f k < 2 ^ 8 := by
  intro k
  induction k with
  | zero => intro _; exact Nat.two_pow_pos 8
  | succ k ih =>
    intro hk
    by_cases h1 : f k = -1
    · rw [setF_no h1]; exact ih (by omega)
    · rw [setF_yes h1]
      exact or_lt (ih (by omega)) (pow_lt_of (by rcases h k (by omega) with h2 | h2; exact absurd h2 h1; omega))
theorem setF_take {z1 : Int} {xs : List Int} (ha : allIn z1 xs = true) : ∀ k, setF (arrL xs) k = setN (xs.take k) := by
  intro k
  induction k with
  | zero => simp [setF, setN]
  | succ k ih =>
    by_cases hk : k < xs.length
    · have hx : xs[k]? = some (xs[k]'hk) := List.getElem?_eq_getElem hk
      have := allIn_get ha hx
      have hf := arrL_get hx
      rw [setF_yes (by rw [hf]; omega), hf, ih, setN_succ hx]
    · rw [setF_no (arrL_out (by omega)), ih, List.take_of_length_le (by omega), List.take_of_length_le (by omega)]
theorem setF_arrL {z1 : Int} {xs : List Int} (ha : allIn z1 xs = true) (hl : xs.length ≤ 8) : setF (arrL xs) 8 = setN xs := by
  rw [setF_take ha, List.take_of_length_le hl]
theorem arr_bd {z1 : Int} {xs : List Int} (ha : allIn z1 xs = true) (hz : z1 ≤ 8) : ∀ k, k < 8 → arrL xs k = -1 ∨ (0 ≤ arrL xs k ∧ arrL xs k < 8) := fun k _ => by
  by_cases hk : k < xs.length
  · have hx : xs[k]? = some (xs[k]'hk) := List.getElem?_eq_getElem hk
    have := allIn_get ha hx
    right; rw [arrL_get hx]; omega
  · exact .inl (arrL_out (by omega))
def putL (xs : List Int) : List Int := xs.foldl putR []
theorem putL_succ {xs : List Int} {k : Nat} {x : Int} (hx : xs[k]? = some x) : putL (xs.take (k + 1)) = putR (putL (xs.take k)) x := by
  unfold putL; rw [List.take_add_one, hx, Option.toList_some, List.foldl_append]; rfl
theorem putL_all (xs : List Int) : (putL xs).Pairwise (· < ·) ∧ (∀ y, y ∈ putL xs ↔ y ∈ xs) := by
  have h : ∀ k, k ≤ xs.length → (putL (xs.take k)).Pairwise (· < ·) ∧ (∀ y, y ∈ putL (xs.take k) ↔ y ∈ xs.take k) := by
    intro k
    induction k with
    | zero => intro _; exact ⟨by simp [putL], fun y => by simp [putL]⟩
    | succ k ih =>
      intro hk
      obtain ⟨a, b⟩ := ih (by omega)
      have hx : xs[k]? = some (xs[k]'(by omega)) := List.getElem?_eq_getElem (by omega)
      rw [putL_succ hx]
      refine ⟨putR_sorted a, fun y => ?_⟩
      rw [mem_putR, b, List.take_add_one, hx, List.mem_append]
      simp only [Option.toList_some, List.mem_singleton]
      exact Or.comm
  have := h xs.length (Nat.le_refl _)
  rwa [List.take_length] at this
theorem putL_set {z1 : Int} {xs : List Int} (ha : allIn z1 xs = true) (hz : z1 ≤ 8) : putL xs = listK (setN xs) 8 := by
  obtain ⟨a, b⟩ := putL_all xs
  refine sorted_ext a (listK_pair _ _) fun y => ?_
  rw [b]
  constructor
  · intro hy
    have h0 : 0 ≤ y ∧ y < z1 := of_decide_eq_true (List.all_eq_true.1 ha y hy)
    obtain ⟨n, rfl⟩ : ∃ n : Nat, y = (n : Int) := ⟨y.toNat, by omega⟩
    exact (mem_listK_nat _ _ _).2 ⟨by omega, (setN_bit_iff ha n).2 hy⟩
  · intro hy
    obtain ⟨j, _, rfl, hb⟩ := (mem_listK _ _ _).1 hy
    exact (setN_bit_iff ha j).1 hb
theorem putL_len (xs : List Int) (k : Nat) : (putL (xs.take k)).length ≤ k := by
  induction k with
  | zero => simp [putL]
  | succ k ih =>
    by_cases hk : k < xs.length
    · have hx : xs[k]? = some (xs[k]'hk) := List.getElem?_eq_getElem hk
      rw [putL_succ hx]
      have h : ∀ (l : List Int) (x : Int), (putR l x).length ≤ l.length + 1 := by
        intro l x
        induction l with
        | nil => simp [putR]
        | cons a r ih => rw [putR]; split <;> (try split) <;> simp <;> omega
      have := h (putL (xs.take k)) xs[k]
      omega
    · rw [List.take_of_length_le (by omega)]
      rw [List.take_of_length_le (by omega)] at ih
      omega
def valImageOf (z : Int) (fs : List OpD) (z1 : Int) (gs : List OpD) (xs : List Int) : List Int × Bool := if homB z z1 fs gs xs = true then (listK (setN xs) 8, true) else ([], false)

/-- The inverse: k images have their elements, over what was there. -/
def invK (xs l : List Int) : Nat → List Int
  | 0 => l
  | k + 1 => (invK xs l k).set (xs.getD k 0).toNat (k : Int)
theorem invK_len (xs l : List Int) (k : Nat) : (invK xs l k).length = l.length := by
  induction k with
  | zero => rfl
  | succ k ih => simp [invK, ih]
theorem invK_set {xs l : List Int} {k : Nat} {y : Nat} (h : xs[k]? = some (y : Int)) : ((invK xs l k).map (Value.int .i64)).set y (.int .i64 (k : Int)) = (invK xs l (k + 1)).map (Value.int .i64) := by
  rw [← List.map_set, invK, List.getD_eq_getElem?_getD, h, Option.getD_some, Int.toNat_natCast]
theorem invK_ext {xs l l' : List Int} (hl : l.length = l'.length) : ∀ (q j : Nat), (∃ i, i < q ∧ (xs.getD i 0).toNat = j) → (invK xs l q)[j]? = (invK xs l' q)[j]? := by
  intro q
  induction q with
  | zero => rintro j ⟨i, hi, _⟩; omega
  | succ q ih =>
    rintro j ⟨i, hi, hj⟩
    simp only [invK]
    rw [List.getElem?_set, List.getElem?_set, invK_len, invK_len, hl]
    by_cases hq : (xs.getD q 0).toNat = j
    · rw [if_pos hq, if_pos hq]
    · rw [if_neg hq, if_neg hq]
      exact ih j ⟨i, by
        rcases Nat.lt_or_ge i q with h | h
        · exact h
        · exact absurd (by rw [show q = i by omega]; exact hj) hq, hj⟩
/-- Behind all of them it doesn't matter what was there. -/
theorem invK_all {xs l l' : List Int} (h : permB (xs.length : Int) xs = true) (hl : l.length = xs.length) (hl' : l'.length = xs.length) : invK xs l xs.length = invK xs l' xs.length := by
  apply List.ext_getElem?
  intro j
  by_cases hj : j < xs.length
  · obtain ⟨x, x0, x1, e⟩ := nm_onto h (v := (j : Int)) (by omega) (by omega)
    refine invK_ext (by omega) _ j ⟨x.toNat, by omega, ?_⟩
    unfold nm at e
    rw [e]; simp
  · rw [List.getElem?_eq_none (by rw [invK_len]; omega), List.getElem?_eq_none (by rw [invK_len]; omega)]
def invB (z z1 : Int) (fs gs : List OpD) (xs : List Int) : Bool := homB z z1 fs gs xs && permB z1 xs
def valInverseIso (z : Int) (fs : List OpD) (z1 : Int) (gs : List OpD) (xs : List Int) : List Int × Bool := if invB z z1 fs gs xs = true then (invK xs xs xs.length, true) else ([], false)
theorem homB_len {z z1 : Int} {fs gs : List OpD} {xs : List Int} (h : homB z z1 fs gs xs = true) : xs.length ≤ 8 := by
  obtain ⟨h1, _⟩ := homB_of h
  obtain ⟨h2, h3, _⟩ := mapB_of h1
  have := (algOkB_of (sameH_of h2).1).1
  omega
theorem smallKernelOf (z : Int) (fs : List OpD) (z1 : Int) (gs : List OpD) (xs : List Int) : (valKernelOf z fs z1 gs xs).1.length ≤ 4194304 := by
  unfold valKernelOf
  split
  · rename_i h; have := homB_len h; simp only [kerL_len]; omega
  · simp
theorem smallImageOf (z : Int) (fs : List OpD) (z1 : Int) (gs : List OpD) (xs : List Int) : (valImageOf z fs z1 gs xs).1.length ≤ 4194304 := by
  unfold valImageOf
  split
  · have := listK_le (setN xs) 8; simp only; omega
  · simp
theorem smallInverseIso (z : Int) (fs : List OpD) (z1 : Int) (gs : List OpD) (xs : List Int) : (valInverseIso z fs z1 gs xs).1.length ≤ 4194304 := by
  unfold valInverseIso invB
  split
  · rename_i h
    simp only [Bool.and_eq_true] at h
    have := homB_len h.1; simp only [invK_len]; omega
  · simp

end Go.Proofs.Ytcmjkfcgekmomaa
