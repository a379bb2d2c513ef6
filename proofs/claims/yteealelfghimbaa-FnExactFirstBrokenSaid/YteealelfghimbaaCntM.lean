/-
  Plain mathematics: the first values that refute an identity. No condition.
-/
import Derived.Test.YteealelfghimbaaNormM
import Derived.Test.YteealelfghimbaaEvalI
import Derived.Test.YteealelfghimbaaDig6
namespace Go.Proofs.Yteealelfghimbaa
open Go.RowKit
set_option linter.unusedVariables false
set_option linter.unusedSimpArgs false

/-- Values put at places, one after another. -/
def putVs : List Int → List Int → List Int → List Int
  | acc, v :: vs, d :: ds => putVs (acc.set v.toNat d) vs ds
  | acc, _, _ => acc
def lkV : List Int → List Int → Nat → Option Int
  | v :: vs, d :: ds, i => match lkV vs ds i with
    | some x => some x
    | none => if v.toNat = i then some d else none
  | _, _, _ => none
theorem putVs_len : ∀ (vs ds acc : List Int), (putVs acc vs ds).length = acc.length
  | [], _, _ => rfl
  | _ :: _, [], _ => rfl
  | v :: vs, d :: ds, acc => by rw [putVs, putVs_len]; simp
theorem putVs_get : ∀ (vs ds acc : List Int) (i : Nat), i < acc.length → (putVs acc vs ds)[i]? = match lkV vs ds i with | some x => some x | none => acc[i]?
  | [], _, _, _, _ => by simp [putVs, lkV]
  | _ :: _, [], _, _, _ => by simp [putVs, lkV]
  | v :: vs, d :: ds, acc, i, h => by
    rw [putVs, putVs_get vs ds _ i (by simpa using h), lkV]
    cases hl : lkV vs ds i with
    | some x => rfl
    | none =>
      dsimp only
      rw [List.getElem?_set]
      by_cases hv : v.toNat = i
      · simp [hv, h]
      · simp [hv]
theorem lkV_same : ∀ (vs ds es : List Int) (i : Nat), ds.length = vs.length → es.length = vs.length → (lkV vs ds i).isSome = (lkV vs es i).isSome
  | [], _, _, _, _, _ => by simp [lkV]
  | v :: vs, [], _, _, h, _ => by simp at h
  | v :: vs, d :: ds, [], _, _, h => by simp at h
  | v :: vs, d :: ds, e :: es, i, h1, h2 => by
    have ih := lkV_same vs ds es i (by simpa using h1) (by simpa using h2)
    simp only [lkV]
    cases hd : lkV vs ds i <;> cases he : lkV vs es i <;> rw [hd, he] at ih <;> simp at ih ⊢
    split <;> rfl
/-- What was put before at the same places does not matter. -/
theorem putVs_again (acc vs ds es : List Int) (h1 : ds.length = vs.length) (h2 : es.length = vs.length) : putVs (putVs acc vs ds) vs es = putVs acc vs es := by
  apply List.ext_getElem?
  intro i
  by_cases hi : i < acc.length
  · rw [putVs_get vs es (putVs acc vs ds) i (by rw [putVs_len]; exact hi), putVs_get vs es acc i hi]
    cases he : lkV vs es i with
    | some x => rfl
    | none =>
      have := lkV_same vs ds es i h1 h2
      rw [he] at this
      dsimp only
      rw [putVs_get vs ds acc i hi]
      cases hd : lkV vs ds i with
      | some x => rw [hd] at this; simp at this
      | none => rfl
  · rw [List.getElem?_eq_none (by rw [putVs_len, putVs_len]; omega), List.getElem?_eq_none (by rw [putVs_len]; omega)]
theorem putVs_succ : ∀ (vs ds acc : List Int) (k : Nat) (v d : Int), vs[k]? = some v → ds[k]? = some d → putVs acc (vs.take (k + 1)) (ds.take (k + 1)) = (putVs acc (vs.take k) (ds.take k)).set v.toNat d
  | [], _, _, k, v, d, h, _ => by simp at h
  | _ :: _, [], _, k, v, d, _, h => by simp at h
  | v0 :: vs, d0 :: ds, acc, 0, v, d, h1, h2 => by
    simp at h1 h2; subst h1; subst h2
    simp [putVs]
  | v0 :: vs, d0 :: ds, acc, k + 1, v, d, h1, h2 => by
    rw [List.take_succ_cons, List.take_succ_cons, putVs, putVs_succ vs ds _ k v d (by simpa using h1) (by simpa using h2), List.take_succ_cons, List.take_succ_cons, putVs]
theorem putVs_zero (acc vs ds : List Int) : putVs acc (vs.take 0) (ds.take 0) = acc := by simp [putVs]
theorem putVs_all {acc vs ds : List Int} {k : Nat} (h1 : vs.length ≤ k) (h2 : ds.length ≤ k) : putVs acc (vs.take k) (ds.take k) = putVs acc vs ds := by
  rw [List.take_of_length_le h1, List.take_of_length_le h2]
theorem allIn_set {z : Int} {xs : List Int} {k : Nat} {x : Int} (h : allIn z xs = true) (h0 : 0 ≤ x ∧ x < z) : allIn z (xs.set k x) = true := by
  unfold allIn at h ⊢
  rw [List.all_eq_true] at h ⊢
  intro y hy
  rcases List.mem_or_eq_of_mem_set hy with h1 | h1
  · exact h y h1
  · subst h1; simpa using h0
theorem putVs_in {z : Int} : ∀ (vs ds acc : List Int), allIn z acc = true → allIn z ds = true → allIn z (putVs acc vs ds) = true
  | [], _, _, h, _ => h
  | _ :: _, [], _, h, _ => h
  | v :: vs, d :: ds, acc, h, hd => by
    rw [putVs]
    have h1 : (0 ≤ d ∧ d < z) ∧ allIn z ds = true := by
      unfold allIn at hd ⊢
      simpa using hd
    exact putVs_in vs ds _ (allIn_set h h1.1) h1.2
theorem allIn_rep {z : Int} (hz : 1 ≤ z) (n : Nat) : allIn z (List.replicate n 0) = true := by
  unfold allIn
  rw [List.all_eq_true]
  intro y hy
  have := List.eq_of_mem_replicate hy
  subst this
  simp; omega

/-- How many values, from the variable 0 on, are enough. -/
def needN (zs : List Int) : Nat := if zs.contains 5 then 6 else if zs.contains 4 then 5 else if zs.contains 3 then 4 else if zs.contains 2 then 3 else if zs.contains 1 then 2 else if zs.contains 0 then 1 else 0
theorem needN_le (zs : List Int) : needN zs ≤ 6 := by
  unfold needN
  repeat' split
  all_goals omega
theorem need_last (zs : List Int) : ((varsL zs).length = 0 ∧ needN zs = 0) ∨ (∃ q : Nat, (varsL zs)[(varsL zs).length - 1]? = some (q : Int) ∧ needN zs = q + 1 ∧ 0 < (varsL zs).length) := by
  unfold varsL needN
  rw [show List.range 6 = [0, 1, 2, 3, 4, 5] from rfl]
  simp only [List.map_cons, List.map_nil, List.filter_cons, List.filter_nil]
  rw [show ((0 : Nat) : Int) = 0 from rfl, show ((1 : Nat) : Int) = 1 from rfl, show ((2 : Nat) : Int) = 2 from rfl, show ((3 : Nat) : Int) = 3 from rfl, show ((4 : Nat) : Int) = 4 from rfl, show ((5 : Nat) : Int) = 5 from rfl]
  generalize zs.contains 0 = b0
  generalize zs.contains 1 = b1
  generalize zs.contains 2 = b2
  generalize zs.contains 3 = b3
  generalize zs.contains 4 = b4
  generalize zs.contains 5 = b5
  cases b5 <;> cases b4 <;> cases b3 <;> cases b2 <;> cases b1 <;> cases b0 <;> first
    | exact Or.inl ⟨rfl, rfl⟩
    | exact Or.inr ⟨0, rfl, rfl, by decide⟩
    | exact Or.inr ⟨1, rfl, rfl, by decide⟩
    | exact Or.inr ⟨2, rfl, rfl, by decide⟩
    | exact Or.inr ⟨3, rfl, rfl, by decide⟩
    | exact Or.inr ⟨4, rfl, rfl, by decide⟩
    | exact Or.inr ⟨5, rfl, rfl, by decide⟩
theorem need_fit {zs : List Int} {x : Int} (hx : x ∈ zs) (h6 : x < 6) : x < (needN zs : Int) := by
  by_cases h0 : x < 0
  · omega
  · have hc : zs.contains x = true := List.contains_iff_mem.2 hx
    have h : x = 0 ∨ x = 1 ∨ x = 2 ∨ x = 3 ∨ x = 4 ∨ x = 5 := by omega
    unfold needN
    rcases h with rfl | rfl | rfl | rfl | rfl | rfl <;> (simp only [hc]; (repeat' split) <;> simp_all)
theorem need_mem {zs : List Int} (h : 0 < needN zs) : ((needN zs : Int) - 1) ∈ zs := by
  unfold needN at h ⊢
  have hm : ∀ x : Int, zs.contains x = true → x ∈ zs := fun x hx => List.contains_iff_mem.1 hx
  repeat' split
  all_goals first
    | (rename_i h_; exact hm _ h_)
    | (simp_all; done)
theorem vars_need {zs : List Int} {v : Int} (h : v ∈ varsL zs) : 0 ≤ v ∧ v < 6 ∧ v ∈ zs := by
  unfold varsL at h
  rw [List.mem_filter] at h
  obtain ⟨h1, h2⟩ := h
  obtain ⟨j, hj, rfl⟩ := List.mem_map.1 h1
  have := List.mem_range.1 hj
  exact ⟨by omega, by omega, List.contains_iff_mem.1 h2⟩
theorem need_max {xs ys : List Int} (h1 : xs ≠ []) (h2 : ys ≠ []) (hb1 : ∀ x, x ∈ xs → x < 6) (hb2 : ∀ x, x ∈ ys → x < 6) : max (max (maxL xs + 1) 0) (max (maxL ys + 1) 0) = (needN (xs ++ ys) : Int) := by
  have f1 := need_fit (zs := xs ++ ys) (List.mem_append_left ys (maxL_mem h1)) (hb1 _ (maxL_mem h1))
  have f2 := need_fit (zs := xs ++ ys) (List.mem_append_right xs (maxL_mem h2)) (hb2 _ (maxL_mem h2))
  rcases Nat.eq_zero_or_pos (needN (xs ++ ys)) with h0 | h0
  · omega
  · have hm := need_mem h0
    rcases List.mem_append.1 hm with h | h
    · have := maxL_ge h; omega
    · have := maxL_ge h; omega

/-- The values at a number: those of the variables are its digits. -/
def cntV (z : Int) (zs : List Int) (at_ : Nat) : List Int := putVs (List.replicate (needN zs) 0) (varsL zs) (digs z (varsL zs).length (at_ : Int))
theorem cntV_len (z : Int) (zs : List Int) (at_ : Nat) : (cntV z zs at_).length = needN zs := by unfold cntV; rw [putVs_len]; simp
theorem cntV_in {z : Int} (hz : 1 ≤ z) (zs : List Int) (at_ : Nat) : allIn z (cntV z zs at_) = true := putVs_in _ _ _ (allIn_rep hz _) (digs_in hz _ _)
theorem cntV_again (z : Int) (zs : List Int) (i j : Nat) : putVs (cntV z zs i) (varsL zs) (digs z (varsL zs).length (j : Int)) = cntV z zs j := putVs_again _ _ _ _ (digs_len _ _ _) (digs_len _ _ _)

/-- The first number below n that has a property. -/
def firstN (P : Nat → Bool) : Nat → Option Nat
  | 0 => none
  | n + 1 => match firstN P n with
    | some k => some k
    | none => if P n then some n else none
theorem firstN_none {P : Nat → Bool} : ∀ {n : Nat}, (∀ i, i < n → P i = false) → firstN P n = none
  | 0, _ => rfl
  | n + 1, h => by rw [firstN, firstN_none (fun i hi => h i (by omega)), h n (by omega)]; rfl
theorem firstN_some {P : Nat → Bool} {j : Nat} (h : ∀ i, i < j → P i = false) (hj : P j = true) : ∀ {n : Nat}, j < n → firstN P n = some j
  | 0, hn => by omega
  | n + 1, hn => by
    rw [firstN]
    by_cases hjn : j = n
    · subst hjn; rw [firstN_none h, hj]; rfl
    · rw [firstN_some h hj (by omega)]

/-- Whether the values at a number refute an identity. -/
def badB (z : Int) (fs : List OpD) (xs ys : List Int) (at_ : Nat) : Bool := evT z fs (cntV z (xs ++ ys) at_) xs != evT z fs (cntV z (xs ++ ys) at_) ys
def cntR (z : Int) (fs : List OpD) (xs ys : List Int) : List Int × Bool :=
  match firstN (badB z fs xs ys) (powI z (varsL (xs ++ ys)).length).toNat with
  | some k => (cntV z (xs ++ ys) k, true)
  | none => ([], false)
theorem cntR_some {z : Int} {fs : List OpD} {xs ys : List Int} {j p : Nat} (hp : powI z (varsL (xs ++ ys)).length = (p : Int)) (h : ∀ i, i < j → badB z fs xs ys i = false) (hj : badB z fs xs ys j = true) (hn : j < p) : cntR z fs xs ys = (cntV z (xs ++ ys) j, true) := by
  unfold cntR
  rw [hp, Int.toNat_natCast, firstN_some h hj hn]
theorem cntR_none {z : Int} {fs : List OpD} {xs ys : List Int} {p : Nat} (hp : powI z (varsL (xs ++ ys)).length = (p : Int)) (h : ∀ i, i < p → badB z fs xs ys i = false) : cntR z fs xs ys = ([], false) := by
  unfold cntR
  rw [hp, Int.toNat_natCast, firstN_none h]
/-- Whether an identity can be checked. -/
def askB (z : Int) (fs : List OpD) (xs ys : List Int) : Bool := (algOkB z fs && (termB fs xs && termB fs ys)) && decide (powI z (varsL (xs ++ ys)).length ≤ 5000)
def valFirstCounter (z : Int) (fs : List OpD) (xs ys : List Int) : List Int × Bool := if askB z fs xs ys then cntR z fs xs ys else ([], false)
def valDoesHold (z : Int) (fs : List OpD) (xs ys : List Int) : Bool × Bool := if askB z fs xs ys then (!(cntR z fs xs ys).2, true) else (false, false)
theorem cntR_len (z : Int) (fs : List OpD) (xs ys : List Int) : (cntR z fs xs ys).1.length ≤ 6 := by
  unfold cntR
  split
  · rw [cntV_len]; exact needN_le _
  · simp
theorem smallFirstCounter (z : Int) (fs : List OpD) (xs ys : List Int) : (valFirstCounter z fs xs ys).1.length ≤ 4194304 := by
  unfold valFirstCounter
  split
  · have := cntR_len z fs xs ys; omega
  · simp

end Go.Proofs.Yteealelfghimbaa
