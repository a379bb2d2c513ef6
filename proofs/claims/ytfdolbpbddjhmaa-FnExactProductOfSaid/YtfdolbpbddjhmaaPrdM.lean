/-
  Plain mathematics: the product of two algebras of the same type, and powers. No condition.
-/
import Derived.Test.YtfdolbpbddjhmaaDigM
namespace Go.Proofs.Ytfdolbpbddjhmaa
open Go.RowKit
set_option linter.unusedVariables false
set_option linter.unusedSimpArgs false

/-- The factors of arguments that are pairs. -/
def dvL (y : Int) (ds : List Int) : List Int := ds.map (fun x => x / y)
def mdL (y : Int) (ds : List Int) : List Int := ds.map (fun x => x % y)
theorem dvL_len (y : Int) (ds : List Int) : (dvL y ds).length = ds.length := by simp [dvL]
theorem mdL_len (y : Int) (ds : List Int) : (mdL y ds).length = ds.length := by simp [mdL]
theorem dvL_get {y x : Int} {ds : List Int} {j : Nat} (h : ds[j]? = some x) : (dvL y ds)[j]? = some (x / y) := by simp [dvL, h]
theorem mdL_get {y x : Int} {ds : List Int} {j : Nat} (h : ds[j]? = some x) : (mdL y ds)[j]? = some (x % y) := by simp [mdL, h]
theorem pair_bd {z y x : Int} (hy : 1 ≤ y) (h0 : 0 ≤ x) (h1 : x < z * y) : 0 ≤ x / y ∧ x / y < z ∧ 0 ≤ x % y ∧ x % y < y :=
  ⟨Int.ediv_nonneg h0 (by omega), Int.ediv_lt_of_lt_mul (by omega) h1, Int.emod_nonneg _ (by omega), Int.emod_lt_of_pos _ (by omega)⟩
theorem dvL_in {z y : Int} (hy : 1 ≤ y) {ds : List Int} (h : allIn (z * y) ds = true) : allIn z (dvL y ds) = true := by
  unfold allIn
  rw [List.all_eq_true]
  intro v hv
  obtain ⟨x, hx, rfl⟩ := List.mem_map.1 hv
  obtain ⟨j, hj⟩ := List.getElem?_of_mem hx
  obtain ⟨a, b⟩ := allIn_get h hj
  obtain ⟨c, d, _, _⟩ := pair_bd hy a b
  simp [c, d]
theorem mdL_in {z y : Int} (hy : 1 ≤ y) {ds : List Int} (h : allIn (z * y) ds = true) : allIn y (mdL y ds) = true := by
  unfold allIn
  rw [List.all_eq_true]
  intro v hv
  obtain ⟨x, hx, rfl⟩ := List.mem_map.1 hv
  obtain ⟨j, hj⟩ := List.getElem?_of_mem hx
  obtain ⟨a, b⟩ := allIn_get h hj
  obtain ⟨_, _, c, d⟩ := pair_bd hy a b
  simp [c, d]
theorem mul_size {z y : Int} (h1 : 1 ≤ z) (h2 : 1 ≤ y) : 1 ≤ z * y := by
  have := Int.mul_le_mul h1 h2 (by omega) (by omega)
  omega

/-- What the product of the operations f and g gives at the place q of its table. -/
def prE (z y : Int) (f g : OpD) (q : Nat) : Int := atA z f (dvL y (digs (z * y) f.1.toNat (q : Int))) * y + atA y g (mdL y (digs (z * y) f.1.toNat (q : Int)))
def prL (p : Int) (f : OpD) : Nat := (powI p f.1.toNat).toNat
def prT (z y : Int) (f g : OpD) (n : Nat) : List Int := (List.range n).map (prE z y f g)
def prO (z y : Int) (f g : OpD) : OpD := (f.1, prT z y f g (prL (z * y) f))
theorem prT_len (z y : Int) (f g : OpD) (n : Nat) : (prT z y f g n).length = n := by simp [prT]
theorem prT_succ (z y : Int) (f g : OpD) (n : Nat) : prT z y f g (n + 1) = prT z y f g n ++ [prE z y f g n] := by simp [prT, List.range_succ]
/-- The table when q of its n places are filled. -/
def prK (z y : Int) (f g : OpD) (n q : Nat) : List Int := prT z y f g q ++ List.replicate (n - q) 0
theorem prK_zero (z y : Int) (f g : OpD) (n : Nat) : prK z y f g n 0 = List.replicate n 0 := by simp [prK, prT]
theorem prK_all (z y : Int) (f g : OpD) (n : Nat) : prK z y f g n n = prT z y f g n := by simp [prK]
theorem prK_len (z y : Int) (f g : OpD) {n q : Nat} (h : q ≤ n) : (prK z y f g n q).length = n := by simp [prK, prT]; omega
theorem prK_set (z y : Int) (f g : OpD) {n q : Nat} (h : q < n) : (prK z y f g n q).set q (prE z y f g q) = prK z y f g n (q + 1) := by
  unfold prK
  rw [List.set_append_right _ _ (by rw [prT_len]; exact Nat.le_refl _), prT_len, Nat.sub_self, prT_succ, show n - q = (n - (q + 1)) + 1 by omega, List.replicate_succ]
  simp

/-- The values at both factors, where they stand, and that they make an element of the product. -/
theorem pr_parts {z y : Int} {f g : OpD} {q m : Nat} (hz : 1 ≤ z) (hy : 1 ≤ y) (hf : opOkB z f = true) (hg : opOkB y g = true) (hm : f.1 = (m : Int)) (hm2 : g.1 = (m : Int)) :
    ∃ i j : Nat, ∃ u v : Int, idxA z (dvL y (digs (z * y) m (q : Int))) = (i : Int) ∧ idxA y (mdL y (digs (z * y) m (q : Int))) = (j : Int) ∧ i < f.2.length ∧ j < g.2.length ∧ f.2[i]? = some u ∧ g.2[j]? = some v ∧
      atA z f (dvL y (digs (z * y) m (q : Int))) = u ∧ atA y g (mdL y (digs (z * y) m (q : Int))) = v ∧ prE z y f g q = u * y + v ∧ 0 ≤ u ∧ u < z ∧ 0 ≤ v ∧ v < y ∧ 0 ≤ u * y ∧ u * y + v < z * y := by
  have hd := digs_in (mul_size hz hy) m (q : Int)
  have hl := digs_len (z * y) m (q : Int)
  obtain ⟨a0, a1, a2⟩ := at_get hz hf (xs := dvL y (digs (z * y) m (q : Int))) (by rw [dvL_len, hl, hm]) (dvL_in hy hd)
  obtain ⟨b0, b1, b2⟩ := at_get hy hg (xs := mdL y (digs (z * y) m (q : Int))) (by rw [mdL_len, hl, hm2]) (mdL_in hy hd)
  obtain ⟨_, _, hfa⟩ := opOkB_of hf
  obtain ⟨_, _, hga⟩ := opOkB_of hg
  obtain ⟨u0, u1⟩ := allIn_get hfa a2
  obtain ⟨v0, v1⟩ := allIn_get hga b2
  obtain ⟨m0, _, m2⟩ := mul_step u0 u1 hy v0 v1
  refine ⟨_, _, _, _, (Int.toNat_of_nonneg a0).symm, (Int.toNat_of_nonneg b0).symm, by omega, by omega, a2, b2, rfl, rfl, ?_, u0, u1, v0, v1, m0, m2⟩
  rw [prE, hm, Int.toNat_natCast]
theorem prL_bd {p : Int} {f : OpD} {m : Nat} (h1 : 1 ≤ p) (h8 : p ≤ 8) (hm : f.1 = (m : Int)) (hm3 : m ≤ 3) : powI p m = (prL p f : Int) ∧ 1 ≤ prL p f ∧ prL p f ≤ 512 := by
  have h3 := powI_bd h1 h8 hm3
  unfold prL
  rw [hm, Int.toNat_natCast]
  omega
theorem prT_in {z y : Int} {f g : OpD} {m : Nat} (hz : 1 ≤ z) (hy : 1 ≤ y) (hf : opOkB z f = true) (hg : opOkB y g = true) (hm : f.1 = (m : Int)) (hm2 : g.1 = (m : Int)) (n : Nat) : allIn (z * y) (prT z y f g n) = true := by
  unfold allIn
  rw [List.all_eq_true]
  intro v hv
  obtain ⟨q, _, rfl⟩ := List.mem_map.1 hv
  obtain ⟨i, j, u, v, _, _, _, _, _, _, _, _, he, u0, u1, v0, v1, h0, h1⟩ := pr_parts (q := q) hz hy hf hg hm hm2
  rw [he]
  have : 0 ≤ u * y + v := by omega
  simp [this, h1]
theorem prO_ok {z y : Int} {f g : OpD} (hz : 1 ≤ z) (hy : 1 ≤ y) (h8 : z * y ≤ 8) (hf : opOkB z f = true) (hg : opOkB y g = true) (he : f.1 = g.1) : opOkB (z * y) (prO z y f g) = true := by
  obtain ⟨⟨a0, a1⟩, hlen, _⟩ := opOkB_of hf
  obtain ⟨m, hm⟩ : ∃ m : Nat, f.1 = (m : Int) := ⟨f.1.toNat, by omega⟩
  have hp := prL_bd (f := f) (mul_size hz hy) h8 hm (by omega)
  have h1 : inB 0 3 (prO z y f g).1 = true := inB_yes a0 a1
  have h2 : ((prO z y f g).2.length : Int) = powI (z * y) (prO z y f g).1.toNat := by
    show ((prT z y f g (prL (z * y) f)).length : Int) = powI (z * y) f.1.toNat
    rw [prT_len, hm, Int.toNat_natCast, hp.1]
  rw [opOkB_rest h1 h2]
  exact prT_in hz hy hf hg hm (by rw [← he]; exact hm) _

/-- The product's operations. -/
def prdL (z y : Int) (fs gs : List OpD) : List OpD := List.zipWith (prO z y) fs gs
theorem prdL_get {z y : Int} {fs gs : List OpD} {k : Nat} {f g : OpD} (hf : fs[k]? = some f) (hg : gs[k]? = some g) : (prdL z y fs gs)[k]? = some (prO z y f g) := by
  simp [prdL, List.getElem?_zipWith, hf, hg]
theorem type_get {fs gs : List OpD} {k : Nat} {f g : OpD} (h : fs.map (·.1) = gs.map (·.1)) (hf : fs[k]? = some f) (hg : gs[k]? = some g) : f.1 = g.1 := by
  have h1 : (fs.map (·.1))[k]? = (gs.map (·.1))[k]? := by rw [h]
  rw [List.getElem?_map, List.getElem?_map, hf, hg] at h1
  simpa using h1
theorem type_len {fs gs : List OpD} (h : fs.map (·.1) = gs.map (·.1)) : fs.length = gs.length := by
  have := congrArg List.length h
  simpa using this
theorem prdL_len {z y : Int} {fs gs : List OpD} (h : fs.map (·.1) = gs.map (·.1)) : (prdL z y fs gs).length = fs.length := by
  have := type_len h
  simp [prdL]; omega
theorem prdL_type {z y : Int} {fs gs : List OpD} (h : fs.map (·.1) = gs.map (·.1)) : (prdL z y fs gs).map (·.1) = fs.map (·.1) := by
  apply List.ext_getElem?
  intro k
  rw [List.getElem?_map, List.getElem?_map]
  cases hf : fs[k]? with
  | none =>
    have h1 : fs.length ≤ k := List.getElem?_eq_none_iff.1 hf
    rw [List.getElem?_eq_none (by rw [prdL_len h]; exact h1)]
  | some f =>
    have hk : k < fs.length := (List.getElem?_eq_some_iff.1 hf).1
    have hg : gs[k]? = some (gs[k]'(by have := type_len h; omega)) := List.getElem?_eq_getElem _
    rw [prdL_get hf hg]; rfl
theorem prdL_ok {z y : Int} {fs gs : List OpD} (hf : algOkB z fs = true) (hg : algOkB y gs = true) (h : fs.map (·.1) = gs.map (·.1)) (h8 : z * y ≤ 8) : algOkB (z * y) (prdL z y fs gs) = true := by
  obtain ⟨⟨a, b⟩, c, d⟩ := algOkB_of hf
  obtain ⟨⟨a2, b2⟩, c2, d2⟩ := algOkB_of hg
  refine algOkB_yes (k := (prdL z y fs gs).length) (mul_size a a2) h8 (by rw [prdL_len h]; exact c) (Nat.le_refl _) ?_
  rw [List.take_length, List.all_eq_true]
  intro o ho
  obtain ⟨k, hk⟩ := List.getElem?_of_mem ho
  have hkl : k < (prdL z y fs gs).length := (List.getElem?_eq_some_iff.1 hk).1
  rw [prdL_len h] at hkl
  have e1 : fs[k]? = some (fs[k]'hkl) := List.getElem?_eq_getElem _
  have e2 : gs[k]? = some (gs[k]'(by have := type_len h; omega)) := List.getElem?_eq_getElem _
  rw [prdL_get e1 e2] at hk
  injection hk with hk
  rw [← hk]
  exact prO_ok a a2 h8 (d _ (List.mem_of_getElem? e1)) (d2 _ (List.mem_of_getElem? e2)) (type_get h e1 e2)

theorem osum_le {fs : List OpD} (h : ∀ f ∈ fs, f.2.length ≤ 512) : osum fs ≤ 512 * fs.length := by
  induction fs with
  | nil => simp [osum]
  | cons f r ih =>
    have h1 := ih fun g hg => h g (by simp [hg])
    have h2 := h f (by simp)
    simp only [osum, List.map_cons, List.sum_cons, List.length_cons] at h1 ⊢
    omega
theorem alg_small {z : Int} {fs : List OpD} (h : algOkB z fs = true) : fs.length + osum fs ≤ 4194304 := by
  obtain ⟨⟨a, b⟩, c, d⟩ := algOkB_of h
  have := osum_le fun f hf => (place_bd a b (d f hf)).1
  omega

/-- The algebra with a single element. -/
def oneO (f : OpD) : OpD := (f.1, [0])
theorem oneO_ok {z : Int} {f : OpD} (hf : opOkB z f = true) : opOkB 1 (oneO f) = true := by
  obtain ⟨⟨a0, a1⟩, _, _⟩ := opOkB_of hf
  have h3 : ∀ k, powI 1 k = 1 := fun k => by induction k with
    | zero => rfl
    | succ k ih => simp [powI, ih]
  have h1 : inB 0 3 (oneO f).1 = true := inB_yes a0 a1
  have h2 : ((oneO f).2.length : Int) = powI 1 (oneO f).1.toNat := by rw [h3]; rfl
  rw [opOkB_rest h1 h2]
  rfl
theorem one_ok {z : Int} {fs : List OpD} (h : algOkB z fs = true) : algOkB 1 (fs.map oneO) = true := by
  obtain ⟨⟨a, b⟩, c, d⟩ := algOkB_of h
  refine algOkB_yes (k := (fs.map oneO).length) (by omega) (by omega) (by simpa using c) (Nat.le_refl _) ?_
  rw [List.take_length, List.all_eq_true]
  intro o ho
  obtain ⟨f, hf, rfl⟩ := List.mem_map.1 ho
  exact oneO_ok (d f hf)
theorem one_type (fs : List OpD) : (fs.map oneO).map (·.1) = fs.map (·.1) := by
  rw [List.map_map]; rfl
/-- The k-th power: its size and its operations. -/
def pwL (z : Int) (fs : List OpD) : Nat → List OpD
  | 0 => fs.map oneO
  | k + 1 => prdL (powI z k) z (pwL z fs k) fs
theorem pwL_type (z : Int) (fs : List OpD) (k : Nat) : (pwL z fs k).map (·.1) = fs.map (·.1) := by
  induction k with
  | zero => exact one_type fs
  | succ k ih => rw [pwL, prdL_type ih, ih]
theorem powI_pos {z : Int} (h : 1 ≤ z) (k : Nat) : 1 ≤ powI z k := by
  induction k with
  | zero => simp [powI]
  | succ k ih => exact mul_size ih h
theorem powI_up {z : Int} (h : 1 ≤ z) (k : Nat) : powI z k ≤ powI z (k + 1) := by
  have h1 := powI_pos h k
  have h2 : powI z k * 1 ≤ powI z k * z := Int.mul_le_mul_of_nonneg_left h (by omega)
  rw [powI]; omega
theorem powI_mono {z : Int} (h : 1 ≤ z) {j k : Nat} (hj : j ≤ k) : powI z j ≤ powI z k := by
  induction k with
  | zero => obtain rfl : j = 0 := by omega
            exact Int.le_refl _
  | succ k ih =>
    by_cases e : j = k + 1
    · subst e; exact Int.le_refl _
    · exact Int.le_trans (ih (by omega)) (powI_up h k)
theorem pwL_ok {z : Int} {fs : List OpD} (h : algOkB z fs = true) : ∀ k, powI z k ≤ 8 → algOkB (powI z k) (pwL z fs k) = true := by
  intro k
  induction k with
  | zero => intro _; exact one_ok h
  | succ k ih =>
    intro h8
    have h1 := (algOkB_of h).1.1
    exact prdL_ok (ih (Int.le_trans (powI_up h1 k) h8)) h (pwL_type z fs k) h8
/-- PowerOf's answer. -/
def powB (z : Int) (fs : List OpD) (k : Int) : Bool := algOkB z fs && (inB 0 3 k && decide (powI z k.toNat ≤ 8))
def valPowerOf (z : Int) (fs : List OpD) (k : Int) : Int × List OpD × Bool := if powB z fs k then (powI z k.toNat, pwL z fs k.toNat, true) else (0, [], false)
theorem smallPowerOf (z : Int) (fs : List OpD) (k : Int) : (valPowerOf z fs k).2.1.length + osum (valPowerOf z fs k).2.1 ≤ 4194304 := by
  unfold valPowerOf
  split
  · rename_i h
    simp only [powB, Bool.and_eq_true, decide_eq_true_eq] at h
    exact alg_small (pwL_ok h.1 _ h.2.2)
  · simp [osum]

end Go.Proofs.Ytfdolbpbddjhmaa
