/-
  Plain mathematics: the values united for arguments that differ at one place; a partition is a congruence. No condition.
-/
import Derived.Test.YtcmjkfcgekmomaaTrnM
namespace Go.Proofs.Ytcmjkfcgekmomaa
open Go.RowKit
set_option linter.unusedVariables false
set_option linter.unusedSimpArgs false

theorem joinF_keep {g : Nat → Int} {x y a b : Nat} (h : g a = g b) : joinF g x y a = joinF g x y b := by unfold joinF; rw [h]
theorem joinF_tie (g : Nat → Int) (x y : Nat) : joinF g x y x = joinF g x y y := by unfold joinF; split <;> split <;> omega
theorem joinF_same {g : Nat → Int} {x y : Nat} (h : g x = g y) : joinF g x y = g := by
  funext z; unfold joinF; split <;> omega

/-- The value where one argument gives way to the least one of its block. -/
def othL (z : Nat) (f : OpD) (p : Nat → Int) (a q : Nat) : List Int := (digs z f.1.toNat a).set q (p ((digs z f.1.toNat a).getD q 0).toNat)
def othA (z : Nat) (f : OpD) (p : Nat → Int) (a q : Nat) : Int := atA z f (othL z f p a q)
def pu1 (z : Nat) (f : OpD) (p : Nat → Int) (a : Nat) (g : Nat → Int) : Nat → Nat → Int
  | 0 => g
  | q + 1 => joinF (pu1 z f p a g q) (gI f.2 a).toNat (othA z f p a q).toNat
def pu2 (z : Nat) (f : OpD) (p : Nat → Int) (g : Nat → Int) : Nat → Nat → Int
  | 0 => g
  | a + 1 => pu1 z f p a (pu2 z f p g a) f.1.toNat
def pu3 (z : Nat) (fs : List OpD) (p : Nat → Int) (g : Nat → Int) : Nat → Nat → Int
  | 0 => g
  | k + 1 => pu2 z (opAt fs k) p (pu3 z fs p g k) (opAt fs k).2.length
def pushF (z : Nat) (fs : List OpD) (p : Nat → Int) : Nat → Int := pu3 z fs p p fs.length

theorem pu1_keep {z : Nat} {f : OpD} {p : Nat → Int} {a : Nat} {g : Nat → Int} {u v : Nat} (h : g u = g v) : ∀ n, pu1 z f p a g n u = pu1 z f p a g n v
  | 0 => h
  | n + 1 => joinF_keep (pu1_keep h n)
theorem pu2_keep {z : Nat} {f : OpD} {p : Nat → Int} {g : Nat → Int} {u v : Nat} (h : g u = g v) : ∀ n, pu2 z f p g n u = pu2 z f p g n v
  | 0 => h
  | n + 1 => pu1_keep (pu2_keep h n) _
theorem pu3_keep {z : Nat} {fs : List OpD} {p : Nat → Int} {g : Nat → Int} {u v : Nat} (h : g u = g v) : ∀ n, pu3 z fs p g n u = pu3 z fs p g n v
  | 0 => h
  | n + 1 => pu2_keep (pu3_keep h n) _
theorem pu1_tie {z : Nat} {f : OpD} {p : Nat → Int} {a : Nat} {g : Nat → Int} {q : Nat} : ∀ {n}, q < n → pu1 z f p a g n (gI f.2 a).toNat = pu1 z f p a g n (othA z f p a q).toNat
  | 0, h => absurd h (by omega)
  | n + 1, h => by
    by_cases hq : q < n
    · exact joinF_keep (pu1_tie hq)
    · obtain rfl : q = n := by omega
      exact joinF_tie _ _ _
theorem pu2_tie {z : Nat} {f : OpD} {p : Nat → Int} {g : Nat → Int} {a q : Nat} (hq : q < f.1.toNat) : ∀ {n}, a < n → pu2 z f p g n (gI f.2 a).toNat = pu2 z f p g n (othA z f p a q).toNat
  | 0, h => absurd h (by omega)
  | n + 1, h => by
    by_cases ha : a < n
    · exact pu1_keep (pu2_tie hq ha) _
    · obtain rfl : a = n := by omega
      exact pu1_tie hq
theorem pu3_tie {z : Nat} {fs : List OpD} {p : Nat → Int} {g : Nat → Int} {k a q : Nat} (ha : a < (opAt fs k).2.length) (hq : q < (opAt fs k).1.toNat) : ∀ {n}, k < n → pu3 z fs p g n (gI (opAt fs k).2 a).toNat = pu3 z fs p g n (othA z (opAt fs k) p a q).toNat
  | 0, h => absurd h (by omega)
  | n + 1, h => by
    by_cases hk : k < n
    · exact pu2_keep (pu3_tie ha hq hk) _
    · obtain rfl : k = n := by omega
      exact pu2_tie hq ha
theorem pu1_same {z : Nat} {f : OpD} {p : Nat → Int} {a : Nat} {g : Nat → Int} : ∀ n, (∀ q, q < n → g (gI f.2 a).toNat = g (othA z f p a q).toNat) → pu1 z f p a g n = g
  | 0, _ => rfl
  | n + 1, h => by rw [pu1, pu1_same n fun q hq => h q (by omega), joinF_same (h n (by omega))]
theorem pu2_same {z : Nat} {f : OpD} {p : Nat → Int} {g : Nat → Int} : ∀ n, (∀ a, a < n → ∀ q, q < f.1.toNat → g (gI f.2 a).toNat = g (othA z f p a q).toNat) → pu2 z f p g n = g
  | 0, _ => rfl
  | n + 1, h => by rw [pu2, pu2_same n fun a ha => h a (by omega), pu1_same _ (h n (by omega))]
theorem pu3_same {z : Nat} {fs : List OpD} {p : Nat → Int} {g : Nat → Int} : ∀ n, (∀ k, k < n → ∀ a, a < (opAt fs k).2.length → ∀ q, q < (opAt fs k).1.toNat → g (gI (opAt fs k).2 a).toNat = g (othA z (opAt fs k) p a q).toNat) → pu3 z fs p g n = g
  | 0, _ => rfl
  | n + 1, h => by rw [pu3, pu3_same n fun a ha => h a (by omega), pu2_same _ (h n (by omega))]

/-- For arguments that differ at one place only, where they are in one block, values are in one block. -/
def compP (z : Nat) (fs : List OpD) (p : Nat → Int) : Prop :=
  ∀ k, k < fs.length → ∀ a, a < (opAt fs k).2.length → ∀ q, q < (opAt fs k).1.toNat → p (gI (opAt fs k).2 a).toNat = p (othA z (opAt fs k) p a q).toNat

theorem opAt_ok {z : Int} {fs : List OpD} (h : algOkB z fs = true) {k : Nat} (hk : k < fs.length) : opOkB z (opAt fs k) = true := by
  have hf : fs[k]? = some (fs[k]'hk) := List.getElem?_eq_getElem hk
  rw [opAt_get hf]
  exact (algOkB_of h).2.2 _ (List.mem_of_getElem? hf)
theorem tab_bd {z : Nat} {f : OpD} (h : opOkB (z : Int) f = true) {i : Nat} (hi : i < f.2.length) : 0 ≤ gI f.2 i ∧ gI f.2 i < z := allIn_get (opOkB_of h).2.2 (get_gI rfl hi)
theorem tab_len {z : Nat} {f : OpD} (h : opOkB (z : Int) f = true) : f.2.length = z ^ f.1.toNat := by
  have h2 := (opOkB_of h).2.1
  rw [powI_nat] at h2
  exact Int.ofNat_inj.1 h2
theorem oth_in {z : Nat} {f : OpD} {p : Nat → Int} {a q : Nat} (hz : 1 ≤ z) (hp : ∀ x, x < z → 0 ≤ p x ∧ p x < z) (hq : q < f.1.toNat) : allIn (z : Int) (othL z f p a q) = true := by
  have hd := dg_get z f.1.toNat a q hq
  have h0 : a / z ^ (f.1.toNat - 1 - q) % z < z := Nat.mod_lt _ (by omega)
  have h1 := hp _ h0
  unfold allIn othL
  rw [List.all_eq_true]
  intro x hx
  rcases List.mem_or_eq_of_mem_set hx with h | h
  · exact List.all_eq_true.1 (digs_in (z := (z : Int)) (by omega) f.1.toNat a) x h
  · subst h
    rw [List.getD_eq_getElem?_getD, hd]
    simp only [Option.getD_some, Int.toNat_natCast]
    simp; omega
theorem oth_len {z : Nat} {f : OpD} {p : Nat → Int} {a q : Nat} : (othL z f p a q).length = f.1.toNat := by unfold othL; rw [List.length_set, digs_len]
theorem oth_bd {z : Nat} {f : OpD} {p : Nat → Int} {a q : Nat} (hz : 1 ≤ z) (hok : opOkB (z : Int) f = true) (hp : ∀ x, x < z → 0 ≤ p x ∧ p x < z) (hq : q < f.1.toNat) : 0 ≤ othA z f p a q ∧ othA z f p a q < z := by
  have h := at_get (z := (z : Int)) (by omega) hok (by rw [oth_len]; have := (opOkB_of hok).1; omega) (oth_in (a := a) hz hp hq)
  exact allIn_get (opOkB_of hok).2.2 h.2.2
/-- The place of the other arguments. -/
theorem oth_at {z : Nat} {f : OpD} {p : Nat → Int} {a q : Nat} (hz : 1 ≤ z) (hok : opOkB (z : Int) f = true) (hp : ∀ x, x < z → 0 ≤ p x ∧ p x < z) (hq : q < f.1.toNat) (ha : a < f.2.length) :
    othA z f p a q = gI f.2 (a + (p (a / z ^ (f.1.toNat - 1 - q) % z)).toNat * z ^ (f.1.toNat - 1 - q) - (a / z ^ (f.1.toNat - 1 - q) % z) * z ^ (f.1.toNat - 1 - q)) := by
  have hd := dg_get z f.1.toNat a q hq
  have h0 : a / z ^ (f.1.toNat - 1 - q) % z < z := Nat.mod_lt _ (by omega)
  have h1 := hp _ h0
  rw [tab_len hok] at ha
  have hs := dg_set z hz f.1.toNat a q (p (a / z ^ (f.1.toNat - 1 - q) % z)).toNat hq ha
  have e : othL z f p a q = (digs z f.1.toNat a).set q (((p (a / z ^ (f.1.toNat - 1 - q) % z)).toNat : Nat) : Int) := by
    unfold othL
    rw [List.getD_eq_getElem?_getD, hd, Option.getD_some, Int.toNat_natCast, Int.toNat_of_nonneg h1.1]
  unfold othA atA gI
  rw [e]
  congr 1
  omega

theorem form_lt {z st M Q d d' r : Nat} (hst : 0 < st) (hr : r < st) (h : (Q * z + d) * st + r < M * z * st) (hd' : d' < z) : (Q * z + d') * st + r < M * z * st := by
  have h1 : Q * z + d < M * z := by
    rcases Nat.lt_or_ge (Q * z + d) (M * z) with h2 | h2
    · exact h2
    · have := Nat.mul_le_mul_right st h2
      omega
  have h2 : Q < M := by
    rcases Nat.lt_or_ge Q M with h2 | h2
    · exact h2
    · have := Nat.mul_le_mul_right z h2
      omega
  have h3 : (Q + 1) * z ≤ M * z := Nat.mul_le_mul_right z h2
  rw [Nat.add_mul, Nat.one_mul] at h3
  have h4 : (Q * z + d' + 1) * st ≤ M * z * st := Nat.mul_le_mul_right st (by omega)
  rw [Nat.add_mul, Nat.one_mul] at h4
  omega
/-- One digit in another's place: where it leads, what stands there, and the way back. -/
theorem dig_move {z m j i d' : Nat} (hz : 1 ≤ z) (hj : j < m) (hi : i < z ^ m) (hd : d' < z) :
    i + d' * z ^ j - (i / z ^ j % z) * z ^ j < z ^ m ∧ (i + d' * z ^ j - (i / z ^ j % z) * z ^ j) / z ^ j % z = d' ∧
    i + d' * z ^ j - (i / z ^ j % z) * z ^ j + (i / z ^ j % z) * z ^ j - d' * z ^ j = i := by
  have hst : 0 < z ^ j := Nat.pow_pos (by omega)
  have hf := dig_form (z := z) (st := z ^ j) (i := i) hst
  have hr : i % z ^ j < z ^ j := Nat.mod_lt _ hst
  obtain ⟨st, hs⟩ : ∃ st, z ^ j = st := ⟨_, rfl⟩
  have hm : z ^ m = z ^ (m - 1 - j) * z * st := by
    rw [← hs, ← Nat.pow_succ, ← Nat.pow_add]
    congr 1
    omega
  rw [hs] at hst hf hr ⊢
  obtain ⟨Q, hQ⟩ : ∃ Q, i / st / z = Q := ⟨_, rfl⟩
  obtain ⟨d, hdd⟩ : ∃ d, i / st % z = d := ⟨_, rfl⟩
  obtain ⟨r, hrr⟩ : ∃ r, i % st = r := ⟨_, rfl⟩
  rw [hQ, hdd, hrr] at hf
  rw [hrr] at hr
  rw [hdd]
  have e : i + d' * st - d * st = (Q * z + d') * st + r := by
    rw [hf, Nat.add_mul, Nat.add_mul]; omega
  rw [e]
  refine ⟨?_, dig_at hst hr hd, ?_⟩
  · rw [hm] at hi ⊢
    rw [hf] at hi
    exact form_lt hst hr hi hd
  · rw [hf, Nat.add_mul, Nat.add_mul]; omega

theorem comp_iff {z : Nat} {fs : List OpD} {p : Nat → Int} (hz : 1 ≤ z) (h8 : z ≤ 8) (hok : algOkB (z : Int) fs = true) (hp : ∀ x, x < z → 0 ≤ p x ∧ p x < z) : compK z fs p z = true ↔ compP z fs p := by
  have hval : ∀ k, k < fs.length → ∀ i, i < (opAt fs k).2.length → (f8 (gI (opAt fs k).2 i)).val = (gI (opAt fs k).2 i).toNat := fun k hk i hi => by
    have := tab_bd (opAt_ok hok hk) hi
    exact f8_nat this.1 (by omega)
  rw [compK_get]
  constructor
  · intro h k hk a ha q hq
    have hko := opAt_ok hok hk
    have hL := tab_len hko
    obtain ⟨m, hm⟩ : ∃ m, (opAt fs k).1.toNat = m := ⟨_, rfl⟩
    have hat := oth_at hz hko hp hq ha
    rw [hm] at hL hq hat
    obtain ⟨j, hj⟩ : ∃ j, m - 1 - q = j := ⟨_, rfl⟩
    rw [hj] at hat
    have hx : a / z ^ j % z < z := Nat.mod_lt _ (by omega)
    obtain ⟨p0, p1⟩ := hp _ hx
    rw [hL] at ha
    obtain ⟨h1, h2, h3⟩ := dig_move (z := z) (m := m) (j := j) (i := a) (d' := (p (a / z ^ j % z)).toNat) hz (by omega) ha (by omega)
    obtain ⟨x, hxe⟩ : ∃ x, a / z ^ j % z = x := ⟨_, rfl⟩
    rw [hxe] at hat hx p0 p1 h1 h2 h3
    obtain ⟨i, hi⟩ : ∃ i, a + (p x).toNat * z ^ j - x * z ^ j = i := ⟨_, rfl⟩
    rw [hi] at hat h1 h2 h3
    have hall := List.all_eq_true.1 (h x hx) (prT (opAt fs k) (z ^ j) (p x).toNat x i) (alT_mem.2 ⟨k, hk, opT_mem.2 ⟨j, by rw [hm]; omega, plT_mem.2 ⟨i, by rw [hL]; exact h1, h2, rfl⟩⟩⟩)
    simp only [okT, prT, h3, beq_iff_eq] at hall
    rw [hval k hk i (by rw [hL]; exact h1), hval k hk a (by rw [hL]; exact ha)] at hall
    rw [hat]
    exact hall.symm
  · intro h x hx
    rw [List.all_eq_true]
    intro q hq
    obtain ⟨k, hk, hq⟩ := alT_mem.1 hq
    obtain ⟨j, hj, hq⟩ := opT_mem.1 hq
    obtain ⟨i, hi, hdg, rfl⟩ := plT_mem.1 hq
    have hko := opAt_ok hok hk
    have hL := tab_len hko
    obtain ⟨m, hm⟩ : ∃ m, (opAt fs k).1.toNat = m := ⟨_, rfl⟩
    rw [hm] at hL hj
    have hi2 := hi
    rw [hL] at hi
    obtain ⟨h1, h2, h3⟩ := dig_move (z := z) (m := m) (j := j) (i := i) (d' := x) hz (by omega) hi hx
    rw [hdg] at h1 h2 h3
    obtain ⟨a, ha⟩ : ∃ a, i + x * z ^ j - (p x).toNat * z ^ j = a := ⟨_, rfl⟩
    rw [ha] at h1 h2 h3
    have hc := h k hk a (by rw [hL]; exact h1) (m - 1 - j) (by rw [hm]; omega)
    rw [oth_at hz hko hp (by rw [hm]; omega) (by rw [hL]; exact h1), hm, show m - 1 - (m - 1 - j) = j by omega, h2, h3] at hc
    simp only [okT, prT, ha, beq_iff_eq]
    rw [hval k hk i hi2, hval k hk a (by rw [hL]; exact h1)]
    exact hc.symm

/-- A list is a congruence of an algebra. -/
def congB (z : Nat) (fs : List OpD) (xs : List Int) : Bool := partB (z : Int) xs && compK z fs (gI xs) z
theorem part_bd {z : Nat} {xs : List Int} (h : partB (z : Int) xs = true) : ∀ x, x < z → 0 ≤ gI xs x ∧ gI xs x < z := fun x hx => by
  obtain ⟨h1, h2⟩ := partB_of h
  have := (okAll_get h2 (k := x) (by omega)).1
  omega
theorem push_iff {z : Nat} {fs : List OpD} {xs : List Int} (hz : 1 ≤ z) (h8 : z ≤ 8) (hok : algOkB (z : Int) fs = true) (hp : partB (z : Int) xs = true) : (lstP z (pushF z fs (gI xs)) == xs) = compK z fs (gI xs) z := by
  have hl : xs.length = z := by have := (partB_of hp).1; omega
  rw [Bool.eq_iff_iff, comp_iff hz h8 hok (part_bd hp), beq_iff_eq]
  constructor
  · intro h k hk a ha q hq
    have hko := opAt_ok hok hk
    have h1 := tab_bd hko ha
    have h2 := oth_bd (a := a) hz hko (part_bd hp) hq
    have h3 : ∀ x, x < z → pushF z fs (gI xs) x = gI xs x := fun x hx => by
      have := gI_lstP (pushF z fs (gI xs)) hx
      rw [h] at this
      exact this.symm
    rw [← h3 _ (show (gI (opAt fs k).2 a).toNat < z by omega), ← h3 _ (show (othA z (opAt fs k) (gI xs) a q).toNat < z by omega)]
    exact pu3_tie ha hq hk
  · intro h
    unfold pushF
    rw [pu3_same _ h, ← hl, lstP_gI]
theorem pu1_bd {z n : Nat} {f : OpD} {p : Nat → Int} {a : Nat} {g : Nat → Int} {k : Nat} (hg : 0 ≤ g k) : True := trivial

end Go.Proofs.Ytcmjkfcgekmomaa
