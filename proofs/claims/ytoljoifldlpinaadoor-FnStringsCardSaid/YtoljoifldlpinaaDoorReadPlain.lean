/-
  Plain mathematics: the decimal numeral of a number is read back as that number. No condition but the range -999999 .. 999999; nothing of the program.
-/
import Derived.Lib.Atoi
import Derived.Lib.AtoiAll
import Derived.Lib.AtoiTie
import Derived.Lib.ItoaNum
import Derived.Lib.ItoaMem
namespace Go.Proofs.YtoljoifldlpinaaDoor
open Go

theorem digitVal_of {d : Nat} (h : d < 10) : Lib.digitVal (UInt8.ofNat (48 + d)) = some d := by
  have e : (UInt8.ofNat (48 + d)).toNat = 48 + d := by rw [UInt8.toNat_ofNat']; omega
  unfold Lib.digitVal
  rw [e, if_pos (by omega)]
  congr 1
  omega
theorem decFrom_app : ∀ (l : List UInt8) (acc n d : Nat) (b : UInt8), Lib.decFrom acc l = some n → Lib.digitVal b = some d → Lib.decFrom acc (l ++ [b]) = some (n * 10 + d)
  | [], acc, n, d, b, h, hd => by
    simp only [Lib.decFrom, Option.some.injEq] at h
    subst h
    simp [Lib.decFrom, hd]
  | c :: l, acc, n, d, b, h, hd => by
    simp only [Lib.decFrom, List.cons_append] at h ⊢
    split at h
    · exact decFrom_app l _ n d b h hd
    · cases h
theorem decFrom_dec (b : Nat) : ∀ u, u ≤ b → Lib.decFrom 0 (Lib.decDigits u) = some u := by
  induction b with
  | zero =>
    intro u h
    obtain rfl : u = 0 := by omega
    rw [Lib.decDigits_one (by omega)]
    have := digitVal_of (d := 0) (by omega)
    simp only [Lib.decFrom, this]
  | succ b ih =>
    intro u h
    by_cases h10 : u < 10
    · rw [Lib.decDigits_one h10]
      simp only [Lib.decFrom, digitVal_of h10]
      congr 1
      omega
    · rw [Lib.decDigits, dif_neg h10, decFrom_app _ _ _ _ _ (ih (u / 10) (by omega)) (digitVal_of (Nat.mod_lt _ (by omega)))]
      congr 1
      omega
theorem decFrom_some : ∀ (l : List UInt8) (acc n : Nat), Lib.decFrom acc l = some n → ∀ (j : Nat) (b : UInt8), l[j]? = some b → 48 ≤ b.toNat ∧ b.toNat ≤ 57
  | [], _, _, _, j, b, hb => by simp at hb
  | c :: l, acc, n, h, j, b, hb => by
    simp only [Lib.decFrom] at h
    split at h
    · rename_i e he
      cases j with
      | zero =>
        simp only [List.getElem?_cons_zero, Option.some.injEq] at hb
        subst hb
        unfold Lib.digitVal at he
        split at he
        · assumption
        · cases he
      | succ j => exact decFrom_some l _ n h j b (by simpa using hb)
    · cases h
theorem dec_ne (u : Nat) : Lib.decDigits u ≠ [] := by
  intro h
  have := Lib.decDigits_length u
  rw [h] at this
  have := Lib.nDigits_pos u
  simp at *
  omega
theorem nd_bound : ∀ (k v : Nat), v < 10 ^ (k + 1) → Lib.nDigits v ≤ k + 1
  | 0, v, h => by rw [Lib.nDigits_small (by omega)]; exact Nat.le_refl _
  | k + 1, v, h => by
    by_cases hv : v < 10
    · rw [Lib.nDigits_small hv]; omega
    · rw [Lib.nDigits_big hv]
      have := nd_bound k (v / 10) (by rw [Nat.pow_succ] at h; omega)
      omega
theorem dec_len6 {u : Nat} (h : u ≤ 999999) : (Lib.decDigits u).length ≤ 6 := by
  rw [Lib.decDigits_length]; exact nd_bound 5 u (by omega)
theorem dec_digit {u : Nat} {j : Nat} {b : UInt8} (h : (Lib.decDigits u)[j]? = some b) : 48 ≤ b.toNat ∧ b.toNat ≤ 57 :=
  decFrom_some _ _ _ (decFrom_dec u u (Nat.le_refl _)) j b h

/-- 'neg': s is a minus and T; else s is T, which does not begin with a minus or is short. -/
def Lead (neg : Bool) (s T : List UInt8) : Prop := (neg = true → s = 45 :: T) ∧ (neg = false → s = T ∧ (s.length ≤ 1 ∨ s[0]? ≠ some 45))
def signed (neg : Bool) (m : Nat) : Int := if neg then -(m : Int) else (m : Int)
theorem lead_num {neg : Bool} {s T : List UInt8} (h : Lead neg s T) {n : Int} (h0 : -999999 ≤ n) (h1 : n ≤ 999999) (hn : Lib.itoa n = s) : T = Lib.decDigits n.natAbs ∧ n = signed neg n.natAbs := by
  unfold Lib.itoa at hn
  cases neg with
  | true =>
    have hs := h.1 rfl
    split at hn
    · rw [hs] at hn
      simp only [List.cons.injEq, true_and] at hn
      exact ⟨hn.symm, by unfold signed; simp; omega⟩
    · exfalso
      rw [hs] at hn
      have := dec_digit (u := n.toNat) (j := 0) (b := 45) (by rw [hn]; rfl)
      simp at this
  | false =>
    obtain ⟨hs, h2⟩ := h.2 rfl
    split at hn
    · exfalso
      rcases h2 with h2 | h2
      · have := dec_ne n.natAbs
        rw [← hn] at h2
        cases hd : Lib.decDigits n.natAbs with
        | nil => exact this hd
        | cons a r => rw [hd] at h2; simp at h2
      · rw [← hn] at h2
        simp at h2
    · refine ⟨?_, by unfold signed; simp; omega⟩
      rw [← hs, ← hn]
      congr 1
      omega
theorem no_num_len {neg : Bool} {s T : List UInt8} (h : Lead neg s T) (hl : T.length < 1 ∨ 6 < T.length) (n : Int) (h0 : -999999 ≤ n) (h1 : n ≤ 999999) : Lib.itoa n ≠ s := by
  intro hn
  obtain ⟨hT, _⟩ := lead_num h h0 h1 hn
  have a := dec_len6 (u := n.natAbs) (by omega)
  have b := dec_ne n.natAbs
  rw [← hT] at a b
  have : T.length ≠ 0 := fun e => b (List.eq_nil_of_length_eq_zero e)
  omega
theorem no_num_byte {neg : Bool} {s T : List UInt8} (h : Lead neg s T) {j : Nat} {b : UInt8} (hb : T[j]? = some b) (hd : b.toNat < 48 ∨ 57 < b.toNat) (n : Int) (h0 : -999999 ≤ n) (h1 : n ≤ 999999) : Lib.itoa n ≠ s := by
  intro hn
  obtain ⟨hT, _⟩ := lead_num h h0 h1 hn
  rw [hT] at hb
  have := dec_digit hb
  omega
theorem num_is {neg : Bool} {s T : List UInt8} (h : Lead neg s T) {m : Nat} (hm : Lib.decFrom 0 T = some m) {n : Int} (h0 : -999999 ≤ n) (h1 : n ≤ 999999) (hn : Lib.itoa n = s) : n = signed neg m := by
  obtain ⟨hT, hs⟩ := lead_num h h0 h1 hn
  rw [hT, decFrom_dec n.natAbs _ (Nat.le_refl _)] at hm
  rw [← Option.some.inj hm]
  exact hs
theorem decFrom_lt : ∀ (k : Nat) (l : List UInt8) (m : Nat), Lib.decFrom 0 (l.take k) = some m → k ≤ l.length → m < 10 ^ k
  | 0, l, m, h, _ => by simp only [List.take_zero, Lib.decFrom, Option.some.injEq] at h; omega
  | k + 1, l, m, h, hk => by
    have hb : l[k]? = some l[k] := List.getElem?_eq_getElem (by omega)
    have hd := decFrom_some _ _ _ h k l[k] (by rw [List.getElem?_take, if_pos (by omega)]; exact hb)
    cases hp : Lib.decFrom 0 (l.take k) with
    | none =>
      exfalso
      have e : l.take (k + 1) = l.take k ++ [l[k]] := List.take_succ_eq_append_getElem (by omega)
      rw [e] at h
      have : ∀ (a : List UInt8) (acc : Nat) (b : UInt8), Lib.decFrom acc a = none → Lib.decFrom acc (a ++ [b]) = none := by
        intro a
        induction a with
        | nil => intro acc b h; simp [Lib.decFrom] at h
        | cons c r ih =>
          intro acc b h
          simp only [Lib.decFrom, List.cons_append] at h ⊢
          split at h
          · exact ih _ _ h
          · rfl
      rw [this _ _ _ hp] at h
      cases h
    | some m' =>
      have h2 := decFrom_lt k l m' hp (by omega)
      have h3 := Lib.decFrom_take l k 0 m' l[k] (l[k].toNat - 48) hp hb (by unfold Lib.digitVal; rw [if_pos hd])
      rw [h3] at h
      have := Option.some.inj h
      rw [Nat.pow_succ]
      omega

/-- What Atoi says of the numeral of a number in range. -/
theorem atoi_itoa {n : Int} (h0 : -999999 ≤ n) (h1 : n ≤ 999999) : Lib.atoiAll (Lib.itoa n) = .ok n := by
  have hl : (Lib.itoa n).length ≤ 18 := by
    have := dec_len6 (u := n.natAbs) (by omega)
    have := dec_len6 (u := n.toNat) (by omega)
    unfold Lib.itoa
    split <;> simp <;> omega
  rw [Lib.atoiAll_short _ hl]
  have hd : ∀ u, Lib.decNat (Lib.decDigits u) = some u := fun u => by
    unfold Lib.decNat
    rw [if_neg (by simpa using dec_ne u)]
    exact decFrom_dec u u (Nat.le_refl _)
  have : Lib.atoi (Lib.itoa n) = some n := by
    unfold Lib.itoa
    split
    · unfold Lib.atoi
      simp only [hd]
      simp
      omega
    · cases hc : Lib.decDigits n.toNat with
      | nil => exact absurd hc (dec_ne _)
      | cons b r =>
        have hb := dec_digit (u := n.toNat) (j := 0) (b := b) (by rw [hc]; rfl)
        have e1 : (b == 45) = false := by rw [beq_eq_false_iff_ne]; rintro rfl; simp at hb
        have e2 : (b == 43) = false := by rw [beq_eq_false_iff_ne]; rintro rfl; simp at hb
        unfold Lib.atoi
        simp only [e1, e2, Bool.false_eq_true, if_false]
        rw [← hc, hd]
        simp
        omega
  rw [this]
  rfl
theorem itoa_inj {n m : Int} (h0 : -999999 ≤ n) (h1 : n ≤ 999999) (g0 : -999999 ≤ m) (g1 : m ≤ 999999) (h : Lib.itoa n = Lib.itoa m) : n = m := by
  have a := atoi_itoa h0 h1
  rw [h, atoi_itoa g0 g1] at a
  injection a with a
  exact a.symm

end Go.Proofs.YtoljoifldlpinaaDoor
