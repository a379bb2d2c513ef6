/-
  Plain mathematics: a sealed string with one byte changed is not sealed. No condition; nothing of the program but names.
-/
import Derived.Test.YtoljoifldlpinaaDoorVerPlain
namespace Go.Proofs.YtoljoifldlpinaaDoor
open Go

/-- The checksum from a start. -/
def ckFrom (a : Int) (l : List UInt8) : Int := l.foldl ckStep a
theorem ck_from (l : List UInt8) : ck l = ckFrom 7 l := rfl
theorem ckFrom_app (a : Int) (l r : List UInt8) : ckFrom a (l ++ r) = ckFrom (ckFrom a l) r := by unfold ckFrom; rw [List.foldl_append]
theorem ckStep_bd (a : Int) (c : UInt8) : 0 ≤ ckStep a c ∧ ckStep a c < 999979 := by unfold ckStep; omega
theorem ckStep_inj {a b : Int} {c : UInt8} (ha : 0 ≤ a ∧ a < 999979) (hb : 0 ≤ b ∧ b < 999979) (h : ckStep a c = ckStep b c) : a = b := by
  unfold ckStep at h
  have h1 : (24389 * 41 : Int) = 999979 - 30 := by omega
  omega
theorem ckFrom_inj : ∀ (l : List UInt8) {a b : Int}, 0 ≤ a ∧ a < 999979 → 0 ≤ b ∧ b < 999979 → ckFrom a l = ckFrom b l → a = b
  | [], _, _, _, _, h => h
  | c :: l, a, b, ha, hb, h => ckStep_inj ha hb (ckFrom_inj l (ckStep_bd a c) (ckStep_bd b c) h)
theorem ck_byte {a : Int} {c d : UInt8} (h : ckStep a c = ckStep a d) : c = d := by
  unfold ckStep at h
  have h1 := c.toNat_lt
  have h2 := d.toNat_lt
  apply UInt8.toNat_inj.1
  omega
/-- One byte changed turns the checksum. -/
theorem ck_set {l : List UInt8} {k : Nat} {v u : UInt8} (hu : l[k]? = some u) (h : ck (l.set k v) = ck l) : v = u := by
  have hk : k < l.length := (List.getElem?_eq_some_iff.1 hu).1
  have e : l = l.take k ++ u :: l.drop (k + 1) := by
    have h2 := List.getElem?_eq_some_iff.1 hu
    rw [← h2.2, ← List.drop_eq_getElem_cons hk, List.take_append_drop]
  have e2 : l.set k v = l.take k ++ v :: l.drop (k + 1) := by
    rw [List.set_eq_take_append_cons_drop, if_pos hk]
  rw [e2] at h
  conv at h => rhs; rw [e]
  rw [ck_from, ck_from, ckFrom_app, ckFrom_app] at h
  exact ck_byte (ckFrom_inj _ (ckStep_bd _ v) (ckStep_bd _ u) h)

theorem one_sep {c : UInt8} {t N : List UInt8} (ht : c ∉ t) (hN : c ∉ N) (j : Nat) (h : (t ++ c :: N)[j]? = some c) : j = t.length := by
  rcases Nat.lt_trichotomy j t.length with h1 | h1 | h1
  · rw [List.getElem?_append_left h1] at h
    exact absurd (List.mem_of_getElem? h) ht
  · exact h1
  · exfalso
    rw [List.getElem?_append_right (by omega)] at h
    obtain ⟨i, hi⟩ : ∃ i, j - t.length = i + 1 := ⟨j - t.length - 1, by omega⟩
    rw [hi, List.getElem?_cons_succ] at h
    exact hN (List.mem_of_getElem? h)
theorem at_sep (c : UInt8) (t N : List UInt8) : (t ++ c :: N)[t.length]? = some c := by simp

/-- The numeral tells the checksum. -/
theorem sumText_inj {s t : ByteArray} (h : (sumText s).data.toList = (sumText t).data.toList) : ck s.data.toList = ck t.data.toList := by
  have a := ck_bd s.data.toList
  have b := ck_bd t.data.toList
  apply itoa_inj (by omega) (by omega) (by omega) (by omega)
  simpa [sumText] using h

/-- A sealed string, one byte changed, is not sealed. -/
theorem tamper {x s : ByteArray} {k : Nat} {u v : UInt8} (hx : Seals x) (hu : (sealOf x).data.toList[k]? = some u) (hv : v ≠ u) (hs : s.data.toList = (sealOf x).data.toList.set k v) : ∀ t, Seals t → sealOf t ≠ s := by
  intro t ht he
  have h1 : (sealOf x).data.toList.set k v = t.data.toList ++ 35 :: (sumText t).data.toList := by rw [← hs, ← he, seal_data]
  rw [seal_data] at h1 hu
  have tx := noSep_mem hx.2.1
  have nx := noSep_mem (sumText_noSep x)
  have tt := noSep_mem ht.2.1
  have nt := noSep_mem (sumText_noSep t)
  obtain ⟨X, hX⟩ : ∃ X, X = x.data.toList := ⟨_, rfl⟩
  obtain ⟨T, hT⟩ : ∃ T, T = t.data.toList := ⟨_, rfl⟩
  obtain ⟨N, hN⟩ : ∃ N, N = (sumText x).data.toList := ⟨_, rfl⟩
  obtain ⟨M, hM⟩ : ∃ M, M = (sumText t).data.toList := ⟨_, rfl⟩
  rw [← hX] at h1 hu tx
  rw [← hT] at h1 tt
  rw [← hN] at h1 hu nx
  rw [← hM] at h1 nt
  have hk : k < (X ++ 35 :: N).length := (List.getElem?_eq_some_iff.1 hu).1
  -- where the one separator lies
  have hlen : X.length = T.length := by
    have h2 := at_sep 35 T M
    rw [← h1] at h2
    by_cases hkT : k = T.length
    · rw [← hkT, List.getElem?_set_self hk] at h2
      have hv35 : v = 35 := Option.some.inj h2
      have hkX : k ≠ X.length := by
        intro e
        rw [e, at_sep] at hu
        exact hv (hv35.trans (Option.some.inj hu))
      have h3 : ((X ++ 35 :: N).set k v)[X.length]? = some 35 := by
        rw [List.getElem?_set_ne hkX, at_sep]
      rw [h1] at h3
      have := one_sep tt nt _ h3
      omega
    · rw [List.getElem?_set_ne hkT] at h2
      exact (one_sep tx nx _ h2).symm
  have hkX : k ≠ X.length := by
    intro e
    have h2 := at_sep 35 T M
    rw [← h1, ← hlen, ← e, List.getElem?_set_self hk] at h2
    rw [e, at_sep] at hu
    exact hv ((Option.some.inj h2).trans (Option.some.inj hu))
  rcases Nat.lt_or_ge k X.length with h | h
  · rw [List.set_append_left _ _ h] at h1
    obtain ⟨e1, e2⟩ := List.append_inj h1 (by rw [List.length_set]; exact hlen)
    have e3 : N = M := (List.cons.inj e2).2
    rw [hN, hM] at e3
    have e4 := sumText_inj e3
    rw [← hX, ← hT, ← e1] at e4
    rw [List.getElem?_append_left h] at hu
    exact hv (ck_set hu e4.symm)
  · rw [List.set_append_right _ _ h] at h1
    obtain ⟨e1, e2⟩ := List.append_inj h1 hlen
    have e3 : x = t := data_inj (by rw [← hX, ← hT, e1])
    obtain ⟨i, hi⟩ : ∃ i, k - X.length = i + 1 := ⟨k - X.length - 1, by omega⟩
    rw [hi, List.set_cons_succ] at e2
    have e4 := (List.cons.inj e2).2
    rw [List.getElem?_append_right h, hi, List.getElem?_cons_succ] at hu
    rw [hM, ← e3, ← hN] at e4
    have h5 : (N.set i v)[i]? = some u := by rw [e4]; exact hu
    rw [List.getElem?_set_self (List.getElem?_eq_some_iff.1 hu).1] at h5
    exact hv (Option.some.inj h5)

end Go.Proofs.YtoljoifldlpinaaDoor
