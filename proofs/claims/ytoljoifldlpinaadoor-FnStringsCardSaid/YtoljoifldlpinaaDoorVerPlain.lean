/-
  Plain mathematics: the first part of a cut string, and strings.Cut's text before the first occurrence, are the text before the separator. No condition; nothing of the program but names.
-/
import Derived.Test.YtoljoifldlpinaaDoorSplitPlain
import Derived.Test.YtoljoifldlpinaaDoorSeal
import Derived.Lib.IndexMore
namespace Go.Proofs.YtoljoifldlpinaaDoor
open Go

theorem index_pre : ∀ (t : List UInt8) (c : UInt8) (N : List UInt8), c ∉ t → Lib.index (t ++ c :: N) [c] = (t.length : Int)
  | [], c, N, _ => by simp [Lib.index]
  | b :: t, c, N, h => by
    have hb : c ≠ b := fun e => h (by simp [e])
    have ih := index_pre t c N (fun hm => h (by simp [hm]))
    have hne : (c == b) = false := beq_eq_false_iff_ne.2 hb
    simp only [List.cons_append, Lib.index, List.isPrefixOf, hne, Bool.false_and, Bool.false_eq_true, if_false]
    rw [ih, if_neg (by simp <;> omega)]
    simp
theorem cut_pre {t : List UInt8} {c : UInt8} {N : List UInt8} (h : c ∉ t) : Lib.cut (t ++ c :: N) [c] = (t, N, true) := by
  unfold Lib.cut
  rw [index_pre t c N h, if_pos (by omega)]
  simp

/-- Before the first c at j (or nowhere before k) nothing is cut. -/
theorem cut_inv (s : ByteArray) (c : UInt8) : ∀ k, k ≤ s.size → (cutAt s c k = (0, []) ∧ ∀ j, j < k → s.data.toList[j]? ≠ some c) ∨
    ∃ j, j < k ∧ s.data.toList[j]? = some c ∧ (∀ i, i < j → s.data.toList[i]? ≠ some c) ∧ (cutAt s c k).2.head? = some (s.extract 0 j)
  | 0, _ => .inl ⟨rfl, fun j h => by omega⟩
  | k + 1, hk => by
    rcases cut_inv s c k (by omega) with ⟨h1, h2⟩ | ⟨j, h1, h2, h3, h4⟩
    · by_cases h : s.data.toList[k]? = some c
      · refine .inr ⟨k, by omega, h, h2, ?_⟩
        rw [cutAt, if_pos h, h1]
        rfl
      · refine .inl ⟨by rw [cutAt, if_neg h, h1], fun j hj => ?_⟩
        rcases Nat.lt_or_ge j k with h5 | h5
        · exact h2 j h5
        · obtain rfl : j = k := by omega
          exact h
    · refine .inr ⟨j, by omega, h2, h3, ?_⟩
      rw [cutAt]
      split
      · rw [List.head?_append, h4]; rfl
      · exact h4

theorem first_part (s : ByteArray) (c : UInt8) : ∃ t : ByteArray, (parts s c)[0]? = some t ∧ noSep c t = true ∧ t.size ≤ s.size ∧
    (∀ (u N : List UInt8), c ∉ u → s.data.toList = u ++ c :: N → t.data.toList = u) := by
  have hx : ∀ j, (s.extract 0 j).data.toList = s.data.toList.take j := fun j => by rw [Lib.extract_data]; simp
  have hn : ∀ j, (∀ i, i < j → s.data.toList[i]? ≠ some c) → noSep c (s.extract 0 j) = true := fun j h => by
    unfold noSep
    rw [hx, Bool.not_eq_true', ← Bool.not_eq_true, List.contains_iff_mem]
    intro hm
    obtain ⟨i, hi, he⟩ := List.mem_iff_getElem.1 hm
    have hi2 : i < j := by simp at hi; omega
    apply h i hi2
    have := List.getElem?_eq_getElem hi
    rw [List.getElem?_take, if_pos hi2] at this
    rw [this, he]
  rcases cut_inv s c s.size (Nat.le_refl _) with ⟨h1, h2⟩ | ⟨j, h1, h2, h3, h4⟩
  · refine ⟨s.extract 0 s.size, ?_, hn _ h2, by simp, fun u N hu hs => ?_⟩
    · unfold parts; rw [h1]; rfl
    · exfalso
      have hl : u.length < s.size := by
        have := congrArg List.length hs
        have e := Lib.size_eq s
        simp at this
        omega
      apply h2 u.length hl
      rw [hs]
      simp
  · refine ⟨s.extract 0 j, ?_, hn _ h3, by simp; omega, fun u N hu hs => ?_⟩
    · unfold parts
      cases hc : (cutAt s c s.size).2 with
      | nil => rw [hc] at h4; cases h4
      | cons a r => rw [hc] at h4; simpa using h4
    · rw [hx]
      have hju : j = u.length := by
        rcases Nat.lt_trichotomy j u.length with h | h | h
        · exfalso
          rw [hs, List.getElem?_append_left h] at h2
          exact hu (List.mem_of_getElem? h2)
        · exact h
        · exfalso
          apply h3 u.length h
          rw [hs]; simp
      rw [hju, hs]
      simp

theorem noSep_mem {c : UInt8} {x : ByteArray} (h : noSep c x = true) : c ∉ x.data.toList := by
  unfold noSep at h
  rw [Bool.not_eq_true', ← Bool.not_eq_true, List.contains_iff_mem] at h
  exact h
theorem seal_data (t : ByteArray) : (sealOf t).data.toList = t.data.toList ++ 35 :: (sumText t).data.toList := by
  unfold sealOf
  rw [ByteArray.data_append, Array.toList_append, ByteArray.data_append, Array.toList_append]
  simp
theorem data_inj {a b : ByteArray} (h : a.data.toList = b.data.toList) : a = b := by
  rcases a with ⟨⟨x⟩⟩; rcases b with ⟨⟨y⟩⟩; simp at h; rw [h]

/-- What VerifyChecksum answers. -/
def VerIs (s js : ByteArray) (jb : Bool) : Prop := (∃ t, Seals t ∧ sealOf t = s ∧ js = t ∧ jb = true) ∨ ((∀ t, Seals t → sealOf t ≠ s) ∧ js = ⟨#[]⟩ ∧ jb = false)
theorem ver_ex (s : ByteArray) : ∃ js jb, VerIs s js jb := by
  by_cases h : ∃ t, Seals t ∧ sealOf t = s
  · obtain ⟨t, h1, h2⟩ := h
    exact ⟨t, true, .inl ⟨t, h1, h2, rfl, rfl⟩⟩
  · exact ⟨_, _, .inr ⟨fun t h1 h2 => h ⟨t, h1, h2⟩, rfl, rfl⟩⟩
theorem seal_inj {t u : ByteArray} (ht : Seals t) (hu : Seals u) (h : sealOf t = sealOf u) : t = u := by
  have a := seal_data t
  rw [h, seal_data u] at a
  obtain ⟨x, _, _, _, hx⟩ := first_part (sealOf u) 35
  exact data_inj ((hx _ _ (noSep_mem ht.2.1) (by rw [seal_data, a])).symm.trans (hx _ _ (noSep_mem hu.2.1) (seal_data u)))
theorem VerIs.yes {s js t : ByteArray} {jb : Bool} (h : VerIs s js jb) (h1 : Seals t) (h2 : sealOf t = s) : js = t ∧ jb = true := by
  rcases h with ⟨u, g1, g2, rfl, rfl⟩ | ⟨g, _⟩
  · exact ⟨seal_inj g1 h1 (g2.trans h2.symm), rfl⟩
  · exact absurd h2 (g t h1)
theorem VerIs.no {s js : ByteArray} {jb : Bool} (h : VerIs s js jb) (hn : ∀ t, Seals t → sealOf t ≠ s) : js = ⟨#[]⟩ ∧ jb = false := by
  rcases h with ⟨u, g1, g2, _⟩ | ⟨_, h⟩
  · exact absurd g2 (hn u g1)
  · exact h
theorem cut_seal {t : ByteArray} (h : Seals t) : Lib.cut (sealOf t).data.toList [35] = (t.data.toList, (sumText t).data.toList, true) := by
  rw [seal_data]; exact cut_pre (noSep_mem h.2.1)

end Go.Proofs.YtoljoifldlpinaaDoor
