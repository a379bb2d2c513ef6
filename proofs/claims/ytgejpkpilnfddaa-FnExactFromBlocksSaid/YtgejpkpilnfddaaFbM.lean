/-
  Plain mathematics: partitions out of their blocks. No condition.
-/
import Derived.Test.YtgejpkpilnfddaaPartM
import Derived.Test.YtgejpkpilnfddaaArr8
import Derived.Test.YtgejpkpilnfddaaSetM
namespace Go.Proofs.Ytgejpkpilnfddaa
open Go.RowKit
set_option linter.unusedVariables false
set_option linter.unusedSimpArgs false

theorem nodup_len8 : ∀ (z : Nat) (xs : List Int), xs.Nodup → (∀ x ∈ xs, 0 ≤ x ∧ x < (z : Int)) → xs.length ≤ z := by
  intro z
  induction z with
  | zero =>
    intro xs _ h
    cases xs with
    | nil => simp
    | cons a l => have := h a (by simp); omega
  | succ z ih =>
    intro xs hn h
    by_cases hz : (z : Int) ∈ xs
    · have h1 := ih (xs.erase (z : Int)) (hn.erase _) (fun x hx => by
        have hm := List.mem_of_mem_erase hx
        have hne : x ≠ (z : Int) := fun e => by subst e; exact (List.Nodup.not_mem_erase hn) hx
        have := h x hm
        omega)
      rw [List.length_erase_of_mem hz] at h1
      omega
    · have := ih xs hn (fun x hx => by
        have h1 := h x hx
        have hne : x ≠ (z : Int) := fun e => hz (e ▸ hx)
        omega)
      omega
theorem cover_len : ∀ (z : Nat) (xs : List Int), (∀ k : Nat, k < z → (k : Int) ∈ xs) → z ≤ xs.length
  | 0, _, _ => Nat.zero_le _
  | z + 1, xs, h => by
    have hz := h z (by omega)
    have h1 := cover_len z (xs.erase (z : Int)) fun k hk => (List.mem_erase_of_ne (by omega)).2 (h k (by omega))
    rw [List.length_erase_of_mem hz] at h1
    have : 0 < xs.length := List.length_pos_of_mem hz
    omega
theorem full_cover {z : Nat} {xs : List Int} (hn : xs.Nodup) (h : ∀ x ∈ xs, 0 ≤ x ∧ x < (z : Int)) (hl : xs.length = z) (k : Nat) (hk : k < z) : (k : Int) ∈ xs := by
  refine Classical.byContradiction fun hv => ?_
  have := nodup_len8 z ((k : Int) :: xs) (List.nodup_cons.2 ⟨hv, hn⟩) (fun x hx => by
    rcases List.mem_cons.1 hx with rfl | hx
    · omega
    · exact h x hx)
  simp at this
  omega

/-- The elements of the first j blocks. -/
def flatB (ls : List (List Int)) (j : Nat) : List Int := (ls.take j).flatten
theorem flatB_succ {ls : List (List Int)} {j : Nat} {b : List Int} (h : ls[j]? = some b) : flatB ls (j + 1) = flatB ls j ++ b := by
  unfold flatB
  rw [List.take_add_one, h, List.flatten_append]; simp
theorem flatB_all {ls : List (List Int)} {j : Nat} (h : ls.length ≤ j) : flatB ls j = ls.flatten := by unfold flatB; rw [List.take_of_length_le h]
theorem flat_split {ls : List (List Int)} {j : Nat} {b : List Int} (h : ls[j]? = some b) : ∃ r, ls.flatten = flatB ls j ++ (b ++ r) := by
  refine ⟨(ls.drop (j + 1)).flatten, ?_⟩
  have hj : j < ls.length := (List.getElem?_eq_some_iff.1 h).1
  have hb : ls[j] = b := (List.getElem?_eq_some_iff.1 h).2
  unfold flatB
  rw [← List.append_assoc, show (ls.take j).flatten ++ b = (ls.take (j + 1)).flatten from (flatB_succ h).symm, ← List.flatten_append, List.take_append_drop]
theorem list_split {b : List Int} {k : Nat} {x : Int} (h : b[k]? = some x) : ∃ r, b = b.take k ++ x :: r := by
  refine ⟨b.drop (k + 1), ?_⟩
  have hk : k < b.length := (List.getElem?_eq_some_iff.1 h).1
  have hx : b[k] = x := (List.getElem?_eq_some_iff.1 h).2
  conv => lhs; rw [← List.take_append_drop k b]
  rw [List.drop_eq_getElem_cons hk, hx]

/-- Blocks that make a partition of n elements. -/
def fbB (n : Int) (ls : List (List Int)) : Bool := ls.all (fun b => !b.isEmpty) && (allIn n ls.flatten && (decide ls.flatten.Nodup && decide ((ls.flatten.length : Int) = n)))
theorem fbB_of {n : Int} {ls : List (List Int)} (h : fbB n ls = true) : (∀ b ∈ ls, b ≠ []) ∧ allIn n ls.flatten = true ∧ ls.flatten.Nodup ∧ (ls.flatten.length : Int) = n := by
  simp only [fbB, Bool.and_eq_true, decide_eq_true_eq, List.all_eq_true] at h
  refine ⟨fun b hb e => ?_, h.2.1, h.2.2.1, h.2.2.2⟩
  have := h.1 b hb
  rw [e] at this; cases this
theorem allIn_iff {n : Int} {xs : List Int} : allIn n xs = true ↔ ∀ x ∈ xs, 0 ≤ x ∧ x < n := by
  unfold allIn
  rw [List.all_eq_true]
  exact ⟨fun h x hx => of_decide_eq_true (h x hx), fun h x hx => decide_eq_true (h x hx)⟩
theorem fbB_empty {n : Int} {ls : List (List Int)} {j : Nat} (h : ls[j]? = some []) : fbB n ls = false := by
  rw [← Bool.not_eq_true]
  intro h2
  exact (fbB_of h2).1 [] (List.mem_of_getElem? h) rfl
theorem fbB_out {n : Int} {ls : List (List Int)} {j : Nat} {b : List Int} (h : ls[j]? = some b) (h2 : allIn n b = false) : fbB n ls = false := by
  rw [← Bool.not_eq_true] at h2 ⊢
  intro h3
  apply h2
  obtain ⟨r, hr⟩ := flat_split h
  have h4 := (fbB_of h3).2.1
  rw [hr, allIn_iff] at h4
  rw [allIn_iff]
  exact fun x hx => h4 x (by simp [hx])
theorem fbB_dup {n : Int} {ls : List (List Int)} {j k : Nat} {b : List Int} {x : Int} (h : ls[j]? = some b) (hx : b[k]? = some x) (h2 : x ∈ flatB ls j ++ b.take k) : fbB n ls = false := by
  rw [← Bool.not_eq_true]
  intro h3
  obtain ⟨r, hr⟩ := flat_split h
  obtain ⟨r2, hr2⟩ := list_split hx
  have h4 := (fbB_of h3).2.2.1
  rw [hr, hr2, List.append_assoc, ← List.append_assoc, List.cons_append] at h4
  exact (List.nodup_append.1 h4).2.2 x h2 x (by simp) rfl
theorem fbB_long {n : Int} {ls : List (List Int)} {j : Nat} {b : List Int} (h : ls[j]? = some b) (h2 : n < (b.length : Int)) : fbB n ls = false := by
  rw [← Bool.not_eq_true]
  intro h3
  obtain ⟨h4, h5, h6, h7⟩ := fbB_of h3
  obtain ⟨r, hr⟩ := flat_split h
  rw [hr] at h7
  simp at h7
  omega
theorem flat_len : ∀ {ls : List (List Int)}, (∀ b ∈ ls, b ≠ []) → ls.length ≤ ls.flatten.length
  | [], _ => by simp
  | b :: r, h => by
    have h1 := flat_len (ls := r) fun c hc => h c (List.mem_cons_of_mem _ hc)
    have h2 : 0 < b.length := List.length_pos_iff.2 (h b (by simp))
    rw [List.flatten_cons, List.length_append, List.length_cons]
    omega
theorem fbB_many {n : Int} {ls : List (List Int)} (h : n < (ls.length : Int)) : fbB n ls = false := by
  rw [← Bool.not_eq_true]
  intro h3
  obtain ⟨h4, h5, h6, h7⟩ := fbB_of h3
  have := flat_len h4
  omega
theorem fbB_count {n : Int} {ls : List (List Int)} (h : ¬ (ls.flatten.length : Int) = n) : fbB n ls = false := by
  rw [← Bool.not_eq_true]
  intro h3
  exact h (fbB_of h3).2.2.2
theorem fbB_yes {n : Int} {ls : List (List Int)} (h1 : ∀ b ∈ ls, b ≠ []) (h2 : allIn n ls.flatten = true) (h3 : ls.flatten.Nodup) (h4 : (ls.flatten.length : Int) = n) : fbB n ls = true := by
  simp only [fbB, Bool.and_eq_true, decide_eq_true_eq, List.all_eq_true]
  refine ⟨fun b hb => ?_, h2, h3, h4⟩
  have := h1 b hb
  cases b with
  | nil => exact absurd rfl this
  | cons => rfl

/-- The least of the first k elements of a block. -/
def minK (b : List Int) : Nat → Int
  | 0 => gI b 0
  | k + 1 => min (minK b k) (gI b k)
theorem minK_mem {b : List Int} : ∀ {k : Nat}, 1 ≤ k → k ≤ b.length → minK b k ∈ b.take k
  | 0, h, _ => by omega
  | k + 1, _, hk => by
    have hx := get_gI (xs := b) rfl (show k < b.length by omega)
    have hs : b.take (k + 1) = b.take k ++ [gI b k] := by rw [List.take_add_one, hx]; rfl
    rw [hs]
    cases k with
    | zero =>
      show min (gI b 0) (gI b 0) ∈ _
      rw [show min (gI b 0) (gI b 0) = gI b 0 by omega]; simp
    | succ k =>
      have ih := minK_mem (b := b) (k := k + 1) (by omega) (by omega)
      show min (minK b (k + 1)) (gI b (k + 1)) ∈ _
      rcases Int.le_total (minK b (k + 1)) (gI b (k + 1)) with h | h
      · rw [show min (minK b (k + 1)) (gI b (k + 1)) = minK b (k + 1) by omega]
        exact List.mem_append_left _ ih
      · rw [show min (minK b (k + 1)) (gI b (k + 1)) = gI b (k + 1) by omega]; simp

/-- What impl makes of a block, and of the first blocks. -/
def jK (f : Nat → Int) (b : List Int) : Nat → Nat → Int
  | 0 => f
  | k + 1 => joinF (jK f b k) (gI b 0).toNat (gI b k).toNat
def jL (ls : List (List Int)) : Nat → Nat → Int
  | 0 => fun z => z
  | j + 1 => jK (jL ls j) (ls.getD j []) (ls.getD j []).length
/-- What the model makes of them. -/
def pK (f : Nat → Int) (b : List Int) (v : Int) : Nat → Nat → Int
  | 0 => f
  | k + 1 => put8 (pK f b v k) (gI b k).toNat v
def pL (ls : List (List Int)) : Nat → Nat → Int
  | 0 => fun _ => -1
  | j + 1 => pK (pL ls j) (ls.getD j []) (minK (ls.getD j []) (ls.getD j []).length) (ls.getD j []).length
theorem jL_succ {ls : List (List Int)} {j : Nat} {b : List Int} (h : ls[j]? = some b) : jL ls (j + 1) = jK (jL ls j) b b.length := by
  rw [jL, List.getD_eq_getElem?_getD, h]; rfl
theorem pL_succ {ls : List (List Int)} {j : Nat} {b : List Int} (h : ls[j]? = some b) : pL ls (j + 1) = pK (pL ls j) b (minK b b.length) b.length := by
  rw [pL, List.getD_eq_getElem?_getD, h]; rfl
theorem take_succ_gI {b : List Int} {k : Nat} (hk : k < b.length) : b.take (k + 1) = b.take k ++ [gI b k] := by
  rw [List.take_add_one, get_gI rfl hk]; rfl
theorem pK_at {f : Nat → Int} {b : List Int} {v : Int} (hb : ∀ x ∈ b, 0 ≤ x) : ∀ {k : Nat}, k ≤ b.length → ∀ z : Nat, pK f b v k z = if (z : Int) ∈ b.take k then v else f z
  | 0, _, z => by simp [pK]
  | k + 1, hk, z => by
    have h0 := hb _ (List.mem_of_getElem? (get_gI (xs := b) rfl (show k < b.length by omega)))
    rw [pK, put8, take_succ_gI (by omega), pK_at hb (by omega) z]
    by_cases hz : z = (gI b k).toNat
    · rw [if_pos hz, if_pos (by
        rw [List.mem_append]; right
        rw [show (z : Int) = gI b k by omega]; simp)]
    · rw [if_neg hz]
      by_cases hm : (z : Int) ∈ b.take k
      · rw [if_pos hm, if_pos (List.mem_append_left _ hm)]
      · rw [if_neg hm, if_neg]
        rw [List.mem_append]
        rintro (h | h)
        · exact hm h
        · have : (z : Int) = gI b k := by simpa using h
          omega

theorem two_min (u x v : Int) (h : v = u ∨ v = x) : (if v = max u x then min u x else v) = min u x := by
  split <;> omega

/-- Within a block. -/
structure InBlk (P : List Int) (f F : Nat → Int) (b : List Int) (k : Nat) : Prop where
  out : ∀ z : Nat, ¬ (z : Int) ∈ P ++ b.take k → F z = z
  old : ∀ z : Nat, (z : Int) ∈ P → F z = f z
  new : ∀ z : Nat, (z : Int) ∈ b.take k → F z = minK b k
theorem inBlk_step {P b : List Int} {f : Nat → Int} (hb0 : ∀ x ∈ b, 0 ≤ x) (hn : (P ++ b).Nodup) (hf : ∀ z : Nat, (z : Int) ∈ P → f z ∈ P) {F : Nat → Int} {k : Nat} (hk : k < b.length) (h : InBlk P f F b k) : InBlk P f (joinF F (gI b 0).toNat (gI b k).toNat) b (k + 1) := by
  obtain ⟨hx0, hnew⟩ : 0 ≤ gI b k ∧ ¬ gI b k ∈ P ++ b.take k := by
    have hx := get_gI (xs := b) rfl hk
    refine ⟨hb0 _ (List.mem_of_getElem? hx), fun hm => ?_⟩
    obtain ⟨r, hr⟩ := list_split hx
    rw [hr, ← List.append_assoc] at hn
    have h2 := List.nodup_append.1 hn
    refine h2.2.2 (gI b k) ?_ (gI b k) (by simp) rfl
    exact hm
  have h00 : 0 ≤ gI b 0 := hb0 _ (List.mem_of_getElem? (get_gI (xs := b) rfl (show 0 < b.length by omega)))
  obtain ⟨x, hx⟩ : ∃ x : Nat, gI b k = (x : Int) := ⟨(gI b k).toNat, by omega⟩
  obtain ⟨y, hy⟩ : ∃ y : Nat, gI b 0 = (y : Int) := ⟨(gI b 0).toNat, by omega⟩
  have hFx : F x = (x : Int) := h.out x (by rw [← hx]; exact hnew)
  have hts := take_succ_gI hk
  have hFy : F y = minK b k := by
    cases k with
    | zero =>
      have : x = y := by omega
      subst this
      rw [hFx, minK, hy]
    | succ k =>
      refine h.new y ?_
      rw [← hy]
      have h0 := get_gI (xs := b) rfl (show 0 < b.length by omega)
      exact List.mem_of_getElem? (i := 0) (by rw [List.getElem?_take, if_pos (by omega)]; exact h0)
  have hJ : ∀ z, joinF F (gI b 0).toNat (gI b k).toNat z = if F z = max (minK b k) (x : Int) then min (minK b k) (x : Int) else F z := fun z => by
    unfold joinF; rw [hx, hy, Int.toNat_natCast, Int.toNat_natCast, hFx, hFy]
  have hmin : minK b (k + 1) = min (minK b k) (x : Int) := by rw [minK, hx]
  -- a value that is neither of both stays
  have hstay : ∀ z, F z ≠ minK b k → F z ≠ (x : Int) → joinF F (gI b 0).toNat (gI b k).toNat z = F z := fun z h1 h2 => by
    rw [hJ, if_neg]; omega
  have hmk : k = 0 → minK b k = (x : Int) := fun hk0 => by subst hk0; rw [minK, hx]
  have hmm : 1 ≤ k → minK b k ∈ b.take k := fun h1 => minK_mem h1 (by omega)
  refine ⟨fun z hz => ?_, fun z hz => ?_, fun z hz => ?_⟩
  · have hz1 : ¬ (z : Int) ∈ P ++ b.take k := fun hm => hz (by rw [hts, ← List.append_assoc]; exact List.mem_append_left _ hm)
    have hzx : (z : Int) ≠ (x : Int) := fun e => hz (by rw [hts, hx, e]; simp)
    have hFz := h.out z hz1
    rw [hstay z (by
      rw [hFz]
      intro e
      rcases Nat.eq_zero_or_pos k with hk0 | hk0
      · rw [hmk hk0] at e; exact hzx e
      · exact hz1 (by rw [e]; exact List.mem_append_right _ (hmm hk0))) (by rw [hFz]; exact hzx), hFz]
  · have hFz := h.old z hz
    have hP := hf z hz
    rw [hstay z (by
      rw [hFz]
      intro e
      rcases Nat.eq_zero_or_pos k with hk0 | hk0
      · rw [hmk hk0] at e
        exact hnew (by rw [hx, ← e]; exact List.mem_append_left _ hP)
      · have h2 := (List.nodup_append.1 hn).2.2 _ hP (minK b k) (List.mem_of_mem_take (hmm hk0))
        exact h2 e) (by
      rw [hFz]
      intro e
      exact hnew (by rw [hx, ← e]; exact List.mem_append_left _ hP)), hFz]
  · rw [hJ, hmin]
    refine two_min _ _ _ ?_
    rw [hts, List.mem_append] at hz
    rcases hz with hz | hz
    · exact .inl (h.new z hz)
    · have : (z : Int) = (x : Int) := by rw [← hx]; simpa using hz
      right
      rw [show z = x by omega]; exact hFx
theorem inBlk_all {P b : List Int} {f : Nat → Int} (hb0 : ∀ x ∈ b, 0 ≤ x) (hn : (P ++ b).Nodup) (hf : ∀ z : Nat, (z : Int) ∈ P → f z ∈ P) (ho : ∀ z : Nat, ¬ (z : Int) ∈ P → f z = z) : ∀ k, k ≤ b.length → InBlk P f (jK f b k) b k
  | 0, _ => ⟨fun z hz => ho z (by simpa using hz), fun z _ => rfl, fun z hz => by simp at hz⟩
  | k + 1, hk => inBlk_step hb0 hn hf (by omega) (inBlk_all hb0 hn hf ho k (by omega))

/-- Behind the first j blocks both have made the same. -/
structure SameTo (ls : List (List Int)) (j : Nat) : Prop where
  out : ∀ z : Nat, ¬ (z : Int) ∈ flatB ls j → jL ls j z = z ∧ pL ls j z = -1
  both : ∀ z : Nat, (z : Int) ∈ flatB ls j → jL ls j z = pL ls j z ∧ jL ls j z ∈ flatB ls j
theorem same_to {n : Int} {ls : List (List Int)} (hne : ∀ b ∈ ls, b ≠ []) (ha : allIn n ls.flatten = true) (hn : ls.flatten.Nodup) : ∀ j, j ≤ ls.length → SameTo ls j
  | 0, _ => ⟨fun z _ => ⟨rfl, rfl⟩, fun z hz => by simp [flatB] at hz⟩
  | j + 1, hj => by
    have ih := same_to hne ha hn j (by omega)
    obtain ⟨b, hb⟩ := get_of_lt (xs := ls) rfl (show j < ls.length by omega)
    obtain ⟨r, hr⟩ := flat_split hb
    rw [allIn_iff, hr] at ha
    have hb0 : ∀ x ∈ b, 0 ≤ x := fun x hx => (ha x (by simp [hx])).1
    have hnb : (flatB ls j ++ b).Nodup := by
      rw [hr, ← List.append_assoc] at hn
      exact (List.nodup_append.1 hn).1
    have hB := inBlk_all hb0 hnb (f := jL ls j) (fun z hz => (ih.both z hz).2) (fun z hz => (ih.out z hz).1) b.length (Nat.le_refl _)
    have hbe := hne b (List.mem_of_getElem? hb)
    have hlb : 0 < b.length := List.length_pos_iff.2 hbe
    have hmin := minK_mem (b := b) (k := b.length) hlb (Nat.le_refl _)
    rw [List.take_length] at hmin
    refine ⟨fun z hz => ?_, fun z hz => ?_⟩
    · rw [flatB_succ hb] at hz
      have h1 := hB.out z (by rw [List.take_length]; exact hz)
      rw [jL_succ hb, pL_succ hb, pK_at hb0 (Nat.le_refl _), List.take_length, if_neg (fun h => hz (List.mem_append_right _ h))]
      exact ⟨h1, (ih.out z (fun h => hz (List.mem_append_left _ h))).2⟩
    · rw [flatB_succ hb] at hz ⊢
      rw [jL_succ hb, pL_succ hb, pK_at hb0 (Nat.le_refl _), List.take_length]
      rcases List.mem_append.1 hz with h | h
      · have hzb : ¬ (z : Int) ∈ b := fun h2 => (List.nodup_append.1 hnb).2.2 _ h _ h2 rfl
        rw [if_neg hzb, hB.old z h]
        exact ⟨(ih.both z h).1, List.mem_append_left _ (ih.both z h).2⟩
      · rw [if_pos h, hB.new z (by rw [List.take_length]; exact h)]
        exact ⟨rfl, List.mem_append_right _ hmin⟩
/-- What is met has a number that is not negative in the model's list. -/
theorem pL_met {n : Int} {ls : List (List Int)} (hne : ∀ b ∈ ls, b ≠ []) (ha : allIn n ls.flatten = true) (hn : ls.flatten.Nodup) {j : Nat} (hj : j ≤ ls.length) (z : Nat) : (0 ≤ pL ls j z) ↔ (z : Int) ∈ flatB ls j := by
  have h := same_to hne ha hn j hj
  by_cases hz : (z : Int) ∈ flatB ls j
  · refine ⟨fun _ => hz, fun _ => ?_⟩
    rw [← (h.both z hz).1]
    have h2 := (h.both z hz).2
    have h3 : jL ls j z ∈ ls.flatten := by
      unfold flatB at h2
      have hd : ls.flatten = (ls.take j).flatten ++ (ls.drop j).flatten := by rw [← List.flatten_append, List.take_append_drop]
      rw [hd]
      exact List.mem_append_left _ h2
    exact (allIn_iff.1 ha _ h3).1
  · refine ⟨fun h2 => ?_, fun h2 => absurd h2 hz⟩
    rw [(h.out z hz).2] at h2
    omega
theorem fb_same {n : Int} {ls : List (List Int)} (h : fbB n ls = true) : lstP n.toNat (jL ls ls.length) = lstP n.toNat (pL ls ls.length) := by
  obtain ⟨h1, h2, h3, h4⟩ := fbB_of h
  refine lstP_congr fun z hz => ?_
  have hs := same_to h1 h2 h3 ls.length (Nat.le_refl _)
  refine (hs.both z ?_).1
  rw [flatB_all (Nat.le_refl _)]
  exact full_cover (z := n.toNat) h3 (fun x hx => by have := allIn_iff.1 h2 x hx; omega) (by omega) z hz

end Go.Proofs.Ytgejpkpilnfddaa
