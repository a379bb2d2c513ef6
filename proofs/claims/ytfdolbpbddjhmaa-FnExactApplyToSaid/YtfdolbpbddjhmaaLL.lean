/-
  A list of lists of integers that the call itself made: its row and its lists' rows. No condition.
-/
import Derived.Test.YtfdolbpbddjhmaaLView
import Derived.Test.YtfdolbpbddjhmaaMake
namespace Go.Proofs.Ytfdolbpbddjhmaa
open Go.RowKit
set_option linter.unusedVariables false
set_option linter.unusedSimpArgs false

def addrO (g : Option Nat) : Option Addr := g.map fun b => ⟨b, 0, none⟩
theorem own_addrO (g : Option Nat) (n c : Nat) : (Value.slice (addrO g) n c).ownBlock = g := by cases g <;> rfl
/-- The cells of n lists, told by their index: the list (F), its block (G) and capacity (C). -/
def flatL (n : Nat) (G : Nat → Option Nat) (C : Nat → Nat) (F : Nat → List Int) : List Value := (List.range n).map fun j => .slice (addrO (G j)) (F j).length (C j)
theorem flatL_len (n : Nat) (G : Nat → Option Nat) (C : Nat → Nat) (F : Nat → List Int) : (flatL n G C F).length = n := by simp [flatL]
theorem flatL_get {n j : Nat} {G : Nat → Option Nat} {C : Nat → Nat} {F : Nat → List Int} (hj : j < n) : (flatL n G C F)[j]? = some (.slice (addrO (G j)) (F j).length (C j)) := by simp [flatL, hj]
theorem flatL_congr {n : Nat} {G G' : Nat → Option Nat} {C C' : Nat → Nat} {F F' : Nat → List Int} (h : ∀ j, j < n → G j = G' j ∧ C j = C' j ∧ (F j).length = (F' j).length) : flatL n G C F = flatL n G' C' F' := by
  unfold flatL
  refine List.map_congr_left fun j hj => ?_
  obtain ⟨a, b, c⟩ := h j (List.mem_range.1 hj)
  rw [a, b, c]
theorem flatL_set {n j c : Nat} {g : Option Nat} {xs : List Int} {G : Nat → Option Nat} {C : Nat → Nat} {F : Nat → List Int} (hj : j < n) :
    (flatL n G C F).set j (.slice (addrO g) xs.length c) = flatL n (upd G j g) (upd C j c) (upd F j xs) := by
  apply List.ext_getElem?
  intro i
  rw [List.getElem?_set, flatL_len]
  by_cases hi : i < n
  · rw [flatL_get hi]
    by_cases hij : j = i
    · subst hij; rw [if_pos rfl, if_pos hj, flatL_get hi, upd_same, upd_same, upd_same]
    · rw [if_neg hij, flatL_get hi, upd_other (fun h => hij h.symm), upd_other (fun h => hij h.symm), upd_other (fun h => hij h.symm)]
  · rw [List.getElem?_eq_none (by rw [flatL_len]; omega)]
    by_cases hij : j = i
    · omega
    · rw [if_neg hij, List.getElem?_eq_none (by rw [flatL_len]; omega)]

/-- The slice v of n lists and the lists are rows of the call's own, in blocks from lo on, below hi, no two the same. -/
structure OwnsLL (w : World) (lo hi : Nat) (v : Value) (n : Nat) (G : Nat → Option Nat) (C : Nat → Nat) (F : Nat → List Int) : Prop where
  row : w.ownsRow lo 37 1 v n (flatL n G C F)
  rowlt : ∀ k, v.ownBlock = some k → k < hi
  tab : ∀ j, j < n → w.ownsRow lo 3 1 (.slice (addrO (G j)) (F j).length (C j)) (F j).length ((F j).map (Value.int .i64))
  lt : ∀ j g, j < n → G j = some g → g < hi
  inj : ∀ i j g, i < n → j < n → G i = some g → G j = some g → i = j

theorem OwnsLL.hi_mono {w : World} {lo hi hi' : Nat} {v : Value} {n : Nat} {G : Nat → Option Nat} {C : Nat → Nat} {F : Nat → List Int} (h : OwnsLL w lo hi v n G C F) (hh : hi ≤ hi') : OwnsLL w lo hi' v n G C F :=
  ⟨h.row, fun k hk => Nat.lt_of_lt_of_le (h.rowlt k hk) hh, h.tab, fun j g hj hg => Nat.lt_of_lt_of_le (h.lt j g hj hg) hh, h.inj⟩
theorem OwnsLL.lo_mono {w : World} {lo lo' hi : Nat} {v : Value} {n : Nat} {G : Nat → Option Nat} {C : Nat → Nat} {F : Nat → List Int} (h : OwnsLL w lo hi v n G C F) (hh : lo' ≤ lo) : OwnsLL w lo' hi v n G C F :=
  ⟨ownsRow_base h.row hh, h.rowlt, fun j hj => ownsRow_base (h.tab j hj) hh, h.lt, h.inj⟩
theorem OwnsLL.congrF {w : World} {lo hi : Nat} {v : Value} {n : Nat} {G : Nat → Option Nat} {C : Nat → Nat} {F F' : Nat → List Int} (h : OwnsLL w lo hi v n G C F) (he : ∀ j, j < n → F j = F' j) : OwnsLL w lo hi v n G C F' := by
  refine ⟨by rw [← flatL_congr (F := F) fun j hj => ⟨rfl, rfl, by rw [he j hj]⟩]; exact h.row, h.rowlt, fun j hj => ?_, h.lt, h.inj⟩
  have := h.tab j hj
  rw [he j hj] at this
  exact this
theorem OwnsLL.kept {w w' : World} {lo hi : Nat} {v : Value} {n : Nat} {G : Nat → Option Nat} {C : Nat → Nat} {F : Nat → List Int} (h : OwnsLL w lo hi v n G C F) (hk : Kept lo hi w w') : OwnsLL w' lo hi v n G C F :=
  ⟨ownsRow_block h.row fun g hg => hk g (h.row.lt g hg).1 (h.rowlt g hg), h.rowlt, fun j hj => ownsRow_block (h.tab j hj) fun g hg => hk g ((h.tab j hj).lt g hg).1 (by
    rw [own_addrO] at hg
    exact h.lt j g hj hg), h.lt, h.inj⟩
theorem OwnsLL.one {w : World} {lo hi : Nat} {v : Value} {n : Nat} {G : Nat → Option Nat} {C : Nat → Nat} {F : Nat → List Int} (h : OwnsLL w lo hi v n G C F) {j : Nat} (hj : j < n) : OwnsInts w lo hi (addrO (G j)) (F j).length (C j) (F j) :=
  ⟨h.tab j hj, fun k hk => by rw [own_addrO] at hk; exact h.lt j k hj hk⟩
theorem OwnsLL.cap {w : World} {lo hi : Nat} {v : Value} {n : Nat} {G : Nat → Option Nat} {C : Nat → Nat} {F : Nat → List Int} (h : OwnsLL w lo hi v n G C F) {j : Nat} (hj : j < n) : (F j).length ≤ C j ∧ C j ≤ maxLen := by
  rcases (h.tab j hj).2 with ⟨e, h0⟩ | ⟨_, _, _, e, _, _, q1, q2, _⟩
  · injection e with _ h1 h2
    rw [h0, h2]
    exact ⟨Nat.le_refl _, Nat.zero_le _⟩
  · injection e with _ h1 h2
    rw [h2]; exact ⟨q1, q2⟩
theorem OwnsLL.view {w : World} {lo hi n c : Nat} {ao : Option Addr} {G : Nat → Option Nat} {C : Nat → Nat} {F : Nat → List Int} (h : OwnsLL w lo hi (.slice ao n c) n G C F) : LView w lo hi ao n ((List.range n).map F) := by
  refine ⟨by simp, ?_⟩
  rcases h.row.2 with ⟨_, h0⟩ | ⟨g, cap, cur, he, hg, _⟩
  · exact .inl h0
  · cases he
    refine .inr ⟨g, 0, rfl, hg, h.rowlt g rfl, fun j f hf => ?_⟩
    have hj : j < n := by have := (List.getElem?_eq_some_iff.1 hf).1; simpa using this
    have hfj : F j = f := by rw [List.getElem?_map, List.getElem?_range hj] at hf; simpa using hf
    subst hfj
    obtain ⟨q1, q2⟩ := h.cap hj
    refine ⟨_, _, _, ?_, q1, q2, (h.one hj).view⟩
    rw [Nat.zero_add, h.row.cellAt _ (by omega)]; exact flatL_get hj
theorem map_range_getL (ls : List (List Int)) : (List.range ls.length).map (fun j => ls.getD j []) = ls := by
  apply List.ext_getElem?
  intro i
  by_cases h : i < ls.length
  · simp [h, List.getD]
  · simp [h]

/-- Another list in the place of list j. -/
theorem OwnsLL.put {w : World} {lo hi hi' R n c j m cc : Nat} {g : Option Nat} {xs : List Int} {G : Nat → Option Nat} {C : Nat → Nat} {F : Nat → List Int} (h : OwnsLL w lo hi (.slice (some ⟨R, 0, none⟩) n c) n G C F) (hj : j < n)
    (ht : w.ownsRow lo 3 1 (.slice (addrO g) m cc) m (xs.map (Value.int .i64))) (hm : m = xs.length) (hnew : ∀ b, g = some b → hi ≤ b ∧ b < hi') (hh : hi ≤ hi') :
    OwnsLL (w.setCell ⟨R, j, none⟩ (.slice (addrO g) m cc)) lo hi' (.slice (some ⟨R, 0, none⟩) n c) n (upd G j g) (upd C j cc) (upd F j xs) ∧ w.grownBy (w.setCell ⟨R, j, none⟩ (.slice (addrO g) m cc)) (some R) := by
  subst hm
  have hst := h.row.stored j (.slice (addrO g) xs.length cc)
  have hR : R < hi := h.rowlt R rfl
  have hne : ∀ (xs : List Int) (g : Option Nat) (m c : Nat), w.ownsRow lo 3 1 (.slice (addrO g) m c) m (xs.map (Value.int .i64)) → (Value.slice (addrO g) m c).ownBlock = none ∨ (Value.slice (addrO g) m c).ownBlock ≠ some R := by
    intro xs g m c hq
    cases g with
    | none => exact .inl rfl
    | some b => exact .inr fun e => row_ne h.row hq (by decide) (by show some R = some b; exact e.symm)
  refine ⟨⟨?_, fun k hk => Nat.lt_of_lt_of_le (h.rowlt k hk) hh, fun i hi2 => ?_, fun i b hi2 hb => ?_, fun i k b hi2 hk2 hib hkb => ?_⟩, hst.2⟩
  · rw [← flatL_set hj]; exact hst.1
  · by_cases hij : i = j
    · subst hij
      rw [upd_same, upd_same, upd_same]
      exact ht.kept hst.2 (hne _ _ _ _ ht)
    · rw [upd_other hij, upd_other hij, upd_other hij]
      exact (h.tab i hi2).kept hst.2 (hne _ _ _ _ (h.tab i hi2))
  · by_cases hij : i = j
    · subst hij; rw [upd_same] at hb; exact (hnew b hb).2
    · rw [upd_other hij] at hb; exact Nat.lt_of_lt_of_le (h.lt i b hi2 hb) hh
  · by_cases hij : i = j <;> by_cases hkj : k = j
    · omega
    · subst hij
      rw [upd_same] at hib; rw [upd_other hkj] at hkb
      have := (hnew b hib).1; have := h.lt k b hk2 hkb; omega
    · subst hkj
      rw [upd_same] at hkb; rw [upd_other hij] at hib
      have := (hnew b hkb).1; have := h.lt i b hi2 hib; omega
    · rw [upd_other hij] at hib; rw [upd_other hkj] at hkb
      exact h.inj i k b hi2 hk2 hib hkb
/-- List j turned in its place. -/
theorem OwnsLL.turn {w w2 : World} {lo hi n c j R : Nat} {G : Nat → Option Nat} {C : Nat → Nat} {F : Nat → List Int} {ys : List Int} (h : OwnsLL w lo hi (.slice (some ⟨R, 0, none⟩) n c) n G C F) (hj : j < n)
    (hg : w.grownBy w2 (G j)) (hy : ys.length = (F j).length)
    (ht : w2.ownsRow lo 3 1 (.slice (addrO (G j)) (F j).length (C j)) (F j).length (ys.map (Value.int .i64))) :
    OwnsLL w2 lo hi (.slice (some ⟨R, 0, none⟩) n c) n G C (upd F j ys) := by
  refine ⟨?_, h.rowlt, fun i hi => ?_, h.lt, h.inj⟩
  · rw [flatL_congr (F' := F) fun i hi => by
      by_cases hij : i = j
      · subst hij; rw [upd_same]; exact ⟨rfl, rfl, hy⟩
      · rw [upd_other hij]; exact ⟨rfl, rfl, rfl⟩]
    refine h.row.kept hg (.inr ?_)
    intro e
    cases hgj : G j with
    | none => rw [hgj] at e; simp [Value.ownBlock] at e
    | some b =>
      rw [hgj] at e
      have hq := h.tab j hj
      rw [hgj] at hq
      exact row_ne h.row hq (by decide) e
  · by_cases hij : i = j
    · subst hij; rw [upd_same, hy]; exact ht
    · rw [upd_other hij]
      refine (h.tab i hi).kept hg ?_
      rw [own_addrO]
      cases hgi : G i with
      | none => exact .inl rfl
      | some b => exact .inr fun e => hij (h.inj i j b hi hj hgi e.symm)

theorem Try.infoInts : (Try.prog.info? 37).map (fun i => (i.zero, i.size, i.bytes)) = some (some (.slice none 0 0), 1, 24) := by kernel_rfl
theorem make_ll (w : World) (n : Nat) (hn : n ≤ 1048576) : ∃ w', (Instr.makeSlice 46 (.int .i64 (n : Int)) (.int .i64 (n : Int))).run Try.prog w = .ok (.slice (some ⟨w.heap.size, 0, none⟩) n n) w' ∧
    OwnsLL w' w.heap.size w'.heap.size (.slice (some ⟨w.heap.size, 0, none⟩) n n) n (fun _ => none) (fun _ => 0) (fun _ => []) ∧ Below w.heap.size w w' := by
  obtain ⟨i0, hi0, hz0, hz1, hz2⟩ := info_parts Try.infoInts
  obtain ⟨w', hrun, r1, r2⟩ := run_make_full (P := Try.prog) w w.heap.size 46 37 i0 _ 1 Try.underlying46 hi0 hz0 hz1 .i64 .i64 n (by rw [hz2]; omega) (by unfold maxLen; omega) (Nat.le_refl _)
  refine ⟨w', hrun, ?_, (Below.refl _ _).grown r2 (Nat.le_refl _) (by intro k hk; cases hk)⟩
  rw [show (Value.slice none 0 0).cells = #[Value.slice none 0 0] from rfl, Nat.mul_one, toList_madeCells_one] at r1
  refine ⟨?_, fun k hk => (r1.lt k hk).2, fun j hj => World.ownsRow_nil _ _ _ _, fun j g hj hg => absurd hg (by simp), fun i j g hi hj hg _ => absurd hg (by simp)⟩
  rw [show flatL n (fun _ => none) (fun _ => 0) (fun _ => []) = List.replicate n (Value.slice none 0 0) from ?_]
  · exact r1
  · unfold flatL
    rw [List.map_const', List.length_range]
    rfl

def lsum (ls : List (List Int)) : Nat := (ls.map List.length).sum
theorem lsum_succ {ls : List (List Int)} {k : Nat} {xs : List Int} (h : ls[k]? = some xs) : lsum (ls.take (k + 1)) = lsum (ls.take k) + xs.length := by
  rw [List.take_add_one, h]; simp [lsum]
theorem lsum_take_le (ls : List (List Int)) (k : Nat) : lsum (ls.take k) ≤ lsum ls := by
  induction ls generalizing k with
  | nil => simp [lsum]
  | cons y r ih =>
    cases k with
    | zero => simp [lsum]
    | succ k =>
      have := ih k
      simp only [lsum, List.take_succ_cons, List.map_cons, List.sum_cons] at this ⊢
      omega
theorem lsum_all {ls : List (List Int)} {k : Nat} (h : ls.length ≤ k) : lsum (ls.take k) = lsum ls := by rw [List.take_of_length_le h]
theorem lsum_get {ls : List (List Int)} {k : Nat} {xs : List Int} (h : ls[k]? = some xs) : xs.length ≤ lsum ls := by
  have h1 := lsum_take_le ls (k + 1)
  rw [lsum_succ h] at h1
  omega
theorem smallL_of {n : Nat} {ls : List (List Int)} (h : ((n + lsum ls : Nat) : Int) ≤ 1048576) : n ≤ 1048576 ∧ n * 24 ≤ 281474976710656 ∧ (∀ (j : Nat) (xs : List Int), ls[j]? = some xs → xs.length * 8 ≤ 281474976710656) ∧ (∀ (j : Nat) (xs : List Int), ls[j]? = some xs → xs.length ≤ maxLen) := by
  refine ⟨by omega, by omega, fun j f hf => ?_, fun j f hf => ?_⟩
  · have := lsum_get hf; omega
  · have := lsum_get hf; unfold maxLen; omega
/-- How many marks stand ahead of list j. -/
def preLL (F : Nat → List Int) : Nat → Nat
  | 0 => 0
  | j + 1 => preLL F j + (F j).length
theorem preLL_mono (F : Nat → List Int) {i j : Nat} (h : i ≤ j) : preLL F i ≤ preLL F j := by
  induction j with
  | zero => obtain rfl : i = 0 := by omega
            exact Nat.le_refl _
  | succ j ih =>
    by_cases hij : i = j + 1
    · subst hij; exact Nat.le_refl _
    · have := ih (by omega)
      simp only [preLL]; omega
theorem preLL_fs (ls : List (List Int)) : preLL (fun j => ls.getD j []) ls.length = lsum ls := by
  have h : ∀ k, k ≤ ls.length → preLL (fun j => ls.getD j []) k = lsum (ls.take k) := by
    intro k
    induction k with
    | zero => intro _; simp [preLL, lsum]
    | succ k ih =>
      intro hk
      have hx : ls[k]? = some (ls[k]'(by omega)) := List.getElem?_eq_getElem (by omega)
      rw [preLL, ih (by omega), lsum_succ hx, List.getD_eq_getElem?_getD, hx]
      simp only [Option.getD_some]
  rw [h _ (Nat.le_refl _), lsum_all (Nat.le_refl _)]
def markLs (k : Int) (F : Nat → List Int) : Nat → List Int := fun j => upFrom (k + (preLL F j : Int)) (F j).length
def mixL (k : Int) (F : Nat → List Int) (j : Nat) : Nat → List Int := fun i => if i < j then markLs k F i else F i
theorem mixL_zero (k : Int) (F : Nat → List Int) : mixL k F 0 = F := by funext i; simp [mixL]
theorem mixL_at (k : Int) (F : Nat → List Int) (j : Nat) : mixL k F j j = F j := by simp [mixL]
theorem mixL_step (k : Int) (F : Nat → List Int) (j : Nat) : upd (mixL k F j) j (markLs k F j) = mixL k F (j + 1) := by
  funext i
  unfold upd mixL
  by_cases h : i = j
  · subst h; simp
  · by_cases h2 : i < j
    · have h3 : i < j + 1 := by omega
      simp [h, h2, h3]
    · have h3 : ¬ i < j + 1 := by omega
      simp [h, h2, h3]
theorem mixL_all (k : Int) (F : Nat → List Int) {n i : Nat} (h : i < n) : mixL k F n i = markLs k F i := by simp [mixL, h]

/-- A copy of a list of lists, in memory of the call's own. -/
def MadeLL (w w' : World) (ao : Option Addr) (n c : Nat) (ls : List (List Int)) : Prop :=
  (∃ G C, OwnsLL w' w.heap.size w'.heap.size (.slice ao n c) n G C (fun j => ls.getD j [])) ∧ Below w.heap.size w w'
theorem MadeLL.view {w w' : World} {ao : Option Addr} {n c : Nat} {ls : List (List Int)} (h : MadeLL w w' ao n c ls) (hl : ls.length = n) : LView w' w.heap.size w'.heap.size ao n ls := by
  obtain ⟨⟨G, C, ho⟩, _⟩ := h
  have h2 := ho.view
  rw [← hl, map_range_getL] at h2
  rw [← hl]
  exact h2
/-- A list of lists with a bool, as a result. -/
def ResS (w w' : World) (ls : List (List Int)) (ok : Bool) (e : Ending) : Prop :=
  ∃ ao n c G C, e = .returned (.tuple #[.slice ao n c, .bool ok]) ∧ n = ls.length ∧ OwnsLL w' w.heap.size w'.heap.size (.slice ao n c) n G C (fun j => ls.getD j []) ∧ Below w.heap.size w w'

end Go.Proofs.Ytfdolbpbddjhmaa
