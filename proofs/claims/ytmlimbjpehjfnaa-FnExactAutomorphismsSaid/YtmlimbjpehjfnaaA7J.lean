/-
  LView, Make, LL, LLr, PushN, SrI, LstG, All7, All8, Aut7 in one text. Conditions: as each theorem names them.
-/
import Derived.Test.YtmlimbjpehjfnaaStep
import Derived.Test.YtmlimbjpehjfnaaApp
import Derived.Test.YtmlimbjpehjfnaaSz
import Derived.Test.YtmlimbjpehjfnaaTo
import Derived.Test.YtmlimbjpehjfnaaEq
import Derived.Deep.RegionHeld3
import Derived.Test.YtmlimbjpehjfnaaSrch
import Derived.Test.YtmlimbjpehjfnaaClone
import Derived.WalkSpells
import Derived.Test.YtmlimbjpehjfnaaFnd
import Derived.Test.YtmlimbjpehjfnaaHmS
import Derived.Deep.AppendLies
namespace Go.Proofs.Ytmlimbjpehjfnaa
section
open Go.RowKit
set_option linter.unusedVariables false

/-- The slice '.slice ao n c' reads as the lists xss; it and they lie in blocks from lo on, below hi. -/
def LView (w : World) (lo hi : Nat) (ao : Option Addr) (n : Nat) (xss : List (List Int)) : Prop :=
  xss.length = n ∧ (n = 0 ∨ ∃ b o, ao = some ⟨b, o, none⟩ ∧ lo ≤ b ∧ b < hi ∧ ∀ j xs, xss[j]? = some xs → ∃ a m c, w.cell? ⟨b, o + j, none⟩ = some (.slice a m c) ∧ m ≤ c ∧ c ≤ maxLen ∧ IView w lo hi a m xs)
theorem LView.kept {w w' : World} {lo hi : Nat} {ao : Option Addr} {n : Nat} {xss : List (List Int)} (h : LView w lo hi ao n xss) (hk : Kept lo hi w w') : LView w' lo hi ao n xss := by
  obtain ⟨h1, h2 | ⟨b, o, rfl, hl, hh, hc⟩⟩ := h
  · exact ⟨h1, .inl h2⟩
  · refine ⟨h1, .inr ⟨b, o, rfl, hl, hh, fun j f hf => ?_⟩⟩
    obtain ⟨a, m, c, c0, hm, hcm, hv⟩ := hc j f hf
    exact ⟨a, m, c, (hk.cell (p := ⟨b, _, none⟩) hl hh).trans c0, hm, hcm, hv.kept hk⟩
theorem LView.mono {w : World} {lo hi lo' hi' : Nat} {ao : Option Addr} {n : Nat} {xss : List (List Int)} (h : LView w lo hi ao n xss) (h1 : lo' ≤ lo) (h2 : hi ≤ hi') : LView w lo' hi' ao n xss := by
  obtain ⟨h3, h4 | ⟨b, o, rfl, hl, hh, hc⟩⟩ := h
  · exact ⟨h3, .inl h4⟩
  · refine ⟨h3, .inr ⟨b, o, rfl, by omega, by omega, fun j f hf => ?_⟩⟩
    obtain ⟨a, m, c, c0, hm, hcm, hv⟩ := hc j f hf
    exact ⟨a, m, c, c0, hm, hcm, hv.mono h1 h2⟩
theorem LView.at_ {w : World} {lo hi : Nat} {ao : Option Addr} {n : Nat} {xss : List (List Int)} (h : LView w lo hi ao n xss) (h0 : 0 < n) : ∃ b o, ao = some ⟨b, o, none⟩ ∧ lo ≤ b ∧ b < hi ∧ ∀ j xs, xss[j]? = some xs → ∃ a m c, w.cell? ⟨b, o + j, none⟩ = some (.slice a m c) ∧ m ≤ c ∧ c ≤ maxLen ∧ IView w lo hi a m xs := by
  rcases h.2 with h2 | h2
  · omega
  · exact h2
/-- A list of one: its slice stands in a cell. -/
theorem LView.one {w : World} {lo hi b m c : Nat} {a : Option Addr} {xs : List Int} (hc : w.cell? ⟨b, 0, none⟩ = some (.slice a m c)) (hl : lo ≤ b) (hh : b < hi) (hm : m ≤ c) (hcm : c ≤ maxLen) (hv : IView w lo hi a m xs) : LView w lo hi (some ⟨b, 0, none⟩) 1 [xs] := by
  refine ⟨rfl, .inr ⟨b, 0, rfl, hl, hh, fun j ys hj => ?_⟩⟩
  match j, hj with
  | 0, hj => simp at hj; subst hj; exact ⟨a, m, c, hc, hm, hcm, hv⟩
theorem LView.two {w : World} {lo hi b m c m2 c2 : Nat} {a a2 : Option Addr} {xs ys : List Int} (hc : w.cell? ⟨b, 0, none⟩ = some (.slice a m c)) (hc2 : w.cell? ⟨b, 1, none⟩ = some (.slice a2 m2 c2)) (hl : lo ≤ b) (hh : b < hi) (hm : m ≤ c) (hcm : c ≤ maxLen) (hv : IView w lo hi a m xs) (hm2 : m2 ≤ c2) (hcm2 : c2 ≤ maxLen) (hv2 : IView w lo hi a2 m2 ys) : LView w lo hi (some ⟨b, 0, none⟩) 2 [xs, ys] := by
  refine ⟨rfl, .inr ⟨b, 0, rfl, hl, hh, fun j zs hj => ?_⟩⟩
  match j, hj with
  | 0, hj => simp at hj; subst hj; exact ⟨a, m, c, hc, hm, hcm, hv⟩
  | 1, hj => simp at hj; subst hj; exact ⟨a2, m2, c2, hc2, hm2, hcm2, hv2⟩
end

section
open Go.RowKit
set_option linter.unusedVariables false

theorem step_make_ints {w : World} {ops : Array Oper} {o : Oper} {a : Act} {K : Act → World → Prop} {Q : Exit → Act → World → Prop} {E : Prop} (hgd : o.guard = none) (l c : Operand) (ho : o.op = Op.makeSlice 42 l c)
    (n : Nat) (hl : a.eval l = .int .i64 (n : Int)) (hc : a.eval c = .int .i64 (n : Int)) (hn : n ≤ 1099511627776)
    (h : ∀ w', w'.ownsRow w.heap.size 3 1 (.slice (some ⟨w.heap.size, 0, none⟩) n n) n ((List.replicate n (0 : Int)).map (Value.int .i64)) → Below w.heap.size w w' → K (a.put o.dst (.slice (some ⟨w.heap.size, 0, none⟩) n n)) w') :
    if Region.wanted o (yielded ops a.tmps) = true then Oper.wp Try.prog o a w K Q else E := by
  have hw : Region.wanted o (yielded ops a.tmps) = true := by simp [Region.wanted, hgd]
  rw [if_pos hw]
  obtain ⟨i0, hi0, hz0, hz1, hz2⟩ := info_parts Try.infoInt
  obtain ⟨w', hrun, r1, r2⟩ := run_make_full (P := Try.prog) w w.heap.size 42 3 i0 _ 1 Try.underlying42 hi0 hz0 hz1 .i64 .i64 n (by rw [hz2]; omega) (by unfold maxLen; omega) (Nat.le_refl _)
  unfold Oper.wp
  simp [execOp, ho, hl, hc, hrun, Result.andThen]
  refine h w' ?_ ((Below.refl _ _).grown r2 (Nat.le_refl _) (by intro k hk; cases hk))
  rw [show (Value.int .i64 0).cells = #[Value.int .i64 0] from rfl, Nat.mul_one, toList_madeCells_one] at r1
  rw [List.map_replicate]
  exact r1
end

section
open Go.RowKit
set_option linter.unusedVariables false
set_option linter.unusedSimpArgs false

def addrO (g : Option Nat) : Option Addr := g.map fun b => ⟨b, 0, none⟩
theorem own_addrO (g : Option Nat) (n c : Nat) : (Value.slice (addrO g) n c).ownBlock = g := by cases g <;> rfl
/-- The cells of n lists, told by their index: the list (F), its block (G) and capacity (C). -/
def flatL (n : Nat) (G : Nat → Option Nat) (C : Nat → Nat) (F : Nat → List Int) : List Value := (List.range n).map fun j => .slice (addrO (G j)) (F j).length (C j)
theorem flatL_len (n : Nat) (G : Nat → Option Nat) (C : Nat → Nat) (F : Nat → List Int) : (flatL n G C F).length = n := by simp [flatL]
theorem flatL_get {n j : Nat} {G : Nat → Option Nat} {C : Nat → Nat} {F : Nat → List Int} (hj : j < n) : (flatL n G C F)[j]? = some (.slice (addrO (G j)) (F j).length (C j)) := by simp [flatL, hj]
theorem flatL_congr {n : Nat} {G G' : Nat → Option Nat} {C C' : Nat → Nat} {F F' : Nat → List Int} (h : ∀ j, j < n → G j = G' j ∧ C j = C' j ∧ (F j).length = (F' j).length) : flatL n G C F = flatL n G' C' F' := by
  unfold flatL
  refine List.map_congr_left fun j hj => ?_
  obtain ⟨a, b, c⟩ := h j (List.mem_range.1 hj)
  rw [a, b, c]
theorem flatL_set {n j c : Nat} {g : Option Nat} {xs : List Int} {G : Nat → Option Nat} {C : Nat → Nat} {F : Nat → List Int} (hj : j < n) :
    (flatL n G C F).set j (.slice (addrO g) xs.length c) = flatL n (upd G j g) (upd C j c) (upd F j xs) := by
  apply List.ext_getElem?
  intro i
  rw [List.getElem?_set, flatL_len]
  by_cases hi : i < n
  · rw [flatL_get hi]
    by_cases hij : j = i
    · subst hij; rw [if_pos rfl, if_pos hj, flatL_get hi, upd_same, upd_same, upd_same]
    · rw [if_neg hij, flatL_get hi, upd_other (fun h => hij h.symm), upd_other (fun h => hij h.symm), upd_other (fun h => hij h.symm)]
  · rw [List.getElem?_eq_none (by rw [flatL_len]; omega)]
    by_cases hij : j = i
    · omega
    · rw [if_neg hij, List.getElem?_eq_none (by rw [flatL_len]; omega)]

/-- The slice v of n lists and the lists are rows of the call's own, in blocks from lo on, below hi, no two the same. -/
structure OwnsLL (w : World) (lo hi : Nat) (v : Value) (n : Nat) (G : Nat → Option Nat) (C : Nat → Nat) (F : Nat → List Int) : Prop where
  row : w.ownsRow lo 42 1 v n (flatL n G C F)
  rowlt : ∀ k, v.ownBlock = some k → k < hi
  tab : ∀ j, j < n → w.ownsRow lo 3 1 (.slice (addrO (G j)) (F j).length (C j)) (F j).length ((F j).map (Value.int .i64))
  lt : ∀ j g, j < n → G j = some g → g < hi
  inj : ∀ i j g, i < n → j < n → G i = some g → G j = some g → i = j

theorem OwnsLL.hi_mono {w : World} {lo hi hi' : Nat} {v : Value} {n : Nat} {G : Nat → Option Nat} {C : Nat → Nat} {F : Nat → List Int} (h : OwnsLL w lo hi v n G C F) (hh : hi ≤ hi') : OwnsLL w lo hi' v n G C F :=
  ⟨h.row, fun k hk => Nat.lt_of_lt_of_le (h.rowlt k hk) hh, h.tab, fun j g hj hg => Nat.lt_of_lt_of_le (h.lt j g hj hg) hh, h.inj⟩
theorem OwnsLL.lo_mono {w : World} {lo lo' hi : Nat} {v : Value} {n : Nat} {G : Nat → Option Nat} {C : Nat → Nat} {F : Nat → List Int} (h : OwnsLL w lo hi v n G C F) (hh : lo' ≤ lo) : OwnsLL w lo' hi v n G C F :=
  ⟨ownsRow_base h.row hh, h.rowlt, fun j hj => ownsRow_base (h.tab j hj) hh, h.lt, h.inj⟩
theorem OwnsLL.congrF {w : World} {lo hi : Nat} {v : Value} {n : Nat} {G : Nat → Option Nat} {C : Nat → Nat} {F F' : Nat → List Int} (h : OwnsLL w lo hi v n G C F) (he : ∀ j, j < n → F j = F' j) : OwnsLL w lo hi v n G C F' := by
  refine ⟨by rw [← flatL_congr (F := F) fun j hj => ⟨rfl, rfl, by rw [he j hj]⟩]; exact h.row, h.rowlt, fun j hj => ?_, h.lt, h.inj⟩
  have := h.tab j hj
  rw [he j hj] at this
  exact this
theorem OwnsLL.kept {w w' : World} {lo hi : Nat} {v : Value} {n : Nat} {G : Nat → Option Nat} {C : Nat → Nat} {F : Nat → List Int} (h : OwnsLL w lo hi v n G C F) (hk : Kept lo hi w w') : OwnsLL w' lo hi v n G C F :=
  ⟨ownsRow_block h.row fun g hg => hk g (h.row.lt g hg).1 (h.rowlt g hg), h.rowlt, fun j hj => ownsRow_block (h.tab j hj) fun g hg => hk g ((h.tab j hj).lt g hg).1 (by
    rw [own_addrO] at hg
    exact h.lt j g hj hg), h.lt, h.inj⟩
theorem OwnsLL.one {w : World} {lo hi : Nat} {v : Value} {n : Nat} {G : Nat → Option Nat} {C : Nat → Nat} {F : Nat → List Int} (h : OwnsLL w lo hi v n G C F) {j : Nat} (hj : j < n) : OwnsInts w lo hi (addrO (G j)) (F j).length (C j) (F j) :=
  ⟨h.tab j hj, fun k hk => by rw [own_addrO] at hk; exact h.lt j k hj hk⟩
theorem OwnsLL.cap {w : World} {lo hi : Nat} {v : Value} {n : Nat} {G : Nat → Option Nat} {C : Nat → Nat} {F : Nat → List Int} (h : OwnsLL w lo hi v n G C F) {j : Nat} (hj : j < n) : (F j).length ≤ C j ∧ C j ≤ maxLen := by
  rcases (h.tab j hj).2 with ⟨e, h0⟩ | ⟨_, _, _, e, _, _, q1, q2, _⟩
  · injection e with _ h1 h2
    rw [h0, h2]
    exact ⟨Nat.le_refl _, Nat.zero_le _⟩
  · injection e with _ h1 h2
    rw [h2]; exact ⟨q1, q2⟩
theorem OwnsLL.view {w : World} {lo hi n c : Nat} {ao : Option Addr} {G : Nat → Option Nat} {C : Nat → Nat} {F : Nat → List Int} (h : OwnsLL w lo hi (.slice ao n c) n G C F) : LView w lo hi ao n ((List.range n).map F) := by
  refine ⟨by simp, ?_⟩
  rcases h.row.2 with ⟨_, h0⟩ | ⟨g, cap, cur, he, hg, _⟩
  · exact .inl h0
  · cases he
    refine .inr ⟨g, 0, rfl, hg, h.rowlt g rfl, fun j f hf => ?_⟩
    have hj : j < n := by have := (List.getElem?_eq_some_iff.1 hf).1; simpa using this
    have hfj : F j = f := by rw [List.getElem?_map, List.getElem?_range hj] at hf; simpa using hf
    subst hfj
    obtain ⟨q1, q2⟩ := h.cap hj
    refine ⟨_, _, _, ?_, q1, q2, (h.one hj).view⟩
    rw [Nat.zero_add, h.row.cellAt _ (by omega)]; exact flatL_get hj
theorem map_range_getL (ls : List (List Int)) : (List.range ls.length).map (fun j => ls.getD j []) = ls := by
  apply List.ext_getElem?
  intro i
  by_cases h : i < ls.length
  · simp [h, List.getD]
  · simp [h]

/-- Another list in the place of list j. -/
theorem OwnsLL.put {w : World} {lo hi hi' R n c j m cc : Nat} {g : Option Nat} {xs : List Int} {G : Nat → Option Nat} {C : Nat → Nat} {F : Nat → List Int} (h : OwnsLL w lo hi (.slice (some ⟨R, 0, none⟩) n c) n G C F) (hj : j < n)
    (ht : w.ownsRow lo 3 1 (.slice (addrO g) m cc) m (xs.map (Value.int .i64))) (hm : m = xs.length) (hnew : ∀ b, g = some b → hi ≤ b ∧ b < hi') (hh : hi ≤ hi') :
    OwnsLL (w.setCell ⟨R, j, none⟩ (.slice (addrO g) m cc)) lo hi' (.slice (some ⟨R, 0, none⟩) n c) n (upd G j g) (upd C j cc) (upd F j xs) ∧ w.grownBy (w.setCell ⟨R, j, none⟩ (.slice (addrO g) m cc)) (some R) := by
  subst hm
  have hst := h.row.stored j (.slice (addrO g) xs.length cc)
  have hR : R < hi := h.rowlt R rfl
  have hne : ∀ (xs : List Int) (g : Option Nat) (m c : Nat), w.ownsRow lo 3 1 (.slice (addrO g) m c) m (xs.map (Value.int .i64)) → (Value.slice (addrO g) m c).ownBlock = none ∨ (Value.slice (addrO g) m c).ownBlock ≠ some R := by
    intro xs g m c hq
    cases g with
    | none => exact .inl rfl
    | some b => exact .inr fun e => row_ne h.row hq (by decide) (by show some R = some b; exact e.symm)
  refine ⟨⟨?_, fun k hk => Nat.lt_of_lt_of_le (h.rowlt k hk) hh, fun i hi2 => ?_, fun i b hi2 hb => ?_, fun i k b hi2 hk2 hib hkb => ?_⟩, hst.2⟩
  · rw [← flatL_set hj]; exact hst.1
  · by_cases hij : i = j
    · subst hij
      rw [upd_same, upd_same, upd_same]
      exact ht.kept hst.2 (hne _ _ _ _ ht)
    · rw [upd_other hij, upd_other hij, upd_other hij]
      exact (h.tab i hi2).kept hst.2 (hne _ _ _ _ (h.tab i hi2))
  · by_cases hij : i = j
    · subst hij; rw [upd_same] at hb; exact (hnew b hb).2
    · rw [upd_other hij] at hb; exact Nat.lt_of_lt_of_le (h.lt i b hi2 hb) hh
  · by_cases hij : i = j <;> by_cases hkj : k = j
    · omega
    · subst hij
      rw [upd_same] at hib; rw [upd_other hkj] at hkb
      have := (hnew b hib).1; have := h.lt k b hk2 hkb; omega
    · subst hkj
      rw [upd_same] at hkb; rw [upd_other hij] at hib
      have := (hnew b hkb).1; have := h.lt i b hi2 hib; omega
    · rw [upd_other hij] at hib; rw [upd_other hkj] at hkb
      exact h.inj i k b hi2 hk2 hib hkb
/-- List j turned in its place. -/
theorem OwnsLL.turn {w w2 : World} {lo hi n c j R : Nat} {G : Nat → Option Nat} {C : Nat → Nat} {F : Nat → List Int} {ys : List Int} (h : OwnsLL w lo hi (.slice (some ⟨R, 0, none⟩) n c) n G C F) (hj : j < n)
    (hg : w.grownBy w2 (G j)) (hy : ys.length = (F j).length)
    (ht : w2.ownsRow lo 3 1 (.slice (addrO (G j)) (F j).length (C j)) (F j).length (ys.map (Value.int .i64))) :
    OwnsLL w2 lo hi (.slice (some ⟨R, 0, none⟩) n c) n G C (upd F j ys) := by
  refine ⟨?_, h.rowlt, fun i hi => ?_, h.lt, h.inj⟩
  · rw [flatL_congr (F' := F) fun i hi => by
      by_cases hij : i = j
      · subst hij; rw [upd_same]; exact ⟨rfl, rfl, hy⟩
      · rw [upd_other hij]; exact ⟨rfl, rfl, rfl⟩]
    refine h.row.kept hg (.inr ?_)
    intro e
    cases hgj : G j with
    | none => rw [hgj] at e; simp [Value.ownBlock] at e
    | some b =>
      rw [hgj] at e
      have hq := h.tab j hj
      rw [hgj] at hq
      exact row_ne h.row hq (by decide) e
  · by_cases hij : i = j
    · subst hij; rw [upd_same, hy]; exact ht
    · rw [upd_other hij]
      refine (h.tab i hi).kept hg ?_
      rw [own_addrO]
      cases hgi : G i with
      | none => exact .inl rfl
      | some b => exact .inr fun e => hij (h.inj i j b hi hj hgi e.symm)

theorem Try.infoInts : (Try.prog.info? 42).map (fun i => (i.zero, i.size, i.bytes)) = some (some (.slice none 0 0), 1, 24) := by kernel_rfl
theorem make_ll (w : World) (n : Nat) (hn : n ≤ 1048576) : ∃ w', (Instr.makeSlice 26 (.int .i64 (n : Int)) (.int .i64 (n : Int))).run Try.prog w = .ok (.slice (some ⟨w.heap.size, 0, none⟩) n n) w' ∧
    OwnsLL w' w.heap.size w'.heap.size (.slice (some ⟨w.heap.size, 0, none⟩) n n) n (fun _ => none) (fun _ => 0) (fun _ => []) ∧ Below w.heap.size w w' := by
  obtain ⟨i0, hi0, hz0, hz1, hz2⟩ := info_parts Try.infoInts
  obtain ⟨w', hrun, r1, r2⟩ := run_make_full (P := Try.prog) w w.heap.size 26 42 i0 _ 1 Try.underlying26 hi0 hz0 hz1 .i64 .i64 n (by rw [hz2]; omega) (by unfold maxLen; omega) (Nat.le_refl _)
  refine ⟨w', hrun, ?_, (Below.refl _ _).grown r2 (Nat.le_refl _) (by intro k hk; cases hk)⟩
  rw [show (Value.slice none 0 0).cells = #[Value.slice none 0 0] from rfl, Nat.mul_one, toList_madeCells_one] at r1
  refine ⟨?_, fun k hk => (r1.lt k hk).2, fun j hj => World.ownsRow_nil _ _ _ _, fun j g hj hg => absurd hg (by simp), fun i j g hi hj hg _ => absurd hg (by simp)⟩
  rw [show flatL n (fun _ => none) (fun _ => 0) (fun _ => []) = List.replicate n (Value.slice none 0 0) from ?_]
  · exact r1
  · unfold flatL
    rw [List.map_const', List.length_range]
    rfl

def lsum (ls : List (List Int)) : Nat := (ls.map List.length).sum
theorem lsum_succ {ls : List (List Int)} {k : Nat} {xs : List Int} (h : ls[k]? = some xs) : lsum (ls.take (k + 1)) = lsum (ls.take k) + xs.length := by
  rw [List.take_add_one, h]; simp [lsum]
theorem lsum_take_le (ls : List (List Int)) (k : Nat) : lsum (ls.take k) ≤ lsum ls := by
  induction ls generalizing k with
  | nil => simp [lsum]
  | cons y r ih =>
    cases k with
    | zero => simp [lsum]
    | succ k =>
      have := ih k
      simp only [lsum, List.take_succ_cons, List.map_cons, List.sum_cons] at this ⊢
      omega
theorem lsum_all {ls : List (List Int)} {k : Nat} (h : ls.length ≤ k) : lsum (ls.take k) = lsum ls := by rw [List.take_of_length_le h]
theorem lsum_get {ls : List (List Int)} {k : Nat} {xs : List Int} (h : ls[k]? = some xs) : xs.length ≤ lsum ls := by
  have h1 := lsum_take_le ls (k + 1)
  rw [lsum_succ h] at h1
  omega
theorem smallL_of {n : Nat} {ls : List (List Int)} (h : ((n + lsum ls : Nat) : Int) ≤ 1048576) : n ≤ 1048576 ∧ n * 24 ≤ 281474976710656 ∧ (∀ (j : Nat) (xs : List Int), ls[j]? = some xs → xs.length * 8 ≤ 281474976710656) ∧ (∀ (j : Nat) (xs : List Int), ls[j]? = some xs → xs.length ≤ maxLen) := by
  refine ⟨by omega, by omega, fun j f hf => ?_, fun j f hf => ?_⟩
  · have := lsum_get hf; omega
  · have := lsum_get hf; unfold maxLen; omega
/-- How many marks stand ahead of list j. -/
def preLL (F : Nat → List Int) : Nat → Nat
  | 0 => 0
  | j + 1 => preLL F j + (F j).length
theorem preLL_mono (F : Nat → List Int) {i j : Nat} (h : i ≤ j) : preLL F i ≤ preLL F j := by
  induction j with
  | zero => obtain rfl : i = 0 := by omega
            exact Nat.le_refl _
  | succ j ih =>
    by_cases hij : i = j + 1
    · subst hij; exact Nat.le_refl _
    · have := ih (by omega)
      simp only [preLL]; omega
theorem preLL_fs (ls : List (List Int)) : preLL (fun j => ls.getD j []) ls.length = lsum ls := by
  have h : ∀ k, k ≤ ls.length → preLL (fun j => ls.getD j []) k = lsum (ls.take k) := by
    intro k
    induction k with
    | zero => intro _; simp [preLL, lsum]
    | succ k ih =>
      intro hk
      have hx : ls[k]? = some (ls[k]'(by omega)) := List.getElem?_eq_getElem (by omega)
      rw [preLL, ih (by omega), lsum_succ hx, List.getD_eq_getElem?_getD, hx]
      simp only [Option.getD_some]
  rw [h _ (Nat.le_refl _), lsum_all (Nat.le_refl _)]
def markLs (k : Int) (F : Nat → List Int) : Nat → List Int := fun j => upFrom (k + (preLL F j : Int)) (F j).length
def mixL (k : Int) (F : Nat → List Int) (j : Nat) : Nat → List Int := fun i => if i < j then markLs k F i else F i
theorem mixL_zero (k : Int) (F : Nat → List Int) : mixL k F 0 = F := by funext i; simp [mixL]
theorem mixL_at (k : Int) (F : Nat → List Int) (j : Nat) : mixL k F j j = F j := by simp [mixL]
theorem mixL_step (k : Int) (F : Nat → List Int) (j : Nat) : upd (mixL k F j) j (markLs k F j) = mixL k F (j + 1) := by
  funext i
  unfold upd mixL
  by_cases h : i = j
  · subst h; simp
  · by_cases h2 : i < j
    · have h3 : i < j + 1 := by omega
      simp [h, h2, h3]
    · have h3 : ¬ i < j + 1 := by omega
      simp [h, h2, h3]
theorem mixL_all (k : Int) (F : Nat → List Int) {n i : Nat} (h : i < n) : mixL k F n i = markLs k F i := by simp [mixL, h]

/-- A copy of a list of lists, in memory of the call's own. -/
def MadeLL (w w' : World) (ao : Option Addr) (n c : Nat) (ls : List (List Int)) : Prop :=
  (∃ G C, OwnsLL w' w.heap.size w'.heap.size (.slice ao n c) n G C (fun j => ls.getD j [])) ∧ Below w.heap.size w w'
theorem MadeLL.view {w w' : World} {ao : Option Addr} {n c : Nat} {ls : List (List Int)} (h : MadeLL w w' ao n c ls) (hl : ls.length = n) : LView w' w.heap.size w'.heap.size ao n ls := by
  obtain ⟨⟨G, C, ho⟩, _⟩ := h
  have h2 := ho.view
  rw [← hl, map_range_getL] at h2
  rw [← hl]
  exact h2
/-- A list of lists with a bool, as a result. -/
def ResS (w w' : World) (ls : List (List Int)) (ok : Bool) (e : Ending) : Prop :=
  ∃ ao n c G C, e = .returned (.tuple #[.slice ao n c, .bool ok]) ∧ n = ls.length ∧ OwnsLL w' w.heap.size w'.heap.size (.slice ao n c) n G C (fun j => ls.getD j []) ∧ Below w.heap.size w w'
end

section
open Go.RowKit
set_option linter.unusedVariables false
set_option linter.unusedSimpArgs false

theorem eqLL_zero (ao bo : Option Addr) (c d : Nat) (w : World) :
    Calls Try.prog 11 #[.slice ao 0 c, .slice bo 0 d] w fun e w' => e = .returned (.bool true) ∧ ∃ q, w' = w.drewN q := by
  go_enter Try.func11, Try.ntmps11
  go_wp2
  refine wp_loop_rounds 1 ?_
  rw [rounds_succ]
  go_wp2
  go_ret
  exact ⟨rfl, 0, rfl⟩

set_option maxHeartbeats 1000000 in
theorem eqLL_some (lo hi lo2 hi2 : Nat) (b o c b2 o2 c2 n : Nat) (ls : List (List Int)) (w : World) (hlen : ls.length = n) (hn : n ≤ maxLen) (hs : ∀ (j : Nat) (xs : List Int), ls[j]? = some xs → xs.length ≤ maxLen)
    (hc : ∀ j xs, ls[j]? = some xs → ∃ a m c, w.cell? ⟨b, o + j, none⟩ = some (.slice a m c) ∧ m ≤ c ∧ c ≤ maxLen ∧ IView w lo hi a m xs)
    (hc2 : ∀ j xs, ls[j]? = some xs → ∃ a m c, w.cell? ⟨b2, o2 + j, none⟩ = some (.slice a m c) ∧ m ≤ c ∧ c ≤ maxLen ∧ IView w lo2 hi2 a m xs) :
    Calls Try.prog 11 #[.slice (some ⟨b, o, none⟩) n c, .slice (some ⟨b2, o2, none⟩) n c2] w fun e w' => e = .returned (.bool true) ∧ ∃ q, w' = w.drewN q := by
  unfold maxLen at hn
  have HL := Lib.hid hlen
  have HC := Lib.hid hc
  have HC2 := Lib.hid hc2
  have HSz := Lib.hid hs
  clear hlen hc hc2 hs
  go_enter Try.func11, Try.ntmps11
  go_wp2_with fail
  go_loopw [5] (fun i wr => ∃ k : Nat, k ≤ n ∧ i = .int .i64 k ∧ Hid (∃ q, wr = w.drewN q)) (fun i _ => n - (intOf i).toNat)
  case atStart => exact ⟨0, Nat.zero_le _, rfl, ⟨0, rfl⟩⟩
  case round =>
    obtain ⟨k, hk, rfl, HQ⟩ := hrel
    by_cases hlt : k < n
    · obtain ⟨f, hf⟩ := get_of_lt HL.out hlt
      obtain ⟨a, m, c', e1, _, _, hv⟩ := HC.out k f hf
      obtain ⟨a2, m2, c2', g1, _, _, hv2⟩ := HC2.out k f hf
      obtain rfl : m2 = m := by have h1 := hv.1; have h2 := hv2.1; omega
      have hm := HSz.out k f hf
      rw [hv.1] at hm
      have hkq : ∀ lo hi, Kept lo hi w wr := fun lo hi => by
        obtain ⟨q, hq⟩ := HQ.out
        rw [hq]; exact Kept.drewN w q
      have e1' : wr.cell? ⟨b, o + k, none⟩ = some (.slice a m2 c') := by
        obtain ⟨q, hq⟩ := HQ.out
        rw [hq]; exact e1
      have g1' : wr.cell? ⟨b2, o2 + k, none⟩ = some (.slice a2 m2 c2') := by
        obtain ⟨q, hq⟩ := HQ.out
        rw [hq]; exact g1
      have hcall : ∀ n, Calls Try.prog 26 #[.slice a m2 c', .slice a2 m2 c2'] (wr.drewN n) fun e w' => e = .returned (.bool true) ∧ ∃ m, w' = wr.drewN m := fun n =>
        (eqInts_view lo hi lo2 hi2 a a2 c' c2' m2 f (wr.drewN n) ((hv.kept (hkq _ _)).kept (Kept.drewN wr n)) ((hv2.kept (hkq _ _)).kept (Kept.drewN wr n)) hm).mono fun e w' ⟨he, q2, hq2⟩ => ⟨he, n + q2, by rw [hq2, World.drewN_drewN]⟩
      have HCall := Lib.hid hcall
      clear hf hv hv2 hm hcall hkq e1 g1
      go_wp2_with fail
      go_quiet ((go_at_call 26; exact (HCall.out _)))
      go_wp2_with fail
      go_roundw
      case rel => exact ⟨k + 1, by omega, by go_num, by obtain ⟨q, hq⟩ := HQ.out; exact ⟨q + nq, by rw [hq, World.drewN_drewN]⟩⟩
      case measure => simp [intOf]; omega
    · go_wp2
      go_ret
      exact ⟨rfl, HQ.out⟩

theorem eqLL_view (lo hi lo2 hi2 : Nat) (ao bo : Option Addr) (c d n : Nat) (ls : List (List Int)) (w : World) (h : LView w lo hi ao n ls) (h2 : LView w lo2 hi2 bo n ls) (hn : n ≤ maxLen) (hs : ∀ (j : Nat) (xs : List Int), ls[j]? = some xs → xs.length ≤ maxLen) :
    Calls Try.prog 11 #[.slice ao n c, .slice bo n d] w fun e w' => e = .returned (.bool true) ∧ ∃ q, w' = w.drewN q := by
  obtain ⟨h1, rfl | ⟨b, o, rfl, _, _, hc⟩⟩ := h
  · exact eqLL_zero ao bo c d w
  · obtain ⟨_, rfl | ⟨b2, o2, rfl, _, _, hc2⟩⟩ := h2
    · exact eqLL_zero _ bo c d w
    · exact eqLL_some lo hi lo2 hi2 b o c b2 o2 d n ls w h1 hn hs hc hc2

theorem markInts_row (b n c : Nat) (g : Option Nat) (k : Int) (xs : List Int) (w : World) (hk0 : 0 ≤ k) (hk : k + (n : Int) ≤ 4611686018427387904) (h : w.ownsRow b 3 1 (.slice (addrO g) n c) n (xs.map (Value.int .i64))) :
    Calls Try.prog 29 #[.slice (addrO g) n c, .int .i64 k] w fun e w' => e = .returned (.int .i64 (k + (n : Int))) ∧ w'.ownsRow b 3 1 (.slice (addrO g) n c) n ((upFrom k n).map (Value.int .i64)) ∧ w.grownBy w' g := by
  cases g with
  | some g => exact markInts_some b g n c k xs w hk0 hk h
  | none =>
    have h0 : n = 0 := by
      rcases h.2 with ⟨_, h0⟩ | ⟨g, cap, cur, he, _⟩
      · exact h0
      · cases he
    subst h0
    have hx : xs = [] := List.eq_nil_of_length_eq_zero (by have := h.1; simpa using this)
    subst hx
    refine (markInts_nil none c k w).mono fun e w' ⟨he, hw⟩ => ?_
    subst hw
    exact ⟨by rw [he]; simp, h, World.grownBy.refl _ _⟩

theorem markLL_nil (ao : Option Addr) (c : Nat) (k : Int) (w : World) :
    Calls Try.prog 14 #[.slice ao 0 c, .int .i64 k] w fun e w' => e = .returned (.int .i64 k) ∧ w = w' := by
  go_enter Try.func14, Try.ntmps14
  go_wp2
  refine wp_loop_rounds 1 ?_
  rw [rounds_succ]
  go_wp2
  go_ret
  exact ⟨rfl, rfl⟩

set_option maxHeartbeats 1000000 in
theorem markLL_some (lo hi R n c : Nat) (G : Nat → Option Nat) (C : Nat → Nat) (F : Nat → List Int) (k : Int) (w : World) (hk0 : 0 ≤ k) (hk : k + (preLL F n : Int) ≤ 4611686018427387904) (h : OwnsLL w lo hi (.slice (some ⟨R, 0, none⟩) n c) n G C F) (hn : n ≤ maxLen) :
    Calls Try.prog 14 #[.slice (some ⟨R, 0, none⟩) n c, .int .i64 k] w fun e w' => e = .returned (.int .i64 (k + (preLL F n : Int))) ∧ OwnsLL w' lo hi (.slice (some ⟨R, 0, none⟩) n c) n G C (markLs k F) ∧ Only lo hi w w' := by
  have HO := Lib.hid h
  unfold maxLen at hn
  clear h
  go_enter Try.func14, Try.ntmps14
  go_wp2
  go_loopw [1, 5] (fun kk i wr => ∃ j p : Nat, j ≤ n ∧ i = .int .i64 j ∧ kk = .int .i64 (k + (p : Int)) ∧ Hid (p = preLL F j) ∧ Hid (OwnsLL wr lo hi (.slice (some ⟨R, 0, none⟩) n c) n G C (mixL k F j)) ∧ Hid (Only lo hi w wr)) (fun _ i _ => n - (intOf i).toNat)
  case atStart => exact ⟨0, 0, Nat.zero_le _, rfl, by simp, rfl, by rw [mixL_zero]; exact HO, Only.refl _ _ _⟩
  case round =>
    obtain ⟨j, p, hj, rfl, rfl, HP, HR, HB⟩ := hrel
    by_cases hlt : j < n
    · have hc1 : wr.cell? ⟨R, j, none⟩ = some (.slice (addrO (G j)) (F j).length (C j)) := by
        rw [HR.out.row.cellAt j (by omega), flatL_get hlt, mixL_at]
      have ht1 := HR.out.tab j hlt
      rw [mixL_at] at ht1
      have hpm := preLL_mono F (show j + 1 ≤ n by omega)
      have hpe : preLL F (j + 1) = p + (F j).length := by rw [preLL, HP.out]
      rw [hpe] at hpm
      obtain ⟨m, hm⟩ : ∃ m, m = (F j).length := ⟨_, rfl⟩
      rw [← hm] at hc1 hpm hpe ht1
      have HCall := Lib.hid (markInts_row lo m (C j) (G j) (k + (p : Int)) (F j) wr (by omega) (by omega) ht1)
      have HM := Lib.hid hm
      have HPE := Lib.hid hpe
      have hlo : Hid (∀ b, G j = some b → lo ≤ b ∧ b < hi) := fun b hb => ⟨((HR.out.tab j hlt).lt b (by rw [own_addrO]; exact hb)).1, HR.out.lt j b hlt hb⟩
      clear ht1 hm hpe
      go_wp2_with fail
      refine HCall.out.mono ?_
      rintro e w2 ⟨rfl, ho2, hg2⟩
      have HN : Hid (OwnsLL w2 lo hi (.slice (some ⟨R, 0, none⟩) n c) n G C (mixL k F (j + 1))) := by
        have h3 := HR.out.turn (ys := upFrom (k + (p : Int)) m) hlt hg2 (by rw [upFrom_len, mixL_at, HM.out]) (by rw [mixL_at, ← HM.out]; exact ho2)
        have e1 : upFrom (k + (p : Int)) m = markLs k F j := by rw [markLs, ← HP.out, ← HM.out]
        rw [e1, mixL_step] at h3
        exact h3
      have HB2 : Hid (Only lo hi w w2) := HB.out.trans (Only.of_grown hg2 (by intro q hq; exact hlo.out q hq))
      clear ho2 hg2 hc1
      go_wp2_with fail
      go_roundw
      case rel => exact ⟨j + 1, p + m, by omega, by go_num, by go_num, HPE.out.symm, HN, HB2⟩
      case measure => simp [intOf]; omega
    · go_wp2
      go_ret
      obtain rfl : j = n := by omega
      exact ⟨ret_int (by rw [HP.out]), HR.out.congrF fun i hi => mixL_all k F hi, HB.out⟩

theorem markLL_own (lo hi n c : Nat) (ao : Option Addr) (G : Nat → Option Nat) (C : Nat → Nat) (F : Nat → List Int) (k : Int) (w : World) (hk0 : 0 ≤ k) (hk : k + (preLL F n : Int) ≤ 4611686018427387904) (h : OwnsLL w lo hi (.slice ao n c) n G C F) (hh : hi ≤ w.heap.size) :
    Calls Try.prog 14 #[.slice ao n c, .int .i64 k] w fun e w' => e = .returned (.int .i64 (k + (preLL F n : Int))) ∧ OwnsLL w' lo hi (.slice ao n c) n G C (markLs k F) ∧ Only lo hi w w' := by
  rcases Nat.eq_zero_or_pos n with h0 | h0
  · subst h0
    refine (markLL_nil ao c k w).mono fun e w' ⟨he, hw⟩ => ?_
    subst hw
    exact ⟨by rw [he]; simp [preLL], h.congrF fun j hj => by omega, Only.refl _ _ _⟩
  · rcases h.row.2 with ⟨_, h1⟩ | ⟨g, cap, cur, he, hg, _, h1, h2, _⟩
    · omega
    · cases he
      exact markLL_some lo hi g n c G C F k w hk0 hk h (by omega)

set_option maxHeartbeats 1000000 in
theorem heldLL_view (lo hi n c : Nat) (ao : Option Addr) (F : Nat → List Int) (k : Int) (w : World) (hk0 : 0 ≤ k) (hk : k + (preLL F n : Int) ≤ 4611686018427387904) (h : LView w lo hi ao n ((List.range n).map (markLs k F))) (hn : n ≤ 4194304 := by first | assumption | omega) :
    Calls Try.prog 15 #[.slice ao n c, .int .i64 k] w fun e w' => e = .returned (.int .i64 (k + (preLL F n : Int))) ∧ w = w' := by
  have HV := Lib.hid h
  clear h
  go_enter Try.func15, Try.ntmps15
  go_wp2
  go_loop [1, 5] (fun kk i => ∃ j p : Nat, j ≤ n ∧ i = .int .i64 j ∧ kk = .int .i64 (k + (p : Int)) ∧ Hid (p = preLL F j)) (fun _ i => n - (intOf i).toNat)
  case atStart => exact ⟨0, 0, Nat.zero_le _, rfl, by simp, rfl⟩
  case round =>
    obtain ⟨j, p, hj, rfl, rfl, HP⟩ := hrel
    by_cases hlt : j < n
    · obtain ⟨b, o, rfl, _, _, hc⟩ := HV.out.at_ (by omega)
      obtain ⟨a, m, c', c0, _, _, hv⟩ := hc j (markLs k F j) (by simp [hlt])
      have hml : (F j).length = m := by have := hv.1; simpa [markLs, upFrom_len] using this
      have hpm := preLL_mono F (show j + 1 ≤ n by omega)
      have hpe : preLL F (j + 1) = p + m := by rw [preLL, HP.out, hml]
      rw [hpe] at hpm
      have hv2 : IView w lo hi a m (upFrom (k + (p : Int)) m) := by
        have := hv
        rw [markLs, ← HP.out, hml] at this
        exact this
      have HCall := Lib.hid (heldInts_view lo hi a c' m (k + (p : Int)) w (by omega) (by omega) hv2)
      have HPE := Lib.hid hpe
      clear hc hv hml hpe hv2
      go_wp2_with fail
      refine HCall.out.mono ?_
      rintro e w2 ⟨rfl, rfl⟩
      go_wp2_with fail
      go_round
      case rel => exact ⟨j + 1, p + m, by omega, by go_num, by go_num, HPE.out.symm⟩
      case measure => simp [intOf]; omega
    · go_wp2
      go_ret
      obtain rfl : j = n := by omega
      exact ⟨ret_int (by rw [HP.out]), rfl⟩
end

section
open Go.RowKit
set_option linter.unusedVariables false
set_option linter.unusedSimpArgs false

theorem own_addr {w : World} {B n c : Nat} {e : TypeId} {s : Nat} {a : Option Addr} {xs : List Value} (h : w.ownsRow B e s (.slice a n c) n xs) : ∃ g, a = addrO g := by
  rcases h.2 with ⟨h1, _⟩ | ⟨g, cap, _, h1, _⟩
  · injection h1 with h1 _ _
    exact ⟨none, h1⟩
  · injection h1 with h1 _ _
    exact ⟨some g, h1⟩
theorem flatL_succ {k m d : Nat} {g : Option Nat} {G : Nat → Option Nat} {C : Nat → Nat} {F : Nat → List Int} (hm : (F k).length = m) : flatL (k + 1) (upd G k g) (upd C k d) F = flatL k G C F ++ [.slice (addrO g) m d] := by
  subst hm
  have h : flatL k (upd G k g) (upd C k d) F = flatL k G C F := flatL_congr fun j hj => ⟨upd_other (by omega), upd_other (by omega), rfl⟩
  rw [← h]
  unfold flatL
  rw [List.range_succ, List.map_append, List.map_cons, List.map_nil, upd_same, upd_same]

/-- The lists so far. -/
def BuiltL (w : World) (lo : Nat) (v : Value) (k : Nat) (F : Nat → List Int) : Prop := ∃ G C, OwnsLL w lo w.heap.size v k G C F
theorem BuiltL.nil (w : World) (lo : Nat) (F : Nat → List Int) : BuiltL w lo (.slice none 0 0) 0 F :=
  ⟨fun _ => none, fun _ => 0, World.ownsRow_nil _ _ _ _, fun k h => by simp [Value.ownBlock] at h, fun j hj => by omega, fun j g hj => by omega, fun i j g hi => by omega⟩
theorem BuiltL.below {w w1 : World} {lo k : Nat} {v : Value} {F : Nat → List Int} (h : BuiltL w lo v k F) (hb : Below w.heap.size w w1) : BuiltL w1 lo v k F := by
  obtain ⟨G, C, h⟩ := h
  exact ⟨G, C, (h.kept (Kept.of_below hb (Nat.le_refl _))).hi_mono hb.size⟩
theorem BuiltL.row {w : World} {lo k : Nat} {v : Value} {F : Nat → List Int} (h : BuiltL w lo v k F) : ∃ xs, w.ownsRow lo 42 1 v k xs ∧ xs.length = k := by
  obtain ⟨G, C, h⟩ := h
  exact ⟨_, h.row, flatL_len _ _ _ _⟩
/-- The first one, as a literal. -/
theorem BuiltL.one {w : World} {lo m d : Nat} {g : Option Nat} {F : Nat → List Int} (hm : (F 0).length = m) (ht : w.ownsRow lo 3 1 (.slice (addrO g) m d) m ((F 0).map (Value.int .i64))) (hlo : lo ≤ w.heap.size) :
    BuiltL (w.alloc (.cells #[.slice (addrO g) m d] 42)) lo (.slice (some ⟨w.heap.size, 0, none⟩) 1 1) 1 F := by
  subst hm
  refine ⟨fun _ => g, fun _ => d, ?_, fun k hk => ?_, fun j hj => ?_, fun j b hj hb => ?_, fun i j b hi hj _ _ => by omega⟩
  · exact World.ownsRow_lit (base := lo) (e := 42) (size := 1) w #[.slice (addrO g) (F 0).length d] 1 hlo (by decide) rfl
  · have : w.heap.size = k := by simpa [Value.ownBlock] using hk
    simp; omega
  · obtain rfl : j = 0 := by omega
    exact ht.alloc _
  · have h1 := (ht.lt b (by rw [own_addrO]; exact hb)).2
    simp; omega

/-- One more. wr: the world ahead of the round; w2: behind the list; w3: behind the append. -/
theorem OwnsLL.pushG {wr w2 w3 : World} {lo k m d : Nat} {g : Option Nat} {v v' : Value} {G : Nat → Option Nat} {C : Nat → Nat} {F : Nat → List Int} (h : OwnsLL wr lo wr.heap.size v k G C F)
    (hb : Below wr.heap.size wr w2) (hlo : lo ≤ wr.heap.size) (hm : (F k).length = m) (ht : w2.ownsRow wr.heap.size 3 1 (.slice (addrO g) m d) m ((F k).map (Value.int .i64))) {ob : Obj}
    (hown : w3.ownsRow lo 42 1 v' (k + 1) (flatL k G C F ++ [.slice (addrO g) m d])) (hgrow : (w2.alloc ob).grownBy w3 v.ownBlock) : ∃ G' C', OwnsLL w3 lo w3.heap.size v' (k + 1) G' C' F ∧ G' = upd G k g := by
  subst hm
  have hrow2 := h.row.kept (grown_of_below hb none) (own_em _)
  have hs3 : w2.heap.size < w3.heap.size := by have := hgrow.size; simp at this; omega
  have hne : ∀ (xs : List Int) (g : Option Nat) (m c B : Nat), w2.ownsRow B 3 1 (.slice (addrO g) m c) m (xs.map (Value.int .i64)) → (Value.slice (addrO g) m c).ownBlock = none ∨ (Value.slice (addrO g) m c).ownBlock ≠ v.ownBlock := by
    intro xs g m c B hq
    cases g with
    | none => exact .inl rfl
    | some b => exact .inr fun e => row_ne hrow2 hq (by decide) (e.symm.trans rfl)
  refine ⟨upd G k g, upd C k d, ⟨?_, fun b hb2 => (hown.lt b hb2).2, fun j hj => ?_, fun j b hj hb2 => ?_, fun i j b hi hj hib hjb => ?_⟩, rfl⟩
  · rw [flatL_succ rfl]; exact hown
  · by_cases hjk : j = k
    · subst hjk
      rw [upd_same, upd_same]
      exact ((ownsRow_base ht hlo).alloc ob).kept hgrow (hne _ _ _ _ _ ht)
    · rw [upd_other hjk, upd_other hjk]
      have h2 := (h.tab j (by omega)).kept (grown_of_below hb none) (own_em _)
      exact (h2.alloc ob).kept hgrow (hne _ _ _ _ _ h2)
  · by_cases hjk : j = k
    · subst hjk
      rw [upd_same] at hb2
      have := (ht.lt b (by rw [own_addrO]; exact hb2)).2; omega
    · rw [upd_other hjk] at hb2
      have := h.lt j b (by omega) hb2; have := hb.size; omega
  · by_cases hik : i = k <;> by_cases hjk : j = k
    · omega
    · subst hik
      rw [upd_same] at hib; rw [upd_other hjk] at hjb
      have := (ht.lt b (by rw [own_addrO]; exact hib)).1; have := h.lt j b (by omega) hjb; omega
    · subst hjk
      rw [upd_same] at hjb; rw [upd_other hik] at hib
      have := (ht.lt b (by rw [own_addrO]; exact hjb)).1; have := h.lt i b (by omega) hib; omega
    · rw [upd_other hik] at hib; rw [upd_other hjk] at hjb
      exact h.inj i j b (by omega) (by omega) hib hjb

theorem OwnsLL.push {wr w2 w3 : World} {lo k m d : Nat} {g : Option Nat} {v v' : Value} {G : Nat → Option Nat} {C : Nat → Nat} {F : Nat → List Int} (h : OwnsLL wr lo wr.heap.size v k G C F)
    (hb : Below wr.heap.size wr w2) (hlo : lo ≤ wr.heap.size) (hm : (F k).length = m) (ht : w2.ownsRow wr.heap.size 3 1 (.slice (addrO g) m d) m ((F k).map (Value.int .i64))) {ob : Obj}
    (hown : w3.ownsRow lo 42 1 v' (k + 1) (flatL k G C F ++ [.slice (addrO g) m d])) (hgrow : (w2.alloc ob).grownBy w3 v.ownBlock) : BuiltL w3 lo v' (k + 1) F := by
  obtain ⟨G', C', h1, _⟩ := h.pushG hb hlo hm ht hown hgrow
  exact ⟨G', C', h1⟩
end

section
open Go.RowKit
set_option linter.unusedVariables false
set_option linter.unusedSimpArgs false

/-! What a search keeps. -/
section
variable {most l zb : Nat} {fs gs : List OpD} {lead want : (Nat → Int) → Bool} {P : St → Prop}
theorem kids_inv {step : Nat → St → St} (ht : ∀ s, alive most s = true → P s → P (s.1 + 1, s.2)) (hs : ∀ y s, alive most s = true → P s → P (step y s)) : ∀ n y s, P s → P (kids most step n y s)
  | 0, _, s, h => h
  | n + 1, y, s, h => by
    cases ha : alive most s with
    | false => rw [kids_dead ha]; exact h
    | true =>
      by_cases h2 : s.1 + 1 > 5000
      · rw [kids_over ha h2]; exact ht s ha h
      · rw [kids_on ha h2]
        refine kids_inv ht hs n _ _ (hs y _ ?_ (ht s ha h))
        unfold alive at ha ⊢
        simp only [Bool.and_eq_true, decide_eq_true_eq] at ha ⊢
        exact ⟨ha.1, by omega⟩
theorem tryS_inv {z z1 : Int} {walk : (Nat → Int) → St → St} (hw : ∀ f s, alive most s = true → P s → P (walk f s)) (f : Nat → Int) (s : St) (ha : alive most s = true) (h : P s) : P (tryS z z1 fs gs lead walk f s) := by
  cases hc : closV z z1 fs gs f with
  | none => rw [tryS_none hc]; exact h
  | some c =>
    cases hl : lead c with
    | false => rw [tryS_no hc hl]; exact h
    | true => rw [tryS_yes hc hl]; exact hw c s ha h
theorem walkS_inv (ht : ∀ s, alive most s = true → P s → P (s.1 + 1, s.2)) (hl : ∀ f s, alive most s = true → P s → P (s.1, s.2 ++ [lstP l f])) : ∀ d f s, alive most s = true → P s → P (walkS l zb fs gs lead want most d f s)
  | 0, _, _, _, h => h
  | d + 1, f, s, ha, h => by
    cases ho : firstOpen f l with
    | none =>
      rw [walkS_leaf ho]
      split
      · exact hl f s ha h
      · exact h
    | some x =>
      rw [walkS_node ho]
      exact kids_inv ht (fun y s2 ha2 h2 => tryS_inv (fun f3 s3 ha3 h3 => walkS_inv ht hl d f3 s3 ha3 h3) _ s2 ha2 h2) _ _ _ h
theorem srchS_inv (hm : 0 < most) (h0 : P (0, [])) (ht : ∀ s, alive most s = true → P s → P (s.1 + 1, s.2)) (hl : ∀ f s, alive most s = true → P s → P (s.1, s.2 ++ [lstP l f])) : P (srchS l zb fs gs lead want most) := by
  refine tryS_inv (fun f s ha h => walkS_inv ht hl 9 f s ha h) _ _ ?_ h0
  unfold alive
  simp
  exact hm
end
end

section
open Go.RowKit Go.Shelf
set_option linter.unusedVariables false
set_option linter.unusedSimpArgs false


set_option maxHeartbeats 1000000 in
theorem listG_any (f : Nat → Int) (n : Nat) (w : World) (h1 : 1 ≤ n) (h8 : n ≤ 8) :
    Calls Try.prog 54 #[.agg (arrV f), .int .i64 (n : Int)] w fun e w' => NewInts w w' n (lstP n f) e := by
  have HA := Lib.hid (ArrAt.new w f)
  have hC := fun (c : Nat) => clone_ints w.heap.size (w.heap.size + 1) (some ⟨w.heap.size, 0, none⟩) n c (lstP n f) (w.alloc (.cells (arrV f) 51)) (arr_viewG HA.out h8) (by omega) (by omega)
  have HC := Lib.hid hC
  have hn8 : (n : Int) ≤ 8 := by omega
  have hB := Lib.hid (below_alloc w (.cells (arrV f) 51))
  clear hC
  unfold NewInts
  go_enter Try.func54, Try.ntmps54
  go_wp2_with fail
  refine (HC.out _).mono ?_
  rintro e w2 ⟨g, d, rfl, ho, b2⟩
  have HO := Lib.hid (ownsRow_base ho (b' := w.heap.size) (by show w.heap.size ≤ (w.alloc _).heap.size; simp))
  have HB := Lib.hid (below_then hB.out b2)
  clear ho b2
  go_wp2_with fail
  go_ret
  exact ⟨g, d, rfl, HO.out, HB.out⟩
end

section
open Go.RowKit Go.Shelf
set_option linter.unusedVariables false
set_option linter.unusedSimpArgs false

def tVL (T : Nat) : Bool := T == 26
theorem tVL_1 : ∀ T, tVL T = true → tT1 T = true := fun T h => by unfold tVL at h; unfold tT1; rw [h]; rfl
theorem tR_1 : ∀ T, tR T = true → tT1 T = true := fun T h => by unfold tR at h; unfold tT1; rw [h]; simp
theorem OwnsLL.turnT {W W' : World} {lo bs n : Nat} {v : Value} {G : Nat → Option Nat} {C : Nat → Nat} {F : Nat → List Int} {TT : Nat → Bool} (h : OwnsLL W lo W.heap.size v n G C F) (t : Turn bs TT W W') (h1 : TT 3 = false) (h2 : TT 42 = false) : OwnsLL W' lo W'.heap.size v n G C F :=
  ⟨t.row h.row h2, fun k hk => Nat.lt_of_lt_of_le (h.rowlt k hk) t.size, fun j hj => t.row (h.tab j hj) h1, fun j g hj hg => Nat.lt_of_lt_of_le (h.lt j g hj hg) t.size, h.inj⟩
def HomR (w0 : World) (l : Nat) (ao : Option Addr) (n c : Nat) (W : World) (ms : List (List Int)) : Prop :=
  Below w0.heap.size w0 W ∧ W.heap[w0.heap.size]? = some (.cells #[.int .i64 (l : Int), .slice ao n c] 31 (0, 0)) ∧ (∀ xs, xs ∈ ms → xs.length = l) ∧
    ∃ va vc, W.heap[w0.heap.size + 1 + 1]? = some (.cells #[.slice va ms.length vc] 26 (0, 0)) ∧ BuiltL W w0.heap.size (.slice va ms.length vc) ms.length (fun j => ms.getD j [])
theorem HomR.turn {w0 : World} {l : Nat} {ao : Option Addr} {n c : Nat} {W W' : World} {ms : List (List Int)} (h : HomR w0 l ao n c W ms) (t : Turn w0.heap.size tT2 W W') : HomR w0 l ao n c W' ms := by
  obtain ⟨h1, h2, h3, va, vc, h4, G, C, h5⟩ := h
  exact ⟨h1.trans (t.below h1.size), t.keep h2 rfl, h3, va, vc, t.keep h4 rfl, G, C, h5.turnT t rfl rfl⟩

set_option maxHeartbeats 4000000 in
set_option maxRecDepth 100000 in
theorem homTake_any (w0 : World) (l zb : Nat) (ao : Option Addr) (n c : Nat) (h1 : 1 ≤ l) (h8 : l ≤ 8) (W : World) (f : Nat → Int) (ms : List (List Int)) (hR : HomR w0 l ao n c W ms) (hms : ms.length < 301) :
    Calls Try.prog 53 (#[.agg (arrV f)] ++ #[.pointer (some ⟨w0.heap.size + 1 + 1, 0, none⟩), .pointer (some ⟨w0.heap.size, 0, none⟩)]) W fun e W' => e = .returned (.bool (decide ((ms ++ [lstP l f]).length < 301))) ∧ HomR w0 l ao n c W' (ms ++ [lstP l f]) ∧ Turn w0.heap.size tT1 W W' := by
  obtain ⟨i0, hi0, hz0, hz1, hz2⟩ := info_parts infoIntsW
  obtain ⟨hb0, hX, hls, va, vc, hV, G, C, hOw0⟩ := hR
  obtain ⟨F, hF⟩ : ∃ F : Nat → List Int, F = fun j => (ms ++ [lstP l f]).getD j [] := ⟨_, rfl⟩
  obtain ⟨k, hk⟩ : ∃ k, ms.length = k := ⟨_, rfl⟩
  rw [hk] at hV hOw0 hms
  have hOw : OwnsLL W w0.heap.size W.heap.size (.slice va k vc) k G C F := hOw0.congrF fun j hj => by
    rw [hF]
    show ms.getD j [] = (ms ++ [lstP l f]).getD j []
    rw [List.getD_eq_getElem?_getD, List.getD_eq_getElem?_getD, List.getElem?_append_left (by rw [hk]; exact hj)]
  have hFk : F k = lstP l f := by rw [hF]; show (ms ++ [lstP l f]).getD k [] = _; rw [List.getD_eq_getElem?_getD, List.getElem?_append_right (by rw [hk]; exact Nat.le_refl _), hk, Nat.sub_self]; rfl
  have HFe := Lib.hid hF
  have HFk : Hid ((F k).length = l ∧ F k = lstP l f) := ⟨by rw [hFk, lstP_len], hFk⟩
  have HOw := Lib.hid hOw
  have HLs : Hid (∀ xs, xs ∈ ms ++ [lstP l f] → xs.length = l) := fun xs hx => by
    rcases List.mem_append.1 hx with h | h
    · exact hls xs h
    · have : xs = lstP l f := by simpa using h
      rw [this, lstP_len]
  have HLen : Hid ((ms ++ [lstP l f]).length = k + 1) := by unfold Hid; rw [List.length_append, hk]; rfl
  have hdec : decide (((k + 1 : Nat) : Int) ≤ 300) = decide (k + 1 < 301) := decide_eq_decide.2 (by omega)
  obtain ⟨w1, hw1⟩ : ∃ w1, w1 = W.alloc (.cells (arrV f) 51) := ⟨_, rfl⟩
  obtain ⟨M, hM⟩ : ∃ M, M = W.heap.size := ⟨_, rfl⟩
  have hb1 : Below W.heap.size W w1 := by rw [hw1]; exact below_alloc _ _
  have HA1 : Hid (ArrAt w1 M f) := by unfold Hid; rw [hw1, hM]; exact ArrAt.new _ _
  have hX1 := (hb1.block _ (Array.getElem?_eq_some_iff.1 hX).1).trans hX
  have hV1 := (hb1.block _ (Array.getElem?_eq_some_iff.1 hV).1).trans hV
  have HX1 := Lib.hid hX1
  have HV1 := Lib.hid hV1
  have HB1 := Lib.hid hb1
  have HB0 := Lib.hid hb0
  have HLo : Hid (w0.heap.size ≤ W.heap.size) := hb0.size
  have HC1 : Hid (w1.cell? ⟨w0.heap.size, 0, none⟩ = some (.int .i64 (l : Int))) := cell_of_row w1 _ 0 _ _ _ hX1
  have c1 : w1.drew.cell? ⟨w0.heap.size + 1 + 1, 0, none⟩ = some (.slice va k vc) := cell_of_row w1 _ 0 _ _ _ hV1
  have HL := Lib.hid (fun W => listG_any f l W h1 h8)
  unfold NewInts at HL
  have zlo : w0.heap.size ≤ W.heap.size := hb0.size
  clear hX hV hOw0 hOw hls hb1 hb0 hX1 hV1 hF hFk hk
  show Calls _ _ #[.agg (arrV f), .pointer (some ⟨w0.heap.size + 1 + 1, 0, none⟩), .pointer (some ⟨w0.heap.size, 0, none⟩)] _ _
  go_enter Try.func53, Try.ntmps53
  go_wp2_with fail
  rw [← hw1, ← hM]
  clear hw1
  refine wp_region_noPanic ?_
  refine wp_region_held_drew (S := fun V => ArrAt V M f ∧ V.cell? ⟨w0.heap.size, 0, none⟩ = some (.int .i64 (l : Int))) (by kernel_rfl) ?_ (fun hHeld => ?_)
  · exact ⟨HA1.out, HC1.out⟩
  refine wpAnyH_take (i := 1) (oi := ⟨_, _, _, _, _, _⟩) rfl (by kernel_rfl) (by kernel_rfl) (by kernel_rfl) (fun _ _ _ h => h) (ld8Y rfl _ rfl rfl (fun _ h => h.1)) (by assumption) ?_
  (try simp only [Act.put, List.setIfInBounds_toArray, List.set_cons_zero, List.set_cons_succ])
  refine wpAnyH_take (i := 2) (oi := ⟨_, _, _, _, _, _⟩) (v := ?_) rfl (by kernel_rfl) (by kernel_rfl) (by kernel_rfl) (fun _ _ _ h => h) (Or.inl ⟨rfl, ?_⟩) (by assumption) ?_
  rotate_left 1
  · intro w_ hSw; (try dsimp only at hSw); go_simp; (try with_reducible rfl)
  (try simp only [Act.put, List.setIfInBounds_toArray, List.set_cons_zero, List.set_cons_succ])
  refine wpAnyH_take (i := 3) (oi := ⟨_, _, _, _, _, _⟩) (v := ?_) rfl (by kernel_rfl) (by kernel_rfl) (by kernel_rfl) (fun _ _ _ h => h) (Or.inl ⟨rfl, ?_⟩) (by assumption) ?_
  rotate_left 1
  · intro w_ hSw; (try dsimp only at hSw); go_simp; (try with_reducible rfl)
  (try simp only [Act.put, List.setIfInBounds_toArray, List.set_cons_zero, List.set_cons_succ])
  refine wpAnyH_ready (rs := [0, 4]) (by kernel_rfl) (by simp) ?_
  refine AllReadyH.cons (o := ⟨_, _, _, _, _, _⟩) rfl (fun K hK => ?_) (AllReadyH.cons (o := ⟨_, _, _, _, _, _⟩) rfl (fun K hK => ?_) AllReadyH.nil)
  · go_simp
    refine hK.out _ _ ?_ (fun hHeld => ?_)
    · exact ⟨HA1.out, HC1.out⟩
    clear hK K
    (try simp only [Act.put, List.setIfInBounds_toArray, List.set_cons_zero, List.set_cons_succ])
    refine wpAnyH_ready (rs := [4]) (by kernel_rfl) (by simp) ?_
    refine AllReadyH.cons (o := ⟨_, _, _, _, _, _⟩) rfl (fun K hK => ?_) AllReadyH.nil
    go_simp
    go_at_call 54
    refine (HL.out _).mono ?_
    rintro e w3 ⟨g, dd, rfl, ho3, b3⟩
    have b31 : Below w1.heap.size w1 w3 := (below_drew w1).trans b3
    have hA3 : ArrAt w3 M f := HA1.out.below b31 HA1.out.lt
    have HA3 := Lib.hid hA3
    have hX3 : w3.heap[w0.heap.size]? = some (.cells #[.int .i64 (l : Int), .slice ao n c] 31 (0, 0)) := (b31.block _ (Array.getElem?_eq_some_iff.1 HX1.out).1).trans HX1.out
    have HX3 := Lib.hid hX3
    have HC3 : Hid (w3.cell? ⟨w0.heap.size, 0, none⟩ = some (.int .i64 (l : Int))) := cell_of_row w3 _ 0 _ _ _ hX3
    have hV3 : w3.heap[w0.heap.size + 1 + 1]? = some (.cells #[.slice va k vc] 26 (0, 0)) := (b31.block _ (Array.getElem?_eq_some_iff.1 HV1.out).1).trans HV1.out
    have HV3 := Lib.hid hV3
    have b3W : Below W.heap.size W w3 := HB1.out.trans (b31.mono HB1.out.size)
    have HB3 := Lib.hid b3W
    have HO3 := Lib.hid (ownsRow_base ho3 (b' := W.heap.size) (Nat.le_trans HB1.out.size (below_drew w1).size))
    have c3 : w3.cell? ⟨w0.heap.size + 1 + 1, 0, none⟩ = some (.slice va k vc) := cell_of_row w3 _ 0 _ _ _ hV3
    have z3 : W.heap.size ≤ w3.heap.size := b3W.size
    clear ho3 b3 b31 hA3 hX3 hV3 b3W c1
    refine hK.out _ _ ?_ (fun hHeld => ?_)
    · exact ⟨HA3.out, HC3.out⟩
    clear hK K
    (try simp only [Act.put, List.setIfInBounds_toArray, List.set_cons_zero, List.set_cons_succ])
    refine wpAnyH_ready (rs := [5]) (by kernel_rfl) (by simp) ?_
    refine AllReadyH.cons (o := ⟨_, _, _, _, _, _⟩) rfl (fun K hK => ?_) AllReadyH.nil
    go_simp
    have HAa : Hid (ArrAt (w3.alloc (.cells #[.slice (some ⟨g, 0, none⟩) l dd] 42)) M f) := HA3.out.below (below_alloc _ _) HA3.out.lt
    have HCa : Hid ((w3.alloc (.cells #[.slice (some ⟨g, 0, none⟩) l dd] 42)).cell? ⟨w0.heap.size, 0, none⟩ = some (.int .i64 (l : Int))) := cell_b (below_alloc _ _) HC3.out
    have ca3 : (w3.alloc (.cells #[.slice (some ⟨g, 0, none⟩) l dd] 42)).cell? ⟨w0.heap.size + 1 + 1, 0, none⟩ = some (.slice va k vc) := cell_b (below_alloc _ _) c3
    refine hK.out _ _ ?_ (fun hHeld => ?_)
    · exact ⟨HAa.out, HCa.out⟩
    clear hK K
    (try simp only [Act.put, List.setIfInBounds_toArray, List.set_cons_zero, List.set_cons_succ])
    refine wpAnyH_ready (rs := [6]) (by kernel_rfl) (by simp) ?_
    refine AllReadyH.cons (o := ⟨_, _, _, _, _, _⟩) rfl (fun K hK => ?_) AllReadyH.nil
    refine step_append_lies _ rfl _ _ _ rfl w0.heap.size 42 i0 (.slice none 0 0) 1 24 Try.underlying26 hi0 hz0 hz1 hz2 rfl (by decide) (.slice va k vc) k (flatL k G C F) rfl ((HOw.out.row.kept (grown_of_below HB3.out none) (own_em _)).alloc _) ⟨w3.heap.size, 0, none⟩ 1 1 [.slice (some ⟨g, 0, none⟩) l dd] rfl rfl (cell_one_new _ _ _) (fun x hx => by simp at hx; subst hx; rfl) (by decide) (by unfold maxLen; omega) (by omega) (by simp; omega) _ rfl ?_
    intro g4 cap4 w4 hown4 hgrow4 hat4 hlt4
    obtain ⟨G', C', hO4, _⟩ := HOw.out.pushG HB3.out HLo.out (m := l) (d := dd) (g := some g) HFk.out.1 (by rw [HFk.out.2]; exact HO3.out) hown4 hgrow4
    have t34 : Turn w0.heap.size tR w3 w4 := (Turn.of_below (below_alloc w3 _)).trans (Turn.grown ((HOw.out.row.kept (grown_of_below HB3.out none) (own_em _)).alloc _) hgrow4 (Nat.le_refl _) rfl)
    have HA4 : Hid (ArrAt w4 M f) := t34.arr HA3.out rfl
    have hX4 := t34.keep HX3.out rfl
    have HC4 : Hid (w4.cell? ⟨w0.heap.size, 0, none⟩ = some (.int .i64 (l : Int))) := cell_of_row w4 _ 0 _ _ _ hX4
    have HX4 := Lib.hid hX4
    have hV4 := t34.keep HV3.out rfl
    have c4 : w4.cell? ⟨w0.heap.size + 1 + 1, 0, none⟩ = some (.slice va k vc) := cell_of_row w4 _ 0 _ _ _ hV4
    have c4f : w4.frozen? ⟨w0.heap.size + 1 + 1, 0, none⟩ = false := by simp [World.frozen?, hV4]
    have HV4 := Lib.hid hV4
    have HO4 := Lib.hid hO4
    have HT4 : Hid (Turn w0.heap.size tT1 W w4) := (Turn.of_below HB3.out).trans (t34.mono (Nat.le_refl _) tR_1)
    clear hown4 hgrow4 hat4 hO4 t34 hX4 hV4
    refine hK.out _ _ ?_ (fun hHeld => ?_)
    · exact ⟨HA4.out, HC4.out⟩
    clear hK K
    (try simp only [Act.put, List.setIfInBounds_toArray, List.set_cons_zero, List.set_cons_succ])
    refine wpAnyH_ready (rs := [7]) (by kernel_rfl) (by simp) ?_
    refine AllReadyH.cons (o := ⟨_, _, _, _, _, _⟩) rfl (fun K hK => ?_) AllReadyH.nil
    obtain ⟨w5, hw5⟩ : ∃ w5, w5 = w4.setCell ⟨w0.heap.size + 1 + 1, 0, none⟩ (.slice (some ⟨g4, 0, none⟩) (k + 1) cap4) := ⟨_, rfl⟩
    have HW5 := Lib.hid hw5
    have t5 : Turn w0.heap.size tVL w4 w5 := by rw [hw5]; exact Turn.setCell HV4.out (by omega) rfl 0 _
    have HA5 : Hid (ArrAt w5 M f) := t5.arr HA4.out rfl
    have hX5 := t5.keep HX4.out rfl
    have HC5 : Hid (w5.cell? ⟨w0.heap.size, 0, none⟩ = some (.int .i64 (l : Int))) := cell_of_row w5 _ 0 _ _ _ hX5
    have HX5 := Lib.hid hX5
    have hV5 : w5.heap[w0.heap.size + 1 + 1]? = some (.cells #[.slice (some ⟨g4, 0, none⟩) (k + 1) cap4] 26 (0, 0)) := by
      rw [hw5, setCell_eq_setRow w4 _ 0 _ _ _ _ HV4.out, setRow_heap w4 _ _ _ _ _ HV4.out]
      rfl
    have c5 : w5.cell? ⟨w0.heap.size + 1 + 1, 0, none⟩ = some (.slice (some ⟨g4, 0, none⟩) (k + 1) cap4) := cell_of_row w5 _ 0 _ _ _ hV5
    have HV5 := Lib.hid hV5
    have HO5 := Lib.hid (HO4.out.turnT t5 rfl rfl)
    have HT5 : Hid (Turn w0.heap.size tT1 W w5) := HT4.out.trans (t5.mono (Nat.le_refl _) tVL_1)
    clear hw5 t5 hX5 hV5
    go_simp
    refine hK.out _ _ ?_ (fun hHeld => ?_)
    · rw [← HW5.out]; exact ⟨HA5.out, HC5.out⟩
    clear hK K
    (try simp only [Act.put, List.setIfInBounds_toArray, List.set_cons_zero, List.set_cons_succ])
    refine wpAnyH_done (by kernel_rfl) ?_ _
    refine NoPanic.normal ?_
    rw [← HW5.out]
    clear c4 c4f c3
    go_wp2_with fail
    go_ret
    have hb5 : Below w0.heap.size w0 w5 := HB0.out.trans (HT5.out.below HLo.out)
    refine ⟨?_, ⟨hb5, HX5.out, HLs.out, some ⟨g4, 0, none⟩, cap4, ?_, ?_⟩, HT5.out⟩
    · rw [HLen.out]
      first | rfl | (simp; done) | (simp; omega)
    · rw [HLen.out]; exact HV5.out
    · rw [HLen.out]; have h := HO5.out; rw [HFe.out] at h; exact ⟨G', C', h⟩
  · go_simp
    go_at_call 54
    refine (HL.out _).mono ?_
    rintro e w3 ⟨g, dd, rfl, ho3, b3⟩
    have b31 : Below w1.heap.size w1 w3 := (below_drew w1).trans b3
    have hA3 : ArrAt w3 M f := HA1.out.below b31 HA1.out.lt
    have HA3 := Lib.hid hA3
    have hX3 : w3.heap[w0.heap.size]? = some (.cells #[.int .i64 (l : Int), .slice ao n c] 31 (0, 0)) := (b31.block _ (Array.getElem?_eq_some_iff.1 HX1.out).1).trans HX1.out
    have HX3 := Lib.hid hX3
    have HC3 : Hid (w3.cell? ⟨w0.heap.size, 0, none⟩ = some (.int .i64 (l : Int))) := cell_of_row w3 _ 0 _ _ _ hX3
    have hV3 : w3.heap[w0.heap.size + 1 + 1]? = some (.cells #[.slice va k vc] 26 (0, 0)) := (b31.block _ (Array.getElem?_eq_some_iff.1 HV1.out).1).trans HV1.out
    have HV3 := Lib.hid hV3
    have b3W : Below W.heap.size W w3 := HB1.out.trans (b31.mono HB1.out.size)
    have HB3 := Lib.hid b3W
    have HO3 := Lib.hid (ownsRow_base ho3 (b' := W.heap.size) (Nat.le_trans HB1.out.size (below_drew w1).size))
    have c3 : w3.cell? ⟨w0.heap.size + 1 + 1, 0, none⟩ = some (.slice va k vc) := cell_of_row w3 _ 0 _ _ _ hV3
    have z3 : W.heap.size ≤ w3.heap.size := b3W.size
    clear ho3 b3 b31 hA3 hX3 hV3 b3W c1
    refine hK.out _ _ ?_ (fun hHeld => ?_)
    · exact ⟨HA3.out, HC3.out⟩
    clear hK K
    (try simp only [Act.put, List.setIfInBounds_toArray, List.set_cons_zero, List.set_cons_succ])
    refine wpAnyH_ready (rs := [0, 5]) (by kernel_rfl) (by simp) ?_
    refine AllReadyH.cons (o := ⟨_, _, _, _, _, _⟩) rfl (fun K hK => ?_) (AllReadyH.cons (o := ⟨_, _, _, _, _, _⟩) rfl (fun K hK => ?_) AllReadyH.nil)
    · go_simp
      refine hK.out _ _ ?_ (fun hHeld => ?_)
      · exact ⟨HA3.out, HC3.out⟩
      clear hK K
      (try simp only [Act.put, List.setIfInBounds_toArray, List.set_cons_zero, List.set_cons_succ])
      refine wpAnyH_ready (rs := [5]) (by kernel_rfl) (by simp) ?_
      refine AllReadyH.cons (o := ⟨_, _, _, _, _, _⟩) rfl (fun K hK => ?_) AllReadyH.nil
      go_simp
      have HAa : Hid (ArrAt (w3.alloc (.cells #[.slice (some ⟨g, 0, none⟩) l dd] 42)) M f) := HA3.out.below (below_alloc _ _) HA3.out.lt
      have HCa : Hid ((w3.alloc (.cells #[.slice (some ⟨g, 0, none⟩) l dd] 42)).cell? ⟨w0.heap.size, 0, none⟩ = some (.int .i64 (l : Int))) := cell_b (below_alloc _ _) HC3.out
      have ca3 : (w3.alloc (.cells #[.slice (some ⟨g, 0, none⟩) l dd] 42)).cell? ⟨w0.heap.size + 1 + 1, 0, none⟩ = some (.slice va k vc) := cell_b (below_alloc _ _) c3
      refine hK.out _ _ ?_ (fun hHeld => ?_)
      · exact ⟨HAa.out, HCa.out⟩
      clear hK K
      (try simp only [Act.put, List.setIfInBounds_toArray, List.set_cons_zero, List.set_cons_succ])
      refine wpAnyH_ready (rs := [6]) (by kernel_rfl) (by simp) ?_
      refine AllReadyH.cons (o := ⟨_, _, _, _, _, _⟩) rfl (fun K hK => ?_) AllReadyH.nil
      refine step_append_lies _ rfl _ _ _ rfl w0.heap.size 42 i0 (.slice none 0 0) 1 24 Try.underlying26 hi0 hz0 hz1 hz2 rfl (by decide) (.slice va k vc) k (flatL k G C F) rfl ((HOw.out.row.kept (grown_of_below HB3.out none) (own_em _)).alloc _) ⟨w3.heap.size, 0, none⟩ 1 1 [.slice (some ⟨g, 0, none⟩) l dd] rfl rfl (cell_one_new _ _ _) (fun x hx => by simp at hx; subst hx; rfl) (by decide) (by unfold maxLen; omega) (by omega) (by simp; omega) _ rfl ?_
      intro g4 cap4 w4 hown4 hgrow4 hat4 hlt4
      obtain ⟨G', C', hO4, _⟩ := HOw.out.pushG HB3.out HLo.out (m := l) (d := dd) (g := some g) HFk.out.1 (by rw [HFk.out.2]; exact HO3.out) hown4 hgrow4
      have t34 : Turn w0.heap.size tR w3 w4 := (Turn.of_below (below_alloc w3 _)).trans (Turn.grown ((HOw.out.row.kept (grown_of_below HB3.out none) (own_em _)).alloc _) hgrow4 (Nat.le_refl _) rfl)
      have HA4 : Hid (ArrAt w4 M f) := t34.arr HA3.out rfl
      have hX4 := t34.keep HX3.out rfl
      have HC4 : Hid (w4.cell? ⟨w0.heap.size, 0, none⟩ = some (.int .i64 (l : Int))) := cell_of_row w4 _ 0 _ _ _ hX4
      have HX4 := Lib.hid hX4
      have hV4 := t34.keep HV3.out rfl
      have c4 : w4.cell? ⟨w0.heap.size + 1 + 1, 0, none⟩ = some (.slice va k vc) := cell_of_row w4 _ 0 _ _ _ hV4
      have c4f : w4.frozen? ⟨w0.heap.size + 1 + 1, 0, none⟩ = false := by simp [World.frozen?, hV4]
      have HV4 := Lib.hid hV4
      have HO4 := Lib.hid hO4
      have HT4 : Hid (Turn w0.heap.size tT1 W w4) := (Turn.of_below HB3.out).trans (t34.mono (Nat.le_refl _) tR_1)
      clear hown4 hgrow4 hat4 hO4 t34 hX4 hV4
      refine hK.out _ _ ?_ (fun hHeld => ?_)
      · exact ⟨HA4.out, HC4.out⟩
      clear hK K
      (try simp only [Act.put, List.setIfInBounds_toArray, List.set_cons_zero, List.set_cons_succ])
      refine wpAnyH_ready (rs := [7]) (by kernel_rfl) (by simp) ?_
      refine AllReadyH.cons (o := ⟨_, _, _, _, _, _⟩) rfl (fun K hK => ?_) AllReadyH.nil
      obtain ⟨w5, hw5⟩ : ∃ w5, w5 = w4.setCell ⟨w0.heap.size + 1 + 1, 0, none⟩ (.slice (some ⟨g4, 0, none⟩) (k + 1) cap4) := ⟨_, rfl⟩
      have HW5 := Lib.hid hw5
      have t5 : Turn w0.heap.size tVL w4 w5 := by rw [hw5]; exact Turn.setCell HV4.out (by omega) rfl 0 _
      have HA5 : Hid (ArrAt w5 M f) := t5.arr HA4.out rfl
      have hX5 := t5.keep HX4.out rfl
      have HC5 : Hid (w5.cell? ⟨w0.heap.size, 0, none⟩ = some (.int .i64 (l : Int))) := cell_of_row w5 _ 0 _ _ _ hX5
      have HX5 := Lib.hid hX5
      have hV5 : w5.heap[w0.heap.size + 1 + 1]? = some (.cells #[.slice (some ⟨g4, 0, none⟩) (k + 1) cap4] 26 (0, 0)) := by
        rw [hw5, setCell_eq_setRow w4 _ 0 _ _ _ _ HV4.out, setRow_heap w4 _ _ _ _ _ HV4.out]
        rfl
      have c5 : w5.cell? ⟨w0.heap.size + 1 + 1, 0, none⟩ = some (.slice (some ⟨g4, 0, none⟩) (k + 1) cap4) := cell_of_row w5 _ 0 _ _ _ hV5
      have HV5 := Lib.hid hV5
      have HO5 := Lib.hid (HO4.out.turnT t5 rfl rfl)
      have HT5 : Hid (Turn w0.heap.size tT1 W w5) := HT4.out.trans (t5.mono (Nat.le_refl _) tVL_1)
      clear hw5 t5 hX5 hV5
      go_simp
      refine hK.out _ _ ?_ (fun hHeld => ?_)
      · rw [← HW5.out]; exact ⟨HA5.out, HC5.out⟩
      clear hK K
      (try simp only [Act.put, List.setIfInBounds_toArray, List.set_cons_zero, List.set_cons_succ])
      refine wpAnyH_done (by kernel_rfl) ?_ _
      refine NoPanic.normal ?_
      rw [← HW5.out]
      clear c4 c4f c3
      go_wp2_with fail
      go_ret
      have hb5 : Below w0.heap.size w0 w5 := HB0.out.trans (HT5.out.below HLo.out)
      refine ⟨?_, ⟨hb5, HX5.out, HLs.out, some ⟨g4, 0, none⟩, cap4, ?_, ?_⟩, HT5.out⟩
      · rw [HLen.out]
        first | rfl | (simp; done) | (simp; omega)
      · rw [HLen.out]; exact HV5.out
      · rw [HLen.out]; have h := HO5.out; rw [HFe.out] at h; exact ⟨G', C', h⟩
    · go_simp
      have HAa : Hid (ArrAt (w3.alloc (.cells #[.slice (some ⟨g, 0, none⟩) l dd] 42)) M f) := HA3.out.below (below_alloc _ _) HA3.out.lt
      have HCa : Hid ((w3.alloc (.cells #[.slice (some ⟨g, 0, none⟩) l dd] 42)).cell? ⟨w0.heap.size, 0, none⟩ = some (.int .i64 (l : Int))) := cell_b (below_alloc _ _) HC3.out
      have ca3 : (w3.alloc (.cells #[.slice (some ⟨g, 0, none⟩) l dd] 42)).cell? ⟨w0.heap.size + 1 + 1, 0, none⟩ = some (.slice va k vc) := cell_b (below_alloc _ _) c3
      refine hK.out _ _ ?_ (fun hHeld => ?_)
      · exact ⟨HAa.out, HCa.out⟩
      clear hK K
      (try simp only [Act.put, List.setIfInBounds_toArray, List.set_cons_zero, List.set_cons_succ])
      refine wpAnyH_ready (rs := [0]) (by kernel_rfl) (by simp) ?_
      refine AllReadyH.cons (o := ⟨_, _, _, _, _, _⟩) rfl (fun K hK => ?_) AllReadyH.nil
      go_simp
      refine hK.out _ _ ?_ (fun hHeld => ?_)
      · exact ⟨HAa.out, HCa.out⟩
      clear hK K
      (try simp only [Act.put, List.setIfInBounds_toArray, List.set_cons_zero, List.set_cons_succ])
      refine wpAnyH_ready (rs := [6]) (by kernel_rfl) (by simp) ?_
      refine AllReadyH.cons (o := ⟨_, _, _, _, _, _⟩) rfl (fun K hK => ?_) AllReadyH.nil
      refine step_append_lies _ rfl _ _ _ rfl w0.heap.size 42 i0 (.slice none 0 0) 1 24 Try.underlying26 hi0 hz0 hz1 hz2 rfl (by decide) (.slice va k vc) k (flatL k G C F) rfl ((HOw.out.row.kept (grown_of_below HB3.out none) (own_em _)).alloc _) ⟨w3.heap.size, 0, none⟩ 1 1 [.slice (some ⟨g, 0, none⟩) l dd] rfl rfl (cell_one_new _ _ _) (fun x hx => by simp at hx; subst hx; rfl) (by decide) (by unfold maxLen; omega) (by omega) (by simp; omega) _ rfl ?_
      intro g4 cap4 w4 hown4 hgrow4 hat4 hlt4
      obtain ⟨G', C', hO4, _⟩ := HOw.out.pushG HB3.out HLo.out (m := l) (d := dd) (g := some g) HFk.out.1 (by rw [HFk.out.2]; exact HO3.out) hown4 hgrow4
      have t34 : Turn w0.heap.size tR w3 w4 := (Turn.of_below (below_alloc w3 _)).trans (Turn.grown ((HOw.out.row.kept (grown_of_below HB3.out none) (own_em _)).alloc _) hgrow4 (Nat.le_refl _) rfl)
      have HA4 : Hid (ArrAt w4 M f) := t34.arr HA3.out rfl
      have hX4 := t34.keep HX3.out rfl
      have HC4 : Hid (w4.cell? ⟨w0.heap.size, 0, none⟩ = some (.int .i64 (l : Int))) := cell_of_row w4 _ 0 _ _ _ hX4
      have HX4 := Lib.hid hX4
      have hV4 := t34.keep HV3.out rfl
      have c4 : w4.cell? ⟨w0.heap.size + 1 + 1, 0, none⟩ = some (.slice va k vc) := cell_of_row w4 _ 0 _ _ _ hV4
      have c4f : w4.frozen? ⟨w0.heap.size + 1 + 1, 0, none⟩ = false := by simp [World.frozen?, hV4]
      have HV4 := Lib.hid hV4
      have HO4 := Lib.hid hO4
      have HT4 : Hid (Turn w0.heap.size tT1 W w4) := (Turn.of_below HB3.out).trans (t34.mono (Nat.le_refl _) tR_1)
      clear hown4 hgrow4 hat4 hO4 t34 hX4 hV4
      refine hK.out _ _ ?_ (fun hHeld => ?_)
      · exact ⟨HA4.out, HC4.out⟩
      clear hK K
      (try simp only [Act.put, List.setIfInBounds_toArray, List.set_cons_zero, List.set_cons_succ])
      refine wpAnyH_ready (rs := [7]) (by kernel_rfl) (by simp) ?_
      refine AllReadyH.cons (o := ⟨_, _, _, _, _, _⟩) rfl (fun K hK => ?_) AllReadyH.nil
      obtain ⟨w5, hw5⟩ : ∃ w5, w5 = w4.setCell ⟨w0.heap.size + 1 + 1, 0, none⟩ (.slice (some ⟨g4, 0, none⟩) (k + 1) cap4) := ⟨_, rfl⟩
      have HW5 := Lib.hid hw5
      have t5 : Turn w0.heap.size tVL w4 w5 := by rw [hw5]; exact Turn.setCell HV4.out (by omega) rfl 0 _
      have HA5 : Hid (ArrAt w5 M f) := t5.arr HA4.out rfl
      have hX5 := t5.keep HX4.out rfl
      have HC5 : Hid (w5.cell? ⟨w0.heap.size, 0, none⟩ = some (.int .i64 (l : Int))) := cell_of_row w5 _ 0 _ _ _ hX5
      have HX5 := Lib.hid hX5
      have hV5 : w5.heap[w0.heap.size + 1 + 1]? = some (.cells #[.slice (some ⟨g4, 0, none⟩) (k + 1) cap4] 26 (0, 0)) := by
        rw [hw5, setCell_eq_setRow w4 _ 0 _ _ _ _ HV4.out, setRow_heap w4 _ _ _ _ _ HV4.out]
        rfl
      have c5 : w5.cell? ⟨w0.heap.size + 1 + 1, 0, none⟩ = some (.slice (some ⟨g4, 0, none⟩) (k + 1) cap4) := cell_of_row w5 _ 0 _ _ _ hV5
      have HV5 := Lib.hid hV5
      have HO5 := Lib.hid (HO4.out.turnT t5 rfl rfl)
      have HT5 : Hid (Turn w0.heap.size tT1 W w5) := HT4.out.trans (t5.mono (Nat.le_refl _) tVL_1)
      clear hw5 t5 hX5 hV5
      go_simp
      refine hK.out _ _ ?_ (fun hHeld => ?_)
      · rw [← HW5.out]; exact ⟨HA5.out, HC5.out⟩
      clear hK K
      (try simp only [Act.put, List.setIfInBounds_toArray, List.set_cons_zero, List.set_cons_succ])
      refine wpAnyH_done (by kernel_rfl) ?_ _
      refine NoPanic.normal ?_
      rw [← HW5.out]
      clear c4 c4f c3
      go_wp2_with fail
      go_ret
      have hb5 : Below w0.heap.size w0 w5 := HB0.out.trans (HT5.out.below HLo.out)
      refine ⟨?_, ⟨hb5, HX5.out, HLs.out, some ⟨g4, 0, none⟩, cap4, ?_, ?_⟩, HT5.out⟩
      · rw [HLen.out]
        first | rfl | (simp; done) | (simp; omega)
      · rw [HLen.out]; exact HV5.out
      · rw [HLen.out]; have h := HO5.out; rw [HFe.out] at h; exact ⟨G', C', h⟩
end

section
open Go.RowKit Go.Shelf
set_option linter.unusedVariables false
set_option linter.unusedSimpArgs false

def ResV (w w' : World) (ls : List (List Int)) (ok : Bool) (e : Ending) : Prop :=
  ∃ ao n c, e = .returned (.tuple #[.slice ao n c, .bool ok]) ∧ Hid (n = ls.length) ∧ LView w' w.heap.size w'.heap.size ao n ls ∧ Below w.heap.size w w'
def allRun (into : Bool) (z : Int) (fs : List OpD) (z1 : Int) (gs : List OpD) : St :=
  if sameH z z1 fs gs then srchS z.toNat z1.toNat fs gs (leadB into) (wantB z.toNat z1.toNat false) 301 else (5001, [])
def allV (rs : St) : List (List Int) × Bool := if (decide (rs.1 ≤ 5000) && decide (rs.2.length ≤ 300)) = true then (rs.2, true) else ([], false)
def valAllHoms (z : Int) (fs : List OpD) (z1 : Int) (gs : List OpD) : List (List Int) × Bool := allV (allRun false z fs z1 gs)
theorem allV_over {t : Nat} (h : ¬ t ≤ 5000) (ms : List (List Int)) : allV (t, ms) = ([], false) := by unfold allV; simp [h]
theorem allV_many (t : Nat) {ms : List (List Int)} (h : ¬ ms.length ≤ 300) : allV (t, ms) = ([], false) := by
  unfold allV; rw [if_neg]; simp only [Bool.and_eq_true, decide_eq_true_eq]; exact fun e => h e.2
theorem allV_yes {t : Nat} (h1 : t ≤ 5000) {ms : List (List Int)} (h2 : ms.length ≤ 300) : allV (t, ms) = (ms, true) := by
  unfold allV; rw [if_pos]; simp only [Bool.and_eq_true, decide_eq_true_eq]; exact ⟨h1, h2⟩
theorem lsum_max {k : Nat} : ∀ {ls : List (List Int)}, (∀ y, y ∈ ls → y.length ≤ k) → lsum ls ≤ ls.length * k
  | [], _ => by simp [lsum]
  | x :: ls, h => by
    have h1 := h x (.head _)
    have h2 := lsum_max (ls := ls) (fun y hy => h y (.tail _ hy))
    have h3 : lsum (x :: ls) = x.length + lsum ls := by simp [lsum]
    rw [h3, List.length_cons, Nat.add_mul]; omega
theorem srch_len (l zb : Nat) (fs gs : List OpD) (lead want : (Nat → Int) → Bool) (most : Nat) (hm : 0 < most) : ∀ xs, xs ∈ (srchS l zb fs gs lead want most).2 → xs.length = l := by
  refine srchS_inv (P := fun s => ∀ xs, xs ∈ s.2 → xs.length = l) hm (fun xs h => by cases h) (fun s _ h => h) ?_
  intro f s _ h xs hx
  rcases List.mem_append.1 hx with h2 | h2
  · exact h xs h2
  · have : xs = lstP l f := by simpa using h2
    rw [this, lstP_len]
theorem allRun_small (into : Bool) (z : Int) (fs : List OpD) (z1 : Int) (gs : List OpD) : (allV (allRun into z fs z1 gs)).1.length + lsum (allV (allRun into z fs z1 gs)).1 ≤ 4194304 := by
  cases hs : sameH z z1 fs gs with
  | false =>
    have : allRun into z fs z1 gs = (5001, []) := by unfold allRun; rw [hs, if_neg (by simp)]
    rw [this]; unfold allV; simp [lsum]
  | true =>
    obtain ⟨⟨h1, h2⟩, _⟩ := algOkB_of (sameH_of hs).1
    have hr : allRun into z fs z1 gs = srchS z.toNat z1.toNat fs gs (leadB into) (wantB z.toNat z1.toNat false) 301 := by unfold allRun; rw [hs, if_pos rfl]
    have hl := srch_len z.toNat z1.toNat fs gs (leadB into) (wantB z.toNat z1.toNat false) 301 (by omega)
    rw [hr]
    obtain ⟨⟨t, ms⟩, hrs⟩ : ∃ rs, srchS z.toNat z1.toNat fs gs (leadB into) (wantB z.toNat z1.toNat false) 301 = rs := ⟨_, rfl⟩
    rw [hrs] at hl ⊢
    by_cases ha : t ≤ 5000
    · by_cases hb : ms.length ≤ 300
      · rw [allV_yes ha hb]
        have := lsum_max (k := 8) (ls := ms) (fun y hy => by have := hl y hy; omega)
        show ms.length + lsum ms ≤ _
        omega
      · rw [allV_many t hb]; simp [lsum]
    · rw [allV_over ha]; simp [lsum]
theorem smallAllHoms (z : Int) (fs : List OpD) (z1 : Int) (gs : List OpD) : (valAllHoms z fs z1 gs).1.length + lsum (valAllHoms z fs z1 gs).1 ≤ 4194304 := allRun_small _ _ _ _ _
theorem fnd_view {bs l fc : Nat} {W : World} {ms : List (List Int)} {vals : List Value} {fa : Option Addr} (f1 : W.ownsRow bs 42 1 (.slice fa ms.length fc) ms.length vals) (f2 : FndV bs l W ms vals) : LView W bs W.heap.size fa ms.length ms := by
  refine ⟨rfl, ?_⟩
  rcases f1.2 with ⟨_, h0⟩ | ⟨g, cap, cur, he, hg, _⟩
  · exact .inl h0
  · cases he
    refine .inr ⟨g, 0, rfl, hg, (f1.lt g rfl).2, fun j xs hx => ?_⟩
    obtain ⟨g2, gd, a, b, c⟩ := f2 j xs hx
    have hj := (List.getElem?_eq_some_iff.1 hx).1
    have hcap : l ≤ gd ∧ gd ≤ maxLen := by
      rcases c.2 with ⟨h1, _⟩ | ⟨_, _, _, h1, _, _, q1, q2, _⟩
      · cases h1
      · cases h1; exact ⟨q1, q2⟩
    refine ⟨some ⟨g2, 0, none⟩, l, gd, ?_, hcap.1, hcap.2, (OwnsInts.of_row c).view⟩
    rw [Nat.zero_add, f1.cellAt j (by omega)]; exact a

set_option maxHeartbeats 4000000 in
theorem homs_run (lo hi : Nat) (z : Int) (ao : Option Addr) (c n : Nat) (fs : List OpD) (lo2 hi2 : Nat) (z1 : Int) (bo : Option Addr) (d m : Nat) (gs : List OpD) (into : Bool) (lf : Nat) (w : World) (hv : OView w lo hi ao n fs) (hhi : hi ≤ w.heap.size) (hs : ∀ (j : Nat) (f : OpD), fs[j]? = some f → f.2.length ≤ maxLen) (hu : OView w lo2 hi2 bo m gs) (hhi2 : hi2 ≤ w.heap.size) (hs2 : ∀ (j : Nat) (f : OpD), gs[j]? = some f → f.2.length ≤ maxLen)
    (eL : ∀ args w, (callFunc lf args).run Try.prog w = .ok (.enter lf args) w)
    (hL : ∀ (l zb : Nat) (W : World) (f : Nat → Int), l ≤ 8 → zb ≤ 8 → Part (l : Int) (zb : Int) f → (∀ k : Nat, (l : Int) ≤ (k : Int) → f k = -1) → Calls Try.prog lf #[.agg (arrV f)] W fun e W' => e = .returned (.bool (leadB into f)) ∧ Below W.heap.size W W') :
    Calls Try.prog 33 #[.agg #[.int .i64 z, .slice ao n c], .agg #[.int .i64 z1, .slice bo m d], .func (.func lf) #[] #[]] w fun e w' => ResS w w' (allV (allRun into z fs z1 gs)).1 (allV (allRun into z fs z1 gs)).2 e := by
  obtain ⟨w1, hw1⟩ : ∃ w1, w1 = ((w.alloc (.cells #[.int .i64 z, .slice ao n c] 31)).alloc (.cells #[.int .i64 z1, .slice bo m d] 31)).alloc (.cells #[.slice none 0 0] 26) := ⟨_, rfl⟩
  obtain ⟨wb, hwb, hbx, hsz⟩ := bx2_new w z ao n c z1 bo m d 31
  have hbx1 : Bx2 w w1 z ao n c z1 bo m d := by rw [hw1, ← hwb]; exact hbx.below (below_alloc _ _)
  have hV : w1.heap[w.heap.size + 1 + 1]? = some (.cells #[.slice none 0 0] 26 (0, 0)) := by
    rw [hw1, ← hwb]
    have h := heap_alloc_new wb (.cells #[.slice none 0 0] 26)
    rw [hsz] at h
    exact h
  have hA : w1.heap[w.heap.size]? = some (.cells #[.int .i64 z, .slice ao n c] 31 (0, 0)) := by
    rw [hw1, Below.heap_alloc _ _ _ (by first | (simp; done) | (simp; omega)), Below.heap_alloc _ _ _ (by simp)]
    exact heap_alloc_new _ _
  have HBx := Lib.hid hbx1
  unfold ResS
  cases hsm : sameH z z1 fs gs with
  | false =>
    have hr : allV (allRun into z fs z1 gs) = ([], false) := by unfold allRun; rw [hsm, if_neg (by simp)]; rfl
    rw [hr]
    have HS := Lib.hid (fun lv tv => searchHoms_no lo hi lo2 hi2 z z1 ao bo c n d m fs gs lv tv w1 (hv.kept (Kept.of_below hbx1.bel hhi)) (Nat.le_trans hhi hbx1.bel.size) hs (hu.kept (Kept.of_below hbx1.bel hhi2)) (Nat.le_trans hhi2 hbx1.bel.size) hs2 hsm)
    obtain ⟨cz, ca, cz1, ca1, cB⟩ := hbx1
    clear hv hu hs hs2 cB hbx hsz hwb hsm hr hA hV eL hL
    go_enter Try.func33, Try.ntmps33
    go_wp2_with fail
    rw [← hw1]
    clear hw1
    go_wp2_with fail
    refine (HS.out _ _).mono ?_
    rintro e w2 ⟨rfl, b2⟩
    have HB2 := Lib.hid (HBx.out.below b2).bel
    clear b2 cz ca cz1 ca1
    go_wp2_with fail
    go_ret2
    obtain ⟨G, C, hn⟩ := BuiltL.nil w2 w.heap.size (fun j => ([] : List (List Int)).getD j [])
    exact ⟨_, _, _, G, C, rfl, rfl, hn, HB2.out⟩
  | true =>
    obtain ⟨hok, hok2, hty⟩ := sameH_of hsm
    obtain ⟨⟨h1, h2⟩, _⟩ := algOkB_of hok
    obtain ⟨⟨k1, k2⟩, _⟩ := algOkB_of hok2
    have hr : allRun into z fs z1 gs = srchS z.toNat z1.toNat fs gs (leadB into) (wantB z.toNat z1.toNat false) 301 := by unfold allRun; rw [hsm, if_pos rfl]
    rw [hr]
    obtain ⟨l, rfl⟩ : ∃ l : Nat, z = (l : Int) := ⟨z.toNat, by omega⟩
    obtain ⟨zb, rfl⟩ : ∃ zb : Nat, z1 = (zb : Int) := ⟨z1.toNat, by omega⟩
    simp only [Int.toNat_natCast]
    have eT : ∀ args w, (callFunc 53 args).run Try.prog w = .ok (.enter 53 args) w := enters_of Try.func53 (by kernel_rfl) rfl
    obtain ⟨Gn, Cn, hNil⟩ := BuiltL.nil w1 w.heap.size (fun j => ([] : List (List Int)).getD j [])
    have hR1 : HomR w l ao n c w1 [] := ⟨hbx1.bel, hA, fun xs h => (by cases h), none, 0, hV, Gn, Cn, hNil⟩
    have HP : ∀ P, w.heap.size ≤ P → SrP l zb fs gs lo hi lo2 hi2 ao bo c n d m w w.heap.size P lf 53 #[.pointer (some ⟨w.heap.size + 1 + 1, 0, none⟩), .pointer (some ⟨w.heap.size, 0, none⟩)] (leadB into) (wantB l zb false) 301 (HomR w l ao n c) := fun P hP =>
      ⟨hv, hhi, hu, hhi2, hok, hok2, hty, eL, eT, fun W f hp ho => hL l zb W f (by omega) (by omega) hp ho, fun W f ms hR hf ho hms => by
        have e : wantB l zb false f = true := by unfold wantB; simp
        rw [if_pos e]
        exact homTake_any w l zb ao n c (by omega) (by omega) W f ms hR hms, fun W W' ms hR t => hR.turn t, fun W ms hR => ⟨hR.1, hR.1.size⟩, hP⟩
    have HS := Lib.hid (searchHoms_any HP (by omega) hs hs2 w1 hR1)
    obtain ⟨rs, hrs⟩ : ∃ rs, srchS l zb fs gs (leadB into) (wantB l zb false) 301 = rs := ⟨_, rfl⟩
    rw [hrs] at HS ⊢
    obtain ⟨t, ms⟩ := rs
    obtain ⟨cz, ca, cz1, ca1, cB⟩ := hbx1
    obtain ⟨k, hk⟩ : ∃ k, ms.length = k := ⟨_, rfl⟩
    have HK := Lib.hid hk
    clear hv hu hs hs2 cB hbx hsz hwb hV hA hR1 HP hL hok hok2 hty hrs eL eT hNil hsm hr
    by_cases ha : t ≤ 5000
    · have HOk : Hid (decide (t ≤ 5000) = true) := decide_eq_true ha
      by_cases hb : k ≤ 300
      · have hkn : ¬ (k : Int) > 300 := by omega
        rw [allV_yes ha (by rw [hk]; exact hb)]
        clear ha hb hk
        go_enter Try.func33, Try.ntmps33
        go_wp2_with fail
        rw [← hw1]
        clear hw1
        go_wp2_with fail
        refine HS.out.mono ?_
        rintro e w2 ⟨rfl, ⟨r1, r2, r3, va, vc, r4, G, C, r5⟩, b2⟩
        have HB2 := Lib.hid r1
        have hok2_ : decide (t ≤ 5000) = true := HOk.out
        have hlk : (t, ms).2.length = k := HK.out
        simp only [hok2_]
        rw [hlk] at r4 r5
        have c2 : w2.cell? ⟨w.heap.size + 1 + 1, 0, none⟩ = some (.slice va k vc) := cell_of_row w2 _ 0 _ _ _ r4
        have HO2 := Lib.hid r5
        clear b2 r1 r2 r3 r4 r5 cz ca cz1 ca1 hok2_ hlk
        go_wp2_with fail
        go_ret2
        exact ⟨va, k, vc, G, C, rfl, HK.out.symm, HO2.out, HB2.out⟩
      · have hkn : (k : Int) > 300 := by omega
        rw [allV_many t (by rw [hk]; exact hb)]
        clear ha hb hk
        go_enter Try.func33, Try.ntmps33
        go_wp2_with fail
        rw [← hw1]
        clear hw1
        go_wp2_with fail
        refine HS.out.mono ?_
        rintro e w2 ⟨rfl, ⟨r1, r2, r3, va, vc, r4, G, C, r5⟩, b2⟩
        have HB2 := Lib.hid r1
        have hok2_ : decide (t ≤ 5000) = true := HOk.out
        have hlk : (t, ms).2.length = k := HK.out
        simp only [hok2_]
        rw [hlk] at r4 r5
        have c2 : w2.cell? ⟨w.heap.size + 1 + 1, 0, none⟩ = some (.slice va k vc) := cell_of_row w2 _ 0 _ _ _ r4
        have HO2 := Lib.hid r5
        clear b2 r1 r2 r3 r4 r5 cz ca cz1 ca1 hok2_ hlk
        go_wp2_with fail
        go_ret2
        obtain ⟨G2, C2, hn⟩ := BuiltL.nil w2 w.heap.size (fun j => ([] : List (List Int)).getD j [])
        exact ⟨_, _, _, G2, C2, rfl, rfl, hn, HB2.out⟩
    · have HOk : Hid (decide (t ≤ 5000) = false) := decide_eq_false ha
      rw [allV_over ha]
      clear ha hk
      go_enter Try.func33, Try.ntmps33
      go_wp2_with fail
      rw [← hw1]
      clear hw1
      go_wp2_with fail
      refine HS.out.mono ?_
      rintro e w2 ⟨rfl, ⟨r1, r2, r3, va, vc, r4, G, C, r5⟩, b2⟩
      have HB2 := Lib.hid r1
      have hok2_ : decide (t ≤ 5000) = false := HOk.out
      have hlk : (t, ms).2.length = k := HK.out
      simp only [hok2_]
      rw [hlk] at r4 r5
      have c2 : w2.cell? ⟨w.heap.size + 1 + 1, 0, none⟩ = some (.slice va k vc) := cell_of_row w2 _ 0 _ _ _ r4
      have HO2 := Lib.hid r5
      clear b2 r1 r2 r3 r4 r5 cz ca cz1 ca1 hok2_ hlk
      go_wp2_with fail
      go_ret2
      obtain ⟨G2, C2, hn⟩ := BuiltL.nil w2 w.heap.size (fun j => ([] : List (List Int)).getD j [])
      exact ⟨_, _, _, G2, C2, rfl, rfl, hn, HB2.out⟩

set_option maxHeartbeats 1000000 in
theorem implAllHoms (lo hi : Nat) (z : Int) (ao : Option Addr) (c n : Nat) (fs : List OpD) (lo2 hi2 : Nat) (z1 : Int) (bo : Option Addr) (d m : Nat) (gs : List OpD) (w : World) (hv : OView w lo hi ao n fs) (hhi : hi ≤ w.heap.size) (hs : ∀ (j : Nat) (f : OpD), fs[j]? = some f → f.2.length ≤ maxLen) (hu : OView w lo2 hi2 bo m gs) (hhi2 : hi2 ≤ w.heap.size) (hs2 : ∀ (j : Nat) (f : OpD), gs[j]? = some f → f.2.length ≤ maxLen) :
    Calls Try.prog 25 #[.agg #[.int .i64 z, .slice ao n c], .agg #[.int .i64 z1, .slice bo m d]] w fun e w' => ResS w w' (valAllHoms z fs z1 gs).1 (valAllHoms z fs z1 gs).2 e := by
  unfold valAllHoms
  obtain ⟨w1, hw1, hbx, hsz⟩ := bx2_new w z ao n c z1 bo m d 31
  have HBx := Lib.hid hbx
  have eL : ∀ args w, (callFunc 48 args).run Try.prog w = .ok (.enter 48 args) w := enters_of Try.func48 (by kernel_rfl) rfl
  have hI := fun (W : World) (hW : Bx2 w W z ao n c z1 bo m d) => homs_run lo hi z ao c n fs lo2 hi2 z1 bo d m gs false 48 W (hv.kept (Kept.of_below hW.bel hhi)) (Nat.le_trans hhi hW.bel.size) hs (hu.kept (Kept.of_below hW.bel hhi2)) (Nat.le_trans hhi2 hW.bel.size) hs2 eL (fun l zb V f h8 z8 hp ho => by
      have e : leadB false f = true := by unfold leadB; simp
      rw [e]; exact anyMap_any f V)
  obtain ⟨cz, ca, cz1, ca1, cB⟩ := hbx
  obtain ⟨rs, hrs⟩ : ∃ rs, allV (allRun false z fs z1 gs) = rs := ⟨_, rfl⟩
  simp only [hrs, ResS] at hI
  rw [hrs]
  have HI := Lib.hid hI
  clear hI cB hv hu hs hs2 hrs eL
  unfold ResS
  go_enter Try.func25, Try.ntmps25
  go_wp2_with fail
  rw [← hw1]
  clear hw1
  go_wp2_with fail
  refine (HI.out _ HBx.out).mono ?_
  rintro e w2 ⟨ga, gn, gc, G, C, rfl, q1, q2, b2⟩
  have HF := Lib.hid (And.intro q1 (And.intro q2 b2))
  clear q1 q2 b2 cz ca cz1 ca1
  go_wp2_with fail
  go_ret2
  exact ⟨ga, gn, gc, G, C, rfl, HF.out.1, HF.out.2.1.lo_mono HBx.out.bel.size, HBx.out.bel.trans (HF.out.2.2.mono HBx.out.bel.size)⟩

set_option maxHeartbeats 1000000 in
theorem specAllHoms (lo hi : Nat) (z : Int) (ao : Option Addr) (c n : Nat) (fs : List OpD) (lo2 hi2 : Nat) (z1 : Int) (bo : Option Addr) (d m : Nat) (gs : List OpD) (w : World) (hv : OView w lo hi ao n fs) (hhi : hi ≤ w.heap.size) (hs : ∀ (j : Nat) (f : OpD), fs[j]? = some f → f.2.length ≤ maxLen) (hu : OView w lo2 hi2 bo m gs) (hhi2 : hi2 ≤ w.heap.size) (hs2 : ∀ (j : Nat) (f : OpD), gs[j]? = some f → f.2.length ≤ maxLen) :
    Calls Try.prog 23 #[.agg #[.int .i64 z, .slice ao n c], .agg #[.int .i64 z1, .slice bo m d]] w fun e w' => ResV w w' (valAllHoms z fs z1 gs).1 (valAllHoms z fs z1 gs).2 e := by
  unfold valAllHoms
  obtain ⟨w1, hw1, hbx, hsz⟩ := bx2_new w z ao n c z1 bo m d 31
  have HBx := Lib.hid hbx
  have hT := fun (W : World) (hW : Bx2 w W z ao n c z1 bo m d) => two_spec lo hi lo2 hi2 z z1 ao bo c n d m fs gs W (hv.kept (Kept.of_below hW.bel hhi)) (Nat.le_trans hhi hW.bel.size) hs (hu.kept (Kept.of_below hW.bel hhi2)) (Nat.le_trans hhi2 hW.bel.size) hs2
  obtain ⟨cz, ca, cz1, ca1, cB⟩ := hbx
  obtain ⟨st, hst⟩ : ∃ st, sameH z z1 fs gs = st := ⟨_, rfl⟩
  simp only [hst] at hT
  have HT := Lib.hid hT
  unfold ResV
  clear hT cB
  cases st with
  | false =>
    have hr : allV (allRun false z fs z1 gs) = ([], false) := by unfold allRun; rw [hst, if_neg (by simp)]; rfl
    rw [hr]
    clear hv hu hs hs2 hst hr
    go_enter Try.func23, Try.ntmps23
    go_wp2_with fail
    rw [← hw1]
    clear hw1
    go_wp2_with fail
    refine (HT.out _ HBx.out).mono ?_
    rintro e w2 ⟨rfl, b2⟩
    have HB2 := Lib.hid (HBx.out.below b2).bel
    clear b2 cz ca cz1 ca1
    have HOn := Lib.hid ((HB2.out).trans ((below_alloc w2 (.cells #[] 42)).mono HB2.out.size))
    go_wp2_with fail
    go_ret2
    exact ⟨_, _, _, rfl, rfl, ⟨rfl, .inl rfl⟩, HOn.out⟩
  | true =>
    obtain ⟨hok, hok2, hty⟩ := sameH_of hst
    obtain ⟨⟨h1, h2⟩, _⟩ := algOkB_of hok
    obtain ⟨⟨k1, k2⟩, _⟩ := algOkB_of hok2
    have hr : allRun false z fs z1 gs = srchS z.toNat z1.toNat fs gs (leadB false) (wantB z.toNat z1.toNat false) 301 := by unfold allRun; rw [hst, if_pos rfl]
    rw [hr]
    obtain ⟨l, rfl⟩ : ∃ l : Nat, z = (l : Int) := ⟨z.toNat, by omega⟩
    obtain ⟨zb, rfl⟩ : ∃ zb : Nat, z1 = (zb : Int) := ⟨z1.toNat, by omega⟩
    simp only [Int.toNat_natCast]
    have hI := fun (W : World) (hW : Bx2 w W (l : Int) ao n c (zb : Int) bo m d) => find_spec lo hi lo2 hi2 l zb ao bo c n d m fs gs false false 301 W (hv.kept (Kept.of_below hW.bel hhi)) (Nat.le_trans hhi hW.bel.size) (hu.kept (Kept.of_below hW.bel hhi2)) (Nat.le_trans hhi2 hW.bel.size) hok hok2 hty (by omega) (by omega)
    obtain ⟨rs, hrs⟩ : ∃ rs, srchS l zb fs gs (leadB false) (wantB l zb false) 301 = rs := ⟨_, rfl⟩
    simp only [hrs] at hI
    rw [hrs]
    obtain ⟨t, ms⟩ := rs
    obtain ⟨k, hk⟩ : ∃ k, ms.length = k := ⟨_, rfl⟩
    have HK := Lib.hid hk
    have HI := Lib.hid hI
    clear hI hv hu hs hs2 hst hok hok2 hty hr hrs h1 h2 k1 k2
    by_cases ha : t ≤ 5000
    · have HOk : Hid (decide (t ≤ 5000) = true) := decide_eq_true ha
      by_cases hb : k ≤ 300
      · have hkn : ¬ (k : Int) > 300 := by omega
        rw [allV_yes ha (by rw [hk]; exact hb)]
        clear ha hb hk
        go_enter Try.func23, Try.ntmps23
        go_wp2_with fail
        rw [← hw1]
        clear hw1
        go_wp2_with fail
        refine (HT.out _ HBx.out).mono ?_
        rintro e w3 ⟨rfl, b3⟩
        have HBx2 := Lib.hid (HBx.out.below b3)
        clear b3 cz ca cz1 ca1
        obtain ⟨cz, ca, cz1, ca1, cB⟩ := HBx2.out
        clear cB
        go_wp2_with fail
        refine (HI.out _ HBx2.out).mono ?_
        rintro e w2 ⟨fa, fc, vals, rfl, f1, f2, f3⟩
        have HB2 := Lib.hid (HBx2.out.bel.trans (f3.mono HBx2.out.bel.size))
        have HVw := Lib.hid ((fnd_view f1 f2).mono HBx2.out.bel.size (Nat.le_refl _))
        have hok2_ : decide ((t, ms).1 ≤ 5000) = true := HOk.out
        have hlk : (t, ms).2.length = k := HK.out
        rw [hok2_, hlk]
        clear f1 f2 f3 cz ca cz1 ca1 hok2_ hlk
        go_wp2_with fail
        go_ret2
        exact ⟨fa, k, fc, rfl, HK.out.symm, by rw [← HK.out]; exact HVw.out, HB2.out⟩
      · have hkn : (k : Int) > 300 := by omega
        rw [allV_many t (by rw [hk]; exact hb)]
        clear ha hb hk
        go_enter Try.func23, Try.ntmps23
        go_wp2_with fail
        rw [← hw1]
        clear hw1
        go_wp2_with fail
        refine (HT.out _ HBx.out).mono ?_
        rintro e w3 ⟨rfl, b3⟩
        have HBx2 := Lib.hid (HBx.out.below b3)
        clear b3 cz ca cz1 ca1
        obtain ⟨cz, ca, cz1, ca1, cB⟩ := HBx2.out
        clear cB
        go_wp2_with fail
        refine (HI.out _ HBx2.out).mono ?_
        rintro e w2 ⟨fa, fc, vals, rfl, f1, f2, f3⟩
        have HB2 := Lib.hid (HBx2.out.bel.trans (f3.mono HBx2.out.bel.size))
        have HVw := Lib.hid ((fnd_view f1 f2).mono HBx2.out.bel.size (Nat.le_refl _))
        have hok2_ : decide ((t, ms).1 ≤ 5000) = true := HOk.out
        have hlk : (t, ms).2.length = k := HK.out
        rw [hok2_, hlk]
        clear f1 f2 f3 cz ca cz1 ca1 hok2_ hlk
        go_wp2_with fail
        have HOn := Lib.hid ((HB2.out).trans ((below_alloc w2 (.cells #[] 42)).mono HB2.out.size))
        go_wp2_with fail
        go_ret2
        exact ⟨_, _, _, rfl, rfl, ⟨rfl, .inl rfl⟩, HOn.out⟩
    · have HOk : Hid (decide (t ≤ 5000) = false) := decide_eq_false ha
      rw [allV_over ha]
      clear ha hk
      go_enter Try.func23, Try.ntmps23
      go_wp2_with fail
      rw [← hw1]
      clear hw1
      go_wp2_with fail
      refine (HT.out _ HBx.out).mono ?_
      rintro e w3 ⟨rfl, b3⟩
      have HBx2 := Lib.hid (HBx.out.below b3)
      clear b3 cz ca cz1 ca1
      obtain ⟨cz, ca, cz1, ca1, cB⟩ := HBx2.out
      clear cB
      go_wp2_with fail
      refine (HI.out _ HBx2.out).mono ?_
      rintro e w2 ⟨fa, fc, vals, rfl, f1, f2, f3⟩
      have HB2 := Lib.hid (HBx2.out.bel.trans (f3.mono HBx2.out.bel.size))
      have HVw := Lib.hid ((fnd_view f1 f2).mono HBx2.out.bel.size (Nat.le_refl _))
      have hok2_ : decide ((t, ms).1 ≤ 5000) = false := HOk.out
      have hlk : (t, ms).2.length = k := HK.out
      rw [hok2_, hlk]
      clear f1 f2 f3 cz ca cz1 ca1 hok2_ hlk
      go_wp2_with fail
      have HOn := Lib.hid ((HB2.out).trans ((below_alloc w2 (.cells #[] 42)).mono HB2.out.size))
      go_wp2_with fail
      go_ret2
      exact ⟨_, _, _, rfl, rfl, ⟨rfl, .inl rfl⟩, HOn.out⟩
end

section
open Go.RowKit Go.Shelf
set_option linter.unusedVariables false
set_option linter.unusedSimpArgs false

theorem sameH_self {z : Int} {fs : List OpD} : sameH z z fs fs = algOkB z fs := by
  cases h : algOkB z fs with
  | false => exact sameH_no1 h
  | true => unfold sameH valSameType; simp [h]; exact decide_eq_true rfl
def valAutomorphisms (z : Int) (fs : List OpD) : List (List Int) × Bool := allV (allRun true z fs z fs)
theorem smallAutomorphisms (z : Int) (fs : List OpD) : (valAutomorphisms z fs).1.length + lsum (valAutomorphisms z fs).1 ≤ 4194304 := allRun_small _ _ _ _ _

set_option maxHeartbeats 1000000 in
theorem implAutomorphisms (lo hi : Nat) (z : Int) (ao : Option Addr) (c n : Nat) (fs : List OpD) (w : World) (hv : OView w lo hi ao n fs) (hhi : hi ≤ w.heap.size) (hs : ∀ (j : Nat) (f : OpD), fs[j]? = some f → f.2.length ≤ maxLen) :
    Calls Try.prog 17 #[.agg #[.int .i64 z, .slice ao n c]] w fun e w' => ResS w w' (valAutomorphisms z fs).1 (valAutomorphisms z fs).2 e := by
  obtain ⟨w1, hw1⟩ : ∃ w1, w1 = w.alloc (.cells #[.int .i64 z, .slice ao n c] 31) := ⟨_, rfl⟩
  have hB : Below w.heap.size w w1 := by rw [hw1]; exact below_alloc _ _
  have HB := Lib.hid hB
  have cz : w1.cell? ⟨w.heap.size, 0, none⟩ = some (.int .i64 z) := by rw [hw1]; simp
  have ca : w1.cell? ⟨w.heap.size, 1, none⟩ = some (.slice ao n c) := by rw [hw1]; simp
  have eL : ∀ args w, (callFunc 34 args).run Try.prog w = .ok (.enter 34 args) w := enters_of Try.func34 (by kernel_rfl) rfl
  have hI := fun (W : World) (hW : Below w.heap.size w W) => homs_run lo hi z ao c n fs lo hi z ao c n fs true 34 W (hv.kept (Kept.of_below hW hhi)) (Nat.le_trans hhi hW.size) hs (hv.kept (Kept.of_below hW hhi)) (Nat.le_trans hhi hW.size) hs eL
    (fun l zb W f h8 z8 hp ho => by
      have h := oneToOne_any f W (fun k hk => by
        by_cases hkl : k < l
        · rcases hp k (by omega) with h | h
          · exact .inl h
          · exact .inr ⟨h.1, by omega⟩
        · exact .inl (ho k (by omega)))
      have e : leadB true f = oneB f 8 := by unfold leadB; simp
      rw [e]; exact h)
  obtain ⟨rs, hrs⟩ : ∃ rs, valAutomorphisms z fs = rs := ⟨_, rfl⟩
  have hrs2 : allV (allRun true z fs z fs) = rs := hrs
  simp only [hrs2, ResS] at hI
  rw [hrs]
  have HI := Lib.hid hI
  unfold ResS
  clear hI hv hs hrs hrs2 hB eL
  go_enter Try.func17, Try.ntmps17
  go_wp2_with fail
  rw [← hw1]
  clear hw1
  go_wp2_with fail
  refine (HI.out _ HB.out).mono ?_
  rintro e w2 ⟨ga, gn, gc, G, C, rfl, q1, q2, b2⟩
  have HF := Lib.hid (And.intro q1 (And.intro q2 b2))
  clear q1 q2 b2 cz ca
  go_wp2_with fail
  go_ret2
  exact ⟨ga, gn, gc, G, C, rfl, HF.out.1, HF.out.2.1.lo_mono HB.out.size, HB.out.trans (HF.out.2.2.mono HB.out.size)⟩

set_option maxHeartbeats 1000000 in
theorem auts_spec (lo hi l : Nat) (ao : Option Addr) (c n : Nat) (fs : List OpD) (w : World) (hv : OView w lo hi ao n fs) (hhi : hi ≤ w.heap.size) (hok : algOkB (l : Int) fs = true) :
    Calls Try.prog 32 #[.agg #[.int .i64 (l : Int), .slice ao n c]] w fun e w' => ResV w w' (allV (srchS l l fs fs (leadB true) (wantB l l false) 301)).1 (allV (srchS l l fs fs (leadB true) (wantB l l false) 301)).2 e := by
  obtain ⟨w1, hw1⟩ : ∃ w1, w1 = w.alloc (.cells #[.int .i64 (l : Int), .slice ao n c] 31) := ⟨_, rfl⟩
  have hB : Below w.heap.size w w1 := by rw [hw1]; exact below_alloc _ _
  have HB := Lib.hid hB
  have cz : w1.cell? ⟨w.heap.size, 0, none⟩ = some (.int .i64 (l : Int)) := by rw [hw1]; simp
  have ca : w1.cell? ⟨w.heap.size, 1, none⟩ = some (.slice ao n c) := by rw [hw1]; simp
  have hI := fun (W : World) (hW : Below w.heap.size w W) => find_spec lo hi lo hi l l ao ao c n c n fs fs true false 301 W (hv.kept (Kept.of_below hW hhi)) (Nat.le_trans hhi hW.size) (hv.kept (Kept.of_below hW hhi)) (Nat.le_trans hhi hW.size) hok hok rfl (by omega) (by omega)
  obtain ⟨rs, hrs⟩ : ∃ rs, srchS l l fs fs (leadB true) (wantB l l false) 301 = rs := ⟨_, rfl⟩
  simp only [hrs] at hI
  rw [hrs]
  obtain ⟨t, ms⟩ := rs
  obtain ⟨k, hk⟩ : ∃ k, ms.length = k := ⟨_, rfl⟩
  have HK := Lib.hid hk
  have HI := Lib.hid hI
  unfold ResV
  clear hI hv hrs hok hB
  by_cases ha : t ≤ 5000
  · have HOk : Hid (decide (t ≤ 5000) = true) := decide_eq_true ha
    by_cases hb : k ≤ 300
    · have hkn : ¬ (k : Int) > 300 := by omega
      rw [allV_yes ha (by rw [hk]; exact hb)]
      clear ha hb hk
      go_enter Try.func32, Try.ntmps32
      go_wp2_with fail
      rw [← hw1]
      clear hw1
      go_wp2_with fail
      refine (HI.out _ HB.out).mono ?_
      rintro e w2 ⟨fa, fc, vals, rfl, f1, f2, f3⟩
      have HB2 := Lib.hid (HB.out.trans (f3.mono HB.out.size))
      have HVw := Lib.hid ((fnd_view f1 f2).mono HB.out.size (Nat.le_refl _))
      have hok2_ : decide ((t, ms).1 ≤ 5000) = true := HOk.out
      have hlk : (t, ms).2.length = k := HK.out
      rw [hok2_, hlk]
      clear f1 f2 f3 cz ca hok2_ hlk
      go_wp2_with fail
      go_ret2
      exact ⟨fa, k, fc, rfl, HK.out.symm, by rw [← HK.out]; exact HVw.out, HB2.out⟩
    · have hkn : (k : Int) > 300 := by omega
      rw [allV_many t (by rw [hk]; exact hb)]
      clear ha hb hk
      go_enter Try.func32, Try.ntmps32
      go_wp2_with fail
      rw [← hw1]
      clear hw1
      go_wp2_with fail
      refine (HI.out _ HB.out).mono ?_
      rintro e w2 ⟨fa, fc, vals, rfl, f1, f2, f3⟩
      have HB2 := Lib.hid (HB.out.trans (f3.mono HB.out.size))
      have HVw := Lib.hid ((fnd_view f1 f2).mono HB.out.size (Nat.le_refl _))
      have hok2_ : decide ((t, ms).1 ≤ 5000) = true := HOk.out
      have hlk : (t, ms).2.length = k := HK.out
      rw [hok2_, hlk]
      clear f1 f2 f3 cz ca hok2_ hlk
      go_wp2_with fail
      have HOn := Lib.hid ((HB2.out).trans ((below_alloc w2 (.cells #[] 42)).mono HB2.out.size))
      go_wp2_with fail
      go_ret2
      exact ⟨_, _, _, rfl, rfl, ⟨rfl, .inl rfl⟩, HOn.out⟩
  · have HOk : Hid (decide (t ≤ 5000) = false) := decide_eq_false ha
    rw [allV_over ha]
    clear ha hk
    go_enter Try.func32, Try.ntmps32
    go_wp2_with fail
    rw [← hw1]
    clear hw1
    go_wp2_with fail
    refine (HI.out _ HB.out).mono ?_
    rintro e w2 ⟨fa, fc, vals, rfl, f1, f2, f3⟩
    have HB2 := Lib.hid (HB.out.trans (f3.mono HB.out.size))
    have HVw := Lib.hid ((fnd_view f1 f2).mono HB.out.size (Nat.le_refl _))
    have hok2_ : decide ((t, ms).1 ≤ 5000) = false := HOk.out
    have hlk : (t, ms).2.length = k := HK.out
    rw [hok2_, hlk]
    clear f1 f2 f3 cz ca hok2_ hlk
    go_wp2_with fail
    have HOn := Lib.hid ((HB2.out).trans ((below_alloc w2 (.cells #[] 42)).mono HB2.out.size))
    go_wp2_with fail
    go_ret2
    exact ⟨_, _, _, rfl, rfl, ⟨rfl, .inl rfl⟩, HOn.out⟩

set_option maxHeartbeats 1000000 in
theorem specAutomorphisms (lo hi : Nat) (z : Int) (ao : Option Addr) (c n : Nat) (fs : List OpD) (w : World) (hv : OView w lo hi ao n fs) (hhi : hi ≤ w.heap.size) (hs : ∀ (j : Nat) (f : OpD), fs[j]? = some f → f.2.length ≤ maxLen) :
    Calls Try.prog 16 #[.agg #[.int .i64 z, .slice ao n c]] w fun e w' => ResV w w' (valAutomorphisms z fs).1 (valAutomorphisms z fs).2 e := by
  obtain ⟨w1, hw1⟩ : ∃ w1, w1 = w.alloc (.cells #[.int .i64 z, .slice ao n c] 31) := ⟨_, rfl⟩
  have hB : Below w.heap.size w w1 := by rw [hw1]; exact below_alloc _ _
  have HB := Lib.hid hB
  have cz : w1.cell? ⟨w.heap.size, 0, none⟩ = some (.int .i64 z) := by rw [hw1]; simp
  have ca : w1.cell? ⟨w.heap.size, 1, none⟩ = some (.slice ao n c) := by rw [hw1]; simp
  have hG := fun (W : World) (hW : Below w.heap.size w W) => good_any lo hi z ao c n fs W (hv.kept (Kept.of_below hW hhi)) (Nat.le_trans hhi hW.size) hs
  obtain ⟨t, ht⟩ : ∃ t, algOkB z fs = t := ⟨_, rfl⟩
  simp only [ht] at hG
  have HG := Lib.hid hG
  unfold valAutomorphisms ResV
  clear hG
  cases t with
  | false =>
    have hr : allV (allRun true z fs z fs) = ([], false) := by unfold allRun; rw [sameH_self, ht, if_neg (by simp)]; rfl
    rw [hr]
    clear hv hs ht hr hB
    go_enter Try.func16, Try.ntmps16
    go_wp2_with fail
    rw [← hw1]
    clear hw1
    go_wp2_with fail
    refine (HG.out _ HB.out).mono ?_
    rintro e w2 ⟨rfl, b2⟩
    have HB2 := Lib.hid (HB.out.trans (b2.mono HB.out.size))
    clear b2 cz ca
    have HOn := Lib.hid ((HB2.out).trans ((below_alloc w2 (.cells #[] 42)).mono HB2.out.size))
    go_wp2_with fail
    go_ret2
    exact ⟨_, _, _, rfl, rfl, ⟨rfl, .inl rfl⟩, HOn.out⟩
  | true =>
    obtain ⟨⟨h1, h2⟩, _⟩ := algOkB_of ht
    have hr : allRun true z fs z fs = srchS z.toNat z.toNat fs fs (leadB true) (wantB z.toNat z.toNat false) 301 := by unfold allRun; rw [sameH_self, ht, if_pos rfl]
    rw [hr]
    obtain ⟨l, rfl⟩ : ∃ l : Nat, z = (l : Int) := ⟨z.toNat, by omega⟩
    simp only [Int.toNat_natCast]
    have hI := fun (W : World) (hW : Below w.heap.size w W) => auts_spec lo hi l ao c n fs W (hv.kept (Kept.of_below hW hhi)) (Nat.le_trans hhi hW.size) ht
    obtain ⟨rs, hrs⟩ : ∃ rs, allV (srchS l l fs fs (leadB true) (wantB l l false) 301) = rs := ⟨_, rfl⟩
    simp only [hrs, ResV] at hI
    rw [hrs]
    have HI := Lib.hid hI
    clear hI hv hs ht hr hrs hB h1 h2
    go_enter Try.func16, Try.ntmps16
    go_wp2_with fail
    rw [← hw1]
    clear hw1
    go_wp2_with fail
    refine (HG.out _ HB.out).mono ?_
    rintro e w2 ⟨rfl, b2⟩
    have cz2 : w2.cell? ⟨w.heap.size, 0, none⟩ = some (.int .i64 (l : Int)) := cell_b b2 cz
    have ca2 : w2.cell? ⟨w.heap.size, 1, none⟩ = some (.slice ao n c) := cell_b b2 ca
    have HB2 := Lib.hid (HB.out.trans (b2.mono HB.out.size))
    clear b2 cz ca
    go_wp2_with fail
    refine (HI.out _ HB2.out).mono ?_
    rintro e w3 ⟨ga, gn, gc, rfl, q1, q2, b3⟩
    have HF := Lib.hid (And.intro q1 (And.intro q2 b3))
    clear q1 q2 b3 cz2 ca2
    go_wp2_with fail
    go_ret2
    exact ⟨ga, gn, gc, rfl, HF.out.1, HF.out.2.1.mono HB2.out.size (Nat.le_refl _), HB2.out.trans (HF.out.2.2.mono HB2.out.size)⟩
end

end Go.Proofs.Ytmlimbjpehjfnaa
