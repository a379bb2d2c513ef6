/-
  Plain mathematics and small contracts for ReverseArgs: a table whose arguments are turned; slices.Reverse on a short list; a store into a table of the call's own. Conditions: the bounds that each theorem names.
-/
import Derived.Test.YthgggoodceogkaaCopyAlg
import Derived.Test.YthgggoodceogkaaDigs
import Derived.Laws.OwnMore
import Derived.Lib.EndianMore
namespace Go.Proofs.Ythgggoodceogkaa
open Go.RowKit
set_option linter.unusedVariables false
set_option linter.unusedSimpArgs false

/-- The table of an operation with its arguments in the opposite order. -/
def revT (z : Int) (f : OpD) : List Int := (List.range f.2.length).map fun (i : Nat) => atA z f (digs z f.1.toNat (i : Int)).reverse
theorem revT_len (z : Int) (f : OpD) : (revT z f).length = f.2.length := by simp [revT]
theorem revT_get {z : Int} {f : OpD} {i : Nat} (h : i < f.2.length) : (revT z f)[i]? = some (atA z f (digs z f.1.toNat (i : Int)).reverse) := by simp [revT, h]
def valReverseArgs (z : Int) (fs : List OpD) (op : Int) : Int × List OpD × Bool := if takesB z fs op then (z, fs.set op.toNat ((opD fs op).1, revT z (opD fs op)), true) else (0, [], false)
theorem set_mem {α : Type} {l : List α} {k : Nat} {x y : α} (h : y ∈ l.set k x) : y = x ∨ y ∈ l := by
  induction l generalizing k with
  | nil => simp at h
  | cons a l ih =>
    cases k with
    | zero =>
      simp only [List.set_cons_zero, List.mem_cons] at h
      rcases h with h | h
      · exact .inl h
      · exact .inr (by simp [h])
    | succ k =>
      simp only [List.set_cons_succ, List.mem_cons] at h
      rcases h with h | h
      · exact .inr (by simp [h])
      · rcases ih h with h | h
        · exact .inl h
        · exact .inr (by simp [h])
theorem smallReverseArgs (z : Int) (fs : List OpD) (op : Int) : (valReverseArgs z fs op).2.1.length + osum (valReverseArgs z fs op).2.1 ≤ 4194304 := by
  unfold valReverseArgs
  split
  · rename_i h
    have hok := (takes_of h).1
    have h1 := (algOkB_of hok).2.1
    have h4 : osum (fs.set op.toNat ((opD fs op).1, revT z (opD fs op))) ≤ 512 * (fs.set op.toNat ((opD fs op).1, revT z (opD fs op))).length := osum_le fun f hf => by
      rcases set_mem hf with h2 | h2
      · obtain ⟨k, g, rfl, hk, hg, _⟩ := takes_get h
        rw [h2, opD_get hg]
        simp only [revT_len]
        exact (table_le hok (List.mem_of_getElem? hg)).2
      · exact (table_le hok h2).2
    simp only [List.length_set] at h4 ⊢
    omega
  · simp [osum]

/-- The first i of new, behind them what was there. -/
def mixL (new old : List Int) (i : Nat) : List Int := new.take i ++ old.drop i
theorem mixL_zero (new old : List Int) : mixL new old 0 = old := by simp [mixL]
theorem mixL_all {new old : List Int} {i : Nat} (h : new.length = old.length) (hi : old.length ≤ i) : mixL new old i = new := by
  simp [mixL, List.take_of_length_le (by omega : new.length ≤ i), List.drop_of_length_le hi]
theorem mixL_len {new old : List Int} (h : new.length = old.length) (i : Nat) : (mixL new old i).length = old.length := by
  simp [mixL]; omega
theorem mixL_set {new old : List Int} {i : Nat} {x : Int} (h : new.length = old.length) (hi : i < old.length) (hx : new[i]? = some x) : (mixL new old i).set i x = mixL new old (i + 1) := by
  unfold mixL
  have hl : (new.take i).length = i := by simp; omega
  rw [List.set_append_right _ _ (by omega), hl, Nat.sub_self, List.drop_eq_getElem_cons hi, List.set_cons_zero, List.take_add_one, hx]
  simp

theorem OwnsOps.setTab {w : World} {lo hi n j i : Nat} {v : Value} {G C : Nat → Nat} {F : Nat → OpD} (x : Int) (h : OwnsOps w lo hi v n G C F) (hj : j < n) :
    OwnsOps (w.setCell ⟨G j, i, none⟩ (.int .i64 x)) lo hi v n G C (upd F j ((F j).1, (F j).2.set i x)) := by
  have hst := (h.tab j hj).stored i (.int .i64 x)
  have hgj : ∀ i, i < n → v.ownBlock ≠ some (G i) := fun i hi => row_ne h.row (h.tab i hi) (by decide)
  refine ⟨?_, h.rowlt, fun q hq => ?_, h.lt, h.inj⟩
  · rw [flatN_congrL (F' := F) fun q hq => by
      by_cases hqj : q = j
      · subst hqj; rw [upd_same]; simp
      · rw [upd_other hqj]; exact ⟨rfl, rfl⟩]
    exact h.row.kept hst.2 (.inr (hgj j hj))
  · by_cases hqj : q = j
    · subst hqj
      rw [upd_same]
      have h1 := hst.1
      rw [← List.map_set] at h1
      simpa using h1
    · rw [upd_other hqj]
      exact (h.tab q hq).kept hst.2 (.inr (by
        intro e
        have : G q = G j := by simpa [Value.ownBlock] using e
        exact hqj (h.inj q j hq hj this)))

theorem setCells_size (b : Nat) : ∀ (vs : List Value) (o : Nat) (w : World), (w.setCells b o vs).heap.size = w.heap.size
  | [], _, _ => rfl
  | v :: r, o, w => by rw [World.setCells, setCells_size b r]; simp [World.setCell]

theorem rev_any (g m : Nat) (xs : List Int) (W : World) (ty : TypeId) (hg : W.heap[g]? = some (.cells ((xs.map (Value.int .i64)).toArray) ty (0, 0))) (hm : xs.length = m) (hm3 : m ≤ 3) :
    Calls Try.prog 76 #[.slice (some ⟨g, 0, none⟩) m m] W fun e w' => e = .returned (.tuple #[]) ∧ IView w' g w'.heap.size (some ⟨g, 0, none⟩) m xs.reverse ∧ Below g W w' := by
  have hlt : g < W.heap.size := (Array.getElem?_eq_some_iff.1 hg).1
  have hcell : ∀ j, j < xs.length → W.cell? ⟨g, 0 + j, none⟩ = some (.int .i64 (xs.getD j 0)) := by
    intro j hj
    rw [cell_of_row W g (0 + j) _ ty (0, 0) hg, Nat.zero_add]
    simp [List.getElem?_eq_getElem hj, List.getD_eq_getElem?_getD]
  rcases Nat.eq_zero_or_pos m with h0 | h0
  · subst h0
    refine (Try.slices_Reverse_int_empty _ _ W).mono fun e w' ⟨he, hw⟩ => ⟨he, ?_, hw ▸ Below.refl _ _⟩
    exact ⟨by simpa using hm, .inl rfl⟩
  · refine (Try.slices_Reverse_int_cells g 0 m m xs W (by omega) (by omega) hcell (fun j _ => by rw [World.frozen?, hg]; rfl)).mono fun e w' ⟨he, q, hw⟩ => ?_
    subst hw
    rw [List.take_of_length_le (by omega)]
    refine ⟨he, ⟨by simpa using hm, .inr ⟨g, 0, rfl, Nat.le_refl _, by rw [setCells_size]; exact hlt, fun j x hx => ?_⟩⟩, (below_drewN (Below.refl g W) q).trans (Go.Lib.below_setCells_w (Nat.le_refl _) _ _ _)⟩
    have hj : j < (xs.reverse.map (Value.int .i64)).length := by have := (List.getElem?_eq_some_iff.1 hx).1; simpa using this
    have h1 := World.cell?_setCells_in g (xs.reverse.map (Value.int .i64)) 0 (W.drewN q) (fun i hi => by
      have hi2 : i < xs.length := by simpa using hi
      rw [show (W.drewN q).cell? ⟨g, 0 + i, none⟩ = W.cell? ⟨g, 0 + i, none⟩ from rfl, hcell i hi2]; rfl) j hj
    have h2 := (List.getElem?_eq_some_iff.1 hx).2
    rw [h1, List.getElem_map, h2]

theorem atA_row {z : Int} {f : OpD} {xs : List Int} {m : Nat} (h1 : 1 ≤ z) (hok : opOkB z f = true) (hm : f.1 = (m : Int)) (hl : xs.length = m) (ha : allIn z xs = true) :
    ∃ i : Nat, idxA z xs = (i : Int) ∧ i < f.2.length ∧ f.2[i]? = some (atA z f xs) := by
  obtain ⟨i0, i1, i2⟩ := at_get h1 hok (by rw [hl, hm]) ha
  exact ⟨(idxA z xs).toNat, by omega, by omega, i2⟩
theorem allIn_rev {z : Int} {xs : List Int} (h : allIn z xs = true) : allIn z xs.reverse = true := by
  simp only [allIn, List.all_eq_true, List.mem_reverse] at h ⊢
  exact h
theorem table_lt {z : Int} {f : OpD} (h1 : 1 ≤ z) (h2 : z ≤ 8) (hok : opOkB z f = true) : f.2.length ≤ 512 := by
  obtain ⟨⟨a, b⟩, hl, _⟩ := opOkB_of hok
  have := powI_bd h1 h2 (k := f.1.toNat) (by omega)
  omega

/-- What the walks over a valid operation want. -/
theorem op_nat {z : Int} {f : OpD} (h1 : 1 ≤ z) (h2 : z ≤ 8) (hok : opOkB z f = true) : ∃ zn m : Nat, z = (zn : Int) ∧ f.1 = (m : Int) ∧ 1 ≤ zn ∧ zn ≤ 8 ∧ m ≤ 3 ∧ 1 ≤ f.2.length ∧ f.2.length ≤ 512 := by
  obtain ⟨⟨a, b⟩, hl, _⟩ := opOkB_of hok
  have := powI_bd h1 h2 (k := f.1.toNat) (by omega)
  exact ⟨z.toNat, f.1.toNat, by omega, by omega, by omega, by omega, by omega, by omega, by omega⟩

theorem upd_set {fs : List OpD} {k j : Nat} {x : OpD} (hk : k < fs.length) : upd (fun j => fs.getD j (0, [])) k x j = (fs.set k x).getD j (0, []) := by
  rw [List.getD_eq_getElem?_getD, List.getElem?_set]
  by_cases hj : j = k
  · subst hj; simp [upd, hk]
  · rw [upd_other hj, if_neg (fun e => hj e.symm), ← List.getD_eq_getElem?_getD]
theorem upd_upd {α : Type} {f : Nat → α} {k : Nat} {x y : α} : upd (upd f k x) k y = upd f k y := by
  funext j
  by_cases hj : j = k
  · subst hj; rw [upd_same, upd_same]
  · rw [upd_other hj, upd_other hj, upd_other hj]

end Go.Proofs.Ythgggoodceogkaa
