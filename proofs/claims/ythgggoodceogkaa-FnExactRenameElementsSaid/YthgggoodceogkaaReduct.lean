/-
  Contract: impl.ReductTo. Conditions: the bounds that each theorem names.
-/
import Derived.Test.YthgggoodceogkaaCopy
import Derived.Test.YthgggoodceogkaaValueOf
import Derived.Deep.RegionLaw
import Derived.Deep.AppendLies
namespace Go.Proofs.Ythgggoodceogkaa
open Go.RowKit
set_option linter.unusedVariables false
set_option linter.unusedSimpArgs false

def redB (z : Int) (fs : List OpD) (xs : List Int) : Bool := algOkB z fs && (decide (xs.length ≤ 4) && allIn (fs.length : Int) xs)
def valReductTo (z : Int) (fs : List OpD) (xs : List Int) : Int × List OpD × Bool := if redB z fs xs then (z, xs.map (opD fs), true) else (0, [], false)
theorem red_of {z : Int} {fs : List OpD} {xs : List Int} (h : redB z fs xs = true) : algOkB z fs = true ∧ xs.length ≤ 4 ∧ allIn (fs.length : Int) xs = true := by simpa [redB] using h
/-- A table of a valid algebra. -/
theorem table_le {z : Int} {fs : List OpD} (h : algOkB z fs = true) {f : OpD} (hf : f ∈ fs) : 1 ≤ f.2.length ∧ f.2.length ≤ 512 := by
  obtain ⟨⟨h1, h2⟩, _, ha⟩ := algOkB_of h
  obtain ⟨⟨a, b⟩, hl, _⟩ := opOkB_of (ha f hf)
  have := powI_bd h1 h2 (k := f.1.toNat) (by omega)
  omega
theorem opD_mem {fs : List OpD} {x : Int} (h0 : 0 ≤ x) (h1 : x < fs.length) : ∃ k : Nat, x = (k : Int) ∧ fs[k]? = some (opD fs x) ∧ opD fs x ∈ fs := by
  obtain ⟨k, rfl⟩ : ∃ k : Nat, x = (k : Int) := ⟨x.toNat, by omega⟩
  have hk : k < fs.length := by omega
  have hx : fs[k]? = some (fs[k]) := List.getElem?_eq_getElem hk
  rw [opD_get hx]
  exact ⟨k, rfl, hx, List.getElem_mem hk⟩
theorem osum_le {fs : List OpD} (h : ∀ f ∈ fs, f.2.length ≤ 512) : osum fs ≤ 512 * fs.length := by
  induction fs with
  | nil => simp [osum]
  | cons f r ih =>
    have h1 := ih fun g hg => h g (by simp [hg])
    have h2 := h f (by simp)
    simp only [osum, List.map_cons, List.sum_cons, List.length_cons] at h1 ⊢
    omega
theorem smallReductTo (z : Int) (fs : List OpD) (xs : List Int) : (valReductTo z fs xs).2.1.length + osum (valReductTo z fs xs).2.1 ≤ 4194304 := by
  unfold valReductTo
  split
  · rename_i h
    obtain ⟨h1, h2, h3⟩ := red_of h
    have h4 : osum (xs.map (opD fs)) ≤ 512 * (xs.map (opD fs)).length := osum_le fun f hf => by
      obtain ⟨x, hx, rfl⟩ := List.mem_map.1 hf
      have := List.all_eq_true.1 h3 x hx
      simp at this
      obtain ⟨k, _, _, hm⟩ := opD_mem this.1 this.2
      exact (table_le h1 hm).2
    simp at h4 ⊢
    omega
  · simp [osum]

/-- A box of two cells, known whole. -/
theorem box_cells {w : World} {B : Nat} {a b : Value} {ty : TypeId} (h : w.heap[B]? = some (.cells #[a, b] ty (0, 0))) : w.cell? ⟨B, 0, none⟩ = some a ∧ w.cell? ⟨B, 1, none⟩ = some b ∧ (∀ j, w.frozen? ⟨B, j, none⟩ = false) :=
  ⟨by rw [cell_of_row w B 0 _ ty (0, 0) h]; rfl, by rw [cell_of_row w B 1 _ ty (0, 0) h]; rfl, fun j => by simp [World.frozen?, h]⟩
theorem box_set1 {w : World} {B : Nat} {a b v : Value} {ty : TypeId} (h : w.heap[B]? = some (.cells #[a, b] ty (0, 0))) : (w.setCell ⟨B, 1, none⟩ v).heap[B]? = some (.cells #[a, v] ty (0, 0)) := by
  simp [World.setCell, Array.getElem?_modify, h]
theorem box_new (w : World) (a b : Value) (ty : TypeId) : (w.alloc (.cells #[a, b] ty)).heap[w.heap.size]? = some (.cells #[a, b] ty (0, 0)) := heap_alloc_new w _

theorem red_no_alg (lo hi : Nat) (z : Int) (ao : Option Addr) (c n : Nat) (fs : List OpD) (lo2 hi2 : Nat) (bo : Option Addr) (d m : Nat) (xs : List Int) (w : World) (hv : OView w lo hi ao n fs) (hhi : hi ≤ w.heap.size) (hs : ∀ (j : Nat) (f : OpD), fs[j]? = some f → f.2.length ≤ maxLen)
    (hx : IView w lo2 hi2 bo m xs) (hhi2 : hi2 ≤ w.heap.size) (hm : m ≤ maxLen) (hno : redB z fs xs = false) :
    Calls Try.prog 39 #[.agg #[.int .i64 z, .slice ao n c], .slice bo m d] w fun e w' => e = .returned (.tuple #[.agg #[.int .i64 0, .slice none 0 0], .bool false]) ∧ Below w.heap.size w w' := by
  unfold maxLen at hm
  have hB := ((Below.refl w.heap.size w).alloc (Nat.le_refl _) (.cells #[.int .i64 z, .slice ao n c] 29)).alloc (by simp) (.cells #[.int .i64 0, .slice none 0 0] 29)
  have HB := Lib.hid hB
  have hG := isAlg_any lo hi z ao c n fs _ (hv.kept (Kept.of_below hB hhi)) (Nat.le_trans hhi hB.size) hs
  obtain ⟨t, ht⟩ : ∃ t, algOkB z fs = t := ⟨_, rfl⟩
  rw [ht] at hG
  have HG := Lib.hid hG
  have hl := hv.1
  have hxl := hx.1
  cases t with
  | false =>
    clear hG hB hs hv ht hx hno hl hxl
    go_enter Try.func39, Try.ntmps39
    go_wp2_with fail
    refine HG.out.mono ?_
    rintro e w1 ⟨rfl, b1⟩
    obtain ⟨hcc, hff⟩ := bcell b1
    have HB1 := Lib.hid (HB.out.trans (b1.mono HB.out.size))
    clear b1
    go_wp2_with fail
    refine bodyPost_ret (v := .tuple #[.agg #[.int .i64 0, .slice none 0 0], .bool false]) (by simp [results, Try.results39, go_sem, hcc]) rfl ⟨rfl, (HB1.out.setCell (by show _ ≤ _; simp) _).setCell (by show _ ≤ _; simp) _⟩
  | true =>
    have hn4 : n ≤ 4 := by have := (algOkB_of ht).2.1; omega
    by_cases h4 : m ≤ 4
    · have hall : allIn (n : Int) xs = false := by
        rw [redB, ht, hl, hxl] at hno
        simpa [h4] using hno
      have hE := Lib.hid (fun (w1 : World) (hw : Below w.heap.size w w1) => elems_impl lo2 hi2 (n : Int) bo d m xs w1 (hx.kept (Kept.of_below hw hhi2)) (by unfold maxLen; omega))
      rw [hall] at hE
      clear hG hB hs hv ht hx hno hl hxl hall
      go_enter Try.func39, Try.ntmps39
      go_wp2_with fail
      refine HG.out.mono ?_
      rintro e w1 ⟨rfl, b1⟩
      obtain ⟨hcc, hff⟩ := bcell b1
      have HB1 := Lib.hid (HB.out.trans (b1.mono HB.out.size))
      clear b1
      go_wp2_with fail
      refine (hE.out _ HB1.out).mono ?_
      rintro e w2 ⟨rfl, rfl⟩
      go_wp2_with fail
      refine bodyPost_ret (v := .tuple #[.agg #[.int .i64 0, .slice none 0 0], .bool false]) (by simp [results, Try.results39, go_sem, hcc]) rfl ⟨rfl, (HB1.out.setCell (by show _ ≤ _; simp) _).setCell (by show _ ≤ _; simp) _⟩
    · clear hG hB hs hv ht hx hno hl hxl
      go_enter Try.func39, Try.ntmps39
      go_wp2_with fail
      refine HG.out.mono ?_
      rintro e w1 ⟨rfl, b1⟩
      obtain ⟨hcc, hff⟩ := bcell b1
      have HB1 := Lib.hid (HB.out.trans (b1.mono HB.out.size))
      clear b1
      go_wp2_with fail
      refine bodyPost_ret (v := .tuple #[.agg #[.int .i64 0, .slice none 0 0], .bool false]) (by simp [results, Try.results39, go_sem, hcc]) rfl ⟨rfl, (HB1.out.setCell (by show _ ≤ _; simp) _).setCell (by show _ ≤ _; simp) _⟩

end Go.Proofs.Ythgggoodceogkaa
