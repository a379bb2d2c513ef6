/-
  Contract: impl.RenameElements. Conditions: the bounds that each theorem names.
-/
import Derived.Test.YthgggoodceogkaaPerm
import Derived.Test.YthgggoodceogkaaPermC
import Derived.Test.YthgggoodceogkaaRevI
import Derived.Deep.RegionHeld3
import Derived.Deep.DrawnRows
namespace Go.Proofs.Ythgggoodceogkaa
open Go.RowKit
set_option linter.unusedVariables false
set_option linter.unusedSimpArgs false
attribute [local go_sem ↓] Go.wp_at_zero Go.wp_at_succ

/-- The first k operations renamed. -/
def mixR (z : Int) (xs : List Int) (fs : List OpD) (k : Nat) : Nat → OpD := fun j => if j < k then renT z xs (fs.getD j (0, [])) else fs.getD j (0, [])
theorem mixR_zero (z : Int) (xs : List Int) (fs : List OpD) : mixR z xs fs 0 = fun j => fs.getD j (0, []) := by funext j; simp [mixR]
theorem mixR_at (z : Int) (xs : List Int) (fs : List OpD) (k : Nat) : mixR z xs fs k k = fs.getD k (0, []) := by simp [mixR]
theorem mixR_step (z : Int) (xs : List Int) (fs : List OpD) (k : Nat) : upd (mixR z xs fs k) k (renT z xs (fs.getD k (0, []))) = mixR z xs fs (k + 1) := by
  funext j
  by_cases hj : j = k
  · subst hj; rw [upd_same]; simp [mixR]
  · rw [upd_other hj]
    unfold mixR
    by_cases h : j < k
    · rw [if_pos h, if_pos (by omega)]
    · rw [if_neg h, if_neg (by omega)]
theorem mixR_all (z : Int) (xs : List Int) (fs : List OpD) {n j : Nat} (hl : fs.length = n) (hj : j < n) : mixR z xs fs n j = (fs.map (renT z xs)).getD j (0, []) := by
  have hj' : j < fs.length := by omega
  unfold mixR
  rw [if_pos hj, List.getD_eq_getElem?_getD, List.getD_eq_getElem?_getD, List.getElem?_map, List.getElem?_eq_getElem hj']
  rfl

set_option maxHeartbeats 400000 in
theorem iren_no (lo hi : Nat) (z : Int) (ao : Option Addr) (c n : Nat) (fs : List OpD) (lo2 hi2 : Nat) (bo : Option Addr) (d m : Nat) (xs : List Int) (w : World) (hv : OView w lo hi ao n fs) (hhi : hi ≤ w.heap.size) (hs : ∀ (j : Nat) (f : OpD), fs[j]? = some f → f.2.length ≤ maxLen)
    (hx : IView w lo2 hi2 bo m xs) (hhi2 : hi2 ≤ w.heap.size) (hm : m ≤ maxLen) (hno : (algOkB z fs && permB z xs) = false) :
    Calls Try.prog 44 #[.agg #[.int .i64 z, .slice ao n c], .slice bo m d] w fun e w' => e = .returned (.tuple #[.agg #[.int .i64 0, .slice none 0 0], .bool false]) ∧ Below w.heap.size w w' := by
  have hB := below_then (below_alloc w (.cells #[.int .i64 z, .slice ao n c] 29)) (below_alloc _ (.cells #[.int .i64 0, .slice none 0 0] 29))
  have HB := Lib.hid hB
  have hG := isAlg_any lo hi z ao c n fs _ (hv.kept (Kept.of_below hB hhi)) (Nat.le_trans hhi hB.size) hs
  obtain ⟨t, ht⟩ : ∃ t, algOkB z fs = t := ⟨_, rfl⟩
  rw [ht] at hG
  have HG := Lib.hid hG
  cases t with
  | false =>
    clear hG hB hs hv ht hx hno hm
    go_enter Try.func44, Try.ntmps44
    go_wp2_with fail
    refine HG.out.mono ?_
    rintro e w1 ⟨rfl, b1⟩
    obtain ⟨hcc, hff⟩ := bcell b1
    have hz : w.heap.size + 1 < w1.heap.size := by have := b1.size; simp at this; omega
    have HB1 := Lib.hid (HB.out.trans (b1.mono HB.out.size))
    clear b1
    go_wp2_with fail
    refine bodyPost_ret (v := .tuple #[.agg #[.int .i64 0, .slice none 0 0], .bool false]) (by simp [results, Try.results44, go_sem, hcc, hz]) rfl ⟨rfl, (HB1.out.setCell (by show _ ≤ _; simp) _).setCell (by show _ ≤ _; simp) _⟩
  | true =>
    rw [ht, Bool.true_and] at hno
    obtain ⟨⟨z1, z2⟩, hn4, _⟩ := algOkB_of ht
    obtain ⟨zn, rfl⟩ : ∃ zn : Nat, z = (zn : Int) := ⟨z.toNat, by omega⟩
    have hP := fun (W : World) (hW : Below w.heap.size w W) => perm_impl lo2 hi2 zn bo d m xs W (hx.kept (Kept.of_below hW hhi2)) (Nat.le_trans hhi2 hW.size) (by omega) (by omega) hm
    rw [hno] at hP
    have HP := Lib.hid hP
    clear hG hB hs hv ht hx hno hP hm hn4
    go_enter Try.func44, Try.ntmps44
    go_wp2_with fail
    refine HG.out.mono ?_
    rintro e w1 ⟨rfl, b1⟩
    have hsz1 : w.heap.size + 1 < w1.heap.size := by have := b1.size; simp at this; omega
    have cz : w1.cell? ⟨w.heap.size, 0, none⟩ = some (.int .i64 (zn : Int)) := (b1.cell (p := ⟨w.heap.size, 0, none⟩) (by simp; omega)).trans (by go_simp)
    have hR1 : Hid (w1.heap[w.heap.size + 1]? = some (.cells #[.int .i64 0, .slice none 0 0] 29 (0, 0))) := by
      unfold Hid
      rw [b1.block _ (by simp)]
      have h := heap_alloc_new (w.alloc (.cells #[.int .i64 (zn : Int), .slice ao n c] 29)) (.cells #[.int .i64 0, .slice none 0 0] 29)
      rw [World.size_alloc] at h
      exact h
    have HB1 := Lib.hid (HB.out.trans (b1.mono HB.out.size))
    clear b1
    go_wp2_with fail
    refine (HP.out _ HB1.out).mono ?_
    rintro e w2 ⟨rfl, b2⟩
    obtain ⟨r0, r1, rf⟩ := box_cells ((b2.block _ (by have := HB1.out.size; omega)).trans hR1.out)
    have HB2 := Lib.hid (HB1.out.trans (b2.mono HB1.out.size))
    clear b2
    go_wp2_with fail
    refine bodyPost_ret (v := .tuple #[.agg #[.int .i64 0, .slice none 0 0], .bool false]) (by simp [results, Try.results44, go_sem, r0, r1]) rfl ⟨rfl, (HB2.out.setCell (by show _ ≤ _; simp) _).setCell (by show _ ≤ _; simp) _⟩

end Go.Proofs.Ythgggoodceogkaa
