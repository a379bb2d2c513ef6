/-
  Contracts: spec.l2Back and spec.ReverseArgs. Conditions: the bounds that each theorem names.
-/
import Derived.Test.YthgggoodceogkaaRevI
import Derived.Deep.RegionLaw
import Derived.Deep.AppendLies
import Derived.Deep.DrawnRows
namespace Go.Proofs.Ythgggoodceogkaa
open Go.RowKit
set_option linter.unusedVariables false
set_option linter.unusedSimpArgs false
attribute [local go_sem ↓] Go.wp_at_zero Go.wp_at_succ

theorem drop_rev {xs : List Int} {j : Nat} {x : Int} (hx : xs[j]? = some x) : (xs.drop j).reverse = (xs.drop (j + 1)).reverse ++ [x] := by
  obtain ⟨h, rfl⟩ := List.getElem?_eq_some_iff.1 hx
  rw [List.drop_eq_getElem_cons h, List.reverse_cons]

set_option maxHeartbeats 1000000 in
theorem back_any (lo hi : Nat) (ao : Option Addr) (c n : Nat) (xs : List Int) (w : World) (hx : IView w lo hi ao n xs) (hhi : hi ≤ w.heap.size) (hn : n ≤ 3) :
    Calls Try.prog 72 #[.slice ao n c] w fun e w' => ∃ g d, e = .returned (.slice (some ⟨g, 0, none⟩) n d) ∧ IView w' w.heap.size w'.heap.size (some ⟨g, 0, none⟩) n xs.reverse ∧ Below w.heap.size w w' := by
  obtain ⟨i0, hi0, hz0, hz1, hz2⟩ := info_parts Try.infoInt
  have HX := Lib.hid hx
  have hB := below_alloc w (.cells #[] 3)
  have HB := Lib.hid hB
  have hown0 := World.ownsRow_lit (base := w.heap.size) (e := 3) (size := 1) w #[] 0 (Nat.le_refl _) (by decide) rfl
  have HO := Lib.hid hown0
  have HLen := Lib.hid hx.1
  clear hx hB hown0
  go_enter Try.func72, Try.ntmps72
  go_wp2_with fail
  go_loopw [3, 4] (fun v i wr => ∃ (j : Nat) (x : Int) (bo d t : Nat), j + t = n ∧ i = .int .i64 x ∧ x = (j : Int) - 1 ∧ v = .slice (some ⟨bo, 0, none⟩) t d ∧ Hid (wr.ownsRow w.heap.size 3 1 (.slice (some ⟨bo, 0, none⟩) t d) t (((xs.drop j).reverse).map (Value.int .i64))) ∧ Hid (Below w.heap.size w wr)) (fun _ i _ => (intOf i + 1).toNat)
  case atStart => exact ⟨n, (n : Int) - 1, w.heap.size, 0, 0, by omega, rfl, rfl, rfl, by rw [List.drop_of_length_le (Nat.le_of_eq HLen.out)]; exact HO.out, HB.out⟩
  case round =>
    obtain ⟨j, x, bo, d, t, hjt, rfl, hxj, rfl, HR, HBr⟩ := hrel
    cases j with
    | succ j =>
      obtain rfl : x = (j : Int) := by omega
      obtain ⟨b, o, rfl, _, hb, hc⟩ := HX.out.at_ (by omega)
      obtain ⟨y, hy⟩ := get_of_lt HX.out.1 (show j < n by omega)
      have ey : wr.cell? ⟨b, o + j, none⟩ = some (.int .i64 y) := cell_b HBr.out (hc j y hy)
      have HY := Lib.hid hy
      have hj0 : (0 : Int) ≤ (j : Int) := by omega
      have hjn : (j : Int) < (n : Int) := by omega
      clear hc hy hxj
      go_wp2_with (at_builtin; refine wpList_append_own _ rfl _ _ 33 rfl w.heap.size 3 i0 (.int .i64 0) 1 8 Try.underlying33 hi0 hz0 hz1 hz2 rfl (by decide) (.slice (some ⟨bo, 0, none⟩) t d) t (((xs.drop (j + 1)).reverse).map (Value.int .i64)) rfl (HR.out.alloc _) ⟨wr.heap.size, 0, none⟩ 1 1 [.int .i64 y] rfl rfl (cell_one_new _ _ _) (fun x hx => by simp at hx; subst hx; rfl) (by unfold maxLen; omega) (by omega) (by have := HBr.out.size; simp; omega) ?_; intro v' w3 hown' hgrow' hnil')
      obtain ⟨g, cap, rfl⟩ := ownsRow_succ hown'
      have hbo := (HR.out.lt bo rfl).1
      have HB3 := Lib.hid ((HBr.out.alloc HBr.out.size (.cells #[.int .i64 y] 3)).grown hgrow' (by have := HBr.out.size; simp; omega) (fun q hq => by have h_ : bo = q := (by simpa [Value.ownBlock] using hq); omega))
      have HO3 : Hid (w3.ownsRow w.heap.size 3 1 (.slice (some ⟨g, 0, none⟩) (t + 1) cap) (t + 1) (((xs.drop j).reverse).map (Value.int .i64))) := by
        unfold Hid
        rw [drop_rev HY.out, List.map_append]
        exact hown'
      clear hown' hgrow' hnil'
      go_wp2
      go_roundw
      case rel => exact ⟨j, _, g, cap, t + 1, by omega, rfl, by omega, rfl, HO3, HB3⟩
      case measure => simp [intOf]
    | zero =>
      obtain rfl : x = -1 := by omega
      obtain rfl : t = n := by omega
      clear hxj
      go_wp2
      go_ret
      have h := HR.out
      rw [List.drop_zero] at h
      exact ⟨bo, d, rfl, (OwnsInts.of_row h).view, HBr.out⟩

/-- A table in the place of another one. -/
theorem OwnsOps.setSlice {w : World} {lo hi n c g j b d : Nat} {G C : Nat → Nat} {F : Nat → OpD} {ys : List Int} (h : OwnsOps w lo hi (.slice (some ⟨g, 0, none⟩) n c) n G C F) (hj : j < n)
    (ht : w.ownsRow lo 3 1 (.slice (some ⟨b, 0, none⟩) ys.length d) ys.length (ys.map (Value.int .i64))) (hb : b < hi) (hne : ∀ i, i < n → G i ≠ b) :
    OwnsOps (w.setCell ⟨g, j * 2 + 1, none⟩ (.slice (some ⟨b, 0, none⟩) ys.length d)) lo hi (.slice (some ⟨g, 0, none⟩) n c) n (upd G j b) (upd C j d) (upd F j ((F j).1, ys)) := by
  have hst := h.row.stored (j * 2 + 1) (.slice (some ⟨b, 0, none⟩) ys.length d)
  have hgj : ∀ i, i < n → G i ≠ g := fun i hi e => row_ne h.row (h.tab i hi) (by decide) (show some g = some (G i) by rw [e])
  have hbg : b ≠ g := fun e => row_ne h.row ht (by decide) (show some g = some b by rw [e])
  refine ⟨?_, h.rowlt, fun i hi => ?_, fun i hi => ?_, fun i i2 hi hi2 he => ?_⟩
  · have h1 := hst.1
    have h2 := flatN_set1 (G := G) (C := C) (F := F) (G' := upd G j b) (C' := upd C j d) (F' := upd F j ((F j).1, ys)) hj (by rw [upd_same]) (fun i hi => ⟨upd_other hi, upd_other hi, upd_other hi⟩)
    rw [upd_same, upd_same, upd_same] at h2
    rw [h2] at h1
    exact h1
  · by_cases hij : i = j
    · subst hij
      rw [upd_same, upd_same, upd_same]
      exact ht.kept hst.2 (.inr (by intro e; exact hbg (by simpa [Value.ownBlock] using e)))
    · rw [upd_other hij, upd_other hij, upd_other hij]
      exact (h.tab i hi).kept hst.2 (.inr (by intro e; exact hgj i hi (by simpa [Value.ownBlock] using e)))
  · by_cases hij : i = j
    · subst hij; rw [upd_same]; exact hb
    · rw [upd_other hij]; exact h.lt i hi
  · by_cases hij : i = j <;> by_cases hij2 : i2 = j
    · omega
    · rw [hij, upd_same, upd_other hij2] at he
      exact absurd he.symm (hne i2 hi2)
    · rw [hij2, upd_same, upd_other hij] at he
      exact absurd he (hne i hi)
    · rw [upd_other hij, upd_other hij2] at he
      exact h.inj i i2 hi hi2 he

end Go.Proofs.Ythgggoodceogkaa
