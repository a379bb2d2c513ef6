/-
  Contracts: impl.firstPlaces and (elementTuple).list. Conditions: the bounds that each theorem names.
-/
import Derived.Test.YtfdolbpbddjhmaaArrB
import Derived.Test.YtfdolbpbddjhmaaType
namespace Go.Proofs.Ytfdolbpbddjhmaa
open Go.RowKit
set_option linter.unusedVariables false
set_option linter.unusedSimpArgs false

/-- A list of n while its first q are filled with what F gives. -/
def fillK (F : Nat → Int) (n q : Nat) : List Int := (List.range q).map F ++ List.replicate (n - q) 0
theorem fillK_zero (F : Nat → Int) (n : Nat) : fillK F n 0 = List.replicate n 0 := by simp [fillK]
theorem fillK_all (F : Nat → Int) (n : Nat) : fillK F n n = (List.range n).map F := by simp [fillK]
theorem fillK_set (F : Nat → Int) {n q : Nat} (h : q < n) : (fillK F n q).set q (F q) = fillK F n (q + 1) := by
  unfold fillK
  rw [List.set_append_right _ _ (by simp), List.length_map, List.length_range, Nat.sub_self, List.range_succ, show n - q = (n - (q + 1)) + 1 by omega, List.replicate_succ]
  simp

set_option maxHeartbeats 2000000 in
theorem firstPl_any (n : Nat) (w : World) (hn : n ≤ 64) :
    Calls Try.prog 79 #[.int .i64 (n : Int)] w fun e w' => e = .returned (.slice (some ⟨w.heap.size, 0, none⟩) n n) ∧ w'.ownsRow w.heap.size 3 1 (.slice (some ⟨w.heap.size, 0, none⟩) n n) n (((List.range n).map (fun (j : Nat) => (j : Int))).map (Value.int .i64)) ∧ Below w.heap.size w w' := by
  obtain ⟨j0, hj0, hq0, hq1, hq2⟩ := info_parts Try.infoInt
  obtain ⟨w3, hr3, ho3, hg3⟩ := run_make_full (P := Try.prog) w w.heap.size 37 3 j0 _ 1 Try.underlying37 hj0 hq0 hq1 .i64 .i64 n (by rw [hq2]; omega) (by unfold maxLen; omega) (Nat.le_refl _)
  have hrw : ((List.replicate n (0 : Int)).map (Value.int .i64)) = (madeCells (Value.int .i64 0).cells (n * 1)).toList := by
    rw [show (Value.int .i64 0).cells = #[Value.int .i64 0] from rfl, Nat.mul_one, toList_madeCells_one, List.map_replicate]
  obtain ⟨g, hg⟩ : ∃ g : Nat, g = w.heap.size := ⟨_, rfl⟩
  have HR3 : Hid (w3.ownsRow w.heap.size 3 1 (.slice (some ⟨g, 0, none⟩) n n) n ((fillK (fun (j : Nat) => (j : Int)) n 0).map (Value.int .i64))) := by
    unfold Hid; rw [fillK_zero, hrw, hg]; exact ho3
  have HB3 := Lib.hid ((Below.refl w.heap.size w).grown hg3 (Nat.le_refl _) (by intro k hk; cases hk))
  have hgw : w.heap.size ≤ g := by omega
  rw [← hg] at hr3
  have HG := Lib.hid hg
  obtain ⟨X, hX⟩ : ∃ X, (List.range n).map (fun (j : Nat) => (j : Int)) = X := ⟨_, rfl⟩
  rw [hX]
  have HX := Lib.hid hX
  clear ho3 hg3 hrw hg hX
  go_enter Try.func79, Try.ntmps79
  go_wp2_with fail
  go_loopw [4, 9] (fun s4 i wr => ∃ q : Nat, q ≤ n ∧ i = .int .i64 (q : Int) ∧ Hid (wr.ownsRow w.heap.size 3 1 (.slice (some ⟨g, 0, none⟩) n n) n ((fillK (fun (j : Nat) => (j : Int)) n q).map (Value.int .i64))) ∧ Hid (Below w.heap.size w wr)) (fun _ i _ => n - (intOf i).toNat)
  case atStart => exact ⟨0, Nat.zero_le _, rfl, HR3, HB3⟩
  case round =>
    obtain ⟨q, hq, rfl, HR, HB⟩ := hrel
    by_cases hlt : q < n
    · have hlt' : (q : Int) < (n : Int) := by omega
      obtain ⟨u_, hu_⟩ : ∃ u0, wr.cell? ⟨g, q, none⟩ = some u0 := by
        rw [HR.out.cellAt q (by omega)]
        have hl1 := HR.out.1
        exact ⟨_, List.getElem?_eq_getElem (by omega)⟩
      have hfr := HR.out.frozenAt q
      have hst := HR.out.stored q (.int .i64 (q : Int))
      rw [← List.map_set, show (fillK (fun (j : Nat) => (j : Int)) n q).set q (q : Int) = fillK (fun (j : Nat) => (j : Int)) n (q + 1) from fillK_set _ hlt] at hst
      have HST := Lib.hid hst
      clear hst
      go_wp2_with fail
      go_roundw
      case rel => exact ⟨q + 1, by omega, by go_num, HST.out.1, HB.out.setCell (by show w.heap.size ≤ g; omega) _⟩
      case measure => simp [intOf]; omega
    · obtain rfl : q = n := by omega
      have hlt' : ¬ (q : Int) < (q : Int) := by omega
      have h1 := HR.out
      rw [fillK_all, HX.out] at h1
      have H1 := Lib.hid h1
      clear h1
      go_wp2_with fail
      go_ret
      exact ⟨by rw [HG.out]; rfl, by have h := H1.out; rw [HG.out] at h; exact h, HB.out⟩

set_option maxHeartbeats 2000000 in
theorem listB_any (f : Nat → Int) (n : Nat) (w : World) (hn : n ≤ 64) (hf : ∀ j, j < 64 → 0 ≤ f j ∧ f j ≤ 255) :
    Calls Try.prog 80 #[.agg (arrB f), .int .i64 (n : Int)] w fun e w' => ∃ g, e = .returned (.slice (some ⟨g, 0, none⟩) n n) ∧ w'.ownsRow w.heap.size 3 1 (.slice (some ⟨g, 0, none⟩) n n) n (((List.range n).map f).map (Value.int .i64)) ∧ Below w.heap.size w w' := by
  obtain ⟨j0, hj0, hq0, hq1, hq2⟩ := info_parts Try.infoInt
  obtain ⟨wA, hwA⟩ : ∃ wA : World, wA = w.alloc (.cells (arrB f) 84) := ⟨_, rfl⟩
  have bA : Below w.heap.size w wA := by rw [hwA]; exact below_alloc _ _
  have HA0 : ArrBt wA w.heap.size f := by rw [hwA]; exact ArrBt.new w f
  have hsA : wA.heap.size = w.heap.size + 1 := by rw [hwA]; simp
  obtain ⟨w3, hr3, ho3, hg3⟩ := run_make_full (P := Try.prog) wA wA.heap.size 37 3 j0 _ 1 Try.underlying37 hj0 hq0 hq1 .i64 .i64 n (by rw [hq2]; omega) (by unfold maxLen; omega) (Nat.le_refl _)
  have hrw : ((List.replicate n (0 : Int)).map (Value.int .i64)) = (madeCells (Value.int .i64 0).cells (n * 1)).toList := by
    rw [show (Value.int .i64 0).cells = #[Value.int .i64 0] from rfl, Nat.mul_one, toList_madeCells_one, List.map_replicate]
  have b3 : Below wA.heap.size wA w3 := (Below.refl _ _).grown hg3 (Nat.le_refl _) (by intro k hk; cases hk)
  obtain ⟨g, hg⟩ : ∃ g : Nat, g = wA.heap.size := ⟨_, rfl⟩
  have HR3 : Hid (w3.ownsRow wA.heap.size 3 1 (.slice (some ⟨g, 0, none⟩) n n) n ((fillK f n 0).map (Value.int .i64))) := by
    unfold Hid; rw [fillK_zero, hrw, hg]; exact ho3
  have HB3 := Lib.hid (bA.trans (b3.mono bA.size))
  have HA3 : Hid (ArrBt w3 w.heap.size f) := HA0.below b3 (by omega)
  have hgw : w.heap.size < g := by omega
  have HLo : Hid (w.heap.size ≤ wA.heap.size) := bA.size
  have HF := Lib.hid hf
  rw [← hg] at hr3
  rw [hwA] at hr3
  obtain ⟨lo, hlo⟩ : ∃ lo : Nat, lo = wA.heap.size := ⟨_, rfl⟩
  rw [← hlo] at HR3 HLo
  have hglo : g = lo := by omega
  have HGlo := Lib.hid hglo
  obtain ⟨X, hX⟩ : ∃ X, (List.range n).map f = X := ⟨_, rfl⟩
  rw [hX]
  have HX := Lib.hid hX
  clear ho3 hg3 hrw hg bA HA0 hsA b3 hlo hwA hf hglo hX
  go_enter Try.func80, Try.ntmps80
  go_wp2_with fail
  go_loopw [6, 11] (fun s6 i wr => ∃ q : Nat, q ≤ n ∧ i = .int .i64 (q : Int) ∧ Hid (wr.ownsRow lo 3 1 (.slice (some ⟨g, 0, none⟩) n n) n ((fillK f n q).map (Value.int .i64))) ∧ Hid (ArrBt wr w.heap.size f) ∧ Hid (Below w.heap.size w wr)) (fun _ i _ => n - (intOf i).toNat)
  case atStart => exact ⟨0, Nat.zero_le _, rfl, HR3, HA3, HB3⟩
  case round =>
    obtain ⟨q, hq, rfl, HR, HAr, HB⟩ := hrel
    by_cases hlt : q < n
    · have hlt' : (q : Int) < (n : Int) := by omega
      have hc := HAr.out.cell (k := q) (by omega)
      obtain ⟨f0, f1⟩ := HF.out q (by omega)
      obtain ⟨y, hy⟩ : ∃ y, f q = y := ⟨_, rfl⟩
      rw [hy] at hc f0 f1
      obtain ⟨u_, hu_⟩ : ∃ u0, wr.cell? ⟨g, q, none⟩ = some u0 := by
        rw [HR.out.cellAt q (by omega)]
        have hl1 := HR.out.1
        exact ⟨_, List.getElem?_eq_getElem (by omega)⟩
      have hfr := HR.out.frozenAt q
      have hst := HR.out.stored q (.int .i64 y)
      rw [← hy, ← List.map_set, fillK_set _ hlt, hy] at hst
      have HST := Lib.hid hst
      have hq64 : (q : Int) < 64 := by omega
      have HA2 := Lib.hid (HAr.out.setOther (g' := g) (by omega) q (.int .i64 y))
      clear hst hy
      go_wp2_with fail
      go_roundw
      case rel => exact ⟨q + 1, by omega, by go_num, HST.out.1, HA2, HB.out.setCell (by show w.heap.size ≤ g; omega) _⟩
      case measure => simp [intOf]; omega
    · obtain rfl : q = n := by omega
      have hlt' : ¬ (q : Int) < (q : Int) := by omega
      have h1 := HR.out
      rw [fillK_all, HX.out] at h1
      have H1 := Lib.hid h1
      clear h1
      go_wp2_with fail
      go_ret
      exact ⟨_, rfl, ownsRow_base H1.out HLo.out, HB.out⟩

end Go.Proofs.Ytfdolbpbddjhmaa
