/-
  The walk of the law FnExactEvalTerm: the value of a term is told as the model tells it. Conditions: the lengths are at most maxLen.
-/
import Derived.Test.YtplheohkecooeaaStep
import Derived.Deep.DrawnRows
import Derived.Test.YtplheohkecooeaaEvalT
import Derived.Test.YtplheohkecooeaaEvalU
namespace Go.Proofs.Ytplheohkecooeaa
open Go.RowKit
set_option linter.unusedVariables false
set_option linter.unusedSimpArgs false
attribute [local go_sem ↓] Go.wp_at_zero Go.wp_at_succ

theorem lawEvalTerm_big1 (w : World) (z0 : Int) (a0 : Option Addr) (n0 c0 : Nat) (fs0 : List OpD) (wz0 : (Lit.int .i64 z0).wf = true) (hn0 : n0 ≤ maxLen) (ht0 : ∀ (j : Nat) (f : OpD), fs0[j]? = some f → f.2.length ≤ maxLen) (hv0 : OView w 0 w.heap.size a0 n0 fs0) (a1 : Option Addr) (n1 c1 : Nat) (xs1 : List Int) (hc1 : n1 ≤ c1) (hm1 : c1 ≤ maxLen) (hv1 : IView w 0 w.heap.size a1 n1 xs1) (hq1 : ∀ x, x ∈ xs1 → (Lit.int .i64 x).wf = true) (a2 : Option Addr) (n2 c2 : Nat) (xs2 : List Int) (hc2 : n2 ≤ c2) (hm2 : c2 ≤ maxLen) (hv2 : IView w 0 w.heap.size a2 n2 xs2) (hq2 : ∀ x, x ∈ xs2 → (Lit.int .i64 x).wf = true) (hb : 1048576 < n1) :
    Calls Try.prog 8 #[.agg #[.int .i64 z0, .slice a0 n0 c0], .slice a1 n1 c1, .slice a2 n2 c2] w fun e w' => e = .returned (.bool true) ∧ Below w.heap.size w w' := by
  have hx : n1 ≤ 9223372036854775807 := by unfold maxLen at hm1; omega
  have hB0 := Lib.hid (below_alloc w (.cells #[.int .i64 z0, .slice a0 n0 c0] 24))
  clear hm1 hv1 hm2 hv2 hq1 hq2 hv0 ht0 hn0 wz0
  go_enter Try.func8, Try.ntmps8
  go_wp2
  go_ret
  exact ⟨rfl, hB0.out⟩

theorem lawEvalTerm_big2 (w : World) (z0 : Int) (a0 : Option Addr) (n0 c0 : Nat) (fs0 : List OpD) (wz0 : (Lit.int .i64 z0).wf = true) (hn0 : n0 ≤ maxLen) (ht0 : ∀ (j : Nat) (f : OpD), fs0[j]? = some f → f.2.length ≤ maxLen) (hv0 : OView w 0 w.heap.size a0 n0 fs0) (a1 : Option Addr) (n1 c1 : Nat) (xs1 : List Int) (hc1 : n1 ≤ c1) (hm1 : c1 ≤ maxLen) (hv1 : IView w 0 w.heap.size a1 n1 xs1) (hq1 : ∀ x, x ∈ xs1 → (Lit.int .i64 x).wf = true) (a2 : Option Addr) (n2 c2 : Nat) (xs2 : List Int) (hc2 : n2 ≤ c2) (hm2 : c2 ≤ maxLen) (hv2 : IView w 0 w.heap.size a2 n2 xs2) (hq2 : ∀ x, x ∈ xs2 → (Lit.int .i64 x).wf = true) (hb1 : n1 ≤ 1048576) (hb : 1048576 < n2) :
    Calls Try.prog 8 #[.agg #[.int .i64 z0, .slice a0 n0 c0], .slice a1 n1 c1, .slice a2 n2 c2] w fun e w' => e = .returned (.bool true) ∧ Below w.heap.size w w' := by
  have hx : n2 ≤ 9223372036854775807 := by unfold maxLen at hm2; omega
  have hB0 := Lib.hid (below_alloc w (.cells #[.int .i64 z0, .slice a0 n0 c0] 24))
  clear hm1 hv1 hm2 hv2 hq1 hq2 hv0 ht0 hn0 wz0
  go_enter Try.func8, Try.ntmps8
  go_wp2
  go_ret
  exact ⟨rfl, hB0.out⟩

set_option maxHeartbeats 400000 in
theorem lawEvalTerm_no0 (w : World) (z0 : Int) (a0 : Option Addr) (n0 c0 : Nat) (fs0 : List OpD) (wz0 : (Lit.int .i64 z0).wf = true) (hn0 : n0 ≤ maxLen) (ht0 : ∀ (j : Nat) (f : OpD), fs0[j]? = some f → f.2.length ≤ maxLen) (hv0 : OView w 0 w.heap.size a0 n0 fs0) (a1 : Option Addr) (n1 c1 : Nat) (xs1 : List Int) (hc1 : n1 ≤ c1) (hm1 : c1 ≤ maxLen) (hv1 : IView w 0 w.heap.size a1 n1 xs1) (hq1 : ∀ x, x ∈ xs1 → (Lit.int .i64 x).wf = true) (a2 : Option Addr) (n2 c2 : Nat) (xs2 : List Int) (hc2 : n2 ≤ c2) (hm2 : c2 ≤ maxLen) (hv2 : IView w 0 w.heap.size a2 n2 xs2) (hq2 : ∀ x, x ∈ xs2 → (Lit.int .i64 x).wf = true) (hb1 : n1 ≤ 1048576) (hb2 : n2 ≤ 1048576) (hfit0 : ¬ ((n0 + osum fs0 : Nat) : Int) ≤ 1048576) :
    Calls Try.prog 8 #[.agg #[.int .i64 z0, .slice a0 n0 c0], .slice a1 n1 c1, .slice a2 n2 c2] w fun e w' => e = .returned (.bool true) ∧ Below w.heap.size w w' := by
  have hB0 := (below_alloc w (.cells #[.int .i64 z0, .slice a0 n0 c0] 24))
  have hsz0 := fun (W : World) (hW : Below w.heap.size w W) => szAlg_any w.heap.size z0 a0 c0 n0 fs0 (1048576) W (hv0.kept (Kept.of_below hW (Nat.le_refl _))) hW.size hn0 ht0 (by omega) (by omega)
  simp only [szI_no (show ¬ ((n0 + osum fs0 : Nat) : Int) ≤ 1048576 by omega)] at hsz0
  have HSz0 := Lib.hid hsz0
  clear hsz0
  have HB0 := Lib.hid hB0
  clear hB0 hm1 hv1 hm2 hv2 hq1 hq2 hv0 ht0 hn0 wz0 hfit0
  go_enter Try.func8, Try.ntmps8
  go_wp2_with fail
  refine (HSz0.out _ HB0.out).mono ?_
  rintro e v1 ⟨rfl, b1⟩
  have B1 := Lib.hid (below_then HB0.out b1)
  clear b1
  go_wp2_with fail
  go_ret
  exact ⟨rfl, B1.out⟩

set_option maxRecDepth 100000 in
set_option maxHeartbeats 4000000 in
theorem lawEvalTerm_fit (w : World) (z0 : Int) (a0 : Option Addr) (n0 c0 : Nat) (fs0 : List OpD) (wz0 : (Lit.int .i64 z0).wf = true) (hn0 : n0 ≤ maxLen) (ht0 : ∀ (j : Nat) (f : OpD), fs0[j]? = some f → f.2.length ≤ maxLen) (hv0 : OView w 0 w.heap.size a0 n0 fs0) (a1 : Option Addr) (n1 c1 : Nat) (xs1 : List Int) (hc1 : n1 ≤ c1) (hm1 : c1 ≤ maxLen) (hv1 : IView w 0 w.heap.size a1 n1 xs1) (hq1 : ∀ x, x ∈ xs1 → (Lit.int .i64 x).wf = true) (a2 : Option Addr) (n2 c2 : Nat) (xs2 : List Int) (hc2 : n2 ≤ c2) (hm2 : c2 ≤ maxLen) (hv2 : IView w 0 w.heap.size a2 n2 xs2) (hq2 : ∀ x, x ∈ xs2 → (Lit.int .i64 x).wf = true) (hb1 : n1 ≤ 1048576) (hb2 : n2 ≤ 1048576) (hfit0 : ((n0 + osum fs0 : Nat) : Int) ≤ 1048576) :
    Calls Try.prog 8 #[.agg #[.int .i64 z0, .slice a0 n0 c0], .slice a1 n1 c1, .slice a2 n2 c2] w fun e w' => e = .returned (.bool true) ∧ Below w.heap.size w w' := by
  obtain ⟨hn1_0, hn2_0, hn3_0, hs80, hsM0⟩ := small_of (left := 1048576) (show ((n0 + osum fs0 : Nat) : Int) ≤ 1048576 by omega) (Int.le_refl _)
  have hB0 := (below_alloc w (.cells #[.int .i64 z0, .slice a0 n0 c0] 24))
  have hsz0 := fun (W : World) (hW : Below w.heap.size w W) => szAlg_any w.heap.size z0 a0 c0 n0 fs0 (1048576) W (hv0.kept (Kept.of_below hW (Nat.le_refl _))) hW.size hn0 ht0 (by omega) (by omega)
  obtain ⟨l1, hl_1, hl_1a, hl_1b⟩ : ∃ l : Int, l = 1048576 - ((n0 + osum fs0 : Nat) : Int) ∧ 0 ≤ l ∧ l ≤ 1048576 := ⟨_, rfl, by omega, by omega⟩
  simp only [szI_yes (show ((n0 + osum fs0 : Nat) : Int) ≤ 1048576 by omega), ← hl_1] at hsz0
  have HSz0 := Lib.hid hsz0
  clear hsz0
  have HB0 := Lib.hid hB0
  have HV0 := Lib.hid hv0
  have hl0 := Lib.hid hv0.1
  have HW0 := Lib.hid wz0
  have HS80 := Lib.hid hs80
  have HSM0 := Lib.hid hsM0
  have HFit0 : Hid (((n0 + osum fs0 : Nat) : Int) ≤ 1048576) := (show ((n0 + osum fs0 : Nat) : Int) ≤ 1048576 by omega)
  have HV1 := Lib.hid hv1
  have hl1 := Lib.hid hv1.1
  have HV2 := Lib.hid hv2
  have hl2 := Lib.hid hv2.1
  have HQ1 := Lib.hid hq1
  have HQ2 := Lib.hid hq2
  obtain ⟨⟨r, ok⟩, hval⟩ : ∃ p, valEvalTerm z0 fs0 xs1 xs2 = p := ⟨_, rfl⟩
  have HVal := Lib.hid hval
  clear hB0 hval hm1 hv1 hc1 hm2 hv2 hc2 hq1 hq2 hv0 ht0 hn0 wz0 hs80 hsM0 hn2_0 hfit0 hl_1
  have hne_ok : (ok != ok) = false := by cases ok <;> rfl
  go_enter Try.func8, Try.ntmps8
  go_wp2_with fail
  refine (HSz0.out _ (below_alloc w (.cells #[.int .i64 z0, .slice a0 n0 c0] 24))).mono ?_
  rintro e w1 ⟨rfl, b_⟩
  have b1 : Below w.heap.size w w1 := below_then (below_alloc w (.cells #[.int .i64 z0, .slice a0 n0 c0] 24)) b_
  have s1 : w.heap.size ≤ w1.heap.size := b1.size
  have a00_1 : w1.cell? ⟨w.heap.size, 0, none⟩ = some (.int .i64 z0) := cell_b b_ (by simp)
  have a01_1 : w1.cell? ⟨w.heap.size, 1, none⟩ = some (.slice a0 n0 c0) := cell_b b_ (by simp)
  have za0 : w.heap.size < w1.heap.size := (by have := b_.size; simp at this; omega)
  have B1 : Hid (Below w.heap.size w w1) := b1
  clear b_
  have hC_ := toAlg_view w.heap.size z0 a0 c0 n0 fs0 w1 (HV0.out.kept (Kept.of_below B1.out (Nat.le_refl _))) B1.out.size hn3_0 HS80.out
  have HC_ := Lib.hid hC_
  clear hC_
  go_wp2_with fail
  refine HC_.out.mono ?_
  rintro e w2 ⟨S0g, rfl, m_⟩; have b_ := m_.2
  have b2 : Below w1.heap.size w1 w2 := b_
  have s2 : w1.heap.size ≤ w2.heap.size := b2.size
  have a00_2 : w2.cell? ⟨w.heap.size, 0, none⟩ = some (.int .i64 z0) := cell_b b2 a00_1
  have a01_2 : w2.cell? ⟨w.heap.size, 1, none⟩ = some (.slice a0 n0 c0) := cell_b b2 a01_1
  have B2 : Hid (Below w.heap.size w w2) := below_then B1.out b2
  clear a00_1 a01_1 b_
  clear HC_
  have m_ := m_.view hl0.out
  have HS0_2 := Lib.hid m_
  clear m_
  have hC_ := toInts_view 0 w.heap.size a1 c1 n1 xs1 w2 (HV1.out.kept (Kept.of_below B2.out (Nat.le_refl _))) B2.out.size (by omega)
  have HC_ := Lib.hid hC_
  clear hC_
  go_wp2_with fail
  refine HC_.out.mono ?_
  rintro e w3 ⟨rfl, o_, b_⟩
  have b3 : Below w2.heap.size w2 w3 := b_
  have s3 : w2.heap.size ≤ w3.heap.size := b3.size
  have a00_3 : w3.cell? ⟨w.heap.size, 0, none⟩ = some (.int .i64 z0) := cell_b b3 a00_2
  have a01_3 : w3.cell? ⟨w.heap.size, 1, none⟩ = some (.slice a0 n0 c0) := cell_b b3 a01_2
  have HS0_3 := Lib.hid (HS0_2.out.kept (Kept.of_below b3 (by omega)))
  have B3 : Hid (Below w.heap.size w w3) := below_then B2.out b3
  clear a00_2 a01_2 HS0_2 b_
  clear HC_
  have HSI1_3 := Lib.hid (OwnsInts.of_row o_).view
  clear o_
  have hC_ := toInts_view 0 w.heap.size a2 c2 n2 xs2 w3 (HV2.out.kept (Kept.of_below B3.out (Nat.le_refl _))) B3.out.size (by omega)
  have HC_ := Lib.hid hC_
  clear hC_
  go_wp2_with fail
  refine HC_.out.mono ?_
  rintro e w4 ⟨rfl, o_, b_⟩
  have b4 : Below w3.heap.size w3 w4 := b_
  have s4 : w3.heap.size ≤ w4.heap.size := b4.size
  have a00_4 : w4.cell? ⟨w.heap.size, 0, none⟩ = some (.int .i64 z0) := cell_b b4 a00_3
  have a01_4 : w4.cell? ⟨w.heap.size, 1, none⟩ = some (.slice a0 n0 c0) := cell_b b4 a01_3
  have HS0_4 := Lib.hid (HS0_3.out.kept (Kept.of_below b4 (by omega)))
  have HSI1_4 := Lib.hid (HSI1_3.out.kept (Kept.of_below b4 (by omega)))
  have B4 : Hid (Below w.heap.size w w4) := below_then B3.out b4
  clear a00_3 a01_3 HS0_3 HSI1_3 b_
  clear HC_
  have HSI2_4 := Lib.hid (OwnsInts.of_row o_).view
  clear o_
  have hC_ := specEvalTerm _ _ z0 _ n0 n0 fs0 _ _ _ n1 n1 xs1 _ _ _ n2 n2 xs2 w4 HS0_4.out (by omega) HSM0.out HSI1_4.out (by omega) (Nat.le_refl _) (by unfold maxLen; omega) HQ1.out HSI2_4.out (by omega) (Nat.le_refl _) (by unfold maxLen; omega) HQ2.out
  simp only [HVal.out] at hC_
  have HC_ := Lib.hid hC_
  clear hC_
  go_wp2_with fail
  refine HC_.out.mono ?_
  rintro e w5 ⟨rfl, b_⟩
  have b5 : Below w4.heap.size w4 w5 := b_
  have s5 : w4.heap.size ≤ w5.heap.size := b5.size
  have a00_5 : w5.cell? ⟨w.heap.size, 0, none⟩ = some (.int .i64 z0) := cell_b b5 a00_4
  have a01_5 : w5.cell? ⟨w.heap.size, 1, none⟩ = some (.slice a0 n0 c0) := cell_b b5 a01_4
  have HS0_5 := Lib.hid (HS0_4.out.kept (Kept.of_below b5 (by omega)))
  have HSI1_5 := Lib.hid (HSI1_4.out.kept (Kept.of_below b5 (by omega)))
  have HSI2_5 := Lib.hid (HSI2_4.out.kept (Kept.of_below b5 (by omega)))
  have B5 : Hid (Below w.heap.size w w5) := below_then B4.out b5
  clear a00_4 a01_4 HS0_4 HSI1_4 HSI2_4 b_
  clear HC_
  clear HS0_5
  clear HSI1_5
  clear HSI2_5
  have hC_ := toAlg_view w.heap.size z0 a0 c0 n0 fs0 w5 (HV0.out.kept (Kept.of_below B5.out (Nat.le_refl _))) B5.out.size hn3_0 HS80.out
  have HC_ := Lib.hid hC_
  clear hC_
  go_wp2_with fail
  refine HC_.out.mono ?_
  rintro e w6 ⟨X0g, rfl, m_⟩; have b_ := m_.2
  have b6 : Below w5.heap.size w5 w6 := b_
  have s6 : w5.heap.size ≤ w6.heap.size := b6.size
  have a00_6 : w6.cell? ⟨w.heap.size, 0, none⟩ = some (.int .i64 z0) := cell_b b6 a00_5
  have a01_6 : w6.cell? ⟨w.heap.size, 1, none⟩ = some (.slice a0 n0 c0) := cell_b b6 a01_5
  have B6 : Hid (Below w.heap.size w w6) := below_then B5.out b6
  clear a00_5 a01_5 b_
  clear HC_
  obtain ⟨⟨X0G, X0C, m_⟩, _⟩ := m_
  have HX0_6 := Lib.hid m_
  clear m_
  have hC_ := toInts_view 0 w.heap.size a1 c1 n1 xs1 (w6.alloc (.cells #[.int .i64 z0, .slice (some ⟨X0g, 0, none⟩) n0 n0] 30)) (HV1.out.kept (Kept.of_below (below_then B6.out (below_alloc w6 (.cells #[.int .i64 z0, .slice (some ⟨X0g, 0, none⟩) n0 n0] 30))) (Nat.le_refl _))) (below_then B6.out (below_alloc w6 (.cells #[.int .i64 z0, .slice (some ⟨X0g, 0, none⟩) n0 n0] 30))).size (by omega)
  have HC_ := Lib.hid hC_
  clear hC_
  go_wp2_with fail
  refine HC_.out.mono ?_
  rintro e w7 ⟨rfl, o_, b_⟩
  have b7 : Below w6.heap.size w6 w7 := below_then (below_alloc w6 (.cells #[.int .i64 z0, .slice (some ⟨X0g, 0, none⟩) n0 n0] 30)) b_
  have s7 : w6.heap.size ≤ w7.heap.size := b7.size
  have a00_7 : w7.cell? ⟨w.heap.size, 0, none⟩ = some (.int .i64 z0) := cell_b b7 a00_6
  have a01_7 : w7.cell? ⟨w.heap.size, 1, none⟩ = some (.slice a0 n0 c0) := cell_b b7 a01_6
  have HX0_7 := Lib.hid (HX0_6.out.kept (Kept.of_below b7 (by omega)))
  have x00_7 : w7.cell? ⟨w6.heap.size, 0, none⟩ = some (.int .i64 z0) := cell_b b_ (by simp)
  have x01_7 : w7.cell? ⟨w6.heap.size, 1, none⟩ = some (.slice (some ⟨X0g, 0, none⟩) n0 n0) := cell_b b_ (by simp)
  have zx0 : w6.heap.size < w7.heap.size := (by have := b_.size; simp at this; omega)
  have B7 : Hid (Below w.heap.size w w7) := below_then B6.out b7
  clear a00_6 a01_6 HX0_6 b_
  clear HC_
  simp only [World.size_alloc, World.size_drew] at o_
  have HXI1_7 := Lib.hid (OwnsInts.of_row o_)
  clear o_
  have hC_ := toInts_view 0 w.heap.size a2 c2 n2 xs2 w7 (HV2.out.kept (Kept.of_below B7.out (Nat.le_refl _))) B7.out.size (by omega)
  have HC_ := Lib.hid hC_
  clear hC_
  go_wp2_with fail
  refine HC_.out.mono ?_
  rintro e w8 ⟨rfl, o_, b_⟩
  have b8 : Below w7.heap.size w7 w8 := b_
  have s8 : w7.heap.size ≤ w8.heap.size := b8.size
  have a00_8 : w8.cell? ⟨w.heap.size, 0, none⟩ = some (.int .i64 z0) := cell_b b8 a00_7
  have a01_8 : w8.cell? ⟨w.heap.size, 1, none⟩ = some (.slice a0 n0 c0) := cell_b b8 a01_7
  have x00_8 : w8.cell? ⟨w6.heap.size, 0, none⟩ = some (.int .i64 z0) := cell_b b8 x00_7
  have x01_8 : w8.cell? ⟨w6.heap.size, 1, none⟩ = some (.slice (some ⟨X0g, 0, none⟩) n0 n0) := cell_b b8 x01_7
  have HX0_8 := Lib.hid (HX0_7.out.kept (Kept.of_below b8 (by omega)))
  have HXI1_8 := Lib.hid (HXI1_7.out.kept (Kept.of_below b8 (by omega)))
  have B8 : Hid (Below w.heap.size w w8) := below_then B7.out b8
  clear a00_7 a01_7 x00_7 x01_7 HX0_7 HXI1_7 b_
  clear HC_
  have HXI2_8 := Lib.hid (OwnsInts.of_row o_)
  clear o_
  have h_ := HX0_8.out.view
  rw [← hl0.out, map_range_get, hl0.out] at h_
  have HXV0_ := Lib.hid h_
  clear h_
  have hC_ := implEvalTerm _ _ z0 _ n0 n0 fs0 _ _ _ n1 n1 xs1 _ _ _ n2 n2 xs2 w8 HXV0_.out (by omega) HSM0.out HXI1_8.out.view (by omega) (Nat.le_refl _) (by unfold maxLen; omega) HQ1.out HXI2_8.out.view (by omega) (Nat.le_refl _) (by unfold maxLen; omega) HQ2.out
  simp only [HVal.out] at hC_
  have HC_ := Lib.hid hC_
  clear hC_
  go_wp2_with fail
  refine HC_.out.mono ?_
  rintro e w9 ⟨rfl, b_⟩
  have b9 : Below w8.heap.size w8 w9 := b_
  have s9 : w8.heap.size ≤ w9.heap.size := b9.size
  have a00_9 : w9.cell? ⟨w.heap.size, 0, none⟩ = some (.int .i64 z0) := cell_b b9 a00_8
  have a01_9 : w9.cell? ⟨w.heap.size, 1, none⟩ = some (.slice a0 n0 c0) := cell_b b9 a01_8
  have x00_9 : w9.cell? ⟨w6.heap.size, 0, none⟩ = some (.int .i64 z0) := cell_b b9 x00_8
  have x01_9 : w9.cell? ⟨w6.heap.size, 1, none⟩ = some (.slice (some ⟨X0g, 0, none⟩) n0 n0) := cell_b b9 x01_8
  have HX0_9 := Lib.hid (HX0_8.out.kept (Kept.of_below b9 (by omega)))
  have HXI1_9 := Lib.hid (HXI1_8.out.kept (Kept.of_below b9 (by omega)))
  have HXI2_9 := Lib.hid (HXI2_8.out.kept (Kept.of_below b9 (by omega)))
  have B9 : Hid (Below w.heap.size w w9) := below_then B8.out b9
  clear a00_8 a01_8 x00_8 x01_8 HX0_8 HXI1_8 HXI2_8 b_
  clear HC_
  clear HXV0_
  have HT_ := Lib.hid (fun (W : World) (hW : Below w9.heap.size w9 W) => toAlg_view w.heap.size z0 a0 c0 n0 fs0 W (HV0.out.kept (Kept.of_below (below_then B9.out hW) (Nat.le_refl _))) (below_then B9.out hW).size hn3_0 HS80.out)
  have h_ := HX0_9.out.view
  rw [← hl0.out, map_range_get, hl0.out] at h_
  have HXV0_ := Lib.hid h_
  clear h_
  go_wp2_with fail
  go_region_with ((first | (go_at_call 17; refine (HT_.out _ ?_).mono ?_; exact below_drew _; rintro e w10 ⟨Y0g, rfl, m_⟩; have b10 : Below w9.heap.size w9 w10 := below_then (below_drew _) m_.2; have s10 := b10.size; have V_ := Lib.hid (m_.view hl0.out); have XV_ := Lib.hid (HXV0_.out.kept (Kept.of_below b10 (by omega))); have a00_10 : w10.cell? ⟨w.heap.size, 0, none⟩ = some (.int .i64 z0) := cell_b b10 a00_9; have a01_10 : w10.cell? ⟨w.heap.size, 1, none⟩ = some (.slice a0 n0 c0) := cell_b b10 a01_9; have x00_10 : w10.cell? ⟨w6.heap.size, 0, none⟩ = some (.int .i64 z0) := cell_b b10 x00_9; have x01_10 : w10.cell? ⟨w6.heap.size, 1, none⟩ = some (.slice (some ⟨X0g, 0, none⟩) n0 n0) := cell_b b10 x01_9; have HX0_10 := Lib.hid (HX0_9.out.kept (Kept.of_below b10 (by omega))); have HXI1_10 := Lib.hid (HXI1_9.out.kept (Kept.of_below b10 (by omega))); have HXI2_10 := Lib.hid (HXI2_9.out.kept (Kept.of_below b10 (by omega))); have B10 := Lib.hid (below_then B9.out b10); clear m_) | (go_at_call 20; refine (eqAlg_view _ _ _ _ z0 _ _ _ _ n0 fs0 _ XV_.out V_.out (by unfold maxLen; omega) HSM0.out (by omega) (Nat.le_refl _)).mono ?_; rintro e w11 ⟨rfl, b11⟩; have s11 := b11.size; have a00_11 : w11.cell? ⟨w.heap.size, 0, none⟩ = some (.int .i64 z0) := cell_b b11 a00_10; have a01_11 : w11.cell? ⟨w.heap.size, 1, none⟩ = some (.slice a0 n0 c0) := cell_b b11 a01_10; have x00_11 : w11.cell? ⟨w6.heap.size, 0, none⟩ = some (.int .i64 z0) := cell_b b11 x00_10; have x01_11 : w11.cell? ⟨w6.heap.size, 1, none⟩ = some (.slice (some ⟨X0g, 0, none⟩) n0 n0) := cell_b b11 x01_10; have HX0_11 := Lib.hid (HX0_10.out.kept (Kept.of_below b11 (by omega))); have HXI1_11 := Lib.hid (HXI1_10.out.kept (Kept.of_below b11 (by omega))); have HXI2_11 := Lib.hid (HXI2_10.out.kept (Kept.of_below b11 (by omega))); have B11 := Lib.hid (below_then B10.out b11); clear V_ XV_)))
  all_goals
    clear HXV0_ HT_ a00_9 a00_10 a01_9 a01_10 x00_9 x00_10 x01_9 x01_10 HX0_9 HX0_10 HXI1_9 HXI1_10 HXI2_9 HXI2_10
    have hC_ := toInts_view 0 w.heap.size a1 c1 n1 xs1 w11 (HV1.out.kept (Kept.of_below B11.out (Nat.le_refl _))) B11.out.size (by omega)
    have HC_ := Lib.hid hC_
    clear hC_
    go_wp2_with fail
    refine HC_.out.mono ?_
    rintro e w12 ⟨rfl, o_, b_⟩
    have b12 : Below w11.heap.size w11 w12 := b_
    have s12 : w11.heap.size ≤ w12.heap.size := b12.size
    have a00_12 : w12.cell? ⟨w.heap.size, 0, none⟩ = some (.int .i64 z0) := cell_b b12 a00_11
    have a01_12 : w12.cell? ⟨w.heap.size, 1, none⟩ = some (.slice a0 n0 c0) := cell_b b12 a01_11
    have x00_12 : w12.cell? ⟨w6.heap.size, 0, none⟩ = some (.int .i64 z0) := cell_b b12 x00_11
    have x01_12 : w12.cell? ⟨w6.heap.size, 1, none⟩ = some (.slice (some ⟨X0g, 0, none⟩) n0 n0) := cell_b b12 x01_11
    have HX0_12 := Lib.hid (HX0_11.out.kept (Kept.of_below b12 (by omega)))
    have HXI1_12 := Lib.hid (HXI1_11.out.kept (Kept.of_below b12 (by omega)))
    have HXI2_12 := Lib.hid (HXI2_11.out.kept (Kept.of_below b12 (by omega)))
    have B12 : Hid (Below w.heap.size w w12) := below_then B11.out b12
    clear a00_11 a01_11 x00_11 x01_11 HX0_11 HXI1_11 HXI2_11 b_
    clear HC_
    have HYI1_12 := Lib.hid (OwnsInts.of_row o_).view
    clear o_
    have hC_ := eqInts_view _ _ _ _ _ _ n1 n1 n1 xs1 w12 HXI1_12.out.view HYI1_12.out (by unfold maxLen; omega)
    have HC_ := Lib.hid hC_
    clear hC_
    go_wp2_with fail
    refine HC_.out.mono ?_
    rintro e w13 ⟨rfl, q_⟩; have b_ := below_drawn (Below.refl w12.heap.size w12) q_; clear q_
    have b13 : Below w12.heap.size w12 w13 := b_
    have s13 : w12.heap.size ≤ w13.heap.size := b13.size
    have a00_13 : w13.cell? ⟨w.heap.size, 0, none⟩ = some (.int .i64 z0) := cell_b b13 a00_12
    have a01_13 : w13.cell? ⟨w.heap.size, 1, none⟩ = some (.slice a0 n0 c0) := cell_b b13 a01_12
    have x00_13 : w13.cell? ⟨w6.heap.size, 0, none⟩ = some (.int .i64 z0) := cell_b b13 x00_12
    have x01_13 : w13.cell? ⟨w6.heap.size, 1, none⟩ = some (.slice (some ⟨X0g, 0, none⟩) n0 n0) := cell_b b13 x01_12
    have HX0_13 := Lib.hid (HX0_12.out.kept (Kept.of_below b13 (by omega)))
    have HXI1_13 := Lib.hid (HXI1_12.out.kept (Kept.of_below b13 (by omega)))
    have HXI2_13 := Lib.hid (HXI2_12.out.kept (Kept.of_below b13 (by omega)))
    have HYI1_13 := Lib.hid (HYI1_12.out.kept (Kept.of_below b13 (by omega)))
    have B13 : Hid (Below w.heap.size w w13) := below_then B12.out b13
    clear a00_12 a01_12 x00_12 x01_12 HX0_12 HXI1_12 HXI2_12 HYI1_12 b_
    clear HC_
    clear HYI1_13
    have hC_ := toInts_view 0 w.heap.size a2 c2 n2 xs2 w13 (HV2.out.kept (Kept.of_below B13.out (Nat.le_refl _))) B13.out.size (by omega)
    have HC_ := Lib.hid hC_
    clear hC_
    go_wp2_with fail
    refine HC_.out.mono ?_
    rintro e w14 ⟨rfl, o_, b_⟩
    have b14 : Below w13.heap.size w13 w14 := b_
    have s14 : w13.heap.size ≤ w14.heap.size := b14.size
    have a00_14 : w14.cell? ⟨w.heap.size, 0, none⟩ = some (.int .i64 z0) := cell_b b14 a00_13
    have a01_14 : w14.cell? ⟨w.heap.size, 1, none⟩ = some (.slice a0 n0 c0) := cell_b b14 a01_13
    have x00_14 : w14.cell? ⟨w6.heap.size, 0, none⟩ = some (.int .i64 z0) := cell_b b14 x00_13
    have x01_14 : w14.cell? ⟨w6.heap.size, 1, none⟩ = some (.slice (some ⟨X0g, 0, none⟩) n0 n0) := cell_b b14 x01_13
    have HX0_14 := Lib.hid (HX0_13.out.kept (Kept.of_below b14 (by omega)))
    have HXI1_14 := Lib.hid (HXI1_13.out.kept (Kept.of_below b14 (by omega)))
    have HXI2_14 := Lib.hid (HXI2_13.out.kept (Kept.of_below b14 (by omega)))
    have B14 : Hid (Below w.heap.size w w14) := below_then B13.out b14
    clear a00_13 a01_13 x00_13 x01_13 HX0_13 HXI1_13 HXI2_13 b_
    clear HC_
    have HYI2_14 := Lib.hid (OwnsInts.of_row o_).view
    clear o_
    have hC_ := eqInts_view _ _ _ _ _ _ n2 n2 n2 xs2 w14 HXI2_14.out.view HYI2_14.out (by unfold maxLen; omega)
    have HC_ := Lib.hid hC_
    clear hC_
    go_wp2_with fail
    refine HC_.out.mono ?_
    rintro e w15 ⟨rfl, q_⟩; have b_ := below_drawn (Below.refl w14.heap.size w14) q_; clear q_
    have b15 : Below w14.heap.size w14 w15 := b_
    have s15 : w14.heap.size ≤ w15.heap.size := b15.size
    have a00_15 : w15.cell? ⟨w.heap.size, 0, none⟩ = some (.int .i64 z0) := cell_b b15 a00_14
    have a01_15 : w15.cell? ⟨w.heap.size, 1, none⟩ = some (.slice a0 n0 c0) := cell_b b15 a01_14
    have x00_15 : w15.cell? ⟨w6.heap.size, 0, none⟩ = some (.int .i64 z0) := cell_b b15 x00_14
    have x01_15 : w15.cell? ⟨w6.heap.size, 1, none⟩ = some (.slice (some ⟨X0g, 0, none⟩) n0 n0) := cell_b b15 x01_14
    have HX0_15 := Lib.hid (HX0_14.out.kept (Kept.of_below b15 (by omega)))
    have HXI1_15 := Lib.hid (HXI1_14.out.kept (Kept.of_below b15 (by omega)))
    have HXI2_15 := Lib.hid (HXI2_14.out.kept (Kept.of_below b15 (by omega)))
    have HYI2_15 := Lib.hid (HYI2_14.out.kept (Kept.of_below b15 (by omega)))
    have B15 : Hid (Below w.heap.size w w15) := below_then B14.out b15
    clear a00_14 a01_14 x00_14 x01_14 HX0_14 HXI1_14 HXI2_14 HYI2_14 b_
    clear HC_
    clear HYI2_15
    go_wp2_with fail
    go_ret
    exact ⟨rfl, B15.out⟩

theorem lawEvalTerm (w : World) (z0 : Int) (a0 : Option Addr) (n0 c0 : Nat) (fs0 : List OpD) (wz0 : (Lit.int .i64 z0).wf = true) (hn0 : n0 ≤ maxLen) (ht0 : ∀ (j : Nat) (f : OpD), fs0[j]? = some f → f.2.length ≤ maxLen) (hv0 : OView w 0 w.heap.size a0 n0 fs0) (a1 : Option Addr) (n1 c1 : Nat) (xs1 : List Int) (hc1 : n1 ≤ c1) (hm1 : c1 ≤ maxLen) (hv1 : IView w 0 w.heap.size a1 n1 xs1) (hq1 : ∀ x, x ∈ xs1 → (Lit.int .i64 x).wf = true) (a2 : Option Addr) (n2 c2 : Nat) (xs2 : List Int) (hc2 : n2 ≤ c2) (hm2 : c2 ≤ maxLen) (hv2 : IView w 0 w.heap.size a2 n2 xs2) (hq2 : ∀ x, x ∈ xs2 → (Lit.int .i64 x).wf = true) :
    Calls Try.prog 8 #[.agg #[.int .i64 z0, .slice a0 n0 c0], .slice a1 n1 c1, .slice a2 n2 c2] w fun e w' => e = .returned (.bool true) ∧ Below w.heap.size w w' := by
  rcases Nat.lt_or_ge 1048576 n1 with hb1 | hb1
  · exact lawEvalTerm_big1 w z0 a0 n0 c0 fs0 wz0 hn0 ht0 hv0 a1 n1 c1 xs1 hc1 hm1 hv1 hq1 a2 n2 c2 xs2 hc2 hm2 hv2 hq2  hb1
  rcases Nat.lt_or_ge 1048576 n2 with hb2 | hb2
  · exact lawEvalTerm_big2 w z0 a0 n0 c0 fs0 wz0 hn0 ht0 hv0 a1 n1 c1 xs1 hc1 hm1 hv1 hq1 a2 n2 c2 xs2 hc2 hm2 hv2 hq2 hb1 hb2
  refine (Classical.em (((n0 + osum fs0 : Nat) : Int) ≤ 1048576)).elim (fun hfit0 => ?_) (fun hfit0 => lawEvalTerm_no0 w z0 a0 n0 c0 fs0 wz0 hn0 ht0 hv0 a1 n1 c1 xs1 hc1 hm1 hv1 hq1 a2 n2 c2 xs2 hc2 hm2 hv2 hq2 hb1 hb2  hfit0)
  exact lawEvalTerm_fit w z0 a0 n0 c0 fs0 wz0 hn0 ht0 hv0 a1 n1 c1 xs1 hc1 hm1 hv1 hq1 a2 n2 c2 xs2 hc2 hm2 hv2 hq2 hb1 hb2  hfit0

end Go.Proofs.Ytplheohkecooeaa
