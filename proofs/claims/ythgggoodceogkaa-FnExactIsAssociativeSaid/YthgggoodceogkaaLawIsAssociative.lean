/-
  The walk of the law FnExactIsAssociative: for every algebra and every number of an operation the law FnExactIsAssociative returns true (IsAssociative answers as its model and changes no argument) and the arguments read as before. Conditions: the lengths are at most maxLen.
-/
import Derived.Test.YthgggoodceogkaaStep
import Derived.Test.YthgggoodceogkaaAssoc
import Derived.Test.YthgggoodceogkaaAssocS
namespace Go.Proofs.Ythgggoodceogkaa
open Go.RowKit
set_option linter.unusedVariables false
set_option linter.unusedSimpArgs false

set_option maxHeartbeats 400000 in
theorem lawIsAssociative_no (w : World) (z0 : Int) (a0 : Option Addr) (n0 c0 : Nat) (fs0 : List OpD) (wz0 : (Lit.int .i64 z0).wf = true) (hn0 : n0 ≤ maxLen) (ht0 : ∀ (j : Nat) (f : OpD), fs0[j]? = some f → f.2.length ≤ maxLen) (hv0 : OView w 0 w.heap.size a0 n0 fs0) (z1 : Int) (wz1 : (Lit.int .i64 z1).wf = true) (hfit : ¬ ((n0 + osum fs0 : Nat) : Int) ≤ 1048576) :
    Calls Try.prog 10 #[.agg #[.int .i64 z0, .slice a0 n0 c0], .int .i64 z1] w fun e w' => e = .returned (.bool true) ∧ Below w.heap.size w w' := by
  have hB0 := below_alloc w (.cells #[.int .i64 z0, .slice a0 n0 c0] 24)
  have hsz := szAlg_any w.heap.size z0 a0 c0 n0 fs0 1048576 _ (hv0.kept (Kept.of_below hB0 (Nat.le_refl _))) hB0.size hn0 ht0 (by omega) (by omega)
  rw [szI_no hfit] at hsz
  have HSz := Lib.hid hsz
  have HB0 := Lib.hid hB0
  clear hv0 hB0 hsz ht0 hfit hn0 wz0 wz1
  go_enter Try.func10, Try.ntmps10
  go_wp2_with fail
  refine HSz.out.mono ?_
  rintro e w1 ⟨rfl, b1⟩
  have B1 := Lib.hid (below_then HB0.out b1)
  clear b1
  go_wp2_with fail
  go_ret
  exact ⟨rfl, B1.out⟩

set_option maxRecDepth 100000 in
set_option maxHeartbeats 4000000 in
theorem lawIsAssociative_fit (w : World) (z0 : Int) (a0 : Option Addr) (n0 c0 : Nat) (fs0 : List OpD) (wz0 : (Lit.int .i64 z0).wf = true) (hn0 : n0 ≤ maxLen) (ht0 : ∀ (j : Nat) (f : OpD), fs0[j]? = some f → f.2.length ≤ maxLen) (hv0 : OView w 0 w.heap.size a0 n0 fs0) (z1 : Int) (wz1 : (Lit.int .i64 z1).wf = true) (hfit : ((n0 + osum fs0 : Nat) : Int) ≤ 1048576) :
    Calls Try.prog 10 #[.agg #[.int .i64 z0, .slice a0 n0 c0], .int .i64 z1] w fun e w' => e = .returned (.bool true) ∧ Below w.heap.size w w' := by
  have hB0 := below_alloc w (.cells #[.int .i64 z0, .slice a0 n0 c0] 24)
  have hsz := szAlg_any w.heap.size z0 a0 c0 n0 fs0 1048576 _ (hv0.kept (Kept.of_below hB0 (Nat.le_refl _))) hB0.size hn0 ht0 (by omega) (by omega)
  have HV0 := Lib.hid hv0
  have HB0 := Lib.hid hB0
  have hl0 := Lib.hid hv0.1
  have HW1 := Lib.hid wz1
  have HW0 := Lib.hid wz0
  rw [szI_yes hfit] at hsz
  obtain ⟨hn1_, hn2_, hn3_, hs8, hsM⟩ := small_of hfit (Int.le_refl _)
  obtain ⟨l, hl_0, hl_1⟩ : ∃ l : Int, l = 1048576 - ((n0 + osum fs0 : Nat) : Int) ∧ 0 ≤ l := ⟨_, rfl, by omega⟩
  rw [← hl_0] at hsz
  have HFit := Lib.hid hfit
  have HSz := Lib.hid hsz
  have HS8 := Lib.hid hs8
  have HSM := Lib.hid hsM
  obtain ⟨⟨r, ok⟩, hval⟩ : ∃ p, valIsAssociative z0 fs0 z1 = p := ⟨_, rfl⟩
  have HVal := Lib.hid hval
  clear hv0 hB0 hsz hs8 hsM ht0 hl_0 hfit hn0 hn2_ wz0 hval wz1
  have hne_r : (r != r) = false := by cases r <;> rfl
  have hne_ok : (ok != ok) = false := by cases ok <;> rfl
  go_enter Try.func10, Try.ntmps10
  go_wp2_with fail
  refine HSz.out.mono ?_
  rintro e w1 ⟨rfl, b_⟩
  have b1 : Below w.heap.size w w1 := below_then (below_alloc w (.cells #[.int .i64 z0, .slice a0 n0 c0] 24)) b_
  have s1 : w.heap.size ≤ w1.heap.size := b1.size
  have a0_1 : w1.cell? ⟨w.heap.size, 0, none⟩ = some (.int .i64 z0) := cell_b b_ (by simp)
  have a1_1 : w1.cell? ⟨w.heap.size, 1, none⟩ = some (.slice a0 n0 c0) := cell_b b_ (by simp)
  have za : w.heap.size < w1.heap.size := by have := b_.size; simp at this; omega
  have B1 : Hid (Below w.heap.size w w1) := b1
  clear b_
  have hC_ := toAlg_view w.heap.size z0 a0 c0 n0 fs0 w1 (HV0.out.kept (Kept.of_below B1.out (Nat.le_refl _))) B1.out.size hn3_ HS8.out
  have HC_ := Lib.hid hC_
  clear hC_
  go_wp2_with fail
  refine HC_.out.mono ?_
  rintro e w2 ⟨Sg, rfl, m_⟩; have b_ := m_.2
  have b2 : Below w1.heap.size w1 w2 := b_
  have s2 : w1.heap.size ≤ w2.heap.size := b2.size
  have a0_2 : w2.cell? ⟨w.heap.size, 0, none⟩ = some (.int .i64 z0) := cell_b b2 a0_1
  have a1_2 : w2.cell? ⟨w.heap.size, 1, none⟩ = some (.slice a0 n0 c0) := cell_b b2 a1_1
  have B2 : Hid (Below w.heap.size w w2) := below_then B1.out b2
  clear a0_1 a1_1 b_
  clear HC_
  have HS_2 := Lib.hid (m_.view hl0.out)
  clear m_
  have hC_ := specIsAssociative _ _ z0 _ n0 n0 fs0 z1 w2 HS_2.out (by omega) HSM.out HW1.out
  simp only [HVal.out] at hC_
  have HC_ := Lib.hid hC_
  clear hC_
  go_wp2_with fail
  refine HC_.out.mono ?_
  rintro e w3 ⟨rfl, b_⟩
  have b3 : Below w2.heap.size w2 w3 := b_
  have s3 : w2.heap.size ≤ w3.heap.size := b3.size
  have a0_3 : w3.cell? ⟨w.heap.size, 0, none⟩ = some (.int .i64 z0) := cell_b b3 a0_2
  have a1_3 : w3.cell? ⟨w.heap.size, 1, none⟩ = some (.slice a0 n0 c0) := cell_b b3 a1_2
  have HS_3 := Lib.hid (HS_2.out.kept (Kept.of_below b3 (by omega)))
  have B3 : Hid (Below w.heap.size w w3) := below_then B2.out b3
  clear a0_2 a1_2 HS_2 b_
  clear HC_
  clear HS_3
  have hC_ := toAlg_view w.heap.size z0 a0 c0 n0 fs0 w3 (HV0.out.kept (Kept.of_below B3.out (Nat.le_refl _))) B3.out.size hn3_ HS8.out
  have HC_ := Lib.hid hC_
  clear hC_
  go_wp2_with fail
  refine HC_.out.mono ?_
  rintro e w4 ⟨Xg, rfl, m_⟩; have b_ := m_.2
  have b4 : Below w3.heap.size w3 w4 := b_
  have s4 : w3.heap.size ≤ w4.heap.size := b4.size
  have a0_4 : w4.cell? ⟨w.heap.size, 0, none⟩ = some (.int .i64 z0) := cell_b b4 a0_3
  have a1_4 : w4.cell? ⟨w.heap.size, 1, none⟩ = some (.slice a0 n0 c0) := cell_b b4 a1_3
  have B4 : Hid (Below w.heap.size w w4) := below_then B3.out b4
  clear a0_3 a1_3 b_
  clear HC_
  obtain ⟨⟨XG, XC, m_⟩, _⟩ := m_
  have HX_4 := Lib.hid m_
  clear m_
  have h_ := HX_4.out.view
  rw [← hl0.out, map_range_get, hl0.out] at h_
  have HXV_ := Lib.hid h_
  clear h_
  have hC_ := implIsAssociative _ _ z0 _ n0 n0 fs0 z1 (w4.alloc (.cells #[.int .i64 z0, .slice (some ⟨Xg, 0, none⟩) n0 n0] 29)) (HXV_.out.kept (Kept.of_below (below_alloc w4 (.cells #[.int .i64 z0, .slice (some ⟨Xg, 0, none⟩) n0 n0] 29)) (by omega))) (Nat.le_trans (by omega) (below_alloc w4 (.cells #[.int .i64 z0, .slice (some ⟨Xg, 0, none⟩) n0 n0] 29)).size) HSM.out HW1.out
  simp only [HVal.out] at hC_
  have HC_ := Lib.hid hC_
  clear hC_
  go_wp2_with fail
  refine HC_.out.mono ?_
  rintro e w5 ⟨rfl, b_⟩
  have b5 : Below w4.heap.size w4 w5 := below_then (below_alloc w4 (.cells #[.int .i64 z0, .slice (some ⟨Xg, 0, none⟩) n0 n0] 29)) b_
  have s5 : w4.heap.size ≤ w5.heap.size := b5.size
  have a0_5 : w5.cell? ⟨w.heap.size, 0, none⟩ = some (.int .i64 z0) := cell_b b5 a0_4
  have a1_5 : w5.cell? ⟨w.heap.size, 1, none⟩ = some (.slice a0 n0 c0) := cell_b b5 a1_4
  have HX_5 := Lib.hid (HX_4.out.kept (Kept.of_below b5 (by omega)))
  have x0_5 : w5.cell? ⟨w4.heap.size, 0, none⟩ = some (.int .i64 z0) := cell_b b_ (by simp)
  have x1_5 : w5.cell? ⟨w4.heap.size, 1, none⟩ = some (.slice (some ⟨Xg, 0, none⟩) n0 n0) := cell_b b_ (by simp)
  have zx : w4.heap.size < w5.heap.size := by have := b_.size; simp at this; omega
  have B5 : Hid (Below w.heap.size w w5) := below_then B4.out b5
  clear a0_4 a1_4 HX_4 b_
  clear HC_
  clear HXV_
  have HT_ := Lib.hid (fun (W : World) (hW : Below w5.heap.size w5 W) => toAlg_view w.heap.size z0 a0 c0 n0 fs0 W (HV0.out.kept (Kept.of_below (below_then B5.out hW) (Nat.le_refl _))) (below_then B5.out hW).size hn3_ HS8.out)
  have h_ := HX_5.out.view
  rw [← hl0.out, map_range_get, hl0.out] at h_
  have HXV_ := Lib.hid h_
  clear h_
  go_wp2_with fail
  go_region_with ((first | (go_at_call 16; refine (HT_.out _ ?_).mono ?_; exact below_drew _; rintro e w6 ⟨Yg, rfl, m_⟩; have b6 : Below w5.heap.size w5 w6 := below_then (below_drew _) m_.2; have s6 := b6.size; have V_ := Lib.hid (m_.view hl0.out); have XV_ := Lib.hid (HXV_.out.kept (Kept.of_below b6 (by omega))); have a0_6 : w6.cell? ⟨w.heap.size, 0, none⟩ = some (.int .i64 z0) := cell_b b6 a0_5; have a1_6 : w6.cell? ⟨w.heap.size, 1, none⟩ = some (.slice a0 n0 c0) := cell_b b6 a1_5; have x0_6 : w6.cell? ⟨w4.heap.size, 0, none⟩ = some (.int .i64 z0) := cell_b b6 x0_5; have x1_6 : w6.cell? ⟨w4.heap.size, 1, none⟩ = some (.slice (some ⟨Xg, 0, none⟩) n0 n0) := cell_b b6 x1_5; have HX_6 := Lib.hid (HX_5.out.kept (Kept.of_below b6 (by omega))); have B6 := Lib.hid (below_then B5.out b6); clear m_) | (go_at_call 18; refine (eqAlg_view _ _ _ _ z0 _ _ _ _ n0 fs0 _ XV_.out V_.out (by unfold maxLen; omega) HSM.out (by omega) (Nat.le_refl _)).mono ?_; rintro e w7 ⟨rfl, b7⟩; have s7 := b7.size; have a0_7 : w7.cell? ⟨w.heap.size, 0, none⟩ = some (.int .i64 z0) := cell_b b7 a0_6; have a1_7 : w7.cell? ⟨w.heap.size, 1, none⟩ = some (.slice a0 n0 c0) := cell_b b7 a1_6; have x0_7 : w7.cell? ⟨w4.heap.size, 0, none⟩ = some (.int .i64 z0) := cell_b b7 x0_6; have x1_7 : w7.cell? ⟨w4.heap.size, 1, none⟩ = some (.slice (some ⟨Xg, 0, none⟩) n0 n0) := cell_b b7 x1_6; have HX_7 := Lib.hid (HX_6.out.kept (Kept.of_below b7 (by omega))); have B7 := Lib.hid (below_then B6.out b7); clear V_ XV_)))
  all_goals
    clear HXV_ HT_ a0_5 a0_6 a1_5 a1_6 x0_5 x0_6 x1_5 x1_6 HX_5 HX_6
    go_wp2_with fail
    go_ret
    exact ⟨rfl, B7.out⟩

theorem lawIsAssociative (w : World) (z0 : Int) (a0 : Option Addr) (n0 c0 : Nat) (fs0 : List OpD) (wz0 : (Lit.int .i64 z0).wf = true) (hn0 : n0 ≤ maxLen) (ht0 : ∀ (j : Nat) (f : OpD), fs0[j]? = some f → f.2.length ≤ maxLen) (hv0 : OView w 0 w.heap.size a0 n0 fs0) (z1 : Int) (wz1 : (Lit.int .i64 z1).wf = true) :
    Calls Try.prog 10 #[.agg #[.int .i64 z0, .slice a0 n0 c0], .int .i64 z1] w fun e w' => e = .returned (.bool true) ∧ Below w.heap.size w w' := by
  by_cases hfit : ((n0 + osum fs0 : Nat) : Int) ≤ 1048576
  · exact lawIsAssociative_fit w z0 a0 n0 c0 fs0 wz0 hn0 ht0 hv0 z1 wz1  hfit
  · exact lawIsAssociative_no w z0 a0 n0 c0 fs0 wz0 hn0 ht0 hv0 z1 wz1  hfit

end Go.Proofs.Ythgggoodceogkaa
