/-
  The walk of the law FnExactValueOf: for every algebra, every number of an operation and every list of arguments the law FnExactValueOf returns true (ValueOf answers as its model and changes no argument) and the arguments read as before. Conditions: the lengths are at most maxLen.
-/
import Derived.Test.YthgggoodceogkaaStep
import Derived.Test.YthgggoodceogkaaValueOf
namespace Go.Proofs.Ythgggoodceogkaa
open Go.RowKit
set_option linter.unusedVariables false
set_option linter.unusedSimpArgs false

theorem lawValueOf_big2 (w : World) (z0 : Int) (a0 : Option Addr) (n0 c0 : Nat) (fs0 : List OpD) (wz0 : (Lit.int .i64 z0).wf = true) (hn0 : n0 ≤ maxLen) (ht0 : ∀ (j : Nat) (f : OpD), fs0[j]? = some f → f.2.length ≤ maxLen) (hv0 : OView w 0 w.heap.size a0 n0 fs0) (z1 : Int) (wz1 : (Lit.int .i64 z1).wf = true) (a2 : Option Addr) (n2 c2 : Nat) (xs2 : List Int) (hc2 : n2 ≤ c2) (hm2 : c2 ≤ maxLen) (hv2 : IView w 0 w.heap.size a2 n2 xs2) (hb : 1048576 < n2) :
    Calls Try.prog 6 #[.agg #[.int .i64 z0, .slice a0 n0 c0], .int .i64 z1, .slice a2 n2 c2] w fun e w' => e = .returned (.bool true) ∧ Below w.heap.size w w' := by
  have hx : n2 ≤ 9223372036854775807 := by unfold maxLen at hm2; omega
  clear hm2 hv2 hv0 ht0 hn0 wz0 wz1
  go_enter Try.func6, Try.ntmps6
  go_wp2
  go_ret
  exact ⟨rfl, below_alloc _ _⟩

set_option maxHeartbeats 400000 in
theorem lawValueOf_no (w : World) (z0 : Int) (a0 : Option Addr) (n0 c0 : Nat) (fs0 : List OpD) (wz0 : (Lit.int .i64 z0).wf = true) (hn0 : n0 ≤ maxLen) (ht0 : ∀ (j : Nat) (f : OpD), fs0[j]? = some f → f.2.length ≤ maxLen) (hv0 : OView w 0 w.heap.size a0 n0 fs0) (z1 : Int) (wz1 : (Lit.int .i64 z1).wf = true) (a2 : Option Addr) (n2 c2 : Nat) (xs2 : List Int) (hc2 : n2 ≤ c2) (hm2 : c2 ≤ maxLen) (hv2 : IView w 0 w.heap.size a2 n2 xs2) (hb2 : n2 ≤ 1048576) (hfit : ¬ ((n0 + osum fs0 : Nat) : Int) ≤ 1048576) :
    Calls Try.prog 6 #[.agg #[.int .i64 z0, .slice a0 n0 c0], .int .i64 z1, .slice a2 n2 c2] w fun e w' => e = .returned (.bool true) ∧ Below w.heap.size w w' := by
  have hB0 := below_alloc w (.cells #[.int .i64 z0, .slice a0 n0 c0] 24)
  have hsz := szAlg_any w.heap.size z0 a0 c0 n0 fs0 1048576 _ (hv0.kept (Kept.of_below hB0 (Nat.le_refl _))) hB0.size hn0 ht0 (by omega) (by omega)
  rw [szI_no hfit] at hsz
  have HSz := Lib.hid hsz
  have HB0 := Lib.hid hB0
  clear hv0 hB0 hsz ht0 hfit hn0 wz0 hm2 hv2 wz1
  go_enter Try.func6, Try.ntmps6
  go_wp2_with fail
  refine HSz.out.mono ?_
  rintro e w1 ⟨rfl, b1⟩
  have B1 := Lib.hid (below_then HB0.out b1)
  clear b1
  go_wp2_with fail
  go_ret
  exact ⟨rfl, B1.out⟩

set_option maxRecDepth 100000 in
set_option maxHeartbeats 4000000 in
theorem lawValueOf_fit (w : World) (z0 : Int) (a0 : Option Addr) (n0 c0 : Nat) (fs0 : List OpD) (wz0 : (Lit.int .i64 z0).wf = true) (hn0 : n0 ≤ maxLen) (ht0 : ∀ (j : Nat) (f : OpD), fs0[j]? = some f → f.2.length ≤ maxLen) (hv0 : OView w 0 w.heap.size a0 n0 fs0) (z1 : Int) (wz1 : (Lit.int .i64 z1).wf = true) (a2 : Option Addr) (n2 c2 : Nat) (xs2 : List Int) (hc2 : n2 ≤ c2) (hm2 : c2 ≤ maxLen) (hv2 : IView w 0 w.heap.size a2 n2 xs2) (hb2 : n2 ≤ 1048576) (hfit : ((n0 + osum fs0 : Nat) : Int) ≤ 1048576) :
    Calls Try.prog 6 #[.agg #[.int .i64 z0, .slice a0 n0 c0], .int .i64 z1, .slice a2 n2 c2] w fun e w' => e = .returned (.bool true) ∧ Below w.heap.size w w' := by
  have hB0 := below_alloc w (.cells #[.int .i64 z0, .slice a0 n0 c0] 24)
  have hsz := szAlg_any w.heap.size z0 a0 c0 n0 fs0 1048576 _ (hv0.kept (Kept.of_below hB0 (Nat.le_refl _))) hB0.size hn0 ht0 (by omega) (by omega)
  have HV0 := Lib.hid hv0
  have HB0 := Lib.hid hB0
  have hl0 := Lib.hid hv0.1
  have HV2 := Lib.hid hv2
  have hl2 := Lib.hid hv2.1
  have HW1 := Lib.hid wz1
  have HW0 := Lib.hid wz0
  rw [szI_yes hfit] at hsz
  obtain ⟨hn1_, hn2_, hn3_, hs8, hsM⟩ := small_of hfit (Int.le_refl _)
  obtain ⟨l, hl_0, hl_1⟩ : ∃ l : Int, l = 1048576 - ((n0 + osum fs0 : Nat) : Int) ∧ 0 ≤ l := ⟨_, rfl, by omega⟩
  rw [← hl_0] at hsz
  have HFit := Lib.hid hfit
  have HSz := Lib.hid hsz
  have HS8 := Lib.hid hs8
  have HSM := Lib.hid hsM
  obtain ⟨⟨r, ok⟩, hval⟩ : ∃ p, valValueOf z0 fs0 z1 xs2 = p := ⟨_, rfl⟩
  have HVal := Lib.hid hval
  clear hv0 hB0 hsz hs8 hsM ht0 hl_0 hfit hn0 hn2_ wz0 hval hm2 hv2 hc2 wz1
  have hne_ok : (ok != ok) = false := by cases ok <;> rfl
  go_enter Try.func6, Try.ntmps6
  go_wp2_with fail
  refine HSz.out.mono ?_
  rintro e w1 ⟨rfl, b_⟩
  have b1 : Below w.heap.size w w1 := below_then (below_alloc w (.cells #[.int .i64 z0, .slice a0 n0 c0] 24)) b_
  have s1 : w.heap.size ≤ w1.heap.size := b1.size
  have a0_1 : w1.cell? ⟨w.heap.size, 0, none⟩ = some (.int .i64 z0) := cell_b b_ (by simp)
  have a1_1 : w1.cell? ⟨w.heap.size, 1, none⟩ = some (.slice a0 n0 c0) := cell_b b_ (by simp)
  have za : w.heap.size < w1.heap.size := by have := b_.size; simp at this; omega
  have B1 : Hid (Below w.heap.size w w1) := b1
  clear b_
  have hC_ := toAlg_view w.heap.size z0 a0 c0 n0 fs0 w1 (HV0.out.kept (Kept.of_below B1.out (Nat.le_refl _))) B1.out.size hn3_ HS8.out
  have HC_ := Lib.hid hC_
  clear hC_
  go_wp2_with fail
  refine HC_.out.mono ?_
  rintro e w2 ⟨Sg, rfl, m_⟩; have b_ := m_.2
  have b2 : Below w1.heap.size w1 w2 := b_
  have s2 : w1.heap.size ≤ w2.heap.size := b2.size
  have a0_2 : w2.cell? ⟨w.heap.size, 0, none⟩ = some (.int .i64 z0) := cell_b b2 a0_1
  have a1_2 : w2.cell? ⟨w.heap.size, 1, none⟩ = some (.slice a0 n0 c0) := cell_b b2 a1_1
  have B2 : Hid (Below w.heap.size w w2) := below_then B1.out b2
  clear a0_1 a1_1 b_
  clear HC_
  have HS_2 := Lib.hid (m_.view hl0.out)
  clear m_
  have hC_ := toInts_view 0 w.heap.size a2 c2 n2 xs2 w2 (HV2.out.kept (Kept.of_below B2.out (Nat.le_refl _))) B2.out.size (by omega)
  have HC_ := Lib.hid hC_
  clear hC_
  go_wp2_with fail
  refine HC_.out.mono ?_
  rintro e w3 ⟨rfl, o_, b_⟩
  have b3 : Below w2.heap.size w2 w3 := b_
  have s3 : w2.heap.size ≤ w3.heap.size := b3.size
  have a0_3 : w3.cell? ⟨w.heap.size, 0, none⟩ = some (.int .i64 z0) := cell_b b3 a0_2
  have a1_3 : w3.cell? ⟨w.heap.size, 1, none⟩ = some (.slice a0 n0 c0) := cell_b b3 a1_2
  have HS_3 := Lib.hid (HS_2.out.kept (Kept.of_below b3 (by omega)))
  have B3 : Hid (Below w.heap.size w w3) := below_then B2.out b3
  clear a0_2 a1_2 HS_2 b_
  clear HC_
  have HSI2_3 := Lib.hid (OwnsInts.of_row o_).view
  clear o_
  have hC_ := specValueOf _ _ z0 _ n0 n0 fs0 z1 _ _ _ n2 n2 xs2 w3 HS_3.out (by omega) HSM.out HW1.out HSI2_3.out (by omega) (by unfold maxLen; omega)
  simp only [HVal.out] at hC_
  have HC_ := Lib.hid hC_
  clear hC_
  go_wp2_with fail
  refine HC_.out.mono ?_
  rintro e w4 ⟨rfl, b_⟩
  have b4 : Below w3.heap.size w3 w4 := b_
  have s4 : w3.heap.size ≤ w4.heap.size := b4.size
  have a0_4 : w4.cell? ⟨w.heap.size, 0, none⟩ = some (.int .i64 z0) := cell_b b4 a0_3
  have a1_4 : w4.cell? ⟨w.heap.size, 1, none⟩ = some (.slice a0 n0 c0) := cell_b b4 a1_3
  have HS_4 := Lib.hid (HS_3.out.kept (Kept.of_below b4 (by omega)))
  have HSI2_4 := Lib.hid (HSI2_3.out.kept (Kept.of_below b4 (by omega)))
  have B4 : Hid (Below w.heap.size w w4) := below_then B3.out b4
  clear a0_3 a1_3 HS_3 HSI2_3 b_
  clear HC_
  clear HS_4
  clear HSI2_4
  have hC_ := toAlg_view w.heap.size z0 a0 c0 n0 fs0 w4 (HV0.out.kept (Kept.of_below B4.out (Nat.le_refl _))) B4.out.size hn3_ HS8.out
  have HC_ := Lib.hid hC_
  clear hC_
  go_wp2_with fail
  refine HC_.out.mono ?_
  rintro e w5 ⟨Xg, rfl, m_⟩; have b_ := m_.2
  have b5 : Below w4.heap.size w4 w5 := b_
  have s5 : w4.heap.size ≤ w5.heap.size := b5.size
  have a0_5 : w5.cell? ⟨w.heap.size, 0, none⟩ = some (.int .i64 z0) := cell_b b5 a0_4
  have a1_5 : w5.cell? ⟨w.heap.size, 1, none⟩ = some (.slice a0 n0 c0) := cell_b b5 a1_4
  have B5 : Hid (Below w.heap.size w w5) := below_then B4.out b5
  clear a0_4 a1_4 b_
  clear HC_
  obtain ⟨⟨XG, XC, m_⟩, _⟩ := m_
  have HX_5 := Lib.hid m_
  clear m_
  have hC_ := toInts_view 0 w.heap.size a2 c2 n2 xs2 (w5.alloc (.cells #[.int .i64 z0, .slice (some ⟨Xg, 0, none⟩) n0 n0] 29)) (HV2.out.kept (Kept.of_below (below_then B5.out (below_alloc w5 (.cells #[.int .i64 z0, .slice (some ⟨Xg, 0, none⟩) n0 n0] 29))) (Nat.le_refl _))) (below_then B5.out (below_alloc w5 (.cells #[.int .i64 z0, .slice (some ⟨Xg, 0, none⟩) n0 n0] 29))).size (by omega)
  have HC_ := Lib.hid hC_
  clear hC_
  go_wp2_with fail
  refine HC_.out.mono ?_
  rintro e w6 ⟨rfl, o_, b_⟩
  have b6 : Below w5.heap.size w5 w6 := below_then (below_alloc w5 (.cells #[.int .i64 z0, .slice (some ⟨Xg, 0, none⟩) n0 n0] 29)) b_
  have s6 : w5.heap.size ≤ w6.heap.size := b6.size
  have a0_6 : w6.cell? ⟨w.heap.size, 0, none⟩ = some (.int .i64 z0) := cell_b b6 a0_5
  have a1_6 : w6.cell? ⟨w.heap.size, 1, none⟩ = some (.slice a0 n0 c0) := cell_b b6 a1_5
  have HX_6 := Lib.hid (HX_5.out.kept (Kept.of_below b6 (by omega)))
  have x0_6 : w6.cell? ⟨w5.heap.size, 0, none⟩ = some (.int .i64 z0) := cell_b b_ (by simp)
  have x1_6 : w6.cell? ⟨w5.heap.size, 1, none⟩ = some (.slice (some ⟨Xg, 0, none⟩) n0 n0) := cell_b b_ (by simp)
  have zx : w5.heap.size < w6.heap.size := by have := b_.size; simp at this; omega
  have B6 : Hid (Below w.heap.size w w6) := below_then B5.out b6
  clear a0_5 a1_5 HX_5 b_
  clear HC_
  simp only [World.size_alloc] at o_
  have HXI2_6 := Lib.hid (OwnsInts.of_row o_)
  clear o_
  have h_ := HX_6.out.view
  rw [← hl0.out, map_range_get, hl0.out] at h_
  have HXV_ := Lib.hid h_
  clear h_
  have hC_ := implValueOf _ _ z0 _ n0 n0 fs0 z1 _ _ _ n2 n2 xs2 w6 HXV_.out (by omega) HSM.out HW1.out HXI2_6.out.view (by omega) (by unfold maxLen; omega)
  simp only [HVal.out] at hC_
  have HC_ := Lib.hid hC_
  clear hC_
  go_wp2_with fail
  refine HC_.out.mono ?_
  rintro e w7 ⟨rfl, b_⟩
  have b7 : Below w6.heap.size w6 w7 := b_
  have s7 : w6.heap.size ≤ w7.heap.size := b7.size
  have a0_7 : w7.cell? ⟨w.heap.size, 0, none⟩ = some (.int .i64 z0) := cell_b b7 a0_6
  have a1_7 : w7.cell? ⟨w.heap.size, 1, none⟩ = some (.slice a0 n0 c0) := cell_b b7 a1_6
  have x0_7 : w7.cell? ⟨w5.heap.size, 0, none⟩ = some (.int .i64 z0) := cell_b b7 x0_6
  have x1_7 : w7.cell? ⟨w5.heap.size, 1, none⟩ = some (.slice (some ⟨Xg, 0, none⟩) n0 n0) := cell_b b7 x1_6
  have HX_7 := Lib.hid (HX_6.out.kept (Kept.of_below b7 (by omega)))
  have HXI2_7 := Lib.hid (HXI2_6.out.kept (Kept.of_below b7 (by omega)))
  have B7 : Hid (Below w.heap.size w w7) := below_then B6.out b7
  clear a0_6 a1_6 x0_6 x1_6 HX_6 HXI2_6 b_
  clear HC_
  clear HXV_
  have HT_ := Lib.hid (fun (W : World) (hW : Below w7.heap.size w7 W) => toAlg_view w.heap.size z0 a0 c0 n0 fs0 W (HV0.out.kept (Kept.of_below (below_then B7.out hW) (Nat.le_refl _))) (below_then B7.out hW).size hn3_ HS8.out)
  have h_ := HX_7.out.view
  rw [← hl0.out, map_range_get, hl0.out] at h_
  have HXV_ := Lib.hid h_
  clear h_
  go_wp2_with fail
  go_region_with ((first | (go_at_call 16; refine (HT_.out _ ?_).mono ?_; exact below_drew _; rintro e w8 ⟨Yg, rfl, m_⟩; have b8 : Below w7.heap.size w7 w8 := below_then (below_drew _) m_.2; have s8 := b8.size; have V_ := Lib.hid (m_.view hl0.out); have XV_ := Lib.hid (HXV_.out.kept (Kept.of_below b8 (by omega))); have a0_8 : w8.cell? ⟨w.heap.size, 0, none⟩ = some (.int .i64 z0) := cell_b b8 a0_7; have a1_8 : w8.cell? ⟨w.heap.size, 1, none⟩ = some (.slice a0 n0 c0) := cell_b b8 a1_7; have x0_8 : w8.cell? ⟨w5.heap.size, 0, none⟩ = some (.int .i64 z0) := cell_b b8 x0_7; have x1_8 : w8.cell? ⟨w5.heap.size, 1, none⟩ = some (.slice (some ⟨Xg, 0, none⟩) n0 n0) := cell_b b8 x1_7; have HX_8 := Lib.hid (HX_7.out.kept (Kept.of_below b8 (by omega))); have HXI2_8 := Lib.hid (HXI2_7.out.kept (Kept.of_below b8 (by omega))); have B8 := Lib.hid (below_then B7.out b8); clear m_) | (go_at_call 18; refine (eqAlg_view _ _ _ _ z0 _ _ _ _ n0 fs0 _ XV_.out V_.out (by unfold maxLen; omega) HSM.out (by omega) (Nat.le_refl _)).mono ?_; rintro e w9 ⟨rfl, b9⟩; have s9 := b9.size; have a0_9 : w9.cell? ⟨w.heap.size, 0, none⟩ = some (.int .i64 z0) := cell_b b9 a0_8; have a1_9 : w9.cell? ⟨w.heap.size, 1, none⟩ = some (.slice a0 n0 c0) := cell_b b9 a1_8; have x0_9 : w9.cell? ⟨w5.heap.size, 0, none⟩ = some (.int .i64 z0) := cell_b b9 x0_8; have x1_9 : w9.cell? ⟨w5.heap.size, 1, none⟩ = some (.slice (some ⟨Xg, 0, none⟩) n0 n0) := cell_b b9 x1_8; have HX_9 := Lib.hid (HX_8.out.kept (Kept.of_below b9 (by omega))); have HXI2_9 := Lib.hid (HXI2_8.out.kept (Kept.of_below b9 (by omega))); have B9 := Lib.hid (below_then B8.out b9); clear V_ XV_)))
  all_goals
    clear HXV_ HT_ a0_7 a0_8 a1_7 a1_8 x0_7 x0_8 x1_7 x1_8 HX_7 HX_8 HXI2_7 HXI2_8
    have hC_ := toInts_view 0 w.heap.size a2 c2 n2 xs2 w9 (HV2.out.kept (Kept.of_below B9.out (Nat.le_refl _))) B9.out.size (by omega)
    have HC_ := Lib.hid hC_
    clear hC_
    go_wp2_with fail
    refine HC_.out.mono ?_
    rintro e w10 ⟨rfl, o_, b_⟩
    have b10 : Below w9.heap.size w9 w10 := b_
    have s10 : w9.heap.size ≤ w10.heap.size := b10.size
    have a0_10 : w10.cell? ⟨w.heap.size, 0, none⟩ = some (.int .i64 z0) := cell_b b10 a0_9
    have a1_10 : w10.cell? ⟨w.heap.size, 1, none⟩ = some (.slice a0 n0 c0) := cell_b b10 a1_9
    have x0_10 : w10.cell? ⟨w5.heap.size, 0, none⟩ = some (.int .i64 z0) := cell_b b10 x0_9
    have x1_10 : w10.cell? ⟨w5.heap.size, 1, none⟩ = some (.slice (some ⟨Xg, 0, none⟩) n0 n0) := cell_b b10 x1_9
    have HX_10 := Lib.hid (HX_9.out.kept (Kept.of_below b10 (by omega)))
    have HXI2_10 := Lib.hid (HXI2_9.out.kept (Kept.of_below b10 (by omega)))
    have B10 : Hid (Below w.heap.size w w10) := below_then B9.out b10
    clear a0_9 a1_9 x0_9 x1_9 HX_9 HXI2_9 b_
    clear HC_
    have HYI2_10 := Lib.hid (OwnsInts.of_row o_).view
    clear o_
    have hC_ := eqInts_view _ _ _ _ _ _ n2 n2 n2 xs2 w10 HXI2_10.out.view HYI2_10.out (by unfold maxLen; omega)
    have HC_ := Lib.hid hC_
    clear hC_
    go_wp2_with fail
    refine HC_.out.mono ?_
    rintro e w11 ⟨rfl, q_⟩; have b_ := below_drawn (Below.refl w10.heap.size w10) q_; clear q_
    have b11 : Below w10.heap.size w10 w11 := b_
    have s11 : w10.heap.size ≤ w11.heap.size := b11.size
    have a0_11 : w11.cell? ⟨w.heap.size, 0, none⟩ = some (.int .i64 z0) := cell_b b11 a0_10
    have a1_11 : w11.cell? ⟨w.heap.size, 1, none⟩ = some (.slice a0 n0 c0) := cell_b b11 a1_10
    have x0_11 : w11.cell? ⟨w5.heap.size, 0, none⟩ = some (.int .i64 z0) := cell_b b11 x0_10
    have x1_11 : w11.cell? ⟨w5.heap.size, 1, none⟩ = some (.slice (some ⟨Xg, 0, none⟩) n0 n0) := cell_b b11 x1_10
    have HX_11 := Lib.hid (HX_10.out.kept (Kept.of_below b11 (by omega)))
    have HXI2_11 := Lib.hid (HXI2_10.out.kept (Kept.of_below b11 (by omega)))
    have HYI2_11 := Lib.hid (HYI2_10.out.kept (Kept.of_below b11 (by omega)))
    have B11 : Hid (Below w.heap.size w w11) := below_then B10.out b11
    clear a0_10 a1_10 x0_10 x1_10 HX_10 HXI2_10 HYI2_10 b_
    clear HC_
    clear HYI2_11
    go_wp2_with fail
    go_ret
    exact ⟨rfl, B11.out⟩

theorem lawValueOf (w : World) (z0 : Int) (a0 : Option Addr) (n0 c0 : Nat) (fs0 : List OpD) (wz0 : (Lit.int .i64 z0).wf = true) (hn0 : n0 ≤ maxLen) (ht0 : ∀ (j : Nat) (f : OpD), fs0[j]? = some f → f.2.length ≤ maxLen) (hv0 : OView w 0 w.heap.size a0 n0 fs0) (z1 : Int) (wz1 : (Lit.int .i64 z1).wf = true) (a2 : Option Addr) (n2 c2 : Nat) (xs2 : List Int) (hc2 : n2 ≤ c2) (hm2 : c2 ≤ maxLen) (hv2 : IView w 0 w.heap.size a2 n2 xs2) :
    Calls Try.prog 6 #[.agg #[.int .i64 z0, .slice a0 n0 c0], .int .i64 z1, .slice a2 n2 c2] w fun e w' => e = .returned (.bool true) ∧ Below w.heap.size w w' := by
  rcases Nat.lt_or_ge 1048576 n2 with hb2 | hb2
  · exact lawValueOf_big2 w z0 a0 n0 c0 fs0 wz0 hn0 ht0 hv0 z1 wz1 a2 n2 c2 xs2 hc2 hm2 hv2 hb2
  by_cases hfit : ((n0 + osum fs0 : Nat) : Int) ≤ 1048576
  · exact lawValueOf_fit w z0 a0 n0 c0 fs0 wz0 hn0 ht0 hv0 z1 wz1 a2 n2 c2 xs2 hc2 hm2 hv2 hb2 hfit
  · exact lawValueOf_no w z0 a0 n0 c0 fs0 wz0 hn0 ht0 hv0 z1 wz1 a2 n2 c2 xs2 hc2 hm2 hv2 hb2 hfit

end Go.Proofs.Ythgggoodceogkaa
