/-
  The walk of the law FnExactQuotientAlgebra: QuotientAlgebra answers as its model, in memory of its own, and changes no argument. Conditions: the lengths are at most maxLen.
-/
import Derived.Test.YtcmjkfcgekmomaaStep
import Derived.Deep.DrawnRows
import Derived.Deep.RegionHeld3
import Derived.Test.YtcmjkfcgekmomaaHeldA
import Derived.Test.YtcmjkfcgekmomaaQaJ
namespace Go.Proofs.Ytcmjkfcgekmomaa
open Go.RowKit
set_option linter.unusedVariables false
set_option linter.unusedSimpArgs false
attribute [local go_sem ↓] Go.wp_at_zero Go.wp_at_succ

theorem lawQuotientAlgebra_big1 (w : World) (z0 : Int) (a0 : Option Addr) (n0 c0 : Nat) (fs0 : List OpD) (wz0 : (Lit.int .i64 z0).wf = true) (hn0 : n0 ≤ maxLen) (ht0 : ∀ (j : Nat) (f : OpD), fs0[j]? = some f → f.2.length ≤ maxLen) (hv0 : OView w 0 w.heap.size a0 n0 fs0) (a1 : Option Addr) (n1 c1 : Nat) (xs1 : List Int) (hc1 : n1 ≤ c1) (hm1 : c1 ≤ maxLen) (hv1 : IView w 0 w.heap.size a1 n1 xs1) (hb : 1048576 < n1) :
    Calls Try.prog 8 #[.agg #[.int .i64 z0, .slice a0 n0 c0], .slice a1 n1 c1] w fun e w' => e = .returned (.bool true) ∧ Below w.heap.size w w' := by
  have hx : n1 ≤ 9223372036854775807 := by unfold maxLen at hm1; omega
  have hB0 := Lib.hid (below_alloc w (.cells #[.int .i64 z0, .slice a0 n0 c0] 24))
  clear hv0 ht0 hn0 wz0 hm1 hv1
  go_enter Try.func8, Try.ntmps8
  go_wp2
  go_ret
  exact ⟨rfl, hB0.out⟩

set_option maxHeartbeats 400000 in
theorem lawQuotientAlgebra_no0 (w : World) (z0 : Int) (a0 : Option Addr) (n0 c0 : Nat) (fs0 : List OpD) (wz0 : (Lit.int .i64 z0).wf = true) (hn0 : n0 ≤ maxLen) (ht0 : ∀ (j : Nat) (f : OpD), fs0[j]? = some f → f.2.length ≤ maxLen) (hv0 : OView w 0 w.heap.size a0 n0 fs0) (a1 : Option Addr) (n1 c1 : Nat) (xs1 : List Int) (hc1 : n1 ≤ c1) (hm1 : c1 ≤ maxLen) (hv1 : IView w 0 w.heap.size a1 n1 xs1) (hb1 : n1 ≤ 1048576) (hfit0 : ¬ ((n0 + osum fs0 : Nat) : Int) ≤ 1048576) :
    Calls Try.prog 8 #[.agg #[.int .i64 z0, .slice a0 n0 c0], .slice a1 n1 c1] w fun e w' => e = .returned (.bool true) ∧ Below w.heap.size w w' := by
  have hB0 := (below_alloc w (.cells #[.int .i64 z0, .slice a0 n0 c0] 24))
  have hsz0 := fun (W : World) (hW : Below w.heap.size w W) => szAlg_any w.heap.size z0 a0 c0 n0 fs0 (1048576) W (hv0.kept (Kept.of_below hW (Nat.le_refl _))) hW.size hn0 ht0 (by omega) (by omega)
  simp only [szI_no (show ¬ ((n0 + osum fs0 : Nat) : Int) ≤ 1048576 by omega)] at hsz0
  have HSz0 := Lib.hid hsz0
  clear hsz0
  have HB0 := Lib.hid hB0
  clear hB0 hv0 ht0 hn0 wz0 hm1 hv1 hfit0
  go_enter Try.func8, Try.ntmps8
  go_wp2_with fail
  refine (HSz0.out _ HB0.out).mono ?_
  rintro e v1 ⟨rfl, b1⟩
  have B1 := Lib.hid (below_then HB0.out b1)
  clear b1
  go_wp2_with fail
  go_ret
  exact ⟨rfl, B1.out⟩

set_option maxRecDepth 100000 in
set_option maxHeartbeats 4000000 in
theorem lawQuotientAlgebra_fit (w : World) (z0 : Int) (a0 : Option Addr) (n0 c0 : Nat) (fs0 : List OpD) (wz0 : (Lit.int .i64 z0).wf = true) (hn0 : n0 ≤ maxLen) (ht0 : ∀ (j : Nat) (f : OpD), fs0[j]? = some f → f.2.length ≤ maxLen) (hv0 : OView w 0 w.heap.size a0 n0 fs0) (a1 : Option Addr) (n1 c1 : Nat) (xs1 : List Int) (hc1 : n1 ≤ c1) (hm1 : c1 ≤ maxLen) (hv1 : IView w 0 w.heap.size a1 n1 xs1) (hb1 : n1 ≤ 1048576) (hfit0 : ((n0 + osum fs0 : Nat) : Int) ≤ 1048576) (hres : (valQuotientAlgebra z0 fs0 xs1).2.1.length + osum (valQuotientAlgebra z0 fs0 xs1).2.1 ≤ 4194304) :
    Calls Try.prog 8 #[.agg #[.int .i64 z0, .slice a0 n0 c0], .slice a1 n1 c1] w fun e w' => e = .returned (.bool true) ∧ Below w.heap.size w w' := by
  obtain ⟨hn1_0, hn2_0, hn3_0, hs80, hsM0⟩ := small_of (left := 1048576) (show ((n0 + osum fs0 : Nat) : Int) ≤ 1048576 by omega) (Int.le_refl _)
  have hB0 := (below_alloc w (.cells #[.int .i64 z0, .slice a0 n0 c0] 24))
  have hsz0 := fun (W : World) (hW : Below w.heap.size w W) => szAlg_any w.heap.size z0 a0 c0 n0 fs0 (1048576) W (hv0.kept (Kept.of_below hW (Nat.le_refl _))) hW.size hn0 ht0 (by omega) (by omega)
  obtain ⟨l1, hl_1, hl_1a, hl_1b⟩ : ∃ l : Int, l = 1048576 - ((n0 + osum fs0 : Nat) : Int) ∧ 0 ≤ l ∧ l ≤ 1048576 := ⟨_, rfl, by omega, by omega⟩
  simp only [szI_yes (show ((n0 + osum fs0 : Nat) : Int) ≤ 1048576 by omega), ← hl_1] at hsz0
  have HSz0 := Lib.hid hsz0
  clear hsz0
  have HB0 := Lib.hid hB0
  have HV0 := Lib.hid hv0
  have hl0 := Lib.hid hv0.1
  have HW0 := Lib.hid wz0
  have HS80 := Lib.hid hs80
  have HSM0 := Lib.hid hsM0
  have HFit0 : Hid (((n0 + osum fs0 : Nat) : Int) ≤ 1048576) := (show ((n0 + osum fs0 : Nat) : Int) ≤ 1048576 by omega)
  have HV1 := Lib.hid hv1
  have hl1 := Lib.hid hv1.1
  obtain ⟨⟨rz, rs, ok⟩, hval⟩ : ∃ p, valQuotientAlgebra z0 fs0 xs1 = p := ⟨_, rfl⟩
  simp only [hval] at hres
  have HRes := Lib.hid hres
  have hrl : rs.length ≤ 4194304 := by omega
  obtain ⟨rn, hrn⟩ : ∃ rn, rn = rs.length := ⟨_, rfl⟩
  rw [← hrn] at hrl
  have HRn := Lib.hid hrn
  have HVal := Lib.hid hval
  clear hB0 hval hv0 ht0 hn0 wz0 hm1 hv1 hc1 hs80 hsM0 hn2_0 hfit0 hl_1 hres hrn
  have hne_ok : (ok != ok) = false := by cases ok <;> rfl
  go_enter Try.func8, Try.ntmps8
  go_wp2_with fail
  refine (HSz0.out _ (below_alloc w (.cells #[.int .i64 z0, .slice a0 n0 c0] 24))).mono ?_
  rintro e w1 ⟨rfl, b_⟩
  have b1 : Below w.heap.size w w1 := below_then (below_alloc w (.cells #[.int .i64 z0, .slice a0 n0 c0] 24)) b_
  have s1 : w.heap.size ≤ w1.heap.size := b1.size
  have a00_1 : w1.cell? ⟨w.heap.size, 0, none⟩ = some (.int .i64 z0) := cell_b b_ (by simp)
  have a01_1 : w1.cell? ⟨w.heap.size, 1, none⟩ = some (.slice a0 n0 c0) := cell_b b_ (by simp)
  have za0 : w.heap.size < w1.heap.size := (by have := b_.size; simp at this; omega)
  have B1 : Hid (Below w.heap.size w w1) := b1
  clear b_
  have hC_ := toAlg_view w.heap.size z0 a0 c0 n0 fs0 w1 (HV0.out.kept (Kept.of_below B1.out (Nat.le_refl _))) B1.out.size hn3_0 HS80.out
  have HC_ := Lib.hid hC_
  clear hC_
  go_wp2_with fail
  refine HC_.out.mono ?_
  rintro e w2 ⟨S0g, rfl, m_⟩; have b_ := m_.2
  have b2 : Below w1.heap.size w1 w2 := b_
  have s2 : w1.heap.size ≤ w2.heap.size := b2.size
  have a00_2 : w2.cell? ⟨w.heap.size, 0, none⟩ = some (.int .i64 z0) := cell_b b2 a00_1
  have a01_2 : w2.cell? ⟨w.heap.size, 1, none⟩ = some (.slice a0 n0 c0) := cell_b b2 a01_1
  have B2 : Hid (Below w.heap.size w w2) := below_then B1.out b2
  clear a00_1 a01_1 b_
  clear HC_
  have m_ := m_.view hl0.out
  have HS0_2 := Lib.hid m_
  clear m_
  have hC_ := toInts_view 0 w.heap.size a1 c1 n1 xs1 w2 (HV1.out.kept (Kept.of_below B2.out (Nat.le_refl _))) B2.out.size (by omega)
  have HC_ := Lib.hid hC_
  clear hC_
  go_wp2_with fail
  refine HC_.out.mono ?_
  rintro e w3 ⟨rfl, o_, b_⟩
  have b3 : Below w2.heap.size w2 w3 := b_
  have s3 : w2.heap.size ≤ w3.heap.size := b3.size
  have a00_3 : w3.cell? ⟨w.heap.size, 0, none⟩ = some (.int .i64 z0) := cell_b b3 a00_2
  have a01_3 : w3.cell? ⟨w.heap.size, 1, none⟩ = some (.slice a0 n0 c0) := cell_b b3 a01_2
  have HS0_3 := Lib.hid (HS0_2.out.kept (Kept.of_below b3 (by omega)))
  have B3 : Hid (Below w.heap.size w w3) := below_then B2.out b3
  clear a00_2 a01_2 HS0_2 b_
  clear HC_
  have HSI1_3 := Lib.hid (OwnsInts.of_row o_).view
  clear o_
  have hC_ := specQuotientAlgebra _ _ z0 _ n0 n0 fs0 _ _ _ n1 n1 xs1 w3 HS0_3.out (by omega) HSM0.out HSI1_3.out (by omega) (by unfold maxLen; omega)
  simp only [HVal.out] at hC_
  have HC_ := Lib.hid hC_
  clear hC_
  go_wp2_with fail
  refine HC_.out.mono ?_
  rintro e w4 ⟨Ra, Rn, Rc, RG, RC, rfl, hq_, o_, b_⟩
  have b4 : Below w3.heap.size w3 w4 := b_
  have s4 : w3.heap.size ≤ w4.heap.size := b4.size
  have a00_4 : w4.cell? ⟨w.heap.size, 0, none⟩ = some (.int .i64 z0) := cell_b b4 a00_3
  have a01_4 : w4.cell? ⟨w.heap.size, 1, none⟩ = some (.slice a0 n0 c0) := cell_b b4 a01_3
  have HS0_4 := Lib.hid (HS0_3.out.kept (Kept.of_below b4 (by omega)))
  have HSI1_4 := Lib.hid (HSI1_3.out.kept (Kept.of_below b4 (by omega)))
  have B4 : Hid (Below w.heap.size w w4) := below_then B3.out b4
  clear a00_3 a01_3 HS0_3 HSI1_3 b_
  clear HC_
  obtain rfl : rn = Rn := HRn.out.trans hq_.symm
  have h_ := o_.view
  rw [HRn.out, map_range_get, ← HRn.out] at h_
  have HR_4 := Lib.hid h_
  clear h_
  clear o_ hq_
  have a00_p : ((w4.alloc (.cells #[.int .i64 rz, .slice Ra rn Rc] 31))).cell? ⟨w.heap.size, 0, none⟩ = some (.int .i64 z0) := cell_b (below_alloc w4 (.cells #[.int .i64 rz, .slice Ra rn Rc] 31)) a00_4
  have a01_p : ((w4.alloc (.cells #[.int .i64 rz, .slice Ra rn Rc] 31))).cell? ⟨w.heap.size, 1, none⟩ = some (.slice a0 n0 c0) := cell_b (below_alloc w4 (.cells #[.int .i64 rz, .slice Ra rn Rc] 31)) a01_4
  clear HS0_4
  clear HSI1_4
  have hC_ := toAlg_view w.heap.size z0 a0 c0 n0 fs0 (w4.alloc (.cells #[.int .i64 rz, .slice Ra rn Rc] 31)) (HV0.out.kept (Kept.of_below (below_then B4.out (below_alloc w4 (.cells #[.int .i64 rz, .slice Ra rn Rc] 31))) (Nat.le_refl _))) (below_then B4.out (below_alloc w4 (.cells #[.int .i64 rz, .slice Ra rn Rc] 31))).size hn3_0 HS80.out
  have HC_ := Lib.hid hC_
  clear hC_
  go_wp2_with fail
  refine HC_.out.mono ?_
  rintro e w5 ⟨X0g, rfl, m_⟩; have b_ := m_.2
  have b5 : Below w4.heap.size w4 w5 := below_then (below_alloc w4 (.cells #[.int .i64 rz, .slice Ra rn Rc] 31)) b_
  have s5 : w4.heap.size ≤ w5.heap.size := b5.size
  have a00_5 : w5.cell? ⟨w.heap.size, 0, none⟩ = some (.int .i64 z0) := cell_b b5 a00_4
  have a01_5 : w5.cell? ⟨w.heap.size, 1, none⟩ = some (.slice a0 n0 c0) := cell_b b5 a01_4
  have HR_5 := Lib.hid (HR_4.out.kept (Kept.of_below b5 (by omega)))
  have rb0_5 : w5.cell? ⟨w4.heap.size, 0, none⟩ = some (.int .i64 rz) := cell_b b_ (by simp)
  have rb1_5 : w5.cell? ⟨w4.heap.size, 1, none⟩ = some (.slice Ra rn Rc) := cell_b b_ (by simp)
  have zrb : w4.heap.size < w5.heap.size := (by have := b_.size; simp at this; omega)
  have B5 : Hid (Below w.heap.size w w5) := below_then B4.out b5
  clear a00_4 a01_4 HR_4 b_
  clear a00_p a01_p
  clear HC_
  obtain ⟨⟨X0G, X0C, m_⟩, _⟩ := m_
  simp only [World.size_alloc, World.size_drew] at m_
  have HX0_5 := Lib.hid m_
  clear m_
  have hC_ := toInts_view 0 w.heap.size a1 c1 n1 xs1 (w5.alloc (.cells #[.int .i64 z0, .slice (some ⟨X0g, 0, none⟩) n0 n0] 31)) (HV1.out.kept (Kept.of_below (below_then B5.out (below_alloc w5 (.cells #[.int .i64 z0, .slice (some ⟨X0g, 0, none⟩) n0 n0] 31))) (Nat.le_refl _))) (below_then B5.out (below_alloc w5 (.cells #[.int .i64 z0, .slice (some ⟨X0g, 0, none⟩) n0 n0] 31))).size (by omega)
  have HC_ := Lib.hid hC_
  clear hC_
  go_wp2_with fail
  refine HC_.out.mono ?_
  rintro e w6 ⟨rfl, o_, b_⟩
  have b6 : Below w5.heap.size w5 w6 := below_then (below_alloc w5 (.cells #[.int .i64 z0, .slice (some ⟨X0g, 0, none⟩) n0 n0] 31)) b_
  have s6 : w5.heap.size ≤ w6.heap.size := b6.size
  have a00_6 : w6.cell? ⟨w.heap.size, 0, none⟩ = some (.int .i64 z0) := cell_b b6 a00_5
  have a01_6 : w6.cell? ⟨w.heap.size, 1, none⟩ = some (.slice a0 n0 c0) := cell_b b6 a01_5
  have rb0_6 : w6.cell? ⟨w4.heap.size, 0, none⟩ = some (.int .i64 rz) := cell_b b6 rb0_5
  have rb1_6 : w6.cell? ⟨w4.heap.size, 1, none⟩ = some (.slice Ra rn Rc) := cell_b b6 rb1_5
  have HR_6 := Lib.hid (HR_5.out.kept (Kept.of_below b6 (by omega)))
  have HX0_6 := Lib.hid (HX0_5.out.kept (Kept.of_below b6 (by omega)))
  have x00_6 : w6.cell? ⟨w5.heap.size, 0, none⟩ = some (.int .i64 z0) := cell_b b_ (by simp)
  have x01_6 : w6.cell? ⟨w5.heap.size, 1, none⟩ = some (.slice (some ⟨X0g, 0, none⟩) n0 n0) := cell_b b_ (by simp)
  have zx0 : w5.heap.size < w6.heap.size := (by have := b_.size; simp at this; omega)
  have B6 : Hid (Below w.heap.size w w6) := below_then B5.out b6
  clear a00_5 a01_5 rb0_5 rb1_5 HR_5 HX0_5 b_
  clear HC_
  simp only [World.size_alloc, World.size_drew] at o_
  have HXI1_6 := Lib.hid (OwnsInts.of_row o_)
  clear o_
  have h_ := HX0_6.out.view
  rw [← hl0.out, map_range_get, hl0.out] at h_
  have HXV0_ := Lib.hid h_
  clear h_
  have hC_ := implQuotientAlgebra _ _ z0 _ n0 n0 fs0 _ _ _ n1 n1 xs1 w6 HXV0_.out (by omega) HSM0.out HXI1_6.out.view (by omega) (by unfold maxLen; omega)
  simp only [HVal.out] at hC_
  have HC_ := Lib.hid hC_
  clear hC_
  go_wp2_with fail
  refine HC_.out.mono ?_
  rintro e w7 ⟨Ga, Gn, Gc, GG, GC, rfl, hq_, o_, b_⟩
  have b7 : Below w6.heap.size w6 w7 := b_
  have s7 : w6.heap.size ≤ w7.heap.size := b7.size
  have a00_7 : w7.cell? ⟨w.heap.size, 0, none⟩ = some (.int .i64 z0) := cell_b b7 a00_6
  have a01_7 : w7.cell? ⟨w.heap.size, 1, none⟩ = some (.slice a0 n0 c0) := cell_b b7 a01_6
  have rb0_7 : w7.cell? ⟨w4.heap.size, 0, none⟩ = some (.int .i64 rz) := cell_b b7 rb0_6
  have rb1_7 : w7.cell? ⟨w4.heap.size, 1, none⟩ = some (.slice Ra rn Rc) := cell_b b7 rb1_6
  have x00_7 : w7.cell? ⟨w5.heap.size, 0, none⟩ = some (.int .i64 z0) := cell_b b7 x00_6
  have x01_7 : w7.cell? ⟨w5.heap.size, 1, none⟩ = some (.slice (some ⟨X0g, 0, none⟩) n0 n0) := cell_b b7 x01_6
  have HR_7 := Lib.hid (HR_6.out.kept (Kept.of_below b7 (by omega)))
  have HX0_7 := Lib.hid (HX0_6.out.kept (Kept.of_below b7 (by omega)))
  have HXI1_7 := Lib.hid (HXI1_6.out.kept (Kept.of_below b7 (by omega)))
  have B7 : Hid (Below w.heap.size w w7) := below_then B6.out b7
  clear a00_6 a01_6 rb0_6 rb1_6 x00_6 x01_6 HR_6 HX0_6 HXI1_6 b_
  clear HC_
  obtain rfl : rn = Gn := HRn.out.trans hq_.symm
  have HG_7 := Lib.hid o_
  clear o_ hq_
  have a00_p : ((w7.alloc (.cells #[.int .i64 rz, .slice Ga rn Gc] 31))).cell? ⟨w.heap.size, 0, none⟩ = some (.int .i64 z0) := cell_b (below_alloc w7 (.cells #[.int .i64 rz, .slice Ga rn Gc] 31)) a00_7
  have a01_p : ((w7.alloc (.cells #[.int .i64 rz, .slice Ga rn Gc] 31))).cell? ⟨w.heap.size, 1, none⟩ = some (.slice a0 n0 c0) := cell_b (below_alloc w7 (.cells #[.int .i64 rz, .slice Ga rn Gc] 31)) a01_7
  have rb0_p : ((w7.alloc (.cells #[.int .i64 rz, .slice Ga rn Gc] 31))).cell? ⟨w4.heap.size, 0, none⟩ = some (.int .i64 rz) := cell_b (below_alloc w7 (.cells #[.int .i64 rz, .slice Ga rn Gc] 31)) rb0_7
  have rb1_p : ((w7.alloc (.cells #[.int .i64 rz, .slice Ga rn Gc] 31))).cell? ⟨w4.heap.size, 1, none⟩ = some (.slice Ra rn Rc) := cell_b (below_alloc w7 (.cells #[.int .i64 rz, .slice Ga rn Gc] 31)) rb1_7
  have x00_p : ((w7.alloc (.cells #[.int .i64 rz, .slice Ga rn Gc] 31))).cell? ⟨w5.heap.size, 0, none⟩ = some (.int .i64 z0) := cell_b (below_alloc w7 (.cells #[.int .i64 rz, .slice Ga rn Gc] 31)) x00_7
  have x01_p : ((w7.alloc (.cells #[.int .i64 rz, .slice Ga rn Gc] 31))).cell? ⟨w5.heap.size, 1, none⟩ = some (.slice (some ⟨X0g, 0, none⟩) n0 n0) := cell_b (below_alloc w7 (.cells #[.int .i64 rz, .slice Ga rn Gc] 31)) x01_7
  clear HXV0_
  have HRM : Hid (∀ (j : Nat) (f : OpD), rs[j]? = some f → f.2.length ≤ maxLen) := fun j f hf => by have := osum_get hf; have := HRes.out; unfold maxLen; omega
  have h_ := HG_7.out.view
  rw [HRn.out, map_range_get, ← HRn.out] at h_
  have HGV_ := Lib.hid h_
  clear h_
  have hC_ := eqAlg_view _ _ _ _ rz _ _ Gc Rc rn rs (w7.alloc (.cells #[.int .i64 rz, .slice Ga rn Gc] 31)) (HGV_.out.kept (Kept.of_below (below_alloc w7 (.cells #[.int .i64 rz, .slice Ga rn Gc] 31)) (by omega))) (HR_7.out.kept (Kept.of_below (below_alloc w7 (.cells #[.int .i64 rz, .slice Ga rn Gc] 31)) (by omega))) (by unfold maxLen; omega) HRM.out (Nat.le_trans (by omega) (below_alloc w7 (.cells #[.int .i64 rz, .slice Ga rn Gc] 31)).size) (Nat.le_trans (by omega) (below_alloc w7 (.cells #[.int .i64 rz, .slice Ga rn Gc] 31)).size)
  have HC_ := Lib.hid hC_
  clear hC_
  go_wp2_with fail
  refine HC_.out.mono ?_
  rintro e w8 ⟨rfl, b_⟩
  have b8 : Below w7.heap.size w7 w8 := below_then (below_alloc w7 (.cells #[.int .i64 rz, .slice Ga rn Gc] 31)) b_
  have s8 : w7.heap.size ≤ w8.heap.size := b8.size
  have a00_8 : w8.cell? ⟨w.heap.size, 0, none⟩ = some (.int .i64 z0) := cell_b b8 a00_7
  have a01_8 : w8.cell? ⟨w.heap.size, 1, none⟩ = some (.slice a0 n0 c0) := cell_b b8 a01_7
  have rb0_8 : w8.cell? ⟨w4.heap.size, 0, none⟩ = some (.int .i64 rz) := cell_b b8 rb0_7
  have rb1_8 : w8.cell? ⟨w4.heap.size, 1, none⟩ = some (.slice Ra rn Rc) := cell_b b8 rb1_7
  have x00_8 : w8.cell? ⟨w5.heap.size, 0, none⟩ = some (.int .i64 z0) := cell_b b8 x00_7
  have x01_8 : w8.cell? ⟨w5.heap.size, 1, none⟩ = some (.slice (some ⟨X0g, 0, none⟩) n0 n0) := cell_b b8 x01_7
  have HR_8 := Lib.hid (HR_7.out.kept (Kept.of_below b8 (by omega)))
  have HX0_8 := Lib.hid (HX0_7.out.kept (Kept.of_below b8 (by omega)))
  have HXI1_8 := Lib.hid (HXI1_7.out.kept (Kept.of_below b8 (by omega)))
  have HG_8 := Lib.hid (HG_7.out.kept (Kept.of_below b8 (by omega)))
  have gb0_8 : w8.cell? ⟨w7.heap.size, 0, none⟩ = some (.int .i64 rz) := cell_b b_ (by simp)
  have gb1_8 : w8.cell? ⟨w7.heap.size, 1, none⟩ = some (.slice Ga rn Gc) := cell_b b_ (by simp)
  have zgb : w7.heap.size < w8.heap.size := (by have := b_.size; simp at this; omega)
  have B8 : Hid (Below w.heap.size w w8) := below_then B7.out b8
  clear a00_7 a01_7 rb0_7 rb1_7 x00_7 x01_7 HR_7 HX0_7 HXI1_7 HG_7 b_
  clear a00_p a01_p rb0_p rb1_p x00_p x01_p
  clear HC_
  clear HGV_
  go_wp2_with fail
  refine wp_region_noPanic ?_
  refine wp_region_held_drew (S := fun W => W.cell? ⟨w.heap.size, 0, none⟩ = some (.int .i64 z0) ∧ W.cell? ⟨w.heap.size, 1, none⟩ = some (.slice a0 n0 c0) ∧ W.cell? ⟨w4.heap.size, 0, none⟩ = some (.int .i64 rz) ∧ W.cell? ⟨w4.heap.size, 1, none⟩ = some (.slice Ra rn Rc) ∧ W.cell? ⟨w5.heap.size, 0, none⟩ = some (.int .i64 z0) ∧ W.cell? ⟨w5.heap.size, 1, none⟩ = some (.slice (some ⟨X0g, 0, none⟩) n0 n0) ∧ W.cell? ⟨w7.heap.size, 0, none⟩ = some (.int .i64 rz) ∧ W.cell? ⟨w7.heap.size, 1, none⟩ = some (.slice Ga rn Gc)) (by kernel_rfl) ?_ (fun hHeld => ?_)
  · exact ⟨a00_8, a01_8, rb0_8, rb1_8, x00_8, x01_8, gb0_8, gb1_8⟩
  refine wpAnyH_take (i := 0) (oi := ⟨_, _, _, _, _, _⟩) (v := ?_) rfl (by kernel_rfl) (by kernel_rfl) (by kernel_rfl) (fun _ _ _ h => h) (Or.inl ⟨rfl, ?_⟩) (by assumption) ?_
  rotate_left 1
  · intro w_ hSw; (try dsimp only at hSw); go_simp; (try with_reducible rfl)
  (try simp only [Act.put, List.setIfInBounds_toArray, List.set_cons_zero, List.set_cons_succ])
  refine wpAnyH_take (i := 1) (oi := ⟨_, _, _, _, _, _⟩) (v := ?_) rfl (by kernel_rfl) (by kernel_rfl) (by kernel_rfl) (fun _ _ _ h => h) (Or.inl ⟨rfl, ?_⟩) (by assumption) ?_
  rotate_left 1
  · intro w_ hSw; (try dsimp only at hSw); go_simp; (try with_reducible rfl)
  (try simp only [Act.put, List.setIfInBounds_toArray, List.set_cons_zero, List.set_cons_succ])
  refine wpAnyH_ready (rs := [2]) (by kernel_rfl) (by simp) ?_
  refine AllReadyH.cons (o := ⟨_, _, _, _, _, _⟩) rfl (fun K hK => ?_) AllReadyH.nil
  go_simp
  go_at_call 17
  have hC_ := toAlg_view w.heap.size z0 a0 c0 n0 fs0 w8.drew (HV0.out.kept (Kept.of_below (below_then B8.out (below_drew w8)) (Nat.le_refl _))) (below_then B8.out (below_drew w8)).size hn3_0 HS80.out
  refine hC_.mono ?_
  clear hC_
  rintro e w9 ⟨Y0g, rfl, m_⟩; have b_ := m_.2
  have b9 : Below w8.heap.size w8 w9 := below_then (below_drew w8) b_
  have s9 : w8.heap.size ≤ w9.heap.size := b9.size
  have a00_9 : w9.cell? ⟨w.heap.size, 0, none⟩ = some (.int .i64 z0) := cell_b b9 a00_8
  have a01_9 : w9.cell? ⟨w.heap.size, 1, none⟩ = some (.slice a0 n0 c0) := cell_b b9 a01_8
  have rb0_9 : w9.cell? ⟨w4.heap.size, 0, none⟩ = some (.int .i64 rz) := cell_b b9 rb0_8
  have rb1_9 : w9.cell? ⟨w4.heap.size, 1, none⟩ = some (.slice Ra rn Rc) := cell_b b9 rb1_8
  have x00_9 : w9.cell? ⟨w5.heap.size, 0, none⟩ = some (.int .i64 z0) := cell_b b9 x00_8
  have x01_9 : w9.cell? ⟨w5.heap.size, 1, none⟩ = some (.slice (some ⟨X0g, 0, none⟩) n0 n0) := cell_b b9 x01_8
  have gb0_9 : w9.cell? ⟨w7.heap.size, 0, none⟩ = some (.int .i64 rz) := cell_b b9 gb0_8
  have gb1_9 : w9.cell? ⟨w7.heap.size, 1, none⟩ = some (.slice Ga rn Gc) := cell_b b9 gb1_8
  have HR_9 := Lib.hid (HR_8.out.kept (Kept.of_below b9 (by omega)))
  have HX0_9 := Lib.hid (HX0_8.out.kept (Kept.of_below b9 (by omega)))
  have HXI1_9 := Lib.hid (HXI1_8.out.kept (Kept.of_below b9 (by omega)))
  have HG_9 := Lib.hid (HG_8.out.kept (Kept.of_below b9 (by omega)))
  have B9 : Hid (Below w.heap.size w w9) := below_then B8.out b9
  clear a00_8 a01_8 rb0_8 rb1_8 x00_8 x01_8 gb0_8 gb1_8 HR_8 HX0_8 HXI1_8 HG_8 b_
  have m_ := m_.view hl0.out
  simp only [World.size_alloc, World.size_drew] at m_
  have HY0_9 := Lib.hid m_
  clear m_
  go_wp2_with fail
  refine hK.out _ _ ?_ (fun hHeld => ?_)
  · exact ⟨a00_9, a01_9, rb0_9, rb1_9, x00_9, x01_9, gb0_9, gb1_9⟩
  clear hK K
  (try simp only [Act.put, List.setIfInBounds_toArray, List.set_cons_zero, List.set_cons_succ])
  refine wpAnyH_ready (rs := [3]) (by kernel_rfl) (by simp) ?_
  refine AllReadyH.cons (o := ⟨_, _, _, _, _, _⟩) rfl (fun K hK => ?_) AllReadyH.nil
  go_simp
  have h_ := HX0_9.out.view
  rw [← hl0.out, map_range_get, hl0.out] at h_
  have XV_ := Lib.hid h_
  clear h_
  go_at_call 21
  have hC_ := eqAlg_view _ _ _ _ z0 _ _ n0 n0 n0 fs0 w9 XV_.out HY0_9.out (by unfold maxLen; omega) HSM0.out (by omega) (by omega)
  refine hC_.mono ?_
  clear hC_
  rintro e w10 ⟨rfl, b_⟩; clear XV_
  have b10 : Below w9.heap.size w9 w10 := b_
  have s10 : w9.heap.size ≤ w10.heap.size := b10.size
  have a00_10 : w10.cell? ⟨w.heap.size, 0, none⟩ = some (.int .i64 z0) := cell_b b10 a00_9
  have a01_10 : w10.cell? ⟨w.heap.size, 1, none⟩ = some (.slice a0 n0 c0) := cell_b b10 a01_9
  have rb0_10 : w10.cell? ⟨w4.heap.size, 0, none⟩ = some (.int .i64 rz) := cell_b b10 rb0_9
  have rb1_10 : w10.cell? ⟨w4.heap.size, 1, none⟩ = some (.slice Ra rn Rc) := cell_b b10 rb1_9
  have x00_10 : w10.cell? ⟨w5.heap.size, 0, none⟩ = some (.int .i64 z0) := cell_b b10 x00_9
  have x01_10 : w10.cell? ⟨w5.heap.size, 1, none⟩ = some (.slice (some ⟨X0g, 0, none⟩) n0 n0) := cell_b b10 x01_9
  have gb0_10 : w10.cell? ⟨w7.heap.size, 0, none⟩ = some (.int .i64 rz) := cell_b b10 gb0_9
  have gb1_10 : w10.cell? ⟨w7.heap.size, 1, none⟩ = some (.slice Ga rn Gc) := cell_b b10 gb1_9
  have HR_10 := Lib.hid (HR_9.out.kept (Kept.of_below b10 (by omega)))
  have HX0_10 := Lib.hid (HX0_9.out.kept (Kept.of_below b10 (by omega)))
  have HXI1_10 := Lib.hid (HXI1_9.out.kept (Kept.of_below b10 (by omega)))
  have HG_10 := Lib.hid (HG_9.out.kept (Kept.of_below b10 (by omega)))
  have HY0_10 := Lib.hid (HY0_9.out.kept (Kept.of_below b10 (by omega)))
  have B10 : Hid (Below w.heap.size w w10) := below_then B9.out b10
  clear a00_9 a01_9 rb0_9 rb1_9 x00_9 x01_9 gb0_9 gb1_9 HR_9 HX0_9 HXI1_9 HG_9 HY0_9 b_
  go_wp2_with fail
  refine hK.out _ _ ?_ (fun hHeld => ?_)
  · exact ⟨a00_10, a01_10, rb0_10, rb1_10, x00_10, x01_10, gb0_10, gb1_10⟩
  clear hK K
  (try simp only [Act.put, List.setIfInBounds_toArray, List.set_cons_zero, List.set_cons_succ])
  refine wpAnyH_take (i := 4) (oi := ⟨_, _, _, _, _, _⟩) (v := ?_) rfl (by kernel_rfl) (by kernel_rfl) (by kernel_rfl) (fun _ _ _ h => h) (Or.inl ⟨rfl, ?_⟩) (by assumption) ?_
  rotate_left 1
  · intro w_ hSw; (try dsimp only at hSw); go_simp; (try with_reducible rfl)
  (try simp only [Act.put, List.setIfInBounds_toArray, List.set_cons_zero, List.set_cons_succ])
  refine wpAnyH_done (by kernel_rfl) ?_ _
  refine NoPanic.normal ?_
  clear HY0_10
  have hC_ := toInts_view 0 w.heap.size a1 c1 n1 xs1 w10 (HV1.out.kept (Kept.of_below B10.out (Nat.le_refl _))) B10.out.size (by omega)
  have HC_ := Lib.hid hC_
  clear hC_
  go_wp2_with fail
  refine HC_.out.mono ?_
  rintro e w11 ⟨rfl, o_, b_⟩
  have b11 : Below w10.heap.size w10 w11 := b_
  have s11 : w10.heap.size ≤ w11.heap.size := b11.size
  have a00_11 : w11.cell? ⟨w.heap.size, 0, none⟩ = some (.int .i64 z0) := cell_b b11 a00_10
  have a01_11 : w11.cell? ⟨w.heap.size, 1, none⟩ = some (.slice a0 n0 c0) := cell_b b11 a01_10
  have rb0_11 : w11.cell? ⟨w4.heap.size, 0, none⟩ = some (.int .i64 rz) := cell_b b11 rb0_10
  have rb1_11 : w11.cell? ⟨w4.heap.size, 1, none⟩ = some (.slice Ra rn Rc) := cell_b b11 rb1_10
  have x00_11 : w11.cell? ⟨w5.heap.size, 0, none⟩ = some (.int .i64 z0) := cell_b b11 x00_10
  have x01_11 : w11.cell? ⟨w5.heap.size, 1, none⟩ = some (.slice (some ⟨X0g, 0, none⟩) n0 n0) := cell_b b11 x01_10
  have gb0_11 : w11.cell? ⟨w7.heap.size, 0, none⟩ = some (.int .i64 rz) := cell_b b11 gb0_10
  have gb1_11 : w11.cell? ⟨w7.heap.size, 1, none⟩ = some (.slice Ga rn Gc) := cell_b b11 gb1_10
  have HR_11 := Lib.hid (HR_10.out.kept (Kept.of_below b11 (by omega)))
  have HX0_11 := Lib.hid (HX0_10.out.kept (Kept.of_below b11 (by omega)))
  have HXI1_11 := Lib.hid (HXI1_10.out.kept (Kept.of_below b11 (by omega)))
  have HG_11 := Lib.hid (HG_10.out.kept (Kept.of_below b11 (by omega)))
  have B11 : Hid (Below w.heap.size w w11) := below_then B10.out b11
  clear a00_10 a01_10 rb0_10 rb1_10 x00_10 x01_10 gb0_10 gb1_10 HR_10 HX0_10 HXI1_10 HG_10 b_
  clear HC_
  have HYI1_11 := Lib.hid (OwnsInts.of_row o_).view
  clear o_
  have hC_ := eqInts_view _ _ _ _ _ _ n1 n1 n1 xs1 w11 HXI1_11.out.view HYI1_11.out (by unfold maxLen; omega)
  have HC_ := Lib.hid hC_
  clear hC_
  go_wp2_with fail
  refine HC_.out.mono ?_
  rintro e w12 ⟨rfl, q_⟩; have b_ := below_drawn (Below.refl w11.heap.size w11) q_; clear q_
  have b12 : Below w11.heap.size w11 w12 := b_
  have s12 : w11.heap.size ≤ w12.heap.size := b12.size
  have a00_12 : w12.cell? ⟨w.heap.size, 0, none⟩ = some (.int .i64 z0) := cell_b b12 a00_11
  have a01_12 : w12.cell? ⟨w.heap.size, 1, none⟩ = some (.slice a0 n0 c0) := cell_b b12 a01_11
  have rb0_12 : w12.cell? ⟨w4.heap.size, 0, none⟩ = some (.int .i64 rz) := cell_b b12 rb0_11
  have rb1_12 : w12.cell? ⟨w4.heap.size, 1, none⟩ = some (.slice Ra rn Rc) := cell_b b12 rb1_11
  have x00_12 : w12.cell? ⟨w5.heap.size, 0, none⟩ = some (.int .i64 z0) := cell_b b12 x00_11
  have x01_12 : w12.cell? ⟨w5.heap.size, 1, none⟩ = some (.slice (some ⟨X0g, 0, none⟩) n0 n0) := cell_b b12 x01_11
  have gb0_12 : w12.cell? ⟨w7.heap.size, 0, none⟩ = some (.int .i64 rz) := cell_b b12 gb0_11
  have gb1_12 : w12.cell? ⟨w7.heap.size, 1, none⟩ = some (.slice Ga rn Gc) := cell_b b12 gb1_11
  have HR_12 := Lib.hid (HR_11.out.kept (Kept.of_below b12 (by omega)))
  have HX0_12 := Lib.hid (HX0_11.out.kept (Kept.of_below b12 (by omega)))
  have HXI1_12 := Lib.hid (HXI1_11.out.kept (Kept.of_below b12 (by omega)))
  have HG_12 := Lib.hid (HG_11.out.kept (Kept.of_below b12 (by omega)))
  have HYI1_12 := Lib.hid (HYI1_11.out.kept (Kept.of_below b12 (by omega)))
  have B12 : Hid (Below w.heap.size w w12) := below_then B11.out b12
  clear a00_11 a01_11 rb0_11 rb1_11 x00_11 x01_11 gb0_11 gb1_11 HR_11 HX0_11 HXI1_11 HG_11 HYI1_11 b_
  clear HC_
  clear HYI1_12
  have HPre0 : Hid (preLen (fun j => fs0.getD j (0, [])) n0 = n0 + osum fs0) := by have h_ := preLen_fs fs0; rw [hl0.out] at h_; exact h_
  have hfit_ := HFit0.out
  obtain ⟨kx0, hkx, hkx00, hkx10⟩ : ∃ kx : Int, kx = 1 + (preLen (fun j => fs0.getD j (0, [])) n0 : Int) ∧ 0 ≤ kx ∧ kx ≤ 1048577 := ⟨_, rfl, by omega, by rw [HPre0.out]; omega⟩
  have HKX0 := Lib.hid hkx
  clear hkx hfit_
  have hC_ := markAlg_own _ _ n0 n0 z0 _ X0G X0C (fun j => fs0.getD j (0, [])) 1 w12 (by omega) (by rw [← HKX0.out]; omega) HX0_12.out (by omega)
  rw [← HKX0.out] at hC_
  have HC_ := Lib.hid hC_
  clear hC_
  go_wp2_with fail
  refine HC_.out.mono ?_
  rintro e w13 ⟨rfl, o_, b_⟩; clear o_
  have s13 : w12.heap.size ≤ w13.heap.size := b_.size
  have a00_13 : w13.cell? ⟨w.heap.size, 0, none⟩ = some (.int .i64 z0) := cell_o b_ a00_12 (by dsimp only; omega)
  have a01_13 : w13.cell? ⟨w.heap.size, 1, none⟩ = some (.slice a0 n0 c0) := cell_o b_ a01_12 (by dsimp only; omega)
  have rb0_13 : w13.cell? ⟨w4.heap.size, 0, none⟩ = some (.int .i64 rz) := cell_o b_ rb0_12 (by dsimp only; omega)
  have rb1_13 : w13.cell? ⟨w4.heap.size, 1, none⟩ = some (.slice Ra rn Rc) := cell_o b_ rb1_12 (by dsimp only; omega)
  have x00_13 : w13.cell? ⟨w5.heap.size, 0, none⟩ = some (.int .i64 z0) := cell_o b_ x00_12 (by dsimp only; omega)
  have x01_13 : w13.cell? ⟨w5.heap.size, 1, none⟩ = some (.slice (some ⟨X0g, 0, none⟩) n0 n0) := cell_o b_ x01_12 (by dsimp only; omega)
  have gb0_13 : w13.cell? ⟨w7.heap.size, 0, none⟩ = some (.int .i64 rz) := cell_o b_ gb0_12 (by dsimp only; omega)
  have gb1_13 : w13.cell? ⟨w7.heap.size, 1, none⟩ = some (.slice Ga rn Gc) := cell_o b_ gb1_12 (by dsimp only; omega)
  have HR_13 := Lib.hid (HR_12.out.kept (kept_only b_ (by omega) (by omega)))
  have HXI1_13 := Lib.hid (HXI1_12.out.kept (kept_only b_ (by omega) (by omega)))
  have HG_13 := Lib.hid (HG_12.out.kept (kept_only b_ (by omega) (by omega)))
  have B13 : Hid (Below w.heap.size w w13) := below_only B12.out b_ (by omega) (by omega)
  clear a00_12 a01_12 rb0_12 rb1_12 x00_12 x01_12 gb0_12 gb1_12 HR_12 HXI1_12 HG_12 HX0_12 b_
  clear HC_
  have hC_ := markInts_own _ _ n1 n1 (kx0) _ xs1 w13 (by omega) (by omega) HXI1_13.out
  have HC_ := Lib.hid hC_
  clear hC_
  go_wp2_with fail
  refine HC_.out.mono ?_
  rintro e w14 ⟨rfl, o_, b_⟩; clear o_
  have s14 : w13.heap.size ≤ w14.heap.size := b_.size
  have a00_14 : w14.cell? ⟨w.heap.size, 0, none⟩ = some (.int .i64 z0) := cell_o b_ a00_13 (by dsimp only; omega)
  have a01_14 : w14.cell? ⟨w.heap.size, 1, none⟩ = some (.slice a0 n0 c0) := cell_o b_ a01_13 (by dsimp only; omega)
  have rb0_14 : w14.cell? ⟨w4.heap.size, 0, none⟩ = some (.int .i64 rz) := cell_o b_ rb0_13 (by dsimp only; omega)
  have rb1_14 : w14.cell? ⟨w4.heap.size, 1, none⟩ = some (.slice Ra rn Rc) := cell_o b_ rb1_13 (by dsimp only; omega)
  have x00_14 : w14.cell? ⟨w5.heap.size, 0, none⟩ = some (.int .i64 z0) := cell_o b_ x00_13 (by dsimp only; omega)
  have x01_14 : w14.cell? ⟨w5.heap.size, 1, none⟩ = some (.slice (some ⟨X0g, 0, none⟩) n0 n0) := cell_o b_ x01_13 (by dsimp only; omega)
  have gb0_14 : w14.cell? ⟨w7.heap.size, 0, none⟩ = some (.int .i64 rz) := cell_o b_ gb0_13 (by dsimp only; omega)
  have gb1_14 : w14.cell? ⟨w7.heap.size, 1, none⟩ = some (.slice Ga rn Gc) := cell_o b_ gb1_13 (by dsimp only; omega)
  have HR_14 := Lib.hid (HR_13.out.kept (kept_only b_ (by omega) (by omega)))
  have HG_14 := Lib.hid (HG_13.out.kept (kept_only b_ (by omega) (by omega)))
  have B14 : Hid (Below w.heap.size w w14) := below_only B13.out b_ (by omega) (by omega)
  clear a00_13 a01_13 rb0_13 rb1_13 x00_13 x01_13 gb0_13 gb1_13 HR_13 HG_13 HXI1_13 b_
  clear HC_
  have h_ := HG_14.out.view
  rw [HRn.out, map_range_get, ← HRn.out] at h_
  have HGV_ := Lib.hid h_
  clear h_
  have hC_ := eqAlg_view _ _ _ _ rz _ _ Gc Rc rn rs w14 HGV_.out HR_14.out (by unfold maxLen; omega) HRM.out (by omega) (by omega)
  have HC_ := Lib.hid hC_
  clear hC_
  go_wp2_with fail
  refine HC_.out.mono ?_
  rintro e w15 ⟨rfl, b_⟩
  have b15 : Below w14.heap.size w14 w15 := b_
  have s15 : w14.heap.size ≤ w15.heap.size := b15.size
  have a00_15 : w15.cell? ⟨w.heap.size, 0, none⟩ = some (.int .i64 z0) := cell_b b15 a00_14
  have a01_15 : w15.cell? ⟨w.heap.size, 1, none⟩ = some (.slice a0 n0 c0) := cell_b b15 a01_14
  have rb0_15 : w15.cell? ⟨w4.heap.size, 0, none⟩ = some (.int .i64 rz) := cell_b b15 rb0_14
  have rb1_15 : w15.cell? ⟨w4.heap.size, 1, none⟩ = some (.slice Ra rn Rc) := cell_b b15 rb1_14
  have x00_15 : w15.cell? ⟨w5.heap.size, 0, none⟩ = some (.int .i64 z0) := cell_b b15 x00_14
  have x01_15 : w15.cell? ⟨w5.heap.size, 1, none⟩ = some (.slice (some ⟨X0g, 0, none⟩) n0 n0) := cell_b b15 x01_14
  have gb0_15 : w15.cell? ⟨w7.heap.size, 0, none⟩ = some (.int .i64 rz) := cell_b b15 gb0_14
  have gb1_15 : w15.cell? ⟨w7.heap.size, 1, none⟩ = some (.slice Ga rn Gc) := cell_b b15 gb1_14
  have HR_15 := Lib.hid (HR_14.out.kept (Kept.of_below b15 (by omega)))
  have HG_15 := Lib.hid (HG_14.out.kept (Kept.of_below b15 (by omega)))
  have B15 : Hid (Below w.heap.size w w15) := below_then B14.out b15
  clear a00_14 a01_14 rb0_14 rb1_14 x00_14 x01_14 gb0_14 gb1_14 HR_14 HG_14 b_
  clear HC_
  clear HGV_
  have HPreR : Hid (preLen (fun j => rs.getD j (0, [])) rn = rn + osum rs) := by have h_ := preLen_fs rs; rw [← HRn.out] at h_; exact h_
  have hres_ := HRes.out
  rw [← HRn.out] at hres_
  obtain ⟨kg, hkg, hkg0, hkg1⟩ : ∃ kg : Int, kg = 1 + (preLen (fun j => rs.getD j (0, [])) rn : Int) ∧ 0 ≤ kg ∧ kg ≤ 4194305 := ⟨_, rfl, by omega, by rw [HPreR.out]; omega⟩
  have HKG := Lib.hid hkg
  clear hkg hres_
  have hC_ := markAlg_own _ _ rn Gc rz Ga GG GC (fun j => rs.getD j (0, [])) 1 w15 (by omega) (by rw [← HKG.out]; omega) HG_15.out (by omega)
  rw [← HKG.out] at hC_
  have HC_ := Lib.hid hC_
  clear hC_
  go_wp2_with fail
  refine HC_.out.mono ?_
  rintro e w16 ⟨rfl, o_, b_⟩
  have s16 : w15.heap.size ≤ w16.heap.size := b_.size
  have a00_16 : w16.cell? ⟨w.heap.size, 0, none⟩ = some (.int .i64 z0) := cell_o b_ a00_15 (by dsimp only; omega)
  have a01_16 : w16.cell? ⟨w.heap.size, 1, none⟩ = some (.slice a0 n0 c0) := cell_o b_ a01_15 (by dsimp only; omega)
  have rb0_16 : w16.cell? ⟨w4.heap.size, 0, none⟩ = some (.int .i64 rz) := cell_o b_ rb0_15 (by dsimp only; omega)
  have rb1_16 : w16.cell? ⟨w4.heap.size, 1, none⟩ = some (.slice Ra rn Rc) := cell_o b_ rb1_15 (by dsimp only; omega)
  have x00_16 : w16.cell? ⟨w5.heap.size, 0, none⟩ = some (.int .i64 z0) := cell_o b_ x00_15 (by dsimp only; omega)
  have x01_16 : w16.cell? ⟨w5.heap.size, 1, none⟩ = some (.slice (some ⟨X0g, 0, none⟩) n0 n0) := cell_o b_ x01_15 (by dsimp only; omega)
  have gb0_16 : w16.cell? ⟨w7.heap.size, 0, none⟩ = some (.int .i64 rz) := cell_o b_ gb0_15 (by dsimp only; omega)
  have gb1_16 : w16.cell? ⟨w7.heap.size, 1, none⟩ = some (.slice Ga rn Gc) := cell_o b_ gb1_15 (by dsimp only; omega)
  have HR_16 := Lib.hid (HR_15.out.kept (kept_only b_ (by omega) (by omega)))
  have B16 : Hid (Below w.heap.size w w16) := below_only B15.out b_ (by omega) (by omega)
  clear a00_15 a01_15 rb0_15 rb1_15 x00_15 x01_15 gb0_15 gb1_15 HR_15 HG_15 b_
  clear HC_
  have HG_16 := Lib.hid o_.view
  clear o_
  have hC_ := heldAlg_view _ _ rn Gc rz Ga (fun j => rs.getD j (0, [])) 1 w16 (by omega) (by rw [← HKG.out]; omega) HG_16.out (by omega)
  rw [← HKG.out] at hC_
  have HC_ := Lib.hid hC_
  clear hC_
  go_wp2_with fail
  refine HC_.out.mono ?_
  rintro e w17 ⟨rfl, b_⟩
  have b17 : Below w16.heap.size w16 w17 := b_
  have s17 : w16.heap.size ≤ w17.heap.size := b17.size
  have a00_17 : w17.cell? ⟨w.heap.size, 0, none⟩ = some (.int .i64 z0) := cell_b b17 a00_16
  have a01_17 : w17.cell? ⟨w.heap.size, 1, none⟩ = some (.slice a0 n0 c0) := cell_b b17 a01_16
  have rb0_17 : w17.cell? ⟨w4.heap.size, 0, none⟩ = some (.int .i64 rz) := cell_b b17 rb0_16
  have rb1_17 : w17.cell? ⟨w4.heap.size, 1, none⟩ = some (.slice Ra rn Rc) := cell_b b17 rb1_16
  have x00_17 : w17.cell? ⟨w5.heap.size, 0, none⟩ = some (.int .i64 z0) := cell_b b17 x00_16
  have x01_17 : w17.cell? ⟨w5.heap.size, 1, none⟩ = some (.slice (some ⟨X0g, 0, none⟩) n0 n0) := cell_b b17 x01_16
  have gb0_17 : w17.cell? ⟨w7.heap.size, 0, none⟩ = some (.int .i64 rz) := cell_b b17 gb0_16
  have gb1_17 : w17.cell? ⟨w7.heap.size, 1, none⟩ = some (.slice Ga rn Gc) := cell_b b17 gb1_16
  have HR_17 := Lib.hid (HR_16.out.kept (Kept.of_below b17 (by omega)))
  have HG_17 := Lib.hid (HG_16.out.kept (Kept.of_below b17 (by omega)))
  have B17 : Hid (Below w.heap.size w w17) := below_then B16.out b17
  clear a00_16 a01_16 rb0_16 rb1_16 x00_16 x01_16 gb0_16 gb1_16 HR_16 HG_16 b_
  clear HC_
  have hC_ := toAlg_view w.heap.size z0 a0 c0 n0 fs0 w17 (HV0.out.kept (Kept.of_below B17.out (Nat.le_refl _))) B17.out.size hn3_0 HS80.out
  have HC_ := Lib.hid hC_
  clear hC_
  go_wp2_with fail
  refine HC_.out.mono ?_
  rintro e w18 ⟨T0g, rfl, m_⟩; have b_ := m_.2
  have b18 : Below w17.heap.size w17 w18 := b_
  have s18 : w17.heap.size ≤ w18.heap.size := b18.size
  have a00_18 : w18.cell? ⟨w.heap.size, 0, none⟩ = some (.int .i64 z0) := cell_b b18 a00_17
  have a01_18 : w18.cell? ⟨w.heap.size, 1, none⟩ = some (.slice a0 n0 c0) := cell_b b18 a01_17
  have rb0_18 : w18.cell? ⟨w4.heap.size, 0, none⟩ = some (.int .i64 rz) := cell_b b18 rb0_17
  have rb1_18 : w18.cell? ⟨w4.heap.size, 1, none⟩ = some (.slice Ra rn Rc) := cell_b b18 rb1_17
  have x00_18 : w18.cell? ⟨w5.heap.size, 0, none⟩ = some (.int .i64 z0) := cell_b b18 x00_17
  have x01_18 : w18.cell? ⟨w5.heap.size, 1, none⟩ = some (.slice (some ⟨X0g, 0, none⟩) n0 n0) := cell_b b18 x01_17
  have gb0_18 : w18.cell? ⟨w7.heap.size, 0, none⟩ = some (.int .i64 rz) := cell_b b18 gb0_17
  have gb1_18 : w18.cell? ⟨w7.heap.size, 1, none⟩ = some (.slice Ga rn Gc) := cell_b b18 gb1_17
  have HR_18 := Lib.hid (HR_17.out.kept (Kept.of_below b18 (by omega)))
  have HG_18 := Lib.hid (HG_17.out.kept (Kept.of_below b18 (by omega)))
  have B18 : Hid (Below w.heap.size w w18) := below_then B17.out b18
  clear a00_17 a01_17 rb0_17 rb1_17 x00_17 x01_17 gb0_17 gb1_17 HR_17 HG_17 b_
  clear HC_
  have m_ := m_.view hl0.out
  have HT0_18 := Lib.hid m_
  clear m_
  have hC_ := toInts_view 0 w.heap.size a1 c1 n1 xs1 w18 (HV1.out.kept (Kept.of_below B18.out (Nat.le_refl _))) B18.out.size (by omega)
  have HC_ := Lib.hid hC_
  clear hC_
  go_wp2_with fail
  refine HC_.out.mono ?_
  rintro e w19 ⟨rfl, o_, b_⟩
  have b19 : Below w18.heap.size w18 w19 := b_
  have s19 : w18.heap.size ≤ w19.heap.size := b19.size
  have a00_19 : w19.cell? ⟨w.heap.size, 0, none⟩ = some (.int .i64 z0) := cell_b b19 a00_18
  have a01_19 : w19.cell? ⟨w.heap.size, 1, none⟩ = some (.slice a0 n0 c0) := cell_b b19 a01_18
  have rb0_19 : w19.cell? ⟨w4.heap.size, 0, none⟩ = some (.int .i64 rz) := cell_b b19 rb0_18
  have rb1_19 : w19.cell? ⟨w4.heap.size, 1, none⟩ = some (.slice Ra rn Rc) := cell_b b19 rb1_18
  have x00_19 : w19.cell? ⟨w5.heap.size, 0, none⟩ = some (.int .i64 z0) := cell_b b19 x00_18
  have x01_19 : w19.cell? ⟨w5.heap.size, 1, none⟩ = some (.slice (some ⟨X0g, 0, none⟩) n0 n0) := cell_b b19 x01_18
  have gb0_19 : w19.cell? ⟨w7.heap.size, 0, none⟩ = some (.int .i64 rz) := cell_b b19 gb0_18
  have gb1_19 : w19.cell? ⟨w7.heap.size, 1, none⟩ = some (.slice Ga rn Gc) := cell_b b19 gb1_18
  have HR_19 := Lib.hid (HR_18.out.kept (Kept.of_below b19 (by omega)))
  have HG_19 := Lib.hid (HG_18.out.kept (Kept.of_below b19 (by omega)))
  have HT0_19 := Lib.hid (HT0_18.out.kept (Kept.of_below b19 (by omega)))
  have B19 : Hid (Below w.heap.size w w19) := below_then B18.out b19
  clear a00_18 a01_18 rb0_18 rb1_18 x00_18 x01_18 gb0_18 gb1_18 HR_18 HG_18 HT0_18 b_
  clear HC_
  have HTI1_19 := Lib.hid (OwnsInts.of_row o_).view
  clear o_
  have hC_ := implQuotientAlgebra _ _ z0 _ n0 n0 fs0 _ _ _ n1 n1 xs1 w19 HT0_19.out (by omega) HSM0.out HTI1_19.out (by omega) (by unfold maxLen; omega)
  simp only [HVal.out] at hC_
  have HC_ := Lib.hid hC_
  clear hC_
  go_wp2_with fail
  refine HC_.out.mono ?_
  rintro e w20 ⟨Ua, Un, Uc, UG, UC, rfl, hq_, o_, b_⟩
  have b20 : Below w19.heap.size w19 w20 := b_
  have s20 : w19.heap.size ≤ w20.heap.size := b20.size
  have a00_20 : w20.cell? ⟨w.heap.size, 0, none⟩ = some (.int .i64 z0) := cell_b b20 a00_19
  have a01_20 : w20.cell? ⟨w.heap.size, 1, none⟩ = some (.slice a0 n0 c0) := cell_b b20 a01_19
  have rb0_20 : w20.cell? ⟨w4.heap.size, 0, none⟩ = some (.int .i64 rz) := cell_b b20 rb0_19
  have rb1_20 : w20.cell? ⟨w4.heap.size, 1, none⟩ = some (.slice Ra rn Rc) := cell_b b20 rb1_19
  have x00_20 : w20.cell? ⟨w5.heap.size, 0, none⟩ = some (.int .i64 z0) := cell_b b20 x00_19
  have x01_20 : w20.cell? ⟨w5.heap.size, 1, none⟩ = some (.slice (some ⟨X0g, 0, none⟩) n0 n0) := cell_b b20 x01_19
  have gb0_20 : w20.cell? ⟨w7.heap.size, 0, none⟩ = some (.int .i64 rz) := cell_b b20 gb0_19
  have gb1_20 : w20.cell? ⟨w7.heap.size, 1, none⟩ = some (.slice Ga rn Gc) := cell_b b20 gb1_19
  have HR_20 := Lib.hid (HR_19.out.kept (Kept.of_below b20 (by omega)))
  have HG_20 := Lib.hid (HG_19.out.kept (Kept.of_below b20 (by omega)))
  have HT0_20 := Lib.hid (HT0_19.out.kept (Kept.of_below b20 (by omega)))
  have HTI1_20 := Lib.hid (HTI1_19.out.kept (Kept.of_below b20 (by omega)))
  have B20 : Hid (Below w.heap.size w w20) := below_then B19.out b20
  clear a00_19 a01_19 rb0_19 rb1_19 x00_19 x01_19 gb0_19 gb1_19 HR_19 HG_19 HT0_19 HTI1_19 b_
  clear HC_
  obtain rfl : rn = Un := HRn.out.trans hq_.symm
  have h_ := o_.view
  rw [HRn.out, map_range_get, ← HRn.out] at h_
  have HU_20 := Lib.hid h_
  clear h_
  clear o_ hq_
  have a00_p : ((w20.alloc (.cells #[.int .i64 rz, .slice Ua rn Uc] 31))).cell? ⟨w.heap.size, 0, none⟩ = some (.int .i64 z0) := cell_b (below_alloc w20 (.cells #[.int .i64 rz, .slice Ua rn Uc] 31)) a00_20
  have a01_p : ((w20.alloc (.cells #[.int .i64 rz, .slice Ua rn Uc] 31))).cell? ⟨w.heap.size, 1, none⟩ = some (.slice a0 n0 c0) := cell_b (below_alloc w20 (.cells #[.int .i64 rz, .slice Ua rn Uc] 31)) a01_20
  have rb0_p : ((w20.alloc (.cells #[.int .i64 rz, .slice Ua rn Uc] 31))).cell? ⟨w4.heap.size, 0, none⟩ = some (.int .i64 rz) := cell_b (below_alloc w20 (.cells #[.int .i64 rz, .slice Ua rn Uc] 31)) rb0_20
  have rb1_p : ((w20.alloc (.cells #[.int .i64 rz, .slice Ua rn Uc] 31))).cell? ⟨w4.heap.size, 1, none⟩ = some (.slice Ra rn Rc) := cell_b (below_alloc w20 (.cells #[.int .i64 rz, .slice Ua rn Uc] 31)) rb1_20
  have x00_p : ((w20.alloc (.cells #[.int .i64 rz, .slice Ua rn Uc] 31))).cell? ⟨w5.heap.size, 0, none⟩ = some (.int .i64 z0) := cell_b (below_alloc w20 (.cells #[.int .i64 rz, .slice Ua rn Uc] 31)) x00_20
  have x01_p : ((w20.alloc (.cells #[.int .i64 rz, .slice Ua rn Uc] 31))).cell? ⟨w5.heap.size, 1, none⟩ = some (.slice (some ⟨X0g, 0, none⟩) n0 n0) := cell_b (below_alloc w20 (.cells #[.int .i64 rz, .slice Ua rn Uc] 31)) x01_20
  have gb0_p : ((w20.alloc (.cells #[.int .i64 rz, .slice Ua rn Uc] 31))).cell? ⟨w7.heap.size, 0, none⟩ = some (.int .i64 rz) := cell_b (below_alloc w20 (.cells #[.int .i64 rz, .slice Ua rn Uc] 31)) gb0_20
  have gb1_p : ((w20.alloc (.cells #[.int .i64 rz, .slice Ua rn Uc] 31))).cell? ⟨w7.heap.size, 1, none⟩ = some (.slice Ga rn Gc) := cell_b (below_alloc w20 (.cells #[.int .i64 rz, .slice Ua rn Uc] 31)) gb1_20
  clear HT0_20
  clear HTI1_20
  have hC_ := eqAlg_view _ _ _ _ rz _ _ Uc Rc rn rs (w20.alloc (.cells #[.int .i64 rz, .slice Ua rn Uc] 31)) (HU_20.out.kept (Kept.of_below (below_alloc w20 (.cells #[.int .i64 rz, .slice Ua rn Uc] 31)) (by omega))) (HR_20.out.kept (Kept.of_below (below_alloc w20 (.cells #[.int .i64 rz, .slice Ua rn Uc] 31)) (by omega))) (by unfold maxLen; omega) HRM.out (Nat.le_trans (by omega) (below_alloc w20 (.cells #[.int .i64 rz, .slice Ua rn Uc] 31)).size) (Nat.le_trans (by omega) (below_alloc w20 (.cells #[.int .i64 rz, .slice Ua rn Uc] 31)).size)
  have HC_ := Lib.hid hC_
  clear hC_
  go_wp2_with fail
  refine HC_.out.mono ?_
  rintro e w21 ⟨rfl, b_⟩
  have b21 : Below w20.heap.size w20 w21 := below_then (below_alloc w20 (.cells #[.int .i64 rz, .slice Ua rn Uc] 31)) b_
  have s21 : w20.heap.size ≤ w21.heap.size := b21.size
  have a00_21 : w21.cell? ⟨w.heap.size, 0, none⟩ = some (.int .i64 z0) := cell_b b21 a00_20
  have a01_21 : w21.cell? ⟨w.heap.size, 1, none⟩ = some (.slice a0 n0 c0) := cell_b b21 a01_20
  have rb0_21 : w21.cell? ⟨w4.heap.size, 0, none⟩ = some (.int .i64 rz) := cell_b b21 rb0_20
  have rb1_21 : w21.cell? ⟨w4.heap.size, 1, none⟩ = some (.slice Ra rn Rc) := cell_b b21 rb1_20
  have x00_21 : w21.cell? ⟨w5.heap.size, 0, none⟩ = some (.int .i64 z0) := cell_b b21 x00_20
  have x01_21 : w21.cell? ⟨w5.heap.size, 1, none⟩ = some (.slice (some ⟨X0g, 0, none⟩) n0 n0) := cell_b b21 x01_20
  have gb0_21 : w21.cell? ⟨w7.heap.size, 0, none⟩ = some (.int .i64 rz) := cell_b b21 gb0_20
  have gb1_21 : w21.cell? ⟨w7.heap.size, 1, none⟩ = some (.slice Ga rn Gc) := cell_b b21 gb1_20
  have HR_21 := Lib.hid (HR_20.out.kept (Kept.of_below b21 (by omega)))
  have HG_21 := Lib.hid (HG_20.out.kept (Kept.of_below b21 (by omega)))
  have HU_21 := Lib.hid (HU_20.out.kept (Kept.of_below b21 (by omega)))
  have ub0_21 : w21.cell? ⟨w20.heap.size, 0, none⟩ = some (.int .i64 rz) := cell_b b_ (by simp)
  have ub1_21 : w21.cell? ⟨w20.heap.size, 1, none⟩ = some (.slice Ua rn Uc) := cell_b b_ (by simp)
  have zub : w20.heap.size < w21.heap.size := (by have := b_.size; simp at this; omega)
  have B21 : Hid (Below w.heap.size w w21) := below_then B20.out b21
  clear a00_20 a01_20 rb0_20 rb1_20 x00_20 x01_20 gb0_20 gb1_20 HR_20 HG_20 HU_20 b_
  clear a00_p a01_p rb0_p rb1_p x00_p x01_p gb0_p gb1_p
  clear HC_
  have hC_ := heldAlg_view _ _ rn Gc rz Ga (fun j => rs.getD j (0, [])) 1 w21 (by omega) (by rw [← HKG.out]; omega) HG_21.out (by omega)
  rw [← HKG.out] at hC_
  have HC_ := Lib.hid hC_
  clear hC_
  go_wp2_with fail
  refine HC_.out.mono ?_
  rintro e w22 ⟨rfl, b_⟩
  have b22 : Below w21.heap.size w21 w22 := b_
  have s22 : w21.heap.size ≤ w22.heap.size := b22.size
  have a00_22 : w22.cell? ⟨w.heap.size, 0, none⟩ = some (.int .i64 z0) := cell_b b22 a00_21
  have a01_22 : w22.cell? ⟨w.heap.size, 1, none⟩ = some (.slice a0 n0 c0) := cell_b b22 a01_21
  have rb0_22 : w22.cell? ⟨w4.heap.size, 0, none⟩ = some (.int .i64 rz) := cell_b b22 rb0_21
  have rb1_22 : w22.cell? ⟨w4.heap.size, 1, none⟩ = some (.slice Ra rn Rc) := cell_b b22 rb1_21
  have x00_22 : w22.cell? ⟨w5.heap.size, 0, none⟩ = some (.int .i64 z0) := cell_b b22 x00_21
  have x01_22 : w22.cell? ⟨w5.heap.size, 1, none⟩ = some (.slice (some ⟨X0g, 0, none⟩) n0 n0) := cell_b b22 x01_21
  have gb0_22 : w22.cell? ⟨w7.heap.size, 0, none⟩ = some (.int .i64 rz) := cell_b b22 gb0_21
  have gb1_22 : w22.cell? ⟨w7.heap.size, 1, none⟩ = some (.slice Ga rn Gc) := cell_b b22 gb1_21
  have ub0_22 : w22.cell? ⟨w20.heap.size, 0, none⟩ = some (.int .i64 rz) := cell_b b22 ub0_21
  have ub1_22 : w22.cell? ⟨w20.heap.size, 1, none⟩ = some (.slice Ua rn Uc) := cell_b b22 ub1_21
  have HR_22 := Lib.hid (HR_21.out.kept (Kept.of_below b22 (by omega)))
  have HG_22 := Lib.hid (HG_21.out.kept (Kept.of_below b22 (by omega)))
  have HU_22 := Lib.hid (HU_21.out.kept (Kept.of_below b22 (by omega)))
  have B22 : Hid (Below w.heap.size w w22) := below_then B21.out b22
  clear a00_21 a01_21 rb0_21 rb1_21 x00_21 x01_21 gb0_21 gb1_21 ub0_21 ub1_21 HR_21 HG_21 HU_21 b_
  clear HC_
  go_wp2_with fail
  go_ret
  exact ⟨rfl, B22.out⟩

theorem lawQuotientAlgebra (w : World) (z0 : Int) (a0 : Option Addr) (n0 c0 : Nat) (fs0 : List OpD) (wz0 : (Lit.int .i64 z0).wf = true) (hn0 : n0 ≤ maxLen) (ht0 : ∀ (j : Nat) (f : OpD), fs0[j]? = some f → f.2.length ≤ maxLen) (hv0 : OView w 0 w.heap.size a0 n0 fs0) (a1 : Option Addr) (n1 c1 : Nat) (xs1 : List Int) (hc1 : n1 ≤ c1) (hm1 : c1 ≤ maxLen) (hv1 : IView w 0 w.heap.size a1 n1 xs1) :
    Calls Try.prog 8 #[.agg #[.int .i64 z0, .slice a0 n0 c0], .slice a1 n1 c1] w fun e w' => e = .returned (.bool true) ∧ Below w.heap.size w w' := by
  rcases Nat.lt_or_ge 1048576 n1 with hb1 | hb1
  · exact lawQuotientAlgebra_big1 w z0 a0 n0 c0 fs0 wz0 hn0 ht0 hv0 a1 n1 c1 xs1 hc1 hm1 hv1  hb1
  refine (Classical.em (((n0 + osum fs0 : Nat) : Int) ≤ 1048576)).elim (fun hfit0 => ?_) (fun hfit0 => lawQuotientAlgebra_no0 w z0 a0 n0 c0 fs0 wz0 hn0 ht0 hv0 a1 n1 c1 xs1 hc1 hm1 hv1 hb1  hfit0)
  exact lawQuotientAlgebra_fit w z0 a0 n0 c0 fs0 wz0 hn0 ht0 hv0 a1 n1 c1 xs1 hc1 hm1 hv1 hb1  hfit0 (smallQuotientAlgebra z0 fs0 xs1)

end Go.Proofs.Ytcmjkfcgekmomaa
