/-
  The walk of the law FnExactPushCongruence: PushCongruence answers as its model, in memory of its own, and changes no argument. Conditions: the lengths are at most maxLen.
-/
import Derived.Test.YtcmjkfcgekmomaaStep
import Derived.Deep.DrawnRows
import Derived.Deep.RegionHeld3
import Derived.Test.YtcmjkfcgekmomaaPuJ
namespace Go.Proofs.Ytcmjkfcgekmomaa
open Go.RowKit
set_option linter.unusedVariables false
set_option linter.unusedSimpArgs false
attribute [local go_sem ↓] Go.wp_at_zero Go.wp_at_succ

theorem lawPushCongruence_big1 (w : World) (z0 : Int) (a0 : Option Addr) (n0 c0 : Nat) (fs0 : List OpD) (wz0 : (Lit.int .i64 z0).wf = true) (hn0 : n0 ≤ maxLen) (ht0 : ∀ (j : Nat) (f : OpD), fs0[j]? = some f → f.2.length ≤ maxLen) (hv0 : OView w 0 w.heap.size a0 n0 fs0) (a1 : Option Addr) (n1 c1 : Nat) (xs1 : List Int) (hc1 : n1 ≤ c1) (hm1 : c1 ≤ maxLen) (hv1 : IView w 0 w.heap.size a1 n1 xs1) (a2 : Option Addr) (n2 c2 : Nat) (xs2 : List Int) (hc2 : n2 ≤ c2) (hm2 : c2 ≤ maxLen) (hv2 : IView w 0 w.heap.size a2 n2 xs2) (hb : 1048576 < n1) :
    Calls Try.prog 13 #[.agg #[.int .i64 z0, .slice a0 n0 c0], .slice a1 n1 c1, .slice a2 n2 c2] w fun e w' => e = .returned (.bool true) ∧ Below w.heap.size w w' := by
  have hx : n1 ≤ 9223372036854775807 := by unfold maxLen at hm1; omega
  have hB0 := Lib.hid (below_alloc w (.cells #[.int .i64 z0, .slice a0 n0 c0] 24))
  clear hv0 ht0 hn0 wz0 hm1 hv1 hm2 hv2
  go_enter Try.func13, Try.ntmps13
  go_wp2
  go_ret
  exact ⟨rfl, hB0.out⟩

theorem lawPushCongruence_big2 (w : World) (z0 : Int) (a0 : Option Addr) (n0 c0 : Nat) (fs0 : List OpD) (wz0 : (Lit.int .i64 z0).wf = true) (hn0 : n0 ≤ maxLen) (ht0 : ∀ (j : Nat) (f : OpD), fs0[j]? = some f → f.2.length ≤ maxLen) (hv0 : OView w 0 w.heap.size a0 n0 fs0) (a1 : Option Addr) (n1 c1 : Nat) (xs1 : List Int) (hc1 : n1 ≤ c1) (hm1 : c1 ≤ maxLen) (hv1 : IView w 0 w.heap.size a1 n1 xs1) (a2 : Option Addr) (n2 c2 : Nat) (xs2 : List Int) (hc2 : n2 ≤ c2) (hm2 : c2 ≤ maxLen) (hv2 : IView w 0 w.heap.size a2 n2 xs2) (hb1 : n1 ≤ 1048576) (hb : 1048576 < n2) :
    Calls Try.prog 13 #[.agg #[.int .i64 z0, .slice a0 n0 c0], .slice a1 n1 c1, .slice a2 n2 c2] w fun e w' => e = .returned (.bool true) ∧ Below w.heap.size w w' := by
  have hx : n2 ≤ 9223372036854775807 := by unfold maxLen at hm2; omega
  have hB0 := Lib.hid (below_alloc w (.cells #[.int .i64 z0, .slice a0 n0 c0] 24))
  clear hv0 ht0 hn0 wz0 hm1 hv1 hm2 hv2
  go_enter Try.func13, Try.ntmps13
  go_wp2
  go_ret
  exact ⟨rfl, hB0.out⟩

set_option maxHeartbeats 400000 in
theorem lawPushCongruence_no0 (w : World) (z0 : Int) (a0 : Option Addr) (n0 c0 : Nat) (fs0 : List OpD) (wz0 : (Lit.int .i64 z0).wf = true) (hn0 : n0 ≤ maxLen) (ht0 : ∀ (j : Nat) (f : OpD), fs0[j]? = some f → f.2.length ≤ maxLen) (hv0 : OView w 0 w.heap.size a0 n0 fs0) (a1 : Option Addr) (n1 c1 : Nat) (xs1 : List Int) (hc1 : n1 ≤ c1) (hm1 : c1 ≤ maxLen) (hv1 : IView w 0 w.heap.size a1 n1 xs1) (a2 : Option Addr) (n2 c2 : Nat) (xs2 : List Int) (hc2 : n2 ≤ c2) (hm2 : c2 ≤ maxLen) (hv2 : IView w 0 w.heap.size a2 n2 xs2) (hb1 : n1 ≤ 1048576) (hb2 : n2 ≤ 1048576) (hfit0 : ¬ ((n0 + osum fs0 : Nat) : Int) ≤ 1048576) :
    Calls Try.prog 13 #[.agg #[.int .i64 z0, .slice a0 n0 c0], .slice a1 n1 c1, .slice a2 n2 c2] w fun e w' => e = .returned (.bool true) ∧ Below w.heap.size w w' := by
  have hB0 := (below_alloc w (.cells #[.int .i64 z0, .slice a0 n0 c0] 24))
  have hsz0 := fun (W : World) (hW : Below w.heap.size w W) => szAlg_any w.heap.size z0 a0 c0 n0 fs0 (1048576) W (hv0.kept (Kept.of_below hW (Nat.le_refl _))) hW.size hn0 ht0 (by omega) (by omega)
  simp only [szI_no (show ¬ ((n0 + osum fs0 : Nat) : Int) ≤ 1048576 by omega)] at hsz0
  have HSz0 := Lib.hid hsz0
  clear hsz0
  have HB0 := Lib.hid hB0
  clear hB0 hv0 ht0 hn0 wz0 hm1 hv1 hm2 hv2 hfit0
  go_enter Try.func13, Try.ntmps13
  go_wp2_with fail
  refine (HSz0.out _ HB0.out).mono ?_
  rintro e v1 ⟨rfl, b1⟩
  have B1 := Lib.hid (below_then HB0.out b1)
  clear b1
  go_wp2_with fail
  go_ret
  exact ⟨rfl, B1.out⟩

set_option maxRecDepth 100000 in
set_option maxHeartbeats 4000000 in
theorem lawPushCongruence_fit (w : World) (z0 : Int) (a0 : Option Addr) (n0 c0 : Nat) (fs0 : List OpD) (wz0 : (Lit.int .i64 z0).wf = true) (hn0 : n0 ≤ maxLen) (ht0 : ∀ (j : Nat) (f : OpD), fs0[j]? = some f → f.2.length ≤ maxLen) (hv0 : OView w 0 w.heap.size a0 n0 fs0) (a1 : Option Addr) (n1 c1 : Nat) (xs1 : List Int) (hc1 : n1 ≤ c1) (hm1 : c1 ≤ maxLen) (hv1 : IView w 0 w.heap.size a1 n1 xs1) (a2 : Option Addr) (n2 c2 : Nat) (xs2 : List Int) (hc2 : n2 ≤ c2) (hm2 : c2 ≤ maxLen) (hv2 : IView w 0 w.heap.size a2 n2 xs2) (hb1 : n1 ≤ 1048576) (hb2 : n2 ≤ 1048576) (hfit0 : ((n0 + osum fs0 : Nat) : Int) ≤ 1048576) (hres : (valPushCongruence z0 fs0 xs1 xs2).1.length ≤ 4194304) :
    Calls Try.prog 13 #[.agg #[.int .i64 z0, .slice a0 n0 c0], .slice a1 n1 c1, .slice a2 n2 c2] w fun e w' => e = .returned (.bool true) ∧ Below w.heap.size w w' := by
  obtain ⟨hn1_0, hn2_0, hn3_0, hs80, hsM0⟩ := small_of (left := 1048576) (show ((n0 + osum fs0 : Nat) : Int) ≤ 1048576 by omega) (Int.le_refl _)
  have hB0 := (below_alloc w (.cells #[.int .i64 z0, .slice a0 n0 c0] 24))
  have hsz0 := fun (W : World) (hW : Below w.heap.size w W) => szAlg_any w.heap.size z0 a0 c0 n0 fs0 (1048576) W (hv0.kept (Kept.of_below hW (Nat.le_refl _))) hW.size hn0 ht0 (by omega) (by omega)
  obtain ⟨l1, hl_1, hl_1a, hl_1b⟩ : ∃ l : Int, l = 1048576 - ((n0 + osum fs0 : Nat) : Int) ∧ 0 ≤ l ∧ l ≤ 1048576 := ⟨_, rfl, by omega, by omega⟩
  simp only [szI_yes (show ((n0 + osum fs0 : Nat) : Int) ≤ 1048576 by omega), ← hl_1] at hsz0
  have HSz0 := Lib.hid hsz0
  clear hsz0
  have HB0 := Lib.hid hB0
  have HV0 := Lib.hid hv0
  have hl0 := Lib.hid hv0.1
  have HW0 := Lib.hid wz0
  have HS80 := Lib.hid hs80
  have HSM0 := Lib.hid hsM0
  have HFit0 : Hid (((n0 + osum fs0 : Nat) : Int) ≤ 1048576) := (show ((n0 + osum fs0 : Nat) : Int) ≤ 1048576 by omega)
  have HV1 := Lib.hid hv1
  have hl1 := Lib.hid hv1.1
  have HV2 := Lib.hid hv2
  have hl2 := Lib.hid hv2.1
  obtain ⟨⟨rs, ok⟩, hval⟩ : ∃ p, valPushCongruence z0 fs0 xs1 xs2 = p := ⟨_, rfl⟩
  simp only [hval] at hres
  have HRes := Lib.hid hres
  have hrl : rs.length ≤ 4194304 := hres
  obtain ⟨rn, hrn⟩ : ∃ rn, rn = rs.length := ⟨_, rfl⟩
  rw [← hrn] at hrl
  have HRn := Lib.hid hrn
  have HVal := Lib.hid hval
  clear hB0 hval hv0 ht0 hn0 wz0 hm1 hv1 hm2 hv2 hc1 hc2 hs80 hsM0 hn2_0 hfit0 hl_1 hres hrn
  have hne_ok : (ok != ok) = false := by cases ok <;> rfl
  go_enter Try.func13, Try.ntmps13
  go_wp2_with fail
  refine (HSz0.out _ (below_alloc w (.cells #[.int .i64 z0, .slice a0 n0 c0] 24))).mono ?_
  rintro e w1 ⟨rfl, b_⟩
  have b1 : Below w.heap.size w w1 := below_then (below_alloc w (.cells #[.int .i64 z0, .slice a0 n0 c0] 24)) b_
  have s1 : w.heap.size ≤ w1.heap.size := b1.size
  have a00_1 : w1.cell? ⟨w.heap.size, 0, none⟩ = some (.int .i64 z0) := cell_b b_ (by simp)
  have a01_1 : w1.cell? ⟨w.heap.size, 1, none⟩ = some (.slice a0 n0 c0) := cell_b b_ (by simp)
  have za0 : w.heap.size < w1.heap.size := (by have := b_.size; simp at this; omega)
  have B1 : Hid (Below w.heap.size w w1) := b1
  clear b_
  have hC_ := toAlg_view w.heap.size z0 a0 c0 n0 fs0 w1 (HV0.out.kept (Kept.of_below B1.out (Nat.le_refl _))) B1.out.size hn3_0 HS80.out
  have HC_ := Lib.hid hC_
  clear hC_
  go_wp2_with fail
  refine HC_.out.mono ?_
  rintro e w2 ⟨S0g, rfl, m_⟩; have b_ := m_.2
  have b2 : Below w1.heap.size w1 w2 := b_
  have s2 : w1.heap.size ≤ w2.heap.size := b2.size
  have a00_2 : w2.cell? ⟨w.heap.size, 0, none⟩ = some (.int .i64 z0) := cell_b b2 a00_1
  have a01_2 : w2.cell? ⟨w.heap.size, 1, none⟩ = some (.slice a0 n0 c0) := cell_b b2 a01_1
  have B2 : Hid (Below w.heap.size w w2) := below_then B1.out b2
  clear a00_1 a01_1 b_
  clear HC_
  have m_ := m_.view hl0.out
  have HS0_2 := Lib.hid m_
  clear m_
  have hC_ := toInts_view 0 w.heap.size a1 c1 n1 xs1 w2 (HV1.out.kept (Kept.of_below B2.out (Nat.le_refl _))) B2.out.size (by omega)
  have HC_ := Lib.hid hC_
  clear hC_
  go_wp2_with fail
  refine HC_.out.mono ?_
  rintro e w3 ⟨rfl, o_, b_⟩
  have b3 : Below w2.heap.size w2 w3 := b_
  have s3 : w2.heap.size ≤ w3.heap.size := b3.size
  have a00_3 : w3.cell? ⟨w.heap.size, 0, none⟩ = some (.int .i64 z0) := cell_b b3 a00_2
  have a01_3 : w3.cell? ⟨w.heap.size, 1, none⟩ = some (.slice a0 n0 c0) := cell_b b3 a01_2
  have HS0_3 := Lib.hid (HS0_2.out.kept (Kept.of_below b3 (by omega)))
  have B3 : Hid (Below w.heap.size w w3) := below_then B2.out b3
  clear a00_2 a01_2 HS0_2 b_
  clear HC_
  have HSI1_3 := Lib.hid (OwnsInts.of_row o_).view
  clear o_
  have hC_ := toInts_view 0 w.heap.size a2 c2 n2 xs2 w3 (HV2.out.kept (Kept.of_below B3.out (Nat.le_refl _))) B3.out.size (by omega)
  have HC_ := Lib.hid hC_
  clear hC_
  go_wp2_with fail
  refine HC_.out.mono ?_
  rintro e w4 ⟨rfl, o_, b_⟩
  have b4 : Below w3.heap.size w3 w4 := b_
  have s4 : w3.heap.size ≤ w4.heap.size := b4.size
  have a00_4 : w4.cell? ⟨w.heap.size, 0, none⟩ = some (.int .i64 z0) := cell_b b4 a00_3
  have a01_4 : w4.cell? ⟨w.heap.size, 1, none⟩ = some (.slice a0 n0 c0) := cell_b b4 a01_3
  have HS0_4 := Lib.hid (HS0_3.out.kept (Kept.of_below b4 (by omega)))
  have HSI1_4 := Lib.hid (HSI1_3.out.kept (Kept.of_below b4 (by omega)))
  have B4 : Hid (Below w.heap.size w w4) := below_then B3.out b4
  clear a00_3 a01_3 HS0_3 HSI1_3 b_
  clear HC_
  have HSI2_4 := Lib.hid (OwnsInts.of_row o_).view
  clear o_
  have hC_ := specPushCongruence _ _ z0 _ n0 n0 fs0 _ _ _ n1 n1 xs1 _ _ _ n2 n2 xs2 w4 HS0_4.out (by omega) HSM0.out HSI1_4.out (by omega) (by unfold maxLen; omega) HSI2_4.out (by omega) (by unfold maxLen; omega)
  simp only [HVal.out] at hC_
  have HC_ := Lib.hid hC_
  clear hC_
  go_wp2_with fail
  refine HC_.out.mono ?_
  rintro e w5 ⟨Ra, Rn, Rc, rfl, hq_, o_, b_⟩
  have b5 : Below w4.heap.size w4 w5 := b_
  have s5 : w4.heap.size ≤ w5.heap.size := b5.size
  have a00_5 : w5.cell? ⟨w.heap.size, 0, none⟩ = some (.int .i64 z0) := cell_b b5 a00_4
  have a01_5 : w5.cell? ⟨w.heap.size, 1, none⟩ = some (.slice a0 n0 c0) := cell_b b5 a01_4
  have HS0_5 := Lib.hid (HS0_4.out.kept (Kept.of_below b5 (by omega)))
  have HSI1_5 := Lib.hid (HSI1_4.out.kept (Kept.of_below b5 (by omega)))
  have HSI2_5 := Lib.hid (HSI2_4.out.kept (Kept.of_below b5 (by omega)))
  have B5 : Hid (Below w.heap.size w w5) := below_then B4.out b5
  clear a00_4 a01_4 HS0_4 HSI1_4 HSI2_4 b_
  clear HC_
  obtain rfl : rn = Rn := HRn.out.trans hq_.symm
  have HR_5 := Lib.hid o_.view
  clear o_ hq_
  clear HS0_5
  clear HSI1_5
  clear HSI2_5
  have hC_ := toAlg_view w.heap.size z0 a0 c0 n0 fs0 w5 (HV0.out.kept (Kept.of_below B5.out (Nat.le_refl _))) B5.out.size hn3_0 HS80.out
  have HC_ := Lib.hid hC_
  clear hC_
  go_wp2_with fail
  refine HC_.out.mono ?_
  rintro e w6 ⟨X0g, rfl, m_⟩; have b_ := m_.2
  have b6 : Below w5.heap.size w5 w6 := b_
  have s6 : w5.heap.size ≤ w6.heap.size := b6.size
  have a00_6 : w6.cell? ⟨w.heap.size, 0, none⟩ = some (.int .i64 z0) := cell_b b6 a00_5
  have a01_6 : w6.cell? ⟨w.heap.size, 1, none⟩ = some (.slice a0 n0 c0) := cell_b b6 a01_5
  have HR_6 := Lib.hid (HR_5.out.kept (Kept.of_below b6 (by omega)))
  have B6 : Hid (Below w.heap.size w w6) := below_then B5.out b6
  clear a00_5 a01_5 HR_5 b_
  clear HC_
  obtain ⟨⟨X0G, X0C, m_⟩, _⟩ := m_
  have HX0_6 := Lib.hid m_
  clear m_
  have hC_ := toInts_view 0 w.heap.size a1 c1 n1 xs1 (w6.alloc (.cells #[.int .i64 z0, .slice (some ⟨X0g, 0, none⟩) n0 n0] 31)) (HV1.out.kept (Kept.of_below (below_then B6.out (below_alloc w6 (.cells #[.int .i64 z0, .slice (some ⟨X0g, 0, none⟩) n0 n0] 31))) (Nat.le_refl _))) (below_then B6.out (below_alloc w6 (.cells #[.int .i64 z0, .slice (some ⟨X0g, 0, none⟩) n0 n0] 31))).size (by omega)
  have HC_ := Lib.hid hC_
  clear hC_
  go_wp2_with fail
  refine HC_.out.mono ?_
  rintro e w7 ⟨rfl, o_, b_⟩
  have b7 : Below w6.heap.size w6 w7 := below_then (below_alloc w6 (.cells #[.int .i64 z0, .slice (some ⟨X0g, 0, none⟩) n0 n0] 31)) b_
  have s7 : w6.heap.size ≤ w7.heap.size := b7.size
  have a00_7 : w7.cell? ⟨w.heap.size, 0, none⟩ = some (.int .i64 z0) := cell_b b7 a00_6
  have a01_7 : w7.cell? ⟨w.heap.size, 1, none⟩ = some (.slice a0 n0 c0) := cell_b b7 a01_6
  have HR_7 := Lib.hid (HR_6.out.kept (Kept.of_below b7 (by omega)))
  have HX0_7 := Lib.hid (HX0_6.out.kept (Kept.of_below b7 (by omega)))
  have x00_7 : w7.cell? ⟨w6.heap.size, 0, none⟩ = some (.int .i64 z0) := cell_b b_ (by simp)
  have x01_7 : w7.cell? ⟨w6.heap.size, 1, none⟩ = some (.slice (some ⟨X0g, 0, none⟩) n0 n0) := cell_b b_ (by simp)
  have zx0 : w6.heap.size < w7.heap.size := (by have := b_.size; simp at this; omega)
  have B7 : Hid (Below w.heap.size w w7) := below_then B6.out b7
  clear a00_6 a01_6 HR_6 HX0_6 b_
  clear HC_
  simp only [World.size_alloc, World.size_drew] at o_
  have HXI1_7 := Lib.hid (OwnsInts.of_row o_)
  clear o_
  have hC_ := toInts_view 0 w.heap.size a2 c2 n2 xs2 w7 (HV2.out.kept (Kept.of_below B7.out (Nat.le_refl _))) B7.out.size (by omega)
  have HC_ := Lib.hid hC_
  clear hC_
  go_wp2_with fail
  refine HC_.out.mono ?_
  rintro e w8 ⟨rfl, o_, b_⟩
  have b8 : Below w7.heap.size w7 w8 := b_
  have s8 : w7.heap.size ≤ w8.heap.size := b8.size
  have a00_8 : w8.cell? ⟨w.heap.size, 0, none⟩ = some (.int .i64 z0) := cell_b b8 a00_7
  have a01_8 : w8.cell? ⟨w.heap.size, 1, none⟩ = some (.slice a0 n0 c0) := cell_b b8 a01_7
  have x00_8 : w8.cell? ⟨w6.heap.size, 0, none⟩ = some (.int .i64 z0) := cell_b b8 x00_7
  have x01_8 : w8.cell? ⟨w6.heap.size, 1, none⟩ = some (.slice (some ⟨X0g, 0, none⟩) n0 n0) := cell_b b8 x01_7
  have HR_8 := Lib.hid (HR_7.out.kept (Kept.of_below b8 (by omega)))
  have HX0_8 := Lib.hid (HX0_7.out.kept (Kept.of_below b8 (by omega)))
  have HXI1_8 := Lib.hid (HXI1_7.out.kept (Kept.of_below b8 (by omega)))
  have B8 : Hid (Below w.heap.size w w8) := below_then B7.out b8
  clear a00_7 a01_7 x00_7 x01_7 HR_7 HX0_7 HXI1_7 b_
  clear HC_
  have HXI2_8 := Lib.hid (OwnsInts.of_row o_)
  clear o_
  have h_ := HX0_8.out.view
  rw [← hl0.out, map_range_get, hl0.out] at h_
  have HXV0_ := Lib.hid h_
  clear h_
  have hC_ := implPushCongruence _ _ z0 _ n0 n0 fs0 _ _ _ n1 n1 xs1 _ _ _ n2 n2 xs2 w8 HXV0_.out (by omega) HSM0.out HXI1_8.out.view (by omega) (by unfold maxLen; omega) HXI2_8.out.view (by omega) (by unfold maxLen; omega)
  simp only [HVal.out] at hC_
  have HC_ := Lib.hid hC_
  clear hC_
  go_wp2_with fail
  refine HC_.out.mono ?_
  rintro e w9 ⟨Ga, Gn, Gc, rfl, hq_, o_, b_⟩
  have b9 : Below w8.heap.size w8 w9 := b_
  have s9 : w8.heap.size ≤ w9.heap.size := b9.size
  have a00_9 : w9.cell? ⟨w.heap.size, 0, none⟩ = some (.int .i64 z0) := cell_b b9 a00_8
  have a01_9 : w9.cell? ⟨w.heap.size, 1, none⟩ = some (.slice a0 n0 c0) := cell_b b9 a01_8
  have x00_9 : w9.cell? ⟨w6.heap.size, 0, none⟩ = some (.int .i64 z0) := cell_b b9 x00_8
  have x01_9 : w9.cell? ⟨w6.heap.size, 1, none⟩ = some (.slice (some ⟨X0g, 0, none⟩) n0 n0) := cell_b b9 x01_8
  have HR_9 := Lib.hid (HR_8.out.kept (Kept.of_below b9 (by omega)))
  have HX0_9 := Lib.hid (HX0_8.out.kept (Kept.of_below b9 (by omega)))
  have HXI1_9 := Lib.hid (HXI1_8.out.kept (Kept.of_below b9 (by omega)))
  have HXI2_9 := Lib.hid (HXI2_8.out.kept (Kept.of_below b9 (by omega)))
  have B9 : Hid (Below w.heap.size w w9) := below_then B8.out b9
  clear a00_8 a01_8 x00_8 x01_8 HR_8 HX0_8 HXI1_8 HXI2_8 b_
  clear HC_
  obtain rfl : rn = Gn := HRn.out.trans hq_.symm
  have HG_9 := Lib.hid o_
  clear o_ hq_
  clear HXV0_
  have HGV_ := Lib.hid HG_9.out.view
  have hC_ := eqInts_view _ _ _ _ _ _ Gc Rc rn rs w9 HGV_.out HR_9.out (by unfold maxLen; omega)
  have HC_ := Lib.hid hC_
  clear hC_
  go_wp2_with fail
  refine HC_.out.mono ?_
  rintro e w10 ⟨rfl, q_⟩; have b_ := below_drawn (Below.refl w9.heap.size w9) q_; clear q_
  have b10 : Below w9.heap.size w9 w10 := b_
  have s10 : w9.heap.size ≤ w10.heap.size := b10.size
  have a00_10 : w10.cell? ⟨w.heap.size, 0, none⟩ = some (.int .i64 z0) := cell_b b10 a00_9
  have a01_10 : w10.cell? ⟨w.heap.size, 1, none⟩ = some (.slice a0 n0 c0) := cell_b b10 a01_9
  have x00_10 : w10.cell? ⟨w6.heap.size, 0, none⟩ = some (.int .i64 z0) := cell_b b10 x00_9
  have x01_10 : w10.cell? ⟨w6.heap.size, 1, none⟩ = some (.slice (some ⟨X0g, 0, none⟩) n0 n0) := cell_b b10 x01_9
  have HR_10 := Lib.hid (HR_9.out.kept (Kept.of_below b10 (by omega)))
  have HX0_10 := Lib.hid (HX0_9.out.kept (Kept.of_below b10 (by omega)))
  have HXI1_10 := Lib.hid (HXI1_9.out.kept (Kept.of_below b10 (by omega)))
  have HXI2_10 := Lib.hid (HXI2_9.out.kept (Kept.of_below b10 (by omega)))
  have HG_10 := Lib.hid (HG_9.out.kept (Kept.of_below b10 (by omega)))
  have B10 : Hid (Below w.heap.size w w10) := below_then B9.out b10
  clear a00_9 a01_9 x00_9 x01_9 HR_9 HX0_9 HXI1_9 HXI2_9 HG_9 b_
  clear HC_
  clear HGV_
  go_wp2_with fail
  refine wp_region_noPanic ?_
  refine wp_region_held_drew (S := fun W => W.cell? ⟨w.heap.size, 0, none⟩ = some (.int .i64 z0) ∧ W.cell? ⟨w.heap.size, 1, none⟩ = some (.slice a0 n0 c0) ∧ W.cell? ⟨w6.heap.size, 0, none⟩ = some (.int .i64 z0) ∧ W.cell? ⟨w6.heap.size, 1, none⟩ = some (.slice (some ⟨X0g, 0, none⟩) n0 n0)) (by kernel_rfl) ?_ (fun hHeld => ?_)
  · exact ⟨a00_10, a01_10, x00_10, x01_10⟩
  refine wpAnyH_take (i := 0) (oi := ⟨_, _, _, _, _, _⟩) (v := ?_) rfl (by kernel_rfl) (by kernel_rfl) (by kernel_rfl) (fun _ _ _ h => h) (Or.inl ⟨rfl, ?_⟩) (by assumption) ?_
  rotate_left 1
  · intro w_ hSw; (try dsimp only at hSw); go_simp; (try with_reducible rfl)
  (try simp only [Act.put, List.setIfInBounds_toArray, List.set_cons_zero, List.set_cons_succ])
  refine wpAnyH_take (i := 1) (oi := ⟨_, _, _, _, _, _⟩) (v := ?_) rfl (by kernel_rfl) (by kernel_rfl) (by kernel_rfl) (fun _ _ _ h => h) (Or.inl ⟨rfl, ?_⟩) (by assumption) ?_
  rotate_left 1
  · intro w_ hSw; (try dsimp only at hSw); go_simp; (try with_reducible rfl)
  (try simp only [Act.put, List.setIfInBounds_toArray, List.set_cons_zero, List.set_cons_succ])
  refine wpAnyH_ready (rs := [2]) (by kernel_rfl) (by simp) ?_
  refine AllReadyH.cons (o := ⟨_, _, _, _, _, _⟩) rfl (fun K hK => ?_) AllReadyH.nil
  go_simp
  go_at_call 17
  have hC_ := toAlg_view w.heap.size z0 a0 c0 n0 fs0 w10.drew (HV0.out.kept (Kept.of_below (below_then B10.out (below_drew w10)) (Nat.le_refl _))) (below_then B10.out (below_drew w10)).size hn3_0 HS80.out
  refine hC_.mono ?_
  clear hC_
  rintro e w11 ⟨Y0g, rfl, m_⟩; have b_ := m_.2
  have b11 : Below w10.heap.size w10 w11 := below_then (below_drew w10) b_
  have s11 : w10.heap.size ≤ w11.heap.size := b11.size
  have a00_11 : w11.cell? ⟨w.heap.size, 0, none⟩ = some (.int .i64 z0) := cell_b b11 a00_10
  have a01_11 : w11.cell? ⟨w.heap.size, 1, none⟩ = some (.slice a0 n0 c0) := cell_b b11 a01_10
  have x00_11 : w11.cell? ⟨w6.heap.size, 0, none⟩ = some (.int .i64 z0) := cell_b b11 x00_10
  have x01_11 : w11.cell? ⟨w6.heap.size, 1, none⟩ = some (.slice (some ⟨X0g, 0, none⟩) n0 n0) := cell_b b11 x01_10
  have HR_11 := Lib.hid (HR_10.out.kept (Kept.of_below b11 (by omega)))
  have HX0_11 := Lib.hid (HX0_10.out.kept (Kept.of_below b11 (by omega)))
  have HXI1_11 := Lib.hid (HXI1_10.out.kept (Kept.of_below b11 (by omega)))
  have HXI2_11 := Lib.hid (HXI2_10.out.kept (Kept.of_below b11 (by omega)))
  have HG_11 := Lib.hid (HG_10.out.kept (Kept.of_below b11 (by omega)))
  have B11 : Hid (Below w.heap.size w w11) := below_then B10.out b11
  clear a00_10 a01_10 x00_10 x01_10 HR_10 HX0_10 HXI1_10 HXI2_10 HG_10 b_
  have m_ := m_.view hl0.out
  simp only [World.size_alloc, World.size_drew] at m_
  have HY0_11 := Lib.hid m_
  clear m_
  go_wp2_with fail
  refine hK.out _ _ ?_ (fun hHeld => ?_)
  · exact ⟨a00_11, a01_11, x00_11, x01_11⟩
  clear hK K
  (try simp only [Act.put, List.setIfInBounds_toArray, List.set_cons_zero, List.set_cons_succ])
  refine wpAnyH_ready (rs := [3]) (by kernel_rfl) (by simp) ?_
  refine AllReadyH.cons (o := ⟨_, _, _, _, _, _⟩) rfl (fun K hK => ?_) AllReadyH.nil
  go_simp
  have h_ := HX0_11.out.view
  rw [← hl0.out, map_range_get, hl0.out] at h_
  have XV_ := Lib.hid h_
  clear h_
  go_at_call 21
  have hC_ := eqAlg_view _ _ _ _ z0 _ _ n0 n0 n0 fs0 w11 XV_.out HY0_11.out (by unfold maxLen; omega) HSM0.out (by omega) (by omega)
  refine hC_.mono ?_
  clear hC_
  rintro e w12 ⟨rfl, b_⟩; clear XV_
  have b12 : Below w11.heap.size w11 w12 := b_
  have s12 : w11.heap.size ≤ w12.heap.size := b12.size
  have a00_12 : w12.cell? ⟨w.heap.size, 0, none⟩ = some (.int .i64 z0) := cell_b b12 a00_11
  have a01_12 : w12.cell? ⟨w.heap.size, 1, none⟩ = some (.slice a0 n0 c0) := cell_b b12 a01_11
  have x00_12 : w12.cell? ⟨w6.heap.size, 0, none⟩ = some (.int .i64 z0) := cell_b b12 x00_11
  have x01_12 : w12.cell? ⟨w6.heap.size, 1, none⟩ = some (.slice (some ⟨X0g, 0, none⟩) n0 n0) := cell_b b12 x01_11
  have HR_12 := Lib.hid (HR_11.out.kept (Kept.of_below b12 (by omega)))
  have HX0_12 := Lib.hid (HX0_11.out.kept (Kept.of_below b12 (by omega)))
  have HXI1_12 := Lib.hid (HXI1_11.out.kept (Kept.of_below b12 (by omega)))
  have HXI2_12 := Lib.hid (HXI2_11.out.kept (Kept.of_below b12 (by omega)))
  have HG_12 := Lib.hid (HG_11.out.kept (Kept.of_below b12 (by omega)))
  have HY0_12 := Lib.hid (HY0_11.out.kept (Kept.of_below b12 (by omega)))
  have B12 : Hid (Below w.heap.size w w12) := below_then B11.out b12
  clear a00_11 a01_11 x00_11 x01_11 HR_11 HX0_11 HXI1_11 HXI2_11 HG_11 HY0_11 b_
  go_wp2_with fail
  refine hK.out _ _ ?_ (fun hHeld => ?_)
  · exact ⟨a00_12, a01_12, x00_12, x01_12⟩
  clear hK K
  (try simp only [Act.put, List.setIfInBounds_toArray, List.set_cons_zero, List.set_cons_succ])
  refine wpAnyH_take (i := 4) (oi := ⟨_, _, _, _, _, _⟩) (v := ?_) rfl (by kernel_rfl) (by kernel_rfl) (by kernel_rfl) (fun _ _ _ h => h) (Or.inl ⟨rfl, ?_⟩) (by assumption) ?_
  rotate_left 1
  · intro w_ hSw; (try dsimp only at hSw); go_simp; (try with_reducible rfl)
  (try simp only [Act.put, List.setIfInBounds_toArray, List.set_cons_zero, List.set_cons_succ])
  refine wpAnyH_done (by kernel_rfl) ?_ _
  refine NoPanic.normal ?_
  clear HY0_12
  have hC_ := toInts_view 0 w.heap.size a1 c1 n1 xs1 w12 (HV1.out.kept (Kept.of_below B12.out (Nat.le_refl _))) B12.out.size (by omega)
  have HC_ := Lib.hid hC_
  clear hC_
  go_wp2_with fail
  refine HC_.out.mono ?_
  rintro e w13 ⟨rfl, o_, b_⟩
  have b13 : Below w12.heap.size w12 w13 := b_
  have s13 : w12.heap.size ≤ w13.heap.size := b13.size
  have a00_13 : w13.cell? ⟨w.heap.size, 0, none⟩ = some (.int .i64 z0) := cell_b b13 a00_12
  have a01_13 : w13.cell? ⟨w.heap.size, 1, none⟩ = some (.slice a0 n0 c0) := cell_b b13 a01_12
  have x00_13 : w13.cell? ⟨w6.heap.size, 0, none⟩ = some (.int .i64 z0) := cell_b b13 x00_12
  have x01_13 : w13.cell? ⟨w6.heap.size, 1, none⟩ = some (.slice (some ⟨X0g, 0, none⟩) n0 n0) := cell_b b13 x01_12
  have HR_13 := Lib.hid (HR_12.out.kept (Kept.of_below b13 (by omega)))
  have HX0_13 := Lib.hid (HX0_12.out.kept (Kept.of_below b13 (by omega)))
  have HXI1_13 := Lib.hid (HXI1_12.out.kept (Kept.of_below b13 (by omega)))
  have HXI2_13 := Lib.hid (HXI2_12.out.kept (Kept.of_below b13 (by omega)))
  have HG_13 := Lib.hid (HG_12.out.kept (Kept.of_below b13 (by omega)))
  have B13 : Hid (Below w.heap.size w w13) := below_then B12.out b13
  clear a00_12 a01_12 x00_12 x01_12 HR_12 HX0_12 HXI1_12 HXI2_12 HG_12 b_
  clear HC_
  have HYI1_13 := Lib.hid (OwnsInts.of_row o_).view
  clear o_
  have hC_ := eqInts_view _ _ _ _ _ _ n1 n1 n1 xs1 w13 HXI1_13.out.view HYI1_13.out (by unfold maxLen; omega)
  have HC_ := Lib.hid hC_
  clear hC_
  go_wp2_with fail
  refine HC_.out.mono ?_
  rintro e w14 ⟨rfl, q_⟩; have b_ := below_drawn (Below.refl w13.heap.size w13) q_; clear q_
  have b14 : Below w13.heap.size w13 w14 := b_
  have s14 : w13.heap.size ≤ w14.heap.size := b14.size
  have a00_14 : w14.cell? ⟨w.heap.size, 0, none⟩ = some (.int .i64 z0) := cell_b b14 a00_13
  have a01_14 : w14.cell? ⟨w.heap.size, 1, none⟩ = some (.slice a0 n0 c0) := cell_b b14 a01_13
  have x00_14 : w14.cell? ⟨w6.heap.size, 0, none⟩ = some (.int .i64 z0) := cell_b b14 x00_13
  have x01_14 : w14.cell? ⟨w6.heap.size, 1, none⟩ = some (.slice (some ⟨X0g, 0, none⟩) n0 n0) := cell_b b14 x01_13
  have HR_14 := Lib.hid (HR_13.out.kept (Kept.of_below b14 (by omega)))
  have HX0_14 := Lib.hid (HX0_13.out.kept (Kept.of_below b14 (by omega)))
  have HXI1_14 := Lib.hid (HXI1_13.out.kept (Kept.of_below b14 (by omega)))
  have HXI2_14 := Lib.hid (HXI2_13.out.kept (Kept.of_below b14 (by omega)))
  have HG_14 := Lib.hid (HG_13.out.kept (Kept.of_below b14 (by omega)))
  have HYI1_14 := Lib.hid (HYI1_13.out.kept (Kept.of_below b14 (by omega)))
  have B14 : Hid (Below w.heap.size w w14) := below_then B13.out b14
  clear a00_13 a01_13 x00_13 x01_13 HR_13 HX0_13 HXI1_13 HXI2_13 HG_13 HYI1_13 b_
  clear HC_
  clear HYI1_14
  have hC_ := toInts_view 0 w.heap.size a2 c2 n2 xs2 w14 (HV2.out.kept (Kept.of_below B14.out (Nat.le_refl _))) B14.out.size (by omega)
  have HC_ := Lib.hid hC_
  clear hC_
  go_wp2_with fail
  refine HC_.out.mono ?_
  rintro e w15 ⟨rfl, o_, b_⟩
  have b15 : Below w14.heap.size w14 w15 := b_
  have s15 : w14.heap.size ≤ w15.heap.size := b15.size
  have a00_15 : w15.cell? ⟨w.heap.size, 0, none⟩ = some (.int .i64 z0) := cell_b b15 a00_14
  have a01_15 : w15.cell? ⟨w.heap.size, 1, none⟩ = some (.slice a0 n0 c0) := cell_b b15 a01_14
  have x00_15 : w15.cell? ⟨w6.heap.size, 0, none⟩ = some (.int .i64 z0) := cell_b b15 x00_14
  have x01_15 : w15.cell? ⟨w6.heap.size, 1, none⟩ = some (.slice (some ⟨X0g, 0, none⟩) n0 n0) := cell_b b15 x01_14
  have HR_15 := Lib.hid (HR_14.out.kept (Kept.of_below b15 (by omega)))
  have HX0_15 := Lib.hid (HX0_14.out.kept (Kept.of_below b15 (by omega)))
  have HXI1_15 := Lib.hid (HXI1_14.out.kept (Kept.of_below b15 (by omega)))
  have HXI2_15 := Lib.hid (HXI2_14.out.kept (Kept.of_below b15 (by omega)))
  have HG_15 := Lib.hid (HG_14.out.kept (Kept.of_below b15 (by omega)))
  have B15 : Hid (Below w.heap.size w w15) := below_then B14.out b15
  clear a00_14 a01_14 x00_14 x01_14 HR_14 HX0_14 HXI1_14 HXI2_14 HG_14 b_
  clear HC_
  have HYI2_15 := Lib.hid (OwnsInts.of_row o_).view
  clear o_
  have hC_ := eqInts_view _ _ _ _ _ _ n2 n2 n2 xs2 w15 HXI2_15.out.view HYI2_15.out (by unfold maxLen; omega)
  have HC_ := Lib.hid hC_
  clear hC_
  go_wp2_with fail
  refine HC_.out.mono ?_
  rintro e w16 ⟨rfl, q_⟩; have b_ := below_drawn (Below.refl w15.heap.size w15) q_; clear q_
  have b16 : Below w15.heap.size w15 w16 := b_
  have s16 : w15.heap.size ≤ w16.heap.size := b16.size
  have a00_16 : w16.cell? ⟨w.heap.size, 0, none⟩ = some (.int .i64 z0) := cell_b b16 a00_15
  have a01_16 : w16.cell? ⟨w.heap.size, 1, none⟩ = some (.slice a0 n0 c0) := cell_b b16 a01_15
  have x00_16 : w16.cell? ⟨w6.heap.size, 0, none⟩ = some (.int .i64 z0) := cell_b b16 x00_15
  have x01_16 : w16.cell? ⟨w6.heap.size, 1, none⟩ = some (.slice (some ⟨X0g, 0, none⟩) n0 n0) := cell_b b16 x01_15
  have HR_16 := Lib.hid (HR_15.out.kept (Kept.of_below b16 (by omega)))
  have HX0_16 := Lib.hid (HX0_15.out.kept (Kept.of_below b16 (by omega)))
  have HXI1_16 := Lib.hid (HXI1_15.out.kept (Kept.of_below b16 (by omega)))
  have HXI2_16 := Lib.hid (HXI2_15.out.kept (Kept.of_below b16 (by omega)))
  have HG_16 := Lib.hid (HG_15.out.kept (Kept.of_below b16 (by omega)))
  have HYI2_16 := Lib.hid (HYI2_15.out.kept (Kept.of_below b16 (by omega)))
  have B16 : Hid (Below w.heap.size w w16) := below_then B15.out b16
  clear a00_15 a01_15 x00_15 x01_15 HR_15 HX0_15 HXI1_15 HXI2_15 HG_15 HYI2_15 b_
  clear HC_
  clear HYI2_16
  have HPre0 : Hid (preLen (fun j => fs0.getD j (0, [])) n0 = n0 + osum fs0) := by have h_ := preLen_fs fs0; rw [hl0.out] at h_; exact h_
  have hfit_ := HFit0.out
  obtain ⟨kx0, hkx, hkx00, hkx10⟩ : ∃ kx : Int, kx = 1 + (preLen (fun j => fs0.getD j (0, [])) n0 : Int) ∧ 0 ≤ kx ∧ kx ≤ 1048577 := ⟨_, rfl, by omega, by rw [HPre0.out]; omega⟩
  have HKX0 := Lib.hid hkx
  clear hkx hfit_
  have hC_ := markAlg_own _ _ n0 n0 z0 _ X0G X0C (fun j => fs0.getD j (0, [])) 1 w16 (by omega) (by rw [← HKX0.out]; omega) HX0_16.out (by omega)
  rw [← HKX0.out] at hC_
  have HC_ := Lib.hid hC_
  clear hC_
  go_wp2_with fail
  refine HC_.out.mono ?_
  rintro e w17 ⟨rfl, o_, b_⟩; clear o_
  have s17 : w16.heap.size ≤ w17.heap.size := b_.size
  have a00_17 : w17.cell? ⟨w.heap.size, 0, none⟩ = some (.int .i64 z0) := cell_o b_ a00_16 (by dsimp only; omega)
  have a01_17 : w17.cell? ⟨w.heap.size, 1, none⟩ = some (.slice a0 n0 c0) := cell_o b_ a01_16 (by dsimp only; omega)
  have x00_17 : w17.cell? ⟨w6.heap.size, 0, none⟩ = some (.int .i64 z0) := cell_o b_ x00_16 (by dsimp only; omega)
  have x01_17 : w17.cell? ⟨w6.heap.size, 1, none⟩ = some (.slice (some ⟨X0g, 0, none⟩) n0 n0) := cell_o b_ x01_16 (by dsimp only; omega)
  have HR_17 := Lib.hid (HR_16.out.kept (kept_only b_ (by omega) (by omega)))
  have HXI1_17 := Lib.hid (HXI1_16.out.kept (kept_only b_ (by omega) (by omega)))
  have HXI2_17 := Lib.hid (HXI2_16.out.kept (kept_only b_ (by omega) (by omega)))
  have HG_17 := Lib.hid (HG_16.out.kept (kept_only b_ (by omega) (by omega)))
  have B17 : Hid (Below w.heap.size w w17) := below_only B16.out b_ (by omega) (by omega)
  clear a00_16 a01_16 x00_16 x01_16 HR_16 HXI1_16 HXI2_16 HG_16 HX0_16 b_
  clear HC_
  have hC_ := markInts_own _ _ n1 n1 (kx0) _ xs1 w17 (by omega) (by omega) HXI1_17.out
  have HC_ := Lib.hid hC_
  clear hC_
  go_wp2_with fail
  refine HC_.out.mono ?_
  rintro e w18 ⟨rfl, o_, b_⟩; clear o_
  have s18 : w17.heap.size ≤ w18.heap.size := b_.size
  have a00_18 : w18.cell? ⟨w.heap.size, 0, none⟩ = some (.int .i64 z0) := cell_o b_ a00_17 (by dsimp only; omega)
  have a01_18 : w18.cell? ⟨w.heap.size, 1, none⟩ = some (.slice a0 n0 c0) := cell_o b_ a01_17 (by dsimp only; omega)
  have x00_18 : w18.cell? ⟨w6.heap.size, 0, none⟩ = some (.int .i64 z0) := cell_o b_ x00_17 (by dsimp only; omega)
  have x01_18 : w18.cell? ⟨w6.heap.size, 1, none⟩ = some (.slice (some ⟨X0g, 0, none⟩) n0 n0) := cell_o b_ x01_17 (by dsimp only; omega)
  have HR_18 := Lib.hid (HR_17.out.kept (kept_only b_ (by omega) (by omega)))
  have HXI2_18 := Lib.hid (HXI2_17.out.kept (kept_only b_ (by omega) (by omega)))
  have HG_18 := Lib.hid (HG_17.out.kept (kept_only b_ (by omega) (by omega)))
  have B18 : Hid (Below w.heap.size w w18) := below_only B17.out b_ (by omega) (by omega)
  clear a00_17 a01_17 x00_17 x01_17 HR_17 HXI2_17 HG_17 HXI1_17 b_
  clear HC_
  have hC_ := markInts_own _ _ n2 n2 (kx0 + (n1 : Int)) _ xs2 w18 (by omega) (by omega) HXI2_18.out
  have HC_ := Lib.hid hC_
  clear hC_
  go_wp2_with fail
  refine HC_.out.mono ?_
  rintro e w19 ⟨rfl, o_, b_⟩; clear o_
  have s19 : w18.heap.size ≤ w19.heap.size := b_.size
  have a00_19 : w19.cell? ⟨w.heap.size, 0, none⟩ = some (.int .i64 z0) := cell_o b_ a00_18 (by dsimp only; omega)
  have a01_19 : w19.cell? ⟨w.heap.size, 1, none⟩ = some (.slice a0 n0 c0) := cell_o b_ a01_18 (by dsimp only; omega)
  have x00_19 : w19.cell? ⟨w6.heap.size, 0, none⟩ = some (.int .i64 z0) := cell_o b_ x00_18 (by dsimp only; omega)
  have x01_19 : w19.cell? ⟨w6.heap.size, 1, none⟩ = some (.slice (some ⟨X0g, 0, none⟩) n0 n0) := cell_o b_ x01_18 (by dsimp only; omega)
  have HR_19 := Lib.hid (HR_18.out.kept (kept_only b_ (by omega) (by omega)))
  have HG_19 := Lib.hid (HG_18.out.kept (kept_only b_ (by omega) (by omega)))
  have B19 : Hid (Below w.heap.size w w19) := below_only B18.out b_ (by omega) (by omega)
  clear a00_18 a01_18 x00_18 x01_18 HR_18 HG_18 HXI2_18 b_
  clear HC_
  have HGV_ := Lib.hid HG_19.out.view
  have hC_ := eqInts_view _ _ _ _ _ _ Gc Rc rn rs w19 HGV_.out HR_19.out (by unfold maxLen; omega)
  have HC_ := Lib.hid hC_
  clear hC_
  go_wp2_with fail
  refine HC_.out.mono ?_
  rintro e w20 ⟨rfl, q_⟩; have b_ := below_drawn (Below.refl w19.heap.size w19) q_; clear q_
  have b20 : Below w19.heap.size w19 w20 := b_
  have s20 : w19.heap.size ≤ w20.heap.size := b20.size
  have a00_20 : w20.cell? ⟨w.heap.size, 0, none⟩ = some (.int .i64 z0) := cell_b b20 a00_19
  have a01_20 : w20.cell? ⟨w.heap.size, 1, none⟩ = some (.slice a0 n0 c0) := cell_b b20 a01_19
  have x00_20 : w20.cell? ⟨w6.heap.size, 0, none⟩ = some (.int .i64 z0) := cell_b b20 x00_19
  have x01_20 : w20.cell? ⟨w6.heap.size, 1, none⟩ = some (.slice (some ⟨X0g, 0, none⟩) n0 n0) := cell_b b20 x01_19
  have HR_20 := Lib.hid (HR_19.out.kept (Kept.of_below b20 (by omega)))
  have HG_20 := Lib.hid (HG_19.out.kept (Kept.of_below b20 (by omega)))
  have B20 : Hid (Below w.heap.size w w20) := below_then B19.out b20
  clear a00_19 a01_19 x00_19 x01_19 HR_19 HG_19 b_
  clear HC_
  clear HGV_
  have hC_ := markInts_own _ _ rn Gc 1 Ga rs w20 (by omega) (by omega) HG_20.out
  have HC_ := Lib.hid hC_
  clear hC_
  go_wp2_with fail
  refine HC_.out.mono ?_
  rintro e w21 ⟨rfl, o_, b_⟩
  have s21 : w20.heap.size ≤ w21.heap.size := b_.size
  have a00_21 : w21.cell? ⟨w.heap.size, 0, none⟩ = some (.int .i64 z0) := cell_o b_ a00_20 (by dsimp only; omega)
  have a01_21 : w21.cell? ⟨w.heap.size, 1, none⟩ = some (.slice a0 n0 c0) := cell_o b_ a01_20 (by dsimp only; omega)
  have x00_21 : w21.cell? ⟨w6.heap.size, 0, none⟩ = some (.int .i64 z0) := cell_o b_ x00_20 (by dsimp only; omega)
  have x01_21 : w21.cell? ⟨w6.heap.size, 1, none⟩ = some (.slice (some ⟨X0g, 0, none⟩) n0 n0) := cell_o b_ x01_20 (by dsimp only; omega)
  have HR_21 := Lib.hid (HR_20.out.kept (kept_only b_ (by omega) (by omega)))
  have B21 : Hid (Below w.heap.size w w21) := below_only B20.out b_ (by omega) (by omega)
  clear a00_20 a01_20 x00_20 x01_20 HR_20 HG_20 b_
  clear HC_
  have HG_21 := Lib.hid o_.view
  clear o_
  have hC_ := heldInts_view _ _ Ga Gc rn 1 w21 (by omega) (by omega) HG_21.out
  have HC_ := Lib.hid hC_
  clear hC_
  go_wp2_with fail
  refine HC_.out.mono ?_
  rintro e w_ ⟨rfl, rfl⟩
  clear HC_
  have hC_ := toAlg_view w.heap.size z0 a0 c0 n0 fs0 w21 (HV0.out.kept (Kept.of_below B21.out (Nat.le_refl _))) B21.out.size hn3_0 HS80.out
  have HC_ := Lib.hid hC_
  clear hC_
  go_wp2_with fail
  refine HC_.out.mono ?_
  rintro e w22 ⟨T0g, rfl, m_⟩; have b_ := m_.2
  have b22 : Below w21.heap.size w21 w22 := b_
  have s22 : w21.heap.size ≤ w22.heap.size := b22.size
  have a00_22 : w22.cell? ⟨w.heap.size, 0, none⟩ = some (.int .i64 z0) := cell_b b22 a00_21
  have a01_22 : w22.cell? ⟨w.heap.size, 1, none⟩ = some (.slice a0 n0 c0) := cell_b b22 a01_21
  have x00_22 : w22.cell? ⟨w6.heap.size, 0, none⟩ = some (.int .i64 z0) := cell_b b22 x00_21
  have x01_22 : w22.cell? ⟨w6.heap.size, 1, none⟩ = some (.slice (some ⟨X0g, 0, none⟩) n0 n0) := cell_b b22 x01_21
  have HR_22 := Lib.hid (HR_21.out.kept (Kept.of_below b22 (by omega)))
  have HG_22 := Lib.hid (HG_21.out.kept (Kept.of_below b22 (by omega)))
  have B22 : Hid (Below w.heap.size w w22) := below_then B21.out b22
  clear a00_21 a01_21 x00_21 x01_21 HR_21 HG_21 b_
  clear HC_
  have m_ := m_.view hl0.out
  have HT0_22 := Lib.hid m_
  clear m_
  have hC_ := toInts_view 0 w.heap.size a1 c1 n1 xs1 w22 (HV1.out.kept (Kept.of_below B22.out (Nat.le_refl _))) B22.out.size (by omega)
  have HC_ := Lib.hid hC_
  clear hC_
  go_wp2_with fail
  refine HC_.out.mono ?_
  rintro e w23 ⟨rfl, o_, b_⟩
  have b23 : Below w22.heap.size w22 w23 := b_
  have s23 : w22.heap.size ≤ w23.heap.size := b23.size
  have a00_23 : w23.cell? ⟨w.heap.size, 0, none⟩ = some (.int .i64 z0) := cell_b b23 a00_22
  have a01_23 : w23.cell? ⟨w.heap.size, 1, none⟩ = some (.slice a0 n0 c0) := cell_b b23 a01_22
  have x00_23 : w23.cell? ⟨w6.heap.size, 0, none⟩ = some (.int .i64 z0) := cell_b b23 x00_22
  have x01_23 : w23.cell? ⟨w6.heap.size, 1, none⟩ = some (.slice (some ⟨X0g, 0, none⟩) n0 n0) := cell_b b23 x01_22
  have HR_23 := Lib.hid (HR_22.out.kept (Kept.of_below b23 (by omega)))
  have HG_23 := Lib.hid (HG_22.out.kept (Kept.of_below b23 (by omega)))
  have HT0_23 := Lib.hid (HT0_22.out.kept (Kept.of_below b23 (by omega)))
  have B23 : Hid (Below w.heap.size w w23) := below_then B22.out b23
  clear a00_22 a01_22 x00_22 x01_22 HR_22 HG_22 HT0_22 b_
  clear HC_
  have HTI1_23 := Lib.hid (OwnsInts.of_row o_).view
  clear o_
  have hC_ := toInts_view 0 w.heap.size a2 c2 n2 xs2 w23 (HV2.out.kept (Kept.of_below B23.out (Nat.le_refl _))) B23.out.size (by omega)
  have HC_ := Lib.hid hC_
  clear hC_
  go_wp2_with fail
  refine HC_.out.mono ?_
  rintro e w24 ⟨rfl, o_, b_⟩
  have b24 : Below w23.heap.size w23 w24 := b_
  have s24 : w23.heap.size ≤ w24.heap.size := b24.size
  have a00_24 : w24.cell? ⟨w.heap.size, 0, none⟩ = some (.int .i64 z0) := cell_b b24 a00_23
  have a01_24 : w24.cell? ⟨w.heap.size, 1, none⟩ = some (.slice a0 n0 c0) := cell_b b24 a01_23
  have x00_24 : w24.cell? ⟨w6.heap.size, 0, none⟩ = some (.int .i64 z0) := cell_b b24 x00_23
  have x01_24 : w24.cell? ⟨w6.heap.size, 1, none⟩ = some (.slice (some ⟨X0g, 0, none⟩) n0 n0) := cell_b b24 x01_23
  have HR_24 := Lib.hid (HR_23.out.kept (Kept.of_below b24 (by omega)))
  have HG_24 := Lib.hid (HG_23.out.kept (Kept.of_below b24 (by omega)))
  have HT0_24 := Lib.hid (HT0_23.out.kept (Kept.of_below b24 (by omega)))
  have HTI1_24 := Lib.hid (HTI1_23.out.kept (Kept.of_below b24 (by omega)))
  have B24 : Hid (Below w.heap.size w w24) := below_then B23.out b24
  clear a00_23 a01_23 x00_23 x01_23 HR_23 HG_23 HT0_23 HTI1_23 b_
  clear HC_
  have HTI2_24 := Lib.hid (OwnsInts.of_row o_).view
  clear o_
  have hC_ := implPushCongruence _ _ z0 _ n0 n0 fs0 _ _ _ n1 n1 xs1 _ _ _ n2 n2 xs2 w24 HT0_24.out (by omega) HSM0.out HTI1_24.out (by omega) (by unfold maxLen; omega) HTI2_24.out (by omega) (by unfold maxLen; omega)
  simp only [HVal.out] at hC_
  have HC_ := Lib.hid hC_
  clear hC_
  go_wp2_with fail
  refine HC_.out.mono ?_
  rintro e w25 ⟨Ua, Un, Uc, rfl, hq_, o_, b_⟩
  have b25 : Below w24.heap.size w24 w25 := b_
  have s25 : w24.heap.size ≤ w25.heap.size := b25.size
  have a00_25 : w25.cell? ⟨w.heap.size, 0, none⟩ = some (.int .i64 z0) := cell_b b25 a00_24
  have a01_25 : w25.cell? ⟨w.heap.size, 1, none⟩ = some (.slice a0 n0 c0) := cell_b b25 a01_24
  have x00_25 : w25.cell? ⟨w6.heap.size, 0, none⟩ = some (.int .i64 z0) := cell_b b25 x00_24
  have x01_25 : w25.cell? ⟨w6.heap.size, 1, none⟩ = some (.slice (some ⟨X0g, 0, none⟩) n0 n0) := cell_b b25 x01_24
  have HR_25 := Lib.hid (HR_24.out.kept (Kept.of_below b25 (by omega)))
  have HG_25 := Lib.hid (HG_24.out.kept (Kept.of_below b25 (by omega)))
  have HT0_25 := Lib.hid (HT0_24.out.kept (Kept.of_below b25 (by omega)))
  have HTI1_25 := Lib.hid (HTI1_24.out.kept (Kept.of_below b25 (by omega)))
  have HTI2_25 := Lib.hid (HTI2_24.out.kept (Kept.of_below b25 (by omega)))
  have B25 : Hid (Below w.heap.size w w25) := below_then B24.out b25
  clear a00_24 a01_24 x00_24 x01_24 HR_24 HG_24 HT0_24 HTI1_24 HTI2_24 b_
  clear HC_
  obtain rfl : rn = Un := HRn.out.trans hq_.symm
  have HU_25 := Lib.hid o_.view
  clear o_ hq_
  clear HT0_25
  clear HTI1_25
  clear HTI2_25
  have hC_ := eqInts_view _ _ _ _ _ _ Uc Rc rn rs w25 HU_25.out HR_25.out (by unfold maxLen; omega)
  have HC_ := Lib.hid hC_
  clear hC_
  go_wp2_with fail
  refine HC_.out.mono ?_
  rintro e w26 ⟨rfl, q_⟩; have b_ := below_drawn (Below.refl w25.heap.size w25) q_; clear q_
  have b26 : Below w25.heap.size w25 w26 := b_
  have s26 : w25.heap.size ≤ w26.heap.size := b26.size
  have a00_26 : w26.cell? ⟨w.heap.size, 0, none⟩ = some (.int .i64 z0) := cell_b b26 a00_25
  have a01_26 : w26.cell? ⟨w.heap.size, 1, none⟩ = some (.slice a0 n0 c0) := cell_b b26 a01_25
  have x00_26 : w26.cell? ⟨w6.heap.size, 0, none⟩ = some (.int .i64 z0) := cell_b b26 x00_25
  have x01_26 : w26.cell? ⟨w6.heap.size, 1, none⟩ = some (.slice (some ⟨X0g, 0, none⟩) n0 n0) := cell_b b26 x01_25
  have HR_26 := Lib.hid (HR_25.out.kept (Kept.of_below b26 (by omega)))
  have HG_26 := Lib.hid (HG_25.out.kept (Kept.of_below b26 (by omega)))
  have HU_26 := Lib.hid (HU_25.out.kept (Kept.of_below b26 (by omega)))
  have B26 : Hid (Below w.heap.size w w26) := below_then B25.out b26
  clear a00_25 a01_25 x00_25 x01_25 HR_25 HG_25 HU_25 b_
  clear HC_
  have hC_ := heldInts_view _ _ Ga Gc rn 1 w26 (by omega) (by omega) HG_26.out
  have HC_ := Lib.hid hC_
  clear hC_
  go_wp2_with fail
  refine HC_.out.mono ?_
  rintro e w_ ⟨rfl, rfl⟩
  clear HC_
  go_wp2_with fail
  go_ret
  exact ⟨rfl, B26.out⟩

theorem lawPushCongruence (w : World) (z0 : Int) (a0 : Option Addr) (n0 c0 : Nat) (fs0 : List OpD) (wz0 : (Lit.int .i64 z0).wf = true) (hn0 : n0 ≤ maxLen) (ht0 : ∀ (j : Nat) (f : OpD), fs0[j]? = some f → f.2.length ≤ maxLen) (hv0 : OView w 0 w.heap.size a0 n0 fs0) (a1 : Option Addr) (n1 c1 : Nat) (xs1 : List Int) (hc1 : n1 ≤ c1) (hm1 : c1 ≤ maxLen) (hv1 : IView w 0 w.heap.size a1 n1 xs1) (a2 : Option Addr) (n2 c2 : Nat) (xs2 : List Int) (hc2 : n2 ≤ c2) (hm2 : c2 ≤ maxLen) (hv2 : IView w 0 w.heap.size a2 n2 xs2) :
    Calls Try.prog 13 #[.agg #[.int .i64 z0, .slice a0 n0 c0], .slice a1 n1 c1, .slice a2 n2 c2] w fun e w' => e = .returned (.bool true) ∧ Below w.heap.size w w' := by
  rcases Nat.lt_or_ge 1048576 n1 with hb1 | hb1
  · exact lawPushCongruence_big1 w z0 a0 n0 c0 fs0 wz0 hn0 ht0 hv0 a1 n1 c1 xs1 hc1 hm1 hv1 a2 n2 c2 xs2 hc2 hm2 hv2  hb1
  rcases Nat.lt_or_ge 1048576 n2 with hb2 | hb2
  · exact lawPushCongruence_big2 w z0 a0 n0 c0 fs0 wz0 hn0 ht0 hv0 a1 n1 c1 xs1 hc1 hm1 hv1 a2 n2 c2 xs2 hc2 hm2 hv2 hb1 hb2
  refine (Classical.em (((n0 + osum fs0 : Nat) : Int) ≤ 1048576)).elim (fun hfit0 => ?_) (fun hfit0 => lawPushCongruence_no0 w z0 a0 n0 c0 fs0 wz0 hn0 ht0 hv0 a1 n1 c1 xs1 hc1 hm1 hv1 a2 n2 c2 xs2 hc2 hm2 hv2 hb1 hb2  hfit0)
  exact lawPushCongruence_fit w z0 a0 n0 c0 fs0 wz0 hn0 ht0 hv0 a1 n1 c1 xs1 hc1 hm1 hv1 a2 n2 c2 xs2 hc2 hm2 hv2 hb1 hb2  hfit0 (smallPushCongruence z0 fs0 xs1 xs2)

end Go.Proofs.Ytcmjkfcgekmomaa
