/-
  The walk of the law FnExactFromBlocks: FnExactFromBlocks: at every argument the function answers as its model, writes into no argument, and its answer owns its memory. Conditions: the lengths are at most maxLen.
-/
import Derived.Test.YtgejpkpilnfddaaStep
import Derived.Deep.DrawnRows
import Derived.Deep.RegionHeld3
import Derived.Test.YtgejpkpilnfddaaFbI
import Derived.Test.YtgejpkpilnfddaaFbS
import Derived.Test.YtgejpkpilnfddaaLLw
namespace Go.Proofs.Ytgejpkpilnfddaa
open Go.RowKit
set_option linter.unusedVariables false
set_option linter.unusedSimpArgs false
attribute [local go_sem ↓] Go.wp_at_zero Go.wp_at_succ

set_option maxHeartbeats 400000 in
theorem lawFromBlocks_no1 (w : World) (z0 : Int) (wz0 : (Lit.int .i64 z0).wf = true) (a1 : Option Addr) (n1 c1 : Nat) (ls1 : List (List Int)) (hc1 : n1 ≤ c1) (hm1 : c1 ≤ maxLen) (hv1 : LView w 0 w.heap.size a1 n1 ls1) (hq1 : ∀ xs, xs ∈ ls1 → ∀ x, x ∈ xs → (Lit.int .i64 x).wf = true) (hfit1 : ¬ ((n1 + lsum ls1 : Nat) : Int) ≤ 1048576) :
    Calls Try.prog 5 #[.int .i64 z0, .slice a1 n1 c1] w fun e w' => e = .returned (.bool true) ∧ Below w.heap.size w w' := by
  have hB0 := (Below.refl w.heap.size w)
  have hsz1 := fun (W : World) (hW : Below w.heap.size w W) => szLL_any w.heap.size a1 c1 n1 ls1 (1048576) W (hv1.kept (Kept.of_below hW (Nat.le_refl _))) (Nat.le_trans hc1 hm1) (by omega) (by omega) hW.size
  simp only [szI_no (show ¬ ((n1 + lsum ls1 : Nat) : Int) ≤ 1048576 by omega)] at hsz1
  have HSz1 := Lib.hid hsz1
  clear hsz1
  have HB0 := Lib.hid hB0
  clear hB0 wz0 hm1 hv1 hq1 hc1 hfit1
  go_enter Try.func5, Try.ntmps5
  go_wp2_with fail
  refine (HSz1.out _ HB0.out).mono ?_
  rintro e v1 ⟨rfl, b1⟩
  have B1 := Lib.hid (below_then HB0.out b1)
  clear b1
  go_wp2_with fail
  go_ret
  exact ⟨rfl, B1.out⟩

set_option maxRecDepth 100000 in
set_option maxHeartbeats 4000000 in
theorem lawFromBlocks_fit (w : World) (z0 : Int) (wz0 : (Lit.int .i64 z0).wf = true) (a1 : Option Addr) (n1 c1 : Nat) (ls1 : List (List Int)) (hc1 : n1 ≤ c1) (hm1 : c1 ≤ maxLen) (hv1 : LView w 0 w.heap.size a1 n1 ls1) (hq1 : ∀ xs, xs ∈ ls1 → ∀ x, x ∈ xs → (Lit.int .i64 x).wf = true) (hfit1 : ((n1 + lsum ls1 : Nat) : Int) ≤ 1048576) (hres : (valFromBlocks z0 ls1).1.length ≤ 4194304) :
    Calls Try.prog 5 #[.int .i64 z0, .slice a1 n1 c1] w fun e w' => e = .returned (.bool true) ∧ Below w.heap.size w w' := by
  obtain ⟨hn1_1, hn3_1, hs81, hsM1⟩ := smallL_of (show ((n1 + lsum ls1 : Nat) : Int) ≤ 1048576 by omega)
  have hB0 := (Below.refl w.heap.size w)
  have hsz1 := fun (W : World) (hW : Below w.heap.size w W) => szLL_any w.heap.size a1 c1 n1 ls1 (1048576) W (hv1.kept (Kept.of_below hW (Nat.le_refl _))) (Nat.le_trans hc1 hm1) (by omega) (by omega) hW.size
  obtain ⟨l1, hl_1, hl_1a, hl_1b⟩ : ∃ l : Int, l = 1048576 - ((n1 + lsum ls1 : Nat) : Int) ∧ 0 ≤ l ∧ l ≤ 1048576 := ⟨_, rfl, by omega, by omega⟩
  simp only [szI_yes (show ((n1 + lsum ls1 : Nat) : Int) ≤ 1048576 by omega), ← hl_1] at hsz1
  have HSz1 := Lib.hid hsz1
  clear hsz1
  have HB0 := Lib.hid hB0
  have HV1 := Lib.hid hv1
  have hl1 := Lib.hid hv1.1
  have HQ1 := Lib.hid hq1
  have HS81 := Lib.hid hs81
  have HSM1 := Lib.hid hsM1
  have HFit1 : Hid (((n1 + lsum ls1 : Nat) : Int) ≤ 1048576) := (show ((n1 + lsum ls1 : Nat) : Int) ≤ 1048576 by omega)
  have HW0 := Lib.hid wz0
  obtain ⟨⟨rs, ok⟩, hval⟩ : ∃ p, valFromBlocks z0 ls1 = p := ⟨_, rfl⟩
  simp only [hval] at hres
  have HRes := Lib.hid hres
  have hrl : rs.length ≤ 4194304 := hres
  obtain ⟨rn, hrn⟩ : ∃ rn, rn = rs.length := ⟨_, rfl⟩
  rw [← hrn] at hrl
  have HRn := Lib.hid hrn
  have HVal := Lib.hid hval
  clear hB0 hval wz0 hm1 hv1 hq1 hc1 hs81 hsM1 hfit1 hl_1 hres hrn
  have hne_ok : (ok != ok) = false := by cases ok <;> rfl
  go_enter Try.func5, Try.ntmps5
  go_wp2_with fail
  refine (HSz1.out _ (Below.refl w.heap.size w)).mono ?_
  rintro e w1 ⟨rfl, b_⟩
  have b1 : Below w.heap.size w w1 := b_
  have s1 : w.heap.size ≤ w1.heap.size := b1.size
  have B1 : Hid (Below w.heap.size w w1) := b1
  clear b_
  have hC_ := toLL_view w.heap.size a1 c1 n1 ls1 w1 (HV1.out.kept (Kept.of_below B1.out (Nat.le_refl _))) B1.out.size hn3_1 HS81.out
  have HC_ := Lib.hid hC_
  clear hC_
  go_wp2_with fail
  refine HC_.out.mono ?_
  rintro e w2 ⟨S1g, rfl, m_⟩; have b_ := m_.2
  have b2 : Below w1.heap.size w1 w2 := b_
  have s2 : w1.heap.size ≤ w2.heap.size := b2.size
  have B2 : Hid (Below w.heap.size w w2) := below_then B1.out b2
  clear b_
  clear HC_
  have m_ := m_.view hl1.out
  have HS1_2 := Lib.hid m_
  clear m_
  have hC_ := specFromBlocks z0 _ _ _ n1 n1 ls1 w2 HW0.out HS1_2.out (by omega) (Nat.le_refl _) (by unfold maxLen; omega) HQ1.out
  simp only [HVal.out] at hC_
  have HC_ := Lib.hid hC_
  clear hC_
  go_wp2_with fail
  refine HC_.out.mono ?_
  rintro e w3 ⟨Ra, Rn, Rc, rfl, hq_, o_, b_⟩
  have b3 : Below w2.heap.size w2 w3 := b_
  have s3 : w2.heap.size ≤ w3.heap.size := b3.size
  have HS1_3 := Lib.hid (HS1_2.out.kept (Kept.of_below b3 (by omega)))
  have B3 : Hid (Below w.heap.size w w3) := below_then B2.out b3
  clear HS1_2 b_
  clear HC_
  obtain rfl : rn = Rn := HRn.out.trans hq_.symm
  have HR_3 := Lib.hid o_.view
  clear o_ hq_
  clear HS1_3
  have hC_ := toLL_view w.heap.size a1 c1 n1 ls1 w3 (HV1.out.kept (Kept.of_below B3.out (Nat.le_refl _))) B3.out.size hn3_1 HS81.out
  have HC_ := Lib.hid hC_
  clear hC_
  go_wp2_with fail
  refine HC_.out.mono ?_
  rintro e w4 ⟨X1g, rfl, m_⟩; have b_ := m_.2
  have b4 : Below w3.heap.size w3 w4 := b_
  have s4 : w3.heap.size ≤ w4.heap.size := b4.size
  have HR_4 := Lib.hid (HR_3.out.kept (Kept.of_below b4 (by omega)))
  have B4 : Hid (Below w.heap.size w w4) := below_then B3.out b4
  clear HR_3 b_
  clear HC_
  obtain ⟨⟨X1G, X1C, m_⟩, _⟩ := m_
  have HX1_4 := Lib.hid m_
  clear m_
  have h_ := HX1_4.out.view
  rw [← hl1.out, map_range_getL, hl1.out] at h_
  have HXV1_ := Lib.hid h_
  clear h_
  have hC_ := implFromBlocks z0 _ _ _ n1 n1 ls1 w4 HW0.out HXV1_.out (by omega) (Nat.le_refl _) (by unfold maxLen; omega) HQ1.out
  simp only [HVal.out] at hC_
  have HC_ := Lib.hid hC_
  clear hC_
  go_wp2_with fail
  refine HC_.out.mono ?_
  rintro e w5 ⟨Ga, Gn, Gc, rfl, hq_, o_, b_⟩
  have b5 : Below w4.heap.size w4 w5 := b_
  have s5 : w4.heap.size ≤ w5.heap.size := b5.size
  have HR_5 := Lib.hid (HR_4.out.kept (Kept.of_below b5 (by omega)))
  have HX1_5 := Lib.hid (HX1_4.out.kept (Kept.of_below b5 (by omega)))
  have B5 : Hid (Below w.heap.size w w5) := below_then B4.out b5
  clear HR_4 HX1_4 b_
  clear HC_
  obtain rfl : rn = Gn := HRn.out.trans hq_.symm
  have HG_5 := Lib.hid o_
  clear o_ hq_
  clear HXV1_
  have HGV_ := Lib.hid HG_5.out.view
  have hC_ := eqInts_view _ _ _ _ _ _ Gc Rc rn rs w5 HGV_.out HR_5.out (by unfold maxLen; omega)
  have HC_ := Lib.hid hC_
  clear hC_
  go_wp2_with fail
  refine HC_.out.mono ?_
  rintro e w6 ⟨rfl, q_⟩; have b_ := below_drawn (Below.refl w5.heap.size w5) q_; clear q_
  have b6 : Below w5.heap.size w5 w6 := b_
  have s6 : w5.heap.size ≤ w6.heap.size := b6.size
  have HR_6 := Lib.hid (HR_5.out.kept (Kept.of_below b6 (by omega)))
  have HX1_6 := Lib.hid (HX1_5.out.kept (Kept.of_below b6 (by omega)))
  have HG_6 := Lib.hid (HG_5.out.kept (Kept.of_below b6 (by omega)))
  have B6 : Hid (Below w.heap.size w w6) := below_then B5.out b6
  clear HR_5 HX1_5 HG_5 b_
  clear HC_
  clear HGV_
  have hC_ := toLL_view w.heap.size a1 c1 n1 ls1 w6 (HV1.out.kept (Kept.of_below B6.out (Nat.le_refl _))) B6.out.size hn3_1 HS81.out
  have HC_ := Lib.hid hC_
  clear hC_
  go_wp2_with fail
  refine HC_.out.mono ?_
  rintro e w7 ⟨Y1g, rfl, m_⟩; have b_ := m_.2
  have b7 : Below w6.heap.size w6 w7 := b_
  have s7 : w6.heap.size ≤ w7.heap.size := b7.size
  have HR_7 := Lib.hid (HR_6.out.kept (Kept.of_below b7 (by omega)))
  have HX1_7 := Lib.hid (HX1_6.out.kept (Kept.of_below b7 (by omega)))
  have HG_7 := Lib.hid (HG_6.out.kept (Kept.of_below b7 (by omega)))
  have B7 : Hid (Below w.heap.size w w7) := below_then B6.out b7
  clear HR_6 HX1_6 HG_6 b_
  clear HC_
  have m_ := m_.view hl1.out
  have HY1_7 := Lib.hid m_
  clear m_
  have h_ := HX1_7.out.view
  rw [← hl1.out, map_range_getL, hl1.out] at h_
  have HXV1_ := Lib.hid h_
  clear h_
  have hC_ := eqLL_view _ _ _ _ _ _ n1 n1 n1 ls1 w7 HXV1_.out HY1_7.out (by unfold maxLen; omega) HSM1.out
  have HC_ := Lib.hid hC_
  clear hC_
  go_wp2_with fail
  refine HC_.out.mono ?_
  rintro e w8 ⟨rfl, q_⟩; have b_ := below_drawn (Below.refl w7.heap.size w7) q_; clear q_
  have b8 : Below w7.heap.size w7 w8 := b_
  have s8 : w7.heap.size ≤ w8.heap.size := b8.size
  have HR_8 := Lib.hid (HR_7.out.kept (Kept.of_below b8 (by omega)))
  have HX1_8 := Lib.hid (HX1_7.out.kept (Kept.of_below b8 (by omega)))
  have HG_8 := Lib.hid (HG_7.out.kept (Kept.of_below b8 (by omega)))
  have HY1_8 := Lib.hid (HY1_7.out.kept (Kept.of_below b8 (by omega)))
  have B8 : Hid (Below w.heap.size w w8) := below_then B7.out b8
  clear HR_7 HX1_7 HG_7 HY1_7 b_
  clear HC_
  clear HXV1_
  clear HY1_8
  have HPre1 : Hid (preLL (fun j => ls1.getD j []) n1 = lsum ls1) := by have h_ := preLL_fs ls1; rw [hl1.out] at h_; exact h_
  have hfit_ := HFit1.out
  obtain ⟨kx1, hkx, hkx01, hkx11⟩ : ∃ kx : Int, kx = 1 + (preLL (fun j => ls1.getD j []) n1 : Int) ∧ 0 ≤ kx ∧ kx ≤ 1048577 := ⟨_, rfl, by omega, by rw [HPre1.out]; omega⟩
  have HKX1 := Lib.hid hkx
  clear hkx hfit_
  have hC_ := markLL_own _ _ n1 n1 _ X1G X1C (fun j => ls1.getD j []) 1 w8 (by omega) (by rw [← HKX1.out]; omega) HX1_8.out (by omega)
  rw [← HKX1.out] at hC_
  have HC_ := Lib.hid hC_
  clear hC_
  go_wp2_with fail
  refine HC_.out.mono ?_
  rintro e w9 ⟨rfl, o_, b_⟩; clear o_
  have s9 : w8.heap.size ≤ w9.heap.size := b_.size
  have HR_9 := Lib.hid (HR_8.out.kept (kept_only b_ (by omega) (by omega)))
  have HG_9 := Lib.hid (HG_8.out.kept (kept_only b_ (by omega) (by omega)))
  have B9 : Hid (Below w.heap.size w w9) := below_only B8.out b_ (by omega) (by omega)
  clear HR_8 HG_8 HX1_8 b_
  clear HC_
  have HGV_ := Lib.hid HG_9.out.view
  have hC_ := eqInts_view _ _ _ _ _ _ Gc Rc rn rs w9 HGV_.out HR_9.out (by unfold maxLen; omega)
  have HC_ := Lib.hid hC_
  clear hC_
  go_wp2_with fail
  refine HC_.out.mono ?_
  rintro e w10 ⟨rfl, q_⟩; have b_ := below_drawn (Below.refl w9.heap.size w9) q_; clear q_
  have b10 : Below w9.heap.size w9 w10 := b_
  have s10 : w9.heap.size ≤ w10.heap.size := b10.size
  have HR_10 := Lib.hid (HR_9.out.kept (Kept.of_below b10 (by omega)))
  have HG_10 := Lib.hid (HG_9.out.kept (Kept.of_below b10 (by omega)))
  have B10 : Hid (Below w.heap.size w w10) := below_then B9.out b10
  clear HR_9 HG_9 b_
  clear HC_
  clear HGV_
  have hC_ := markInts_own _ _ rn Gc 1 Ga rs w10 (by omega) (by omega) HG_10.out
  have HC_ := Lib.hid hC_
  clear hC_
  go_wp2_with fail
  refine HC_.out.mono ?_
  rintro e w11 ⟨rfl, o_, b_⟩
  have s11 : w10.heap.size ≤ w11.heap.size := b_.size
  have HR_11 := Lib.hid (HR_10.out.kept (kept_only b_ (by omega) (by omega)))
  have B11 : Hid (Below w.heap.size w w11) := below_only B10.out b_ (by omega) (by omega)
  clear HR_10 HG_10 b_
  clear HC_
  have HG_11 := Lib.hid o_.view
  clear o_
  have hC_ := heldInts_view _ _ Ga Gc rn 1 w11 (by omega) (by omega) HG_11.out
  have HC_ := Lib.hid hC_
  clear hC_
  go_wp2_with fail
  refine HC_.out.mono ?_
  rintro e w_ ⟨rfl, rfl⟩
  clear HC_
  have hC_ := toLL_view w.heap.size a1 c1 n1 ls1 w11 (HV1.out.kept (Kept.of_below B11.out (Nat.le_refl _))) B11.out.size hn3_1 HS81.out
  have HC_ := Lib.hid hC_
  clear hC_
  go_wp2_with fail
  refine HC_.out.mono ?_
  rintro e w12 ⟨T1g, rfl, m_⟩; have b_ := m_.2
  have b12 : Below w11.heap.size w11 w12 := b_
  have s12 : w11.heap.size ≤ w12.heap.size := b12.size
  have HR_12 := Lib.hid (HR_11.out.kept (Kept.of_below b12 (by omega)))
  have HG_12 := Lib.hid (HG_11.out.kept (Kept.of_below b12 (by omega)))
  have B12 : Hid (Below w.heap.size w w12) := below_then B11.out b12
  clear HR_11 HG_11 b_
  clear HC_
  have m_ := m_.view hl1.out
  have HT1_12 := Lib.hid m_
  clear m_
  have hC_ := implFromBlocks z0 _ _ _ n1 n1 ls1 w12 HW0.out HT1_12.out (by omega) (Nat.le_refl _) (by unfold maxLen; omega) HQ1.out
  simp only [HVal.out] at hC_
  have HC_ := Lib.hid hC_
  clear hC_
  go_wp2_with fail
  refine HC_.out.mono ?_
  rintro e w13 ⟨Ua, Un, Uc, rfl, hq_, o_, b_⟩
  have b13 : Below w12.heap.size w12 w13 := b_
  have s13 : w12.heap.size ≤ w13.heap.size := b13.size
  have HR_13 := Lib.hid (HR_12.out.kept (Kept.of_below b13 (by omega)))
  have HG_13 := Lib.hid (HG_12.out.kept (Kept.of_below b13 (by omega)))
  have HT1_13 := Lib.hid (HT1_12.out.kept (Kept.of_below b13 (by omega)))
  have B13 : Hid (Below w.heap.size w w13) := below_then B12.out b13
  clear HR_12 HG_12 HT1_12 b_
  clear HC_
  obtain rfl : rn = Un := HRn.out.trans hq_.symm
  have HU_13 := Lib.hid o_.view
  clear o_ hq_
  clear HT1_13
  have hC_ := eqInts_view _ _ _ _ _ _ Uc Rc rn rs w13 HU_13.out HR_13.out (by unfold maxLen; omega)
  have HC_ := Lib.hid hC_
  clear hC_
  go_wp2_with fail
  refine HC_.out.mono ?_
  rintro e w14 ⟨rfl, q_⟩; have b_ := below_drawn (Below.refl w13.heap.size w13) q_; clear q_
  have b14 : Below w13.heap.size w13 w14 := b_
  have s14 : w13.heap.size ≤ w14.heap.size := b14.size
  have HR_14 := Lib.hid (HR_13.out.kept (Kept.of_below b14 (by omega)))
  have HG_14 := Lib.hid (HG_13.out.kept (Kept.of_below b14 (by omega)))
  have HU_14 := Lib.hid (HU_13.out.kept (Kept.of_below b14 (by omega)))
  have B14 : Hid (Below w.heap.size w w14) := below_then B13.out b14
  clear HR_13 HG_13 HU_13 b_
  clear HC_
  have hC_ := heldInts_view _ _ Ga Gc rn 1 w14 (by omega) (by omega) HG_14.out
  have HC_ := Lib.hid hC_
  clear hC_
  go_wp2_with fail
  refine HC_.out.mono ?_
  rintro e w_ ⟨rfl, rfl⟩
  clear HC_
  go_wp2_with fail
  go_ret
  exact ⟨rfl, B14.out⟩

theorem lawFromBlocks (w : World) (z0 : Int) (wz0 : (Lit.int .i64 z0).wf = true) (a1 : Option Addr) (n1 c1 : Nat) (ls1 : List (List Int)) (hc1 : n1 ≤ c1) (hm1 : c1 ≤ maxLen) (hv1 : LView w 0 w.heap.size a1 n1 ls1) (hq1 : ∀ xs, xs ∈ ls1 → ∀ x, x ∈ xs → (Lit.int .i64 x).wf = true) :
    Calls Try.prog 5 #[.int .i64 z0, .slice a1 n1 c1] w fun e w' => e = .returned (.bool true) ∧ Below w.heap.size w w' := by
  refine (Classical.em (((n1 + lsum ls1 : Nat) : Int) ≤ 1048576)).elim (fun hfit1 => ?_) (fun hfit1 => lawFromBlocks_no1 w z0 wz0 a1 n1 c1 ls1 hc1 hm1 hv1 hq1   hfit1)
  exact lawFromBlocks_fit w z0 wz0 a1 n1 c1 ls1 hc1 hm1 hv1 hq1   hfit1 (smallFromBlocks z0 ls1)

end Go.Proofs.Ytgejpkpilnfddaa
