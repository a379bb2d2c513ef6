/-
  The walk of the law FnExactIsFiner: FnExactIsFiner: at every argument the function answers as its model, writes into no argument, and its answer owns its memory. Conditions: the lengths are at most maxLen.
-/
import Derived.Test.YtgejpkpilnfddaaStep
import Derived.Deep.DrawnRows
import Derived.Deep.RegionHeld3
import Derived.Test.YtgejpkpilnfddaaPartN
import Derived.Test.YtgejpkpilnfddaaPartP
namespace Go.Proofs.Ytgejpkpilnfddaa
open Go.RowKit
set_option linter.unusedVariables false
set_option linter.unusedSimpArgs false
attribute [local go_sem ↓] Go.wp_at_zero Go.wp_at_succ

theorem lawIsFiner_big1 (w : World) (z0 : Int) (wz0 : (Lit.int .i64 z0).wf = true) (a1 : Option Addr) (n1 c1 : Nat) (xs1 : List Int) (hc1 : n1 ≤ c1) (hm1 : c1 ≤ maxLen) (hv1 : IView w 0 w.heap.size a1 n1 xs1) (a2 : Option Addr) (n2 c2 : Nat) (xs2 : List Int) (hc2 : n2 ≤ c2) (hm2 : c2 ≤ maxLen) (hv2 : IView w 0 w.heap.size a2 n2 xs2) (hb : 1048576 < n1) :
    Calls Try.prog 6 #[.int .i64 z0, .slice a1 n1 c1, .slice a2 n2 c2] w fun e w' => e = .returned (.bool true) ∧ Below w.heap.size w w' := by
  have hx : n1 ≤ 9223372036854775807 := by unfold maxLen at hm1; omega
  have hB0 := Lib.hid (Below.refl w.heap.size w)
  clear wz0 hm1 hv1 hm2 hv2
  go_enter Try.func6, Try.ntmps6
  go_wp2
  go_ret
  exact ⟨rfl, hB0.out⟩

theorem lawIsFiner_big2 (w : World) (z0 : Int) (wz0 : (Lit.int .i64 z0).wf = true) (a1 : Option Addr) (n1 c1 : Nat) (xs1 : List Int) (hc1 : n1 ≤ c1) (hm1 : c1 ≤ maxLen) (hv1 : IView w 0 w.heap.size a1 n1 xs1) (a2 : Option Addr) (n2 c2 : Nat) (xs2 : List Int) (hc2 : n2 ≤ c2) (hm2 : c2 ≤ maxLen) (hv2 : IView w 0 w.heap.size a2 n2 xs2) (hb1 : n1 ≤ 1048576) (hb : 1048576 < n2) :
    Calls Try.prog 6 #[.int .i64 z0, .slice a1 n1 c1, .slice a2 n2 c2] w fun e w' => e = .returned (.bool true) ∧ Below w.heap.size w w' := by
  have hx : n2 ≤ 9223372036854775807 := by unfold maxLen at hm2; omega
  have hB0 := Lib.hid (Below.refl w.heap.size w)
  clear wz0 hm1 hv1 hm2 hv2
  go_enter Try.func6, Try.ntmps6
  go_wp2
  go_ret
  exact ⟨rfl, hB0.out⟩

set_option maxRecDepth 100000 in
set_option maxHeartbeats 4000000 in
theorem lawIsFiner_fit (w : World) (z0 : Int) (wz0 : (Lit.int .i64 z0).wf = true) (a1 : Option Addr) (n1 c1 : Nat) (xs1 : List Int) (hc1 : n1 ≤ c1) (hm1 : c1 ≤ maxLen) (hv1 : IView w 0 w.heap.size a1 n1 xs1) (a2 : Option Addr) (n2 c2 : Nat) (xs2 : List Int) (hc2 : n2 ≤ c2) (hm2 : c2 ≤ maxLen) (hv2 : IView w 0 w.heap.size a2 n2 xs2) (hb1 : n1 ≤ 1048576) (hb2 : n2 ≤ 1048576) :
    Calls Try.prog 6 #[.int .i64 z0, .slice a1 n1 c1, .slice a2 n2 c2] w fun e w' => e = .returned (.bool true) ∧ Below w.heap.size w w' := by
  have hB0 := (Below.refl w.heap.size w)
  have HB0 := Lib.hid hB0
  have HV1 := Lib.hid hv1
  have hl1 := Lib.hid hv1.1
  have HV2 := Lib.hid hv2
  have hl2 := Lib.hid hv2.1
  have HW0 := Lib.hid wz0
  obtain ⟨⟨r, ok⟩, hval⟩ : ∃ p, valIsFiner z0 xs1 xs2 = p := ⟨_, rfl⟩
  have HVal := Lib.hid hval
  clear hB0 hval wz0 hm1 hv1 hm2 hv2 hc1 hc2
  have hne_r : (r != r) = false := by cases r <;> rfl
  have hne_ok : (ok != ok) = false := by cases ok <;> rfl
  go_enter Try.func6, Try.ntmps6
  have hC_ := toInts_view 0 w.heap.size a1 c1 n1 xs1 w (HV1.out.kept (Kept.of_below (Below.refl w.heap.size w) (Nat.le_refl _))) (Below.refl w.heap.size w).size (by omega)
  have HC_ := Lib.hid hC_
  clear hC_
  go_wp2_with fail
  refine HC_.out.mono ?_
  rintro e w1 ⟨rfl, o_, b_⟩
  have b1 : Below w.heap.size w w1 := b_
  have s1 : w.heap.size ≤ w1.heap.size := b1.size
  have B1 : Hid (Below w.heap.size w w1) := b1
  clear b_
  clear HC_
  have HSI1_1 := Lib.hid (OwnsInts.of_row o_).view
  clear o_
  have hC_ := toInts_view 0 w.heap.size a2 c2 n2 xs2 w1 (HV2.out.kept (Kept.of_below B1.out (Nat.le_refl _))) B1.out.size (by omega)
  have HC_ := Lib.hid hC_
  clear hC_
  go_wp2_with fail
  refine HC_.out.mono ?_
  rintro e w2 ⟨rfl, o_, b_⟩
  have b2 : Below w1.heap.size w1 w2 := b_
  have s2 : w1.heap.size ≤ w2.heap.size := b2.size
  have HSI1_2 := Lib.hid (HSI1_1.out.kept (Kept.of_below b2 (by omega)))
  have B2 : Hid (Below w.heap.size w w2) := below_then B1.out b2
  clear HSI1_1 b_
  clear HC_
  have HSI2_2 := Lib.hid (OwnsInts.of_row o_).view
  clear o_
  have hC_ := specIsFiner z0 _ _ _ n1 n1 xs1 _ _ _ n2 n2 xs2 w2 HW0.out HSI1_2.out (by omega) (by unfold maxLen; omega) HSI2_2.out (by omega) (by unfold maxLen; omega)
  simp only [HVal.out] at hC_
  have HC_ := Lib.hid hC_
  clear hC_
  go_wp2_with fail
  refine HC_.out.mono ?_
  rintro e w3 ⟨rfl, b_⟩
  have b3 : Below w2.heap.size w2 w3 := b_
  have s3 : w2.heap.size ≤ w3.heap.size := b3.size
  have HSI1_3 := Lib.hid (HSI1_2.out.kept (Kept.of_below b3 (by omega)))
  have HSI2_3 := Lib.hid (HSI2_2.out.kept (Kept.of_below b3 (by omega)))
  have B3 : Hid (Below w.heap.size w w3) := below_then B2.out b3
  clear HSI1_2 HSI2_2 b_
  clear HC_
  clear HSI1_3
  clear HSI2_3
  have hC_ := toInts_view 0 w.heap.size a1 c1 n1 xs1 w3 (HV1.out.kept (Kept.of_below B3.out (Nat.le_refl _))) B3.out.size (by omega)
  have HC_ := Lib.hid hC_
  clear hC_
  go_wp2_with fail
  refine HC_.out.mono ?_
  rintro e w4 ⟨rfl, o_, b_⟩
  have b4 : Below w3.heap.size w3 w4 := b_
  have s4 : w3.heap.size ≤ w4.heap.size := b4.size
  have B4 : Hid (Below w.heap.size w w4) := below_then B3.out b4
  clear b_
  clear HC_
  have HXI1_4 := Lib.hid (OwnsInts.of_row o_)
  clear o_
  have hC_ := toInts_view 0 w.heap.size a2 c2 n2 xs2 w4 (HV2.out.kept (Kept.of_below B4.out (Nat.le_refl _))) B4.out.size (by omega)
  have HC_ := Lib.hid hC_
  clear hC_
  go_wp2_with fail
  refine HC_.out.mono ?_
  rintro e w5 ⟨rfl, o_, b_⟩
  have b5 : Below w4.heap.size w4 w5 := b_
  have s5 : w4.heap.size ≤ w5.heap.size := b5.size
  have HXI1_5 := Lib.hid (HXI1_4.out.kept (Kept.of_below b5 (by omega)))
  have B5 : Hid (Below w.heap.size w w5) := below_then B4.out b5
  clear HXI1_4 b_
  clear HC_
  have HXI2_5 := Lib.hid (OwnsInts.of_row o_)
  clear o_
  have hC_ := implIsFiner z0 _ _ _ n1 n1 xs1 _ _ _ n2 n2 xs2 w5 HW0.out HXI1_5.out.view (by omega) (by unfold maxLen; omega) HXI2_5.out.view (by omega) (by unfold maxLen; omega)
  simp only [HVal.out] at hC_
  have HC_ := Lib.hid hC_
  clear hC_
  go_wp2_with fail
  refine HC_.out.mono ?_
  rintro e w6 ⟨rfl, b_⟩
  have b6 : Below w5.heap.size w5 w6 := b_
  have s6 : w5.heap.size ≤ w6.heap.size := b6.size
  have HXI1_6 := Lib.hid (HXI1_5.out.kept (Kept.of_below b6 (by omega)))
  have HXI2_6 := Lib.hid (HXI2_5.out.kept (Kept.of_below b6 (by omega)))
  have B6 : Hid (Below w.heap.size w w6) := below_then B5.out b6
  clear HXI1_5 HXI2_5 b_
  clear HC_
  have hC_ := toInts_view 0 w.heap.size a1 c1 n1 xs1 w6 (HV1.out.kept (Kept.of_below B6.out (Nat.le_refl _))) B6.out.size (by omega)
  have HC_ := Lib.hid hC_
  clear hC_
  go_wp2_with fail
  refine HC_.out.mono ?_
  rintro e w7 ⟨rfl, o_, b_⟩
  have b7 : Below w6.heap.size w6 w7 := b_
  have s7 : w6.heap.size ≤ w7.heap.size := b7.size
  have HXI1_7 := Lib.hid (HXI1_6.out.kept (Kept.of_below b7 (by omega)))
  have HXI2_7 := Lib.hid (HXI2_6.out.kept (Kept.of_below b7 (by omega)))
  have B7 : Hid (Below w.heap.size w w7) := below_then B6.out b7
  clear HXI1_6 HXI2_6 b_
  clear HC_
  have HYI1_7 := Lib.hid (OwnsInts.of_row o_).view
  clear o_
  have hC_ := eqInts_view _ _ _ _ _ _ n1 n1 n1 xs1 w7 HXI1_7.out.view HYI1_7.out (by unfold maxLen; omega)
  have HC_ := Lib.hid hC_
  clear hC_
  go_wp2_with fail
  refine HC_.out.mono ?_
  rintro e w8 ⟨rfl, q_⟩; have b_ := below_drawn (Below.refl w7.heap.size w7) q_; clear q_
  have b8 : Below w7.heap.size w7 w8 := b_
  have s8 : w7.heap.size ≤ w8.heap.size := b8.size
  have HXI1_8 := Lib.hid (HXI1_7.out.kept (Kept.of_below b8 (by omega)))
  have HXI2_8 := Lib.hid (HXI2_7.out.kept (Kept.of_below b8 (by omega)))
  have HYI1_8 := Lib.hid (HYI1_7.out.kept (Kept.of_below b8 (by omega)))
  have B8 : Hid (Below w.heap.size w w8) := below_then B7.out b8
  clear HXI1_7 HXI2_7 HYI1_7 b_
  clear HC_
  clear HYI1_8
  have hC_ := toInts_view 0 w.heap.size a2 c2 n2 xs2 w8 (HV2.out.kept (Kept.of_below B8.out (Nat.le_refl _))) B8.out.size (by omega)
  have HC_ := Lib.hid hC_
  clear hC_
  go_wp2_with fail
  refine HC_.out.mono ?_
  rintro e w9 ⟨rfl, o_, b_⟩
  have b9 : Below w8.heap.size w8 w9 := b_
  have s9 : w8.heap.size ≤ w9.heap.size := b9.size
  have HXI1_9 := Lib.hid (HXI1_8.out.kept (Kept.of_below b9 (by omega)))
  have HXI2_9 := Lib.hid (HXI2_8.out.kept (Kept.of_below b9 (by omega)))
  have B9 : Hid (Below w.heap.size w w9) := below_then B8.out b9
  clear HXI1_8 HXI2_8 b_
  clear HC_
  have HYI2_9 := Lib.hid (OwnsInts.of_row o_).view
  clear o_
  have hC_ := eqInts_view _ _ _ _ _ _ n2 n2 n2 xs2 w9 HXI2_9.out.view HYI2_9.out (by unfold maxLen; omega)
  have HC_ := Lib.hid hC_
  clear hC_
  go_wp2_with fail
  refine HC_.out.mono ?_
  rintro e w10 ⟨rfl, q_⟩; have b_ := below_drawn (Below.refl w9.heap.size w9) q_; clear q_
  have b10 : Below w9.heap.size w9 w10 := b_
  have s10 : w9.heap.size ≤ w10.heap.size := b10.size
  have HXI1_10 := Lib.hid (HXI1_9.out.kept (Kept.of_below b10 (by omega)))
  have HXI2_10 := Lib.hid (HXI2_9.out.kept (Kept.of_below b10 (by omega)))
  have HYI2_10 := Lib.hid (HYI2_9.out.kept (Kept.of_below b10 (by omega)))
  have B10 : Hid (Below w.heap.size w w10) := below_then B9.out b10
  clear HXI1_9 HXI2_9 HYI2_9 b_
  clear HC_
  clear HYI2_10
  go_wp2_with fail
  go_ret
  exact ⟨rfl, B10.out⟩

theorem lawIsFiner (w : World) (z0 : Int) (wz0 : (Lit.int .i64 z0).wf = true) (a1 : Option Addr) (n1 c1 : Nat) (xs1 : List Int) (hc1 : n1 ≤ c1) (hm1 : c1 ≤ maxLen) (hv1 : IView w 0 w.heap.size a1 n1 xs1) (a2 : Option Addr) (n2 c2 : Nat) (xs2 : List Int) (hc2 : n2 ≤ c2) (hm2 : c2 ≤ maxLen) (hv2 : IView w 0 w.heap.size a2 n2 xs2) :
    Calls Try.prog 6 #[.int .i64 z0, .slice a1 n1 c1, .slice a2 n2 c2] w fun e w' => e = .returned (.bool true) ∧ Below w.heap.size w w' := by
  rcases Nat.lt_or_ge 1048576 n1 with hb1 | hb1
  · exact lawIsFiner_big1 w z0 wz0 a1 n1 c1 xs1 hc1 hm1 hv1 a2 n2 c2 xs2 hc2 hm2 hv2  hb1
  rcases Nat.lt_or_ge 1048576 n2 with hb2 | hb2
  · exact lawIsFiner_big2 w z0 wz0 a1 n1 c1 xs1 hc1 hm1 hv1 a2 n2 c2 xs2 hc2 hm2 hv2 hb1 hb2
  exact lawIsFiner_fit w z0 wz0 a1 n1 c1 xs1 hc1 hm1 hv1 a2 n2 c2 xs2 hc2 hm2 hv2 hb1 hb2 

end Go.Proofs.Ytgejpkpilnfddaa
