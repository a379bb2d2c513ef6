/-
  The walk of the law FnExactIsPartition: FnExactIsPartition: at every argument the function answers as its model, writes into no argument, and its answer owns its memory. Conditions: the lengths are at most maxLen.
-/
import Derived.Test.YtgejpkpilnfddaaStep
import Derived.Deep.DrawnRows
import Derived.Deep.RegionHeld3
import Derived.Test.YtgejpkpilnfddaaPartN
import Derived.Test.YtgejpkpilnfddaaPartP
namespace Go.Proofs.Ytgejpkpilnfddaa
open Go.RowKit
set_option linter.unusedVariables false
set_option linter.unusedSimpArgs false
attribute [local go_sem ↓] Go.wp_at_zero Go.wp_at_succ

theorem lawIsPartition_big1 (w : World) (z0 : Int) (wz0 : (Lit.int .i64 z0).wf = true) (a1 : Option Addr) (n1 c1 : Nat) (xs1 : List Int) (hc1 : n1 ≤ c1) (hm1 : c1 ≤ maxLen) (hv1 : IView w 0 w.heap.size a1 n1 xs1) (hb : 1048576 < n1) :
    Calls Try.prog 3 #[.int .i64 z0, .slice a1 n1 c1] w fun e w' => e = .returned (.bool true) ∧ Below w.heap.size w w' := by
  have hx : n1 ≤ 9223372036854775807 := by unfold maxLen at hm1; omega
  have hB0 := Lib.hid (Below.refl w.heap.size w)
  clear wz0 hm1 hv1
  go_enter Try.func3, Try.ntmps3
  go_wp2
  go_ret
  exact ⟨rfl, hB0.out⟩

set_option maxRecDepth 100000 in
set_option maxHeartbeats 4000000 in
theorem lawIsPartition_fit (w : World) (z0 : Int) (wz0 : (Lit.int .i64 z0).wf = true) (a1 : Option Addr) (n1 c1 : Nat) (xs1 : List Int) (hc1 : n1 ≤ c1) (hm1 : c1 ≤ maxLen) (hv1 : IView w 0 w.heap.size a1 n1 xs1) (hb1 : n1 ≤ 1048576) :
    Calls Try.prog 3 #[.int .i64 z0, .slice a1 n1 c1] w fun e w' => e = .returned (.bool true) ∧ Below w.heap.size w w' := by
  have hB0 := (Below.refl w.heap.size w)
  have HB0 := Lib.hid hB0
  have HV1 := Lib.hid hv1
  have hl1 := Lib.hid hv1.1
  have HW0 := Lib.hid wz0
  obtain ⟨⟨r, ok⟩, hval⟩ : ∃ p, valIsPartition z0 xs1 = p := ⟨_, rfl⟩
  have HVal := Lib.hid hval
  clear hB0 hval wz0 hm1 hv1 hc1
  have hne_r : (r != r) = false := by cases r <;> rfl
  have hne_ok : (ok != ok) = false := by cases ok <;> rfl
  go_enter Try.func3, Try.ntmps3
  have hC_ := toInts_view 0 w.heap.size a1 c1 n1 xs1 w (HV1.out.kept (Kept.of_below (Below.refl w.heap.size w) (Nat.le_refl _))) (Below.refl w.heap.size w).size (by omega)
  have HC_ := Lib.hid hC_
  clear hC_
  go_wp2_with fail
  refine HC_.out.mono ?_
  rintro e w1 ⟨rfl, o_, b_⟩
  have b1 : Below w.heap.size w w1 := b_
  have s1 : w.heap.size ≤ w1.heap.size := b1.size
  have B1 : Hid (Below w.heap.size w w1) := b1
  clear b_
  clear HC_
  have HSI1_1 := Lib.hid (OwnsInts.of_row o_).view
  clear o_
  have hC_ := specIsPartition z0 _ _ _ n1 n1 xs1 w1 HW0.out HSI1_1.out (by omega) (by unfold maxLen; omega)
  simp only [HVal.out] at hC_
  have HC_ := Lib.hid hC_
  clear hC_
  go_wp2_with fail
  refine HC_.out.mono ?_
  rintro e w2 ⟨rfl, b_⟩
  have b2 : Below w1.heap.size w1 w2 := b_
  have s2 : w1.heap.size ≤ w2.heap.size := b2.size
  have HSI1_2 := Lib.hid (HSI1_1.out.kept (Kept.of_below b2 (by omega)))
  have B2 : Hid (Below w.heap.size w w2) := below_then B1.out b2
  clear HSI1_1 b_
  clear HC_
  clear HSI1_2
  have hC_ := toInts_view 0 w.heap.size a1 c1 n1 xs1 w2 (HV1.out.kept (Kept.of_below B2.out (Nat.le_refl _))) B2.out.size (by omega)
  have HC_ := Lib.hid hC_
  clear hC_
  go_wp2_with fail
  refine HC_.out.mono ?_
  rintro e w3 ⟨rfl, o_, b_⟩
  have b3 : Below w2.heap.size w2 w3 := b_
  have s3 : w2.heap.size ≤ w3.heap.size := b3.size
  have B3 : Hid (Below w.heap.size w w3) := below_then B2.out b3
  clear b_
  clear HC_
  have HXI1_3 := Lib.hid (OwnsInts.of_row o_)
  clear o_
  have hC_ := implIsPartition z0 _ _ _ n1 n1 xs1 w3 HW0.out HXI1_3.out.view (by omega) (by unfold maxLen; omega)
  simp only [HVal.out] at hC_
  have HC_ := Lib.hid hC_
  clear hC_
  go_wp2_with fail
  refine HC_.out.mono ?_
  rintro e w4 ⟨rfl, b_⟩
  have b4 : Below w3.heap.size w3 w4 := b_
  have s4 : w3.heap.size ≤ w4.heap.size := b4.size
  have HXI1_4 := Lib.hid (HXI1_3.out.kept (Kept.of_below b4 (by omega)))
  have B4 : Hid (Below w.heap.size w w4) := below_then B3.out b4
  clear HXI1_3 b_
  clear HC_
  have hC_ := toInts_view 0 w.heap.size a1 c1 n1 xs1 w4 (HV1.out.kept (Kept.of_below B4.out (Nat.le_refl _))) B4.out.size (by omega)
  have HC_ := Lib.hid hC_
  clear hC_
  go_wp2_with fail
  refine HC_.out.mono ?_
  rintro e w5 ⟨rfl, o_, b_⟩
  have b5 : Below w4.heap.size w4 w5 := b_
  have s5 : w4.heap.size ≤ w5.heap.size := b5.size
  have HXI1_5 := Lib.hid (HXI1_4.out.kept (Kept.of_below b5 (by omega)))
  have B5 : Hid (Below w.heap.size w w5) := below_then B4.out b5
  clear HXI1_4 b_
  clear HC_
  have HYI1_5 := Lib.hid (OwnsInts.of_row o_).view
  clear o_
  have hC_ := eqInts_view _ _ _ _ _ _ n1 n1 n1 xs1 w5 HXI1_5.out.view HYI1_5.out (by unfold maxLen; omega)
  have HC_ := Lib.hid hC_
  clear hC_
  go_wp2_with fail
  refine HC_.out.mono ?_
  rintro e w6 ⟨rfl, q_⟩; have b_ := below_drawn (Below.refl w5.heap.size w5) q_; clear q_
  have b6 : Below w5.heap.size w5 w6 := b_
  have s6 : w5.heap.size ≤ w6.heap.size := b6.size
  have HXI1_6 := Lib.hid (HXI1_5.out.kept (Kept.of_below b6 (by omega)))
  have HYI1_6 := Lib.hid (HYI1_5.out.kept (Kept.of_below b6 (by omega)))
  have B6 : Hid (Below w.heap.size w w6) := below_then B5.out b6
  clear HXI1_5 HYI1_5 b_
  clear HC_
  clear HYI1_6
  go_wp2_with fail
  go_ret
  exact ⟨rfl, B6.out⟩

theorem lawIsPartition (w : World) (z0 : Int) (wz0 : (Lit.int .i64 z0).wf = true) (a1 : Option Addr) (n1 c1 : Nat) (xs1 : List Int) (hc1 : n1 ≤ c1) (hm1 : c1 ≤ maxLen) (hv1 : IView w 0 w.heap.size a1 n1 xs1) :
    Calls Try.prog 3 #[.int .i64 z0, .slice a1 n1 c1] w fun e w' => e = .returned (.bool true) ∧ Below w.heap.size w w' := by
  rcases Nat.lt_or_ge 1048576 n1 with hb1 | hb1
  · exact lawIsPartition_big1 w z0 wz0 a1 n1 c1 xs1 hc1 hm1 hv1  hb1
  exact lawIsPartition_fit w z0 wz0 a1 n1 c1 xs1 hc1 hm1 hv1 hb1 

end Go.Proofs.Ytgejpkpilnfddaa
