/-
  The walk of the law FnExactPartitionOfMap: PartitionOfMap answers as its model, in memory of its own, and changes no argument. Conditions: the lengths are at most maxLen.
-/
import Derived.Test.YtcmjkfcgekmomaaStep
import Derived.Deep.DrawnRows
import Derived.Deep.RegionHeld3
import Derived.Test.YtcmjkfcgekmomaaPom
namespace Go.Proofs.Ytcmjkfcgekmomaa
open Go.RowKit
set_option linter.unusedVariables false
set_option linter.unusedSimpArgs false
attribute [local go_sem ↓] Go.wp_at_zero Go.wp_at_succ

theorem lawPartitionOfMap_big1 (w : World) (z0 : Int) (wz0 : (Lit.int .i64 z0).wf = true) (a1 : Option Addr) (n1 c1 : Nat) (xs1 : List Int) (hc1 : n1 ≤ c1) (hm1 : c1 ≤ maxLen) (hv1 : IView w 0 w.heap.size a1 n1 xs1) (hb : 1048576 < n1) :
    Calls Try.prog 5 #[.int .i64 z0, .slice a1 n1 c1] w fun e w' => e = .returned (.bool true) ∧ Below w.heap.size w w' := by
  have hx : n1 ≤ 9223372036854775807 := by unfold maxLen at hm1; omega
  have hB0 := Lib.hid (Below.refl w.heap.size w)
  clear wz0 hm1 hv1
  go_enter Try.func5, Try.ntmps5
  go_wp2
  go_ret
  exact ⟨rfl, hB0.out⟩

set_option maxRecDepth 100000 in
set_option maxHeartbeats 4000000 in
theorem lawPartitionOfMap_fit (w : World) (z0 : Int) (wz0 : (Lit.int .i64 z0).wf = true) (a1 : Option Addr) (n1 c1 : Nat) (xs1 : List Int) (hc1 : n1 ≤ c1) (hm1 : c1 ≤ maxLen) (hv1 : IView w 0 w.heap.size a1 n1 xs1) (hb1 : n1 ≤ 1048576) (hres : (valPartitionOfMap z0 xs1).1.length ≤ 4194304) :
    Calls Try.prog 5 #[.int .i64 z0, .slice a1 n1 c1] w fun e w' => e = .returned (.bool true) ∧ Below w.heap.size w w' := by
  have hB0 := (Below.refl w.heap.size w)
  have HB0 := Lib.hid hB0
  have HV1 := Lib.hid hv1
  have hl1 := Lib.hid hv1.1
  have HW0 := Lib.hid wz0
  obtain ⟨⟨rs, ok⟩, hval⟩ : ∃ p, valPartitionOfMap z0 xs1 = p := ⟨_, rfl⟩
  simp only [hval] at hres
  have HRes := Lib.hid hres
  have hrl : rs.length ≤ 4194304 := hres
  obtain ⟨rn, hrn⟩ : ∃ rn, rn = rs.length := ⟨_, rfl⟩
  rw [← hrn] at hrl
  have HRn := Lib.hid hrn
  have HVal := Lib.hid hval
  clear hB0 hval wz0 hm1 hv1 hc1 hres hrn
  have hne_ok : (ok != ok) = false := by cases ok <;> rfl
  go_enter Try.func5, Try.ntmps5
  have hC_ := toInts_view 0 w.heap.size a1 c1 n1 xs1 w (HV1.out.kept (Kept.of_below (Below.refl w.heap.size w) (Nat.le_refl _))) (Below.refl w.heap.size w).size (by omega)
  have HC_ := Lib.hid hC_
  clear hC_
  go_wp2_with fail
  refine HC_.out.mono ?_
  rintro e w1 ⟨rfl, o_, b_⟩
  have b1 : Below w.heap.size w w1 := b_
  have s1 : w.heap.size ≤ w1.heap.size := b1.size
  have B1 : Hid (Below w.heap.size w w1) := b1
  clear b_
  clear HC_
  have HSI1_1 := Lib.hid (OwnsInts.of_row o_).view
  clear o_
  have hC_ := specPartitionOfMap z0 _ _ _ n1 n1 xs1 w1 HW0.out HSI1_1.out (by omega) (by unfold maxLen; omega)
  simp only [HVal.out] at hC_
  have HC_ := Lib.hid hC_
  clear hC_
  go_wp2_with fail
  refine HC_.out.mono ?_
  rintro e w2 ⟨Ra, Rn, Rc, rfl, hq_, o_, b_⟩
  have b2 : Below w1.heap.size w1 w2 := b_
  have s2 : w1.heap.size ≤ w2.heap.size := b2.size
  have HSI1_2 := Lib.hid (HSI1_1.out.kept (Kept.of_below b2 (by omega)))
  have B2 : Hid (Below w.heap.size w w2) := below_then B1.out b2
  clear HSI1_1 b_
  clear HC_
  obtain rfl : rn = Rn := HRn.out.trans hq_.symm
  have HR_2 := Lib.hid o_.view
  clear o_ hq_
  clear HSI1_2
  have hC_ := toInts_view 0 w.heap.size a1 c1 n1 xs1 w2 (HV1.out.kept (Kept.of_below B2.out (Nat.le_refl _))) B2.out.size (by omega)
  have HC_ := Lib.hid hC_
  clear hC_
  go_wp2_with fail
  refine HC_.out.mono ?_
  rintro e w3 ⟨rfl, o_, b_⟩
  have b3 : Below w2.heap.size w2 w3 := b_
  have s3 : w2.heap.size ≤ w3.heap.size := b3.size
  have HR_3 := Lib.hid (HR_2.out.kept (Kept.of_below b3 (by omega)))
  have B3 : Hid (Below w.heap.size w w3) := below_then B2.out b3
  clear HR_2 b_
  clear HC_
  have HXI1_3 := Lib.hid (OwnsInts.of_row o_)
  clear o_
  have hC_ := implPartitionOfMap z0 _ _ _ n1 n1 xs1 w3 HW0.out HXI1_3.out.view (by omega) (by unfold maxLen; omega)
  simp only [HVal.out] at hC_
  have HC_ := Lib.hid hC_
  clear hC_
  go_wp2_with fail
  refine HC_.out.mono ?_
  rintro e w4 ⟨Ga, Gn, Gc, rfl, hq_, o_, b_⟩
  have b4 : Below w3.heap.size w3 w4 := b_
  have s4 : w3.heap.size ≤ w4.heap.size := b4.size
  have HR_4 := Lib.hid (HR_3.out.kept (Kept.of_below b4 (by omega)))
  have HXI1_4 := Lib.hid (HXI1_3.out.kept (Kept.of_below b4 (by omega)))
  have B4 : Hid (Below w.heap.size w w4) := below_then B3.out b4
  clear HR_3 HXI1_3 b_
  clear HC_
  obtain rfl : rn = Gn := HRn.out.trans hq_.symm
  have HG_4 := Lib.hid o_
  clear o_ hq_
  have HGV_ := Lib.hid HG_4.out.view
  have hC_ := eqInts_view _ _ _ _ _ _ Gc Rc rn rs w4 HGV_.out HR_4.out (by unfold maxLen; omega)
  have HC_ := Lib.hid hC_
  clear hC_
  go_wp2_with fail
  refine HC_.out.mono ?_
  rintro e w5 ⟨rfl, q_⟩; have b_ := below_drawn (Below.refl w4.heap.size w4) q_; clear q_
  have b5 : Below w4.heap.size w4 w5 := b_
  have s5 : w4.heap.size ≤ w5.heap.size := b5.size
  have HR_5 := Lib.hid (HR_4.out.kept (Kept.of_below b5 (by omega)))
  have HXI1_5 := Lib.hid (HXI1_4.out.kept (Kept.of_below b5 (by omega)))
  have HG_5 := Lib.hid (HG_4.out.kept (Kept.of_below b5 (by omega)))
  have B5 : Hid (Below w.heap.size w w5) := below_then B4.out b5
  clear HR_4 HXI1_4 HG_4 b_
  clear HC_
  clear HGV_
  have hC_ := toInts_view 0 w.heap.size a1 c1 n1 xs1 w5 (HV1.out.kept (Kept.of_below B5.out (Nat.le_refl _))) B5.out.size (by omega)
  have HC_ := Lib.hid hC_
  clear hC_
  go_wp2_with fail
  refine HC_.out.mono ?_
  rintro e w6 ⟨rfl, o_, b_⟩
  have b6 : Below w5.heap.size w5 w6 := b_
  have s6 : w5.heap.size ≤ w6.heap.size := b6.size
  have HR_6 := Lib.hid (HR_5.out.kept (Kept.of_below b6 (by omega)))
  have HXI1_6 := Lib.hid (HXI1_5.out.kept (Kept.of_below b6 (by omega)))
  have HG_6 := Lib.hid (HG_5.out.kept (Kept.of_below b6 (by omega)))
  have B6 : Hid (Below w.heap.size w w6) := below_then B5.out b6
  clear HR_5 HXI1_5 HG_5 b_
  clear HC_
  have HYI1_6 := Lib.hid (OwnsInts.of_row o_).view
  clear o_
  have hC_ := eqInts_view _ _ _ _ _ _ n1 n1 n1 xs1 w6 HXI1_6.out.view HYI1_6.out (by unfold maxLen; omega)
  have HC_ := Lib.hid hC_
  clear hC_
  go_wp2_with fail
  refine HC_.out.mono ?_
  rintro e w7 ⟨rfl, q_⟩; have b_ := below_drawn (Below.refl w6.heap.size w6) q_; clear q_
  have b7 : Below w6.heap.size w6 w7 := b_
  have s7 : w6.heap.size ≤ w7.heap.size := b7.size
  have HR_7 := Lib.hid (HR_6.out.kept (Kept.of_below b7 (by omega)))
  have HXI1_7 := Lib.hid (HXI1_6.out.kept (Kept.of_below b7 (by omega)))
  have HG_7 := Lib.hid (HG_6.out.kept (Kept.of_below b7 (by omega)))
  have HYI1_7 := Lib.hid (HYI1_6.out.kept (Kept.of_below b7 (by omega)))
  have B7 : Hid (Below w.heap.size w w7) := below_then B6.out b7
  clear HR_6 HXI1_6 HG_6 HYI1_6 b_
  clear HC_
  clear HYI1_7
  have hC_ := markInts_own _ _ n1 n1 (1) _ xs1 w7 (by omega) (by omega) HXI1_7.out
  have HC_ := Lib.hid hC_
  clear hC_
  go_wp2_with fail
  refine HC_.out.mono ?_
  rintro e w8 ⟨rfl, o_, b_⟩; clear o_
  have s8 : w7.heap.size ≤ w8.heap.size := b_.size
  have HR_8 := Lib.hid (HR_7.out.kept (kept_only b_ (by omega) (by omega)))
  have HG_8 := Lib.hid (HG_7.out.kept (kept_only b_ (by omega) (by omega)))
  have B8 : Hid (Below w.heap.size w w8) := below_only B7.out b_ (by omega) (by omega)
  clear HR_7 HG_7 HXI1_7 b_
  clear HC_
  have HGV_ := Lib.hid HG_8.out.view
  have hC_ := eqInts_view _ _ _ _ _ _ Gc Rc rn rs w8 HGV_.out HR_8.out (by unfold maxLen; omega)
  have HC_ := Lib.hid hC_
  clear hC_
  go_wp2_with fail
  refine HC_.out.mono ?_
  rintro e w9 ⟨rfl, q_⟩; have b_ := below_drawn (Below.refl w8.heap.size w8) q_; clear q_
  have b9 : Below w8.heap.size w8 w9 := b_
  have s9 : w8.heap.size ≤ w9.heap.size := b9.size
  have HR_9 := Lib.hid (HR_8.out.kept (Kept.of_below b9 (by omega)))
  have HG_9 := Lib.hid (HG_8.out.kept (Kept.of_below b9 (by omega)))
  have B9 : Hid (Below w.heap.size w w9) := below_then B8.out b9
  clear HR_8 HG_8 b_
  clear HC_
  clear HGV_
  have hC_ := markInts_own _ _ rn Gc 1 Ga rs w9 (by omega) (by omega) HG_9.out
  have HC_ := Lib.hid hC_
  clear hC_
  go_wp2_with fail
  refine HC_.out.mono ?_
  rintro e w10 ⟨rfl, o_, b_⟩
  have s10 : w9.heap.size ≤ w10.heap.size := b_.size
  have HR_10 := Lib.hid (HR_9.out.kept (kept_only b_ (by omega) (by omega)))
  have B10 : Hid (Below w.heap.size w w10) := below_only B9.out b_ (by omega) (by omega)
  clear HR_9 HG_9 b_
  clear HC_
  have HG_10 := Lib.hid o_.view
  clear o_
  have hC_ := heldInts_view _ _ Ga Gc rn 1 w10 (by omega) (by omega) HG_10.out
  have HC_ := Lib.hid hC_
  clear hC_
  go_wp2_with fail
  refine HC_.out.mono ?_
  rintro e w_ ⟨rfl, rfl⟩
  clear HC_
  have hC_ := toInts_view 0 w.heap.size a1 c1 n1 xs1 w10 (HV1.out.kept (Kept.of_below B10.out (Nat.le_refl _))) B10.out.size (by omega)
  have HC_ := Lib.hid hC_
  clear hC_
  go_wp2_with fail
  refine HC_.out.mono ?_
  rintro e w11 ⟨rfl, o_, b_⟩
  have b11 : Below w10.heap.size w10 w11 := b_
  have s11 : w10.heap.size ≤ w11.heap.size := b11.size
  have HR_11 := Lib.hid (HR_10.out.kept (Kept.of_below b11 (by omega)))
  have HG_11 := Lib.hid (HG_10.out.kept (Kept.of_below b11 (by omega)))
  have B11 : Hid (Below w.heap.size w w11) := below_then B10.out b11
  clear HR_10 HG_10 b_
  clear HC_
  have HTI1_11 := Lib.hid (OwnsInts.of_row o_).view
  clear o_
  have hC_ := implPartitionOfMap z0 _ _ _ n1 n1 xs1 w11 HW0.out HTI1_11.out (by omega) (by unfold maxLen; omega)
  simp only [HVal.out] at hC_
  have HC_ := Lib.hid hC_
  clear hC_
  go_wp2_with fail
  refine HC_.out.mono ?_
  rintro e w12 ⟨Ua, Un, Uc, rfl, hq_, o_, b_⟩
  have b12 : Below w11.heap.size w11 w12 := b_
  have s12 : w11.heap.size ≤ w12.heap.size := b12.size
  have HR_12 := Lib.hid (HR_11.out.kept (Kept.of_below b12 (by omega)))
  have HG_12 := Lib.hid (HG_11.out.kept (Kept.of_below b12 (by omega)))
  have HTI1_12 := Lib.hid (HTI1_11.out.kept (Kept.of_below b12 (by omega)))
  have B12 : Hid (Below w.heap.size w w12) := below_then B11.out b12
  clear HR_11 HG_11 HTI1_11 b_
  clear HC_
  obtain rfl : rn = Un := HRn.out.trans hq_.symm
  have HU_12 := Lib.hid o_.view
  clear o_ hq_
  clear HTI1_12
  have hC_ := eqInts_view _ _ _ _ _ _ Uc Rc rn rs w12 HU_12.out HR_12.out (by unfold maxLen; omega)
  have HC_ := Lib.hid hC_
  clear hC_
  go_wp2_with fail
  refine HC_.out.mono ?_
  rintro e w13 ⟨rfl, q_⟩; have b_ := below_drawn (Below.refl w12.heap.size w12) q_; clear q_
  have b13 : Below w12.heap.size w12 w13 := b_
  have s13 : w12.heap.size ≤ w13.heap.size := b13.size
  have HR_13 := Lib.hid (HR_12.out.kept (Kept.of_below b13 (by omega)))
  have HG_13 := Lib.hid (HG_12.out.kept (Kept.of_below b13 (by omega)))
  have HU_13 := Lib.hid (HU_12.out.kept (Kept.of_below b13 (by omega)))
  have B13 : Hid (Below w.heap.size w w13) := below_then B12.out b13
  clear HR_12 HG_12 HU_12 b_
  clear HC_
  have hC_ := heldInts_view _ _ Ga Gc rn 1 w13 (by omega) (by omega) HG_13.out
  have HC_ := Lib.hid hC_
  clear hC_
  go_wp2_with fail
  refine HC_.out.mono ?_
  rintro e w_ ⟨rfl, rfl⟩
  clear HC_
  go_wp2_with fail
  go_ret
  exact ⟨rfl, B13.out⟩

theorem lawPartitionOfMap (w : World) (z0 : Int) (wz0 : (Lit.int .i64 z0).wf = true) (a1 : Option Addr) (n1 c1 : Nat) (xs1 : List Int) (hc1 : n1 ≤ c1) (hm1 : c1 ≤ maxLen) (hv1 : IView w 0 w.heap.size a1 n1 xs1) :
    Calls Try.prog 5 #[.int .i64 z0, .slice a1 n1 c1] w fun e w' => e = .returned (.bool true) ∧ Below w.heap.size w w' := by
  rcases Nat.lt_or_ge 1048576 n1 with hb1 | hb1
  · exact lawPartitionOfMap_big1 w z0 wz0 a1 n1 c1 xs1 hc1 hm1 hv1  hb1
  exact lawPartitionOfMap_fit w z0 wz0 a1 n1 c1 xs1 hc1 hm1 hv1 hb1  (smallPartitionOfMap z0 xs1)

end Go.Proofs.Ytcmjkfcgekmomaa
