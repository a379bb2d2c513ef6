/-
  The walk of the law FnExactMeetPartitions: FnExactMeetPartitions: at every argument the function answers as its model, writes into no argument, and its answer owns its memory. Conditions: the lengths are at most maxLen.
-/
import Derived.Test.YtgejpkpilnfddaaStep
import Derived.Deep.DrawnRows
import Derived.Deep.RegionHeld3
import Derived.Test.YtgejpkpilnfddaaPartN
import Derived.Test.YtgejpkpilnfddaaPartP
namespace Go.Proofs.Ytgejpkpilnfddaa
open Go.RowKit
set_option linter.unusedVariables false
set_option linter.unusedSimpArgs false
attribute [local go_sem ↓] Go.wp_at_zero Go.wp_at_succ

theorem lawMeetPartitions_big1 (w : World) (z0 : Int) (wz0 : (Lit.int .i64 z0).wf = true) (a1 : Option Addr) (n1 c1 : Nat) (xs1 : List Int) (hc1 : n1 ≤ c1) (hm1 : c1 ≤ maxLen) (hv1 : IView w 0 w.heap.size a1 n1 xs1) (a2 : Option Addr) (n2 c2 : Nat) (xs2 : List Int) (hc2 : n2 ≤ c2) (hm2 : c2 ≤ maxLen) (hv2 : IView w 0 w.heap.size a2 n2 xs2) (hb : 1048576 < n1) :
    Calls Try.prog 7 #[.int .i64 z0, .slice a1 n1 c1, .slice a2 n2 c2] w fun e w' => e = .returned (.bool true) ∧ Below w.heap.size w w' := by
  have hx : n1 ≤ 9223372036854775807 := by unfold maxLen at hm1; omega
  have hB0 := Lib.hid (Below.refl w.heap.size w)
  clear wz0 hm1 hv1 hm2 hv2
  go_enter Try.func7, Try.ntmps7
  go_wp2
  go_ret
  exact ⟨rfl, hB0.out⟩

theorem lawMeetPartitions_big2 (w : World) (z0 : Int) (wz0 : (Lit.int .i64 z0).wf = true) (a1 : Option Addr) (n1 c1 : Nat) (xs1 : List Int) (hc1 : n1 ≤ c1) (hm1 : c1 ≤ maxLen) (hv1 : IView w 0 w.heap.size a1 n1 xs1) (a2 : Option Addr) (n2 c2 : Nat) (xs2 : List Int) (hc2 : n2 ≤ c2) (hm2 : c2 ≤ maxLen) (hv2 : IView w 0 w.heap.size a2 n2 xs2) (hb1 : n1 ≤ 1048576) (hb : 1048576 < n2) :
    Calls Try.prog 7 #[.int .i64 z0, .slice a1 n1 c1, .slice a2 n2 c2] w fun e w' => e = .returned (.bool true) ∧ Below w.heap.size w w' := by
  have hx : n2 ≤ 9223372036854775807 := by unfold maxLen at hm2; omega
  have hB0 := Lib.hid (Below.refl w.heap.size w)
  clear wz0 hm1 hv1 hm2 hv2
  go_enter Try.func7, Try.ntmps7
  go_wp2
  go_ret
  exact ⟨rfl, hB0.out⟩

set_option maxRecDepth 100000 in
set_option maxHeartbeats 4000000 in
theorem lawMeetPartitions_fit (w : World) (z0 : Int) (wz0 : (Lit.int .i64 z0).wf = true) (a1 : Option Addr) (n1 c1 : Nat) (xs1 : List Int) (hc1 : n1 ≤ c1) (hm1 : c1 ≤ maxLen) (hv1 : IView w 0 w.heap.size a1 n1 xs1) (a2 : Option Addr) (n2 c2 : Nat) (xs2 : List Int) (hc2 : n2 ≤ c2) (hm2 : c2 ≤ maxLen) (hv2 : IView w 0 w.heap.size a2 n2 xs2) (hb1 : n1 ≤ 1048576) (hb2 : n2 ≤ 1048576) (hres : (valMeetPartitions z0 xs1 xs2).1.length ≤ 4194304) :
    Calls Try.prog 7 #[.int .i64 z0, .slice a1 n1 c1, .slice a2 n2 c2] w fun e w' => e = .returned (.bool true) ∧ Below w.heap.size w w' := by
  have hB0 := (Below.refl w.heap.size w)
  have HB0 := Lib.hid hB0
  have HV1 := Lib.hid hv1
  have hl1 := Lib.hid hv1.1
  have HV2 := Lib.hid hv2
  have hl2 := Lib.hid hv2.1
  have HW0 := Lib.hid wz0
  obtain ⟨⟨rs, ok⟩, hval⟩ : ∃ p, valMeetPartitions z0 xs1 xs2 = p := ⟨_, rfl⟩
  simp only [hval] at hres
  have HRes := Lib.hid hres
  have hrl : rs.length ≤ 4194304 := hres
  obtain ⟨rn, hrn⟩ : ∃ rn, rn = rs.length := ⟨_, rfl⟩
  rw [← hrn] at hrl
  have HRn := Lib.hid hrn
  have HVal := Lib.hid hval
  clear hB0 hval wz0 hm1 hv1 hm2 hv2 hc1 hc2 hres hrn
  have hne_ok : (ok != ok) = false := by cases ok <;> rfl
  go_enter Try.func7, Try.ntmps7
  have hC_ := toInts_view 0 w.heap.size a1 c1 n1 xs1 w (HV1.out.kept (Kept.of_below (Below.refl w.heap.size w) (Nat.le_refl _))) (Below.refl w.heap.size w).size (by omega)
  have HC_ := Lib.hid hC_
  clear hC_
  go_wp2_with fail
  refine HC_.out.mono ?_
  rintro e w1 ⟨rfl, o_, b_⟩
  have b1 : Below w.heap.size w w1 := b_
  have s1 : w.heap.size ≤ w1.heap.size := b1.size
  have B1 : Hid (Below w.heap.size w w1) := b1
  clear b_
  clear HC_
  have HSI1_1 := Lib.hid (OwnsInts.of_row o_).view
  clear o_
  have hC_ := toInts_view 0 w.heap.size a2 c2 n2 xs2 w1 (HV2.out.kept (Kept.of_below B1.out (Nat.le_refl _))) B1.out.size (by omega)
  have HC_ := Lib.hid hC_
  clear hC_
  go_wp2_with fail
  refine HC_.out.mono ?_
  rintro e w2 ⟨rfl, o_, b_⟩
  have b2 : Below w1.heap.size w1 w2 := b_
  have s2 : w1.heap.size ≤ w2.heap.size := b2.size
  have HSI1_2 := Lib.hid (HSI1_1.out.kept (Kept.of_below b2 (by omega)))
  have B2 : Hid (Below w.heap.size w w2) := below_then B1.out b2
  clear HSI1_1 b_
  clear HC_
  have HSI2_2 := Lib.hid (OwnsInts.of_row o_).view
  clear o_
  have hC_ := specMeetPartitions z0 _ _ _ n1 n1 xs1 _ _ _ n2 n2 xs2 w2 HW0.out HSI1_2.out (by omega) (by unfold maxLen; omega) HSI2_2.out (by omega) (by unfold maxLen; omega)
  simp only [HVal.out] at hC_
  have HC_ := Lib.hid hC_
  clear hC_
  go_wp2_with fail
  refine HC_.out.mono ?_
  rintro e w3 ⟨Ra, Rn, Rc, rfl, hq_, o_, b_⟩
  have b3 : Below w2.heap.size w2 w3 := b_
  have s3 : w2.heap.size ≤ w3.heap.size := b3.size
  have HSI1_3 := Lib.hid (HSI1_2.out.kept (Kept.of_below b3 (by omega)))
  have HSI2_3 := Lib.hid (HSI2_2.out.kept (Kept.of_below b3 (by omega)))
  have B3 : Hid (Below w.heap.size w w3) := below_then B2.out b3
  clear HSI1_2 HSI2_2 b_
  clear HC_
  obtain rfl : rn = Rn := HRn.out.trans hq_.symm
  have HR_3 := Lib.hid o_.view
  clear o_ hq_
  clear HSI1_3
  clear HSI2_3
  have hC_ := toInts_view 0 w.heap.size a1 c1 n1 xs1 w3 (HV1.out.kept (Kept.of_below B3.out (Nat.le_refl _))) B3.out.size (by omega)
  have HC_ := Lib.hid hC_
  clear hC_
  go_wp2_with fail
  refine HC_.out.mono ?_
  rintro e w4 ⟨rfl, o_, b_⟩
  have b4 : Below w3.heap.size w3 w4 := b_
  have s4 : w3.heap.size ≤ w4.heap.size := b4.size
  have HR_4 := Lib.hid (HR_3.out.kept (Kept.of_below b4 (by omega)))
  have B4 : Hid (Below w.heap.size w w4) := below_then B3.out b4
  clear HR_3 b_
  clear HC_
  have HXI1_4 := Lib.hid (OwnsInts.of_row o_)
  clear o_
  have hC_ := toInts_view 0 w.heap.size a2 c2 n2 xs2 w4 (HV2.out.kept (Kept.of_below B4.out (Nat.le_refl _))) B4.out.size (by omega)
  have HC_ := Lib.hid hC_
  clear hC_
  go_wp2_with fail
  refine HC_.out.mono ?_
  rintro e w5 ⟨rfl, o_, b_⟩
  have b5 : Below w4.heap.size w4 w5 := b_
  have s5 : w4.heap.size ≤ w5.heap.size := b5.size
  have HR_5 := Lib.hid (HR_4.out.kept (Kept.of_below b5 (by omega)))
  have HXI1_5 := Lib.hid (HXI1_4.out.kept (Kept.of_below b5 (by omega)))
  have B5 : Hid (Below w.heap.size w w5) := below_then B4.out b5
  clear HR_4 HXI1_4 b_
  clear HC_
  have HXI2_5 := Lib.hid (OwnsInts.of_row o_)
  clear o_
  have hC_ := implMeetPartitions z0 _ _ _ n1 n1 xs1 _ _ _ n2 n2 xs2 w5 HW0.out HXI1_5.out.view (by omega) (by unfold maxLen; omega) HXI2_5.out.view (by omega) (by unfold maxLen; omega)
  simp only [HVal.out] at hC_
  have HC_ := Lib.hid hC_
  clear hC_
  go_wp2_with fail
  refine HC_.out.mono ?_
  rintro e w6 ⟨Ga, Gn, Gc, rfl, hq_, o_, b_⟩
  have b6 : Below w5.heap.size w5 w6 := b_
  have s6 : w5.heap.size ≤ w6.heap.size := b6.size
  have HR_6 := Lib.hid (HR_5.out.kept (Kept.of_below b6 (by omega)))
  have HXI1_6 := Lib.hid (HXI1_5.out.kept (Kept.of_below b6 (by omega)))
  have HXI2_6 := Lib.hid (HXI2_5.out.kept (Kept.of_below b6 (by omega)))
  have B6 : Hid (Below w.heap.size w w6) := below_then B5.out b6
  clear HR_5 HXI1_5 HXI2_5 b_
  clear HC_
  obtain rfl : rn = Gn := HRn.out.trans hq_.symm
  have HG_6 := Lib.hid o_
  clear o_ hq_
  have HGV_ := Lib.hid HG_6.out.view
  have hC_ := eqInts_view _ _ _ _ _ _ Gc Rc rn rs w6 HGV_.out HR_6.out (by unfold maxLen; omega)
  have HC_ := Lib.hid hC_
  clear hC_
  go_wp2_with fail
  refine HC_.out.mono ?_
  rintro e w7 ⟨rfl, q_⟩; have b_ := below_drawn (Below.refl w6.heap.size w6) q_; clear q_
  have b7 : Below w6.heap.size w6 w7 := b_
  have s7 : w6.heap.size ≤ w7.heap.size := b7.size
  have HR_7 := Lib.hid (HR_6.out.kept (Kept.of_below b7 (by omega)))
  have HXI1_7 := Lib.hid (HXI1_6.out.kept (Kept.of_below b7 (by omega)))
  have HXI2_7 := Lib.hid (HXI2_6.out.kept (Kept.of_below b7 (by omega)))
  have HG_7 := Lib.hid (HG_6.out.kept (Kept.of_below b7 (by omega)))
  have B7 : Hid (Below w.heap.size w w7) := below_then B6.out b7
  clear HR_6 HXI1_6 HXI2_6 HG_6 b_
  clear HC_
  clear HGV_
  have hC_ := toInts_view 0 w.heap.size a1 c1 n1 xs1 w7 (HV1.out.kept (Kept.of_below B7.out (Nat.le_refl _))) B7.out.size (by omega)
  have HC_ := Lib.hid hC_
  clear hC_
  go_wp2_with fail
  refine HC_.out.mono ?_
  rintro e w8 ⟨rfl, o_, b_⟩
  have b8 : Below w7.heap.size w7 w8 := b_
  have s8 : w7.heap.size ≤ w8.heap.size := b8.size
  have HR_8 := Lib.hid (HR_7.out.kept (Kept.of_below b8 (by omega)))
  have HXI1_8 := Lib.hid (HXI1_7.out.kept (Kept.of_below b8 (by omega)))
  have HXI2_8 := Lib.hid (HXI2_7.out.kept (Kept.of_below b8 (by omega)))
  have HG_8 := Lib.hid (HG_7.out.kept (Kept.of_below b8 (by omega)))
  have B8 : Hid (Below w.heap.size w w8) := below_then B7.out b8
  clear HR_7 HXI1_7 HXI2_7 HG_7 b_
  clear HC_
  have HYI1_8 := Lib.hid (OwnsInts.of_row o_).view
  clear o_
  have hC_ := eqInts_view _ _ _ _ _ _ n1 n1 n1 xs1 w8 HXI1_8.out.view HYI1_8.out (by unfold maxLen; omega)
  have HC_ := Lib.hid hC_
  clear hC_
  go_wp2_with fail
  refine HC_.out.mono ?_
  rintro e w9 ⟨rfl, q_⟩; have b_ := below_drawn (Below.refl w8.heap.size w8) q_; clear q_
  have b9 : Below w8.heap.size w8 w9 := b_
  have s9 : w8.heap.size ≤ w9.heap.size := b9.size
  have HR_9 := Lib.hid (HR_8.out.kept (Kept.of_below b9 (by omega)))
  have HXI1_9 := Lib.hid (HXI1_8.out.kept (Kept.of_below b9 (by omega)))
  have HXI2_9 := Lib.hid (HXI2_8.out.kept (Kept.of_below b9 (by omega)))
  have HG_9 := Lib.hid (HG_8.out.kept (Kept.of_below b9 (by omega)))
  have HYI1_9 := Lib.hid (HYI1_8.out.kept (Kept.of_below b9 (by omega)))
  have B9 : Hid (Below w.heap.size w w9) := below_then B8.out b9
  clear HR_8 HXI1_8 HXI2_8 HG_8 HYI1_8 b_
  clear HC_
  clear HYI1_9
  have hC_ := toInts_view 0 w.heap.size a2 c2 n2 xs2 w9 (HV2.out.kept (Kept.of_below B9.out (Nat.le_refl _))) B9.out.size (by omega)
  have HC_ := Lib.hid hC_
  clear hC_
  go_wp2_with fail
  refine HC_.out.mono ?_
  rintro e w10 ⟨rfl, o_, b_⟩
  have b10 : Below w9.heap.size w9 w10 := b_
  have s10 : w9.heap.size ≤ w10.heap.size := b10.size
  have HR_10 := Lib.hid (HR_9.out.kept (Kept.of_below b10 (by omega)))
  have HXI1_10 := Lib.hid (HXI1_9.out.kept (Kept.of_below b10 (by omega)))
  have HXI2_10 := Lib.hid (HXI2_9.out.kept (Kept.of_below b10 (by omega)))
  have HG_10 := Lib.hid (HG_9.out.kept (Kept.of_below b10 (by omega)))
  have B10 : Hid (Below w.heap.size w w10) := below_then B9.out b10
  clear HR_9 HXI1_9 HXI2_9 HG_9 b_
  clear HC_
  have HYI2_10 := Lib.hid (OwnsInts.of_row o_).view
  clear o_
  have hC_ := eqInts_view _ _ _ _ _ _ n2 n2 n2 xs2 w10 HXI2_10.out.view HYI2_10.out (by unfold maxLen; omega)
  have HC_ := Lib.hid hC_
  clear hC_
  go_wp2_with fail
  refine HC_.out.mono ?_
  rintro e w11 ⟨rfl, q_⟩; have b_ := below_drawn (Below.refl w10.heap.size w10) q_; clear q_
  have b11 : Below w10.heap.size w10 w11 := b_
  have s11 : w10.heap.size ≤ w11.heap.size := b11.size
  have HR_11 := Lib.hid (HR_10.out.kept (Kept.of_below b11 (by omega)))
  have HXI1_11 := Lib.hid (HXI1_10.out.kept (Kept.of_below b11 (by omega)))
  have HXI2_11 := Lib.hid (HXI2_10.out.kept (Kept.of_below b11 (by omega)))
  have HG_11 := Lib.hid (HG_10.out.kept (Kept.of_below b11 (by omega)))
  have HYI2_11 := Lib.hid (HYI2_10.out.kept (Kept.of_below b11 (by omega)))
  have B11 : Hid (Below w.heap.size w w11) := below_then B10.out b11
  clear HR_10 HXI1_10 HXI2_10 HG_10 HYI2_10 b_
  clear HC_
  clear HYI2_11
  have hC_ := markInts_own _ _ n1 n1 (1) _ xs1 w11 (by omega) (by omega) HXI1_11.out
  have HC_ := Lib.hid hC_
  clear hC_
  go_wp2_with fail
  refine HC_.out.mono ?_
  rintro e w12 ⟨rfl, o_, b_⟩; clear o_
  have s12 : w11.heap.size ≤ w12.heap.size := b_.size
  have HR_12 := Lib.hid (HR_11.out.kept (kept_only b_ (by omega) (by omega)))
  have HXI2_12 := Lib.hid (HXI2_11.out.kept (kept_only b_ (by omega) (by omega)))
  have HG_12 := Lib.hid (HG_11.out.kept (kept_only b_ (by omega) (by omega)))
  have B12 : Hid (Below w.heap.size w w12) := below_only B11.out b_ (by omega) (by omega)
  clear HR_11 HXI2_11 HG_11 HXI1_11 b_
  clear HC_
  have hC_ := markInts_own _ _ n2 n2 (1 + (n1 : Int)) _ xs2 w12 (by omega) (by omega) HXI2_12.out
  have HC_ := Lib.hid hC_
  clear hC_
  go_wp2_with fail
  refine HC_.out.mono ?_
  rintro e w13 ⟨rfl, o_, b_⟩; clear o_
  have s13 : w12.heap.size ≤ w13.heap.size := b_.size
  have HR_13 := Lib.hid (HR_12.out.kept (kept_only b_ (by omega) (by omega)))
  have HG_13 := Lib.hid (HG_12.out.kept (kept_only b_ (by omega) (by omega)))
  have B13 : Hid (Below w.heap.size w w13) := below_only B12.out b_ (by omega) (by omega)
  clear HR_12 HG_12 HXI2_12 b_
  clear HC_
  have HGV_ := Lib.hid HG_13.out.view
  have hC_ := eqInts_view _ _ _ _ _ _ Gc Rc rn rs w13 HGV_.out HR_13.out (by unfold maxLen; omega)
  have HC_ := Lib.hid hC_
  clear hC_
  go_wp2_with fail
  refine HC_.out.mono ?_
  rintro e w14 ⟨rfl, q_⟩; have b_ := below_drawn (Below.refl w13.heap.size w13) q_; clear q_
  have b14 : Below w13.heap.size w13 w14 := b_
  have s14 : w13.heap.size ≤ w14.heap.size := b14.size
  have HR_14 := Lib.hid (HR_13.out.kept (Kept.of_below b14 (by omega)))
  have HG_14 := Lib.hid (HG_13.out.kept (Kept.of_below b14 (by omega)))
  have B14 : Hid (Below w.heap.size w w14) := below_then B13.out b14
  clear HR_13 HG_13 b_
  clear HC_
  clear HGV_
  have hC_ := markInts_own _ _ rn Gc 1 Ga rs w14 (by omega) (by omega) HG_14.out
  have HC_ := Lib.hid hC_
  clear hC_
  go_wp2_with fail
  refine HC_.out.mono ?_
  rintro e w15 ⟨rfl, o_, b_⟩
  have s15 : w14.heap.size ≤ w15.heap.size := b_.size
  have HR_15 := Lib.hid (HR_14.out.kept (kept_only b_ (by omega) (by omega)))
  have B15 : Hid (Below w.heap.size w w15) := below_only B14.out b_ (by omega) (by omega)
  clear HR_14 HG_14 b_
  clear HC_
  have HG_15 := Lib.hid o_.view
  clear o_
  have hC_ := heldInts_view _ _ Ga Gc rn 1 w15 (by omega) (by omega) HG_15.out
  have HC_ := Lib.hid hC_
  clear hC_
  go_wp2_with fail
  refine HC_.out.mono ?_
  rintro e w_ ⟨rfl, rfl⟩
  clear HC_
  have hC_ := toInts_view 0 w.heap.size a1 c1 n1 xs1 w15 (HV1.out.kept (Kept.of_below B15.out (Nat.le_refl _))) B15.out.size (by omega)
  have HC_ := Lib.hid hC_
  clear hC_
  go_wp2_with fail
  refine HC_.out.mono ?_
  rintro e w16 ⟨rfl, o_, b_⟩
  have b16 : Below w15.heap.size w15 w16 := b_
  have s16 : w15.heap.size ≤ w16.heap.size := b16.size
  have HR_16 := Lib.hid (HR_15.out.kept (Kept.of_below b16 (by omega)))
  have HG_16 := Lib.hid (HG_15.out.kept (Kept.of_below b16 (by omega)))
  have B16 : Hid (Below w.heap.size w w16) := below_then B15.out b16
  clear HR_15 HG_15 b_
  clear HC_
  have HTI1_16 := Lib.hid (OwnsInts.of_row o_).view
  clear o_
  have hC_ := toInts_view 0 w.heap.size a2 c2 n2 xs2 w16 (HV2.out.kept (Kept.of_below B16.out (Nat.le_refl _))) B16.out.size (by omega)
  have HC_ := Lib.hid hC_
  clear hC_
  go_wp2_with fail
  refine HC_.out.mono ?_
  rintro e w17 ⟨rfl, o_, b_⟩
  have b17 : Below w16.heap.size w16 w17 := b_
  have s17 : w16.heap.size ≤ w17.heap.size := b17.size
  have HR_17 := Lib.hid (HR_16.out.kept (Kept.of_below b17 (by omega)))
  have HG_17 := Lib.hid (HG_16.out.kept (Kept.of_below b17 (by omega)))
  have HTI1_17 := Lib.hid (HTI1_16.out.kept (Kept.of_below b17 (by omega)))
  have B17 : Hid (Below w.heap.size w w17) := below_then B16.out b17
  clear HR_16 HG_16 HTI1_16 b_
  clear HC_
  have HTI2_17 := Lib.hid (OwnsInts.of_row o_).view
  clear o_
  have hC_ := implMeetPartitions z0 _ _ _ n1 n1 xs1 _ _ _ n2 n2 xs2 w17 HW0.out HTI1_17.out (by omega) (by unfold maxLen; omega) HTI2_17.out (by omega) (by unfold maxLen; omega)
  simp only [HVal.out] at hC_
  have HC_ := Lib.hid hC_
  clear hC_
  go_wp2_with fail
  refine HC_.out.mono ?_
  rintro e w18 ⟨Ua, Un, Uc, rfl, hq_, o_, b_⟩
  have b18 : Below w17.heap.size w17 w18 := b_
  have s18 : w17.heap.size ≤ w18.heap.size := b18.size
  have HR_18 := Lib.hid (HR_17.out.kept (Kept.of_below b18 (by omega)))
  have HG_18 := Lib.hid (HG_17.out.kept (Kept.of_below b18 (by omega)))
  have HTI1_18 := Lib.hid (HTI1_17.out.kept (Kept.of_below b18 (by omega)))
  have HTI2_18 := Lib.hid (HTI2_17.out.kept (Kept.of_below b18 (by omega)))
  have B18 : Hid (Below w.heap.size w w18) := below_then B17.out b18
  clear HR_17 HG_17 HTI1_17 HTI2_17 b_
  clear HC_
  obtain rfl : rn = Un := HRn.out.trans hq_.symm
  have HU_18 := Lib.hid o_.view
  clear o_ hq_
  clear HTI1_18
  clear HTI2_18
  have hC_ := eqInts_view _ _ _ _ _ _ Uc Rc rn rs w18 HU_18.out HR_18.out (by unfold maxLen; omega)
  have HC_ := Lib.hid hC_
  clear hC_
  go_wp2_with fail
  refine HC_.out.mono ?_
  rintro e w19 ⟨rfl, q_⟩; have b_ := below_drawn (Below.refl w18.heap.size w18) q_; clear q_
  have b19 : Below w18.heap.size w18 w19 := b_
  have s19 : w18.heap.size ≤ w19.heap.size := b19.size
  have HR_19 := Lib.hid (HR_18.out.kept (Kept.of_below b19 (by omega)))
  have HG_19 := Lib.hid (HG_18.out.kept (Kept.of_below b19 (by omega)))
  have HU_19 := Lib.hid (HU_18.out.kept (Kept.of_below b19 (by omega)))
  have B19 : Hid (Below w.heap.size w w19) := below_then B18.out b19
  clear HR_18 HG_18 HU_18 b_
  clear HC_
  have hC_ := heldInts_view _ _ Ga Gc rn 1 w19 (by omega) (by omega) HG_19.out
  have HC_ := Lib.hid hC_
  clear hC_
  go_wp2_with fail
  refine HC_.out.mono ?_
  rintro e w_ ⟨rfl, rfl⟩
  clear HC_
  go_wp2_with fail
  go_ret
  exact ⟨rfl, B19.out⟩

theorem lawMeetPartitions (w : World) (z0 : Int) (wz0 : (Lit.int .i64 z0).wf = true) (a1 : Option Addr) (n1 c1 : Nat) (xs1 : List Int) (hc1 : n1 ≤ c1) (hm1 : c1 ≤ maxLen) (hv1 : IView w 0 w.heap.size a1 n1 xs1) (a2 : Option Addr) (n2 c2 : Nat) (xs2 : List Int) (hc2 : n2 ≤ c2) (hm2 : c2 ≤ maxLen) (hv2 : IView w 0 w.heap.size a2 n2 xs2) :
    Calls Try.prog 7 #[.int .i64 z0, .slice a1 n1 c1, .slice a2 n2 c2] w fun e w' => e = .returned (.bool true) ∧ Below w.heap.size w w' := by
  rcases Nat.lt_or_ge 1048576 n1 with hb1 | hb1
  · exact lawMeetPartitions_big1 w z0 wz0 a1 n1 c1 xs1 hc1 hm1 hv1 a2 n2 c2 xs2 hc2 hm2 hv2  hb1
  rcases Nat.lt_or_ge 1048576 n2 with hb2 | hb2
  · exact lawMeetPartitions_big2 w z0 wz0 a1 n1 c1 xs1 hc1 hm1 hv1 a2 n2 c2 xs2 hc2 hm2 hv2 hb1 hb2
  exact lawMeetPartitions_fit w z0 wz0 a1 n1 c1 xs1 hc1 hm1 hv1 a2 n2 c2 xs2 hc2 hm2 hv2 hb1 hb2  (smallMeetPartitions z0 xs1 xs2)

end Go.Proofs.Ytgejpkpilnfddaa
