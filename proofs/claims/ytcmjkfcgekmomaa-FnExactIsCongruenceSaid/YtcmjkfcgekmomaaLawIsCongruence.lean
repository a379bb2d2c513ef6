/-
  The walk of the law FnExactIsCongruence: IsCongruence answers as its model and changes no argument. Conditions: the lengths are at most maxLen.
-/
import Derived.Test.YtcmjkfcgekmomaaStep
import Derived.Deep.DrawnRows
import Derived.Deep.RegionHeld3
import Derived.Test.YtcmjkfcgekmomaaCgS
namespace Go.Proofs.Ytcmjkfcgekmomaa
open Go.RowKit
set_option linter.unusedVariables false
set_option linter.unusedSimpArgs false
attribute [local go_sem ↓] Go.wp_at_zero Go.wp_at_succ

theorem lawIsCongruence_big1 (w : World) (z0 : Int) (a0 : Option Addr) (n0 c0 : Nat) (fs0 : List OpD) (wz0 : (Lit.int .i64 z0).wf = true) (hn0 : n0 ≤ maxLen) (ht0 : ∀ (j : Nat) (f : OpD), fs0[j]? = some f → f.2.length ≤ maxLen) (hv0 : OView w 0 w.heap.size a0 n0 fs0) (a1 : Option Addr) (n1 c1 : Nat) (xs1 : List Int) (hc1 : n1 ≤ c1) (hm1 : c1 ≤ maxLen) (hv1 : IView w 0 w.heap.size a1 n1 xs1) (hb : 1048576 < n1) :
    Calls Try.prog 6 #[.agg #[.int .i64 z0, .slice a0 n0 c0], .slice a1 n1 c1] w fun e w' => e = .returned (.bool true) ∧ Below w.heap.size w w' := by
  have hx : n1 ≤ 9223372036854775807 := by unfold maxLen at hm1; omega
  have hB0 := Lib.hid (below_alloc w (.cells #[.int .i64 z0, .slice a0 n0 c0] 24))
  clear hv0 ht0 hn0 wz0 hm1 hv1
  go_enter Try.func6, Try.ntmps6
  go_wp2
  go_ret
  exact ⟨rfl, hB0.out⟩

set_option maxHeartbeats 400000 in
theorem lawIsCongruence_no0 (w : World) (z0 : Int) (a0 : Option Addr) (n0 c0 : Nat) (fs0 : List OpD) (wz0 : (Lit.int .i64 z0).wf = true) (hn0 : n0 ≤ maxLen) (ht0 : ∀ (j : Nat) (f : OpD), fs0[j]? = some f → f.2.length ≤ maxLen) (hv0 : OView w 0 w.heap.size a0 n0 fs0) (a1 : Option Addr) (n1 c1 : Nat) (xs1 : List Int) (hc1 : n1 ≤ c1) (hm1 : c1 ≤ maxLen) (hv1 : IView w 0 w.heap.size a1 n1 xs1) (hb1 : n1 ≤ 1048576) (hfit0 : ¬ ((n0 + osum fs0 : Nat) : Int) ≤ 1048576) :
    Calls Try.prog 6 #[.agg #[.int .i64 z0, .slice a0 n0 c0], .slice a1 n1 c1] w fun e w' => e = .returned (.bool true) ∧ Below w.heap.size w w' := by
  have hB0 := (below_alloc w (.cells #[.int .i64 z0, .slice a0 n0 c0] 24))
  have hsz0 := fun (W : World) (hW : Below w.heap.size w W) => szAlg_any w.heap.size z0 a0 c0 n0 fs0 (1048576) W (hv0.kept (Kept.of_below hW (Nat.le_refl _))) hW.size hn0 ht0 (by omega) (by omega)
  simp only [szI_no (show ¬ ((n0 + osum fs0 : Nat) : Int) ≤ 1048576 by omega)] at hsz0
  have HSz0 := Lib.hid hsz0
  clear hsz0
  have HB0 := Lib.hid hB0
  clear hB0 hv0 ht0 hn0 wz0 hm1 hv1 hfit0
  go_enter Try.func6, Try.ntmps6
  go_wp2_with fail
  refine (HSz0.out _ HB0.out).mono ?_
  rintro e v1 ⟨rfl, b1⟩
  have B1 := Lib.hid (below_then HB0.out b1)
  clear b1
  go_wp2_with fail
  go_ret
  exact ⟨rfl, B1.out⟩

set_option maxRecDepth 100000 in
set_option maxHeartbeats 4000000 in
theorem lawIsCongruence_fit (w : World) (z0 : Int) (a0 : Option Addr) (n0 c0 : Nat) (fs0 : List OpD) (wz0 : (Lit.int .i64 z0).wf = true) (hn0 : n0 ≤ maxLen) (ht0 : ∀ (j : Nat) (f : OpD), fs0[j]? = some f → f.2.length ≤ maxLen) (hv0 : OView w 0 w.heap.size a0 n0 fs0) (a1 : Option Addr) (n1 c1 : Nat) (xs1 : List Int) (hc1 : n1 ≤ c1) (hm1 : c1 ≤ maxLen) (hv1 : IView w 0 w.heap.size a1 n1 xs1) (hb1 : n1 ≤ 1048576) (hfit0 : ((n0 + osum fs0 : Nat) : Int) ≤ 1048576) :
    Calls Try.prog 6 #[.agg #[.int .i64 z0, .slice a0 n0 c0], .slice a1 n1 c1] w fun e w' => e = .returned (.bool true) ∧ Below w.heap.size w w' := by
  obtain ⟨hn1_0, hn2_0, hn3_0, hs80, hsM0⟩ := small_of (left := 1048576) (show ((n0 + osum fs0 : Nat) : Int) ≤ 1048576 by omega) (Int.le_refl _)
  have hB0 := (below_alloc w (.cells #[.int .i64 z0, .slice a0 n0 c0] 24))
  have hsz0 := fun (W : World) (hW : Below w.heap.size w W) => szAlg_any w.heap.size z0 a0 c0 n0 fs0 (1048576) W (hv0.kept (Kept.of_below hW (Nat.le_refl _))) hW.size hn0 ht0 (by omega) (by omega)
  obtain ⟨l1, hl_1, hl_1a, hl_1b⟩ : ∃ l : Int, l = 1048576 - ((n0 + osum fs0 : Nat) : Int) ∧ 0 ≤ l ∧ l ≤ 1048576 := ⟨_, rfl, by omega, by omega⟩
  simp only [szI_yes (show ((n0 + osum fs0 : Nat) : Int) ≤ 1048576 by omega), ← hl_1] at hsz0
  have HSz0 := Lib.hid hsz0
  clear hsz0
  have HB0 := Lib.hid hB0
  have HV0 := Lib.hid hv0
  have hl0 := Lib.hid hv0.1
  have HW0 := Lib.hid wz0
  have HS80 := Lib.hid hs80
  have HSM0 := Lib.hid hsM0
  have HFit0 : Hid (((n0 + osum fs0 : Nat) : Int) ≤ 1048576) := (show ((n0 + osum fs0 : Nat) : Int) ≤ 1048576 by omega)
  have HV1 := Lib.hid hv1
  have hl1 := Lib.hid hv1.1
  obtain ⟨⟨r, ok⟩, hval⟩ : ∃ p, valIsCongruence z0 fs0 xs1 = p := ⟨_, rfl⟩
  have HVal := Lib.hid hval
  clear hB0 hval hv0 ht0 hn0 wz0 hm1 hv1 hc1 hs80 hsM0 hn2_0 hfit0 hl_1
  have hne_r : (r != r) = false := by cases r <;> rfl
  have hne_ok : (ok != ok) = false := by cases ok <;> rfl
  go_enter Try.func6, Try.ntmps6
  go_wp2_with fail
  refine (HSz0.out _ (below_alloc w (.cells #[.int .i64 z0, .slice a0 n0 c0] 24))).mono ?_
  rintro e w1 ⟨rfl, b_⟩
  have b1 : Below w.heap.size w w1 := below_then (below_alloc w (.cells #[.int .i64 z0, .slice a0 n0 c0] 24)) b_
  have s1 : w.heap.size ≤ w1.heap.size := b1.size
  have a00_1 : w1.cell? ⟨w.heap.size, 0, none⟩ = some (.int .i64 z0) := cell_b b_ (by simp)
  have a01_1 : w1.cell? ⟨w.heap.size, 1, none⟩ = some (.slice a0 n0 c0) := cell_b b_ (by simp)
  have za0 : w.heap.size < w1.heap.size := (by have := b_.size; simp at this; omega)
  have B1 : Hid (Below w.heap.size w w1) := b1
  clear b_
  have hC_ := toAlg_view w.heap.size z0 a0 c0 n0 fs0 w1 (HV0.out.kept (Kept.of_below B1.out (Nat.le_refl _))) B1.out.size hn3_0 HS80.out
  have HC_ := Lib.hid hC_
  clear hC_
  go_wp2_with fail
  refine HC_.out.mono ?_
  rintro e w2 ⟨S0g, rfl, m_⟩; have b_ := m_.2
  have b2 : Below w1.heap.size w1 w2 := b_
  have s2 : w1.heap.size ≤ w2.heap.size := b2.size
  have a00_2 : w2.cell? ⟨w.heap.size, 0, none⟩ = some (.int .i64 z0) := cell_b b2 a00_1
  have a01_2 : w2.cell? ⟨w.heap.size, 1, none⟩ = some (.slice a0 n0 c0) := cell_b b2 a01_1
  have B2 : Hid (Below w.heap.size w w2) := below_then B1.out b2
  clear a00_1 a01_1 b_
  clear HC_
  have m_ := m_.view hl0.out
  have HS0_2 := Lib.hid m_
  clear m_
  have hC_ := toInts_view 0 w.heap.size a1 c1 n1 xs1 w2 (HV1.out.kept (Kept.of_below B2.out (Nat.le_refl _))) B2.out.size (by omega)
  have HC_ := Lib.hid hC_
  clear hC_
  go_wp2_with fail
  refine HC_.out.mono ?_
  rintro e w3 ⟨rfl, o_, b_⟩
  have b3 : Below w2.heap.size w2 w3 := b_
  have s3 : w2.heap.size ≤ w3.heap.size := b3.size
  have a00_3 : w3.cell? ⟨w.heap.size, 0, none⟩ = some (.int .i64 z0) := cell_b b3 a00_2
  have a01_3 : w3.cell? ⟨w.heap.size, 1, none⟩ = some (.slice a0 n0 c0) := cell_b b3 a01_2
  have HS0_3 := Lib.hid (HS0_2.out.kept (Kept.of_below b3 (by omega)))
  have B3 : Hid (Below w.heap.size w w3) := below_then B2.out b3
  clear a00_2 a01_2 HS0_2 b_
  clear HC_
  have HSI1_3 := Lib.hid (OwnsInts.of_row o_).view
  clear o_
  have hC_ := specIsCongruence _ _ z0 _ n0 n0 fs0 _ _ _ n1 n1 xs1 w3 HS0_3.out (by omega) HSM0.out HSI1_3.out (by omega) (by unfold maxLen; omega)
  simp only [HVal.out] at hC_
  have HC_ := Lib.hid hC_
  clear hC_
  go_wp2_with fail
  refine HC_.out.mono ?_
  rintro e w4 ⟨rfl, b_⟩
  have b4 : Below w3.heap.size w3 w4 := b_
  have s4 : w3.heap.size ≤ w4.heap.size := b4.size
  have a00_4 : w4.cell? ⟨w.heap.size, 0, none⟩ = some (.int .i64 z0) := cell_b b4 a00_3
  have a01_4 : w4.cell? ⟨w.heap.size, 1, none⟩ = some (.slice a0 n0 c0) := cell_b b4 a01_3
  have HS0_4 := Lib.hid (HS0_3.out.kept (Kept.of_below b4 (by omega)))
  have HSI1_4 := Lib.hid (HSI1_3.out.kept (Kept.of_below b4 (by omega)))
  have B4 : Hid (Below w.heap.size w w4) := below_then B3.out b4
  clear a00_3 a01_3 HS0_3 HSI1_3 b_
  clear HC_
  clear HS0_4
  clear HSI1_4
  have hC_ := toAlg_view w.heap.size z0 a0 c0 n0 fs0 w4 (HV0.out.kept (Kept.of_below B4.out (Nat.le_refl _))) B4.out.size hn3_0 HS80.out
  have HC_ := Lib.hid hC_
  clear hC_
  go_wp2_with fail
  refine HC_.out.mono ?_
  rintro e w5 ⟨X0g, rfl, m_⟩; have b_ := m_.2
  have b5 : Below w4.heap.size w4 w5 := b_
  have s5 : w4.heap.size ≤ w5.heap.size := b5.size
  have a00_5 : w5.cell? ⟨w.heap.size, 0, none⟩ = some (.int .i64 z0) := cell_b b5 a00_4
  have a01_5 : w5.cell? ⟨w.heap.size, 1, none⟩ = some (.slice a0 n0 c0) := cell_b b5 a01_4
  have B5 : Hid (Below w.heap.size w w5) := below_then B4.out b5
  clear a00_4 a01_4 b_
  clear HC_
  obtain ⟨⟨X0G, X0C, m_⟩, _⟩ := m_
  have HX0_5 := Lib.hid m_
  clear m_
  have hC_ := toInts_view 0 w.heap.size a1 c1 n1 xs1 (w5.alloc (.cells #[.int .i64 z0, .slice (some ⟨X0g, 0, none⟩) n0 n0] 31)) (HV1.out.kept (Kept.of_below (below_then B5.out (below_alloc w5 (.cells #[.int .i64 z0, .slice (some ⟨X0g, 0, none⟩) n0 n0] 31))) (Nat.le_refl _))) (below_then B5.out (below_alloc w5 (.cells #[.int .i64 z0, .slice (some ⟨X0g, 0, none⟩) n0 n0] 31))).size (by omega)
  have HC_ := Lib.hid hC_
  clear hC_
  go_wp2_with fail
  refine HC_.out.mono ?_
  rintro e w6 ⟨rfl, o_, b_⟩
  have b6 : Below w5.heap.size w5 w6 := below_then (below_alloc w5 (.cells #[.int .i64 z0, .slice (some ⟨X0g, 0, none⟩) n0 n0] 31)) b_
  have s6 : w5.heap.size ≤ w6.heap.size := b6.size
  have a00_6 : w6.cell? ⟨w.heap.size, 0, none⟩ = some (.int .i64 z0) := cell_b b6 a00_5
  have a01_6 : w6.cell? ⟨w.heap.size, 1, none⟩ = some (.slice a0 n0 c0) := cell_b b6 a01_5
  have HX0_6 := Lib.hid (HX0_5.out.kept (Kept.of_below b6 (by omega)))
  have x00_6 : w6.cell? ⟨w5.heap.size, 0, none⟩ = some (.int .i64 z0) := cell_b b_ (by simp)
  have x01_6 : w6.cell? ⟨w5.heap.size, 1, none⟩ = some (.slice (some ⟨X0g, 0, none⟩) n0 n0) := cell_b b_ (by simp)
  have zx0 : w5.heap.size < w6.heap.size := (by have := b_.size; simp at this; omega)
  have B6 : Hid (Below w.heap.size w w6) := below_then B5.out b6
  clear a00_5 a01_5 HX0_5 b_
  clear HC_
  simp only [World.size_alloc, World.size_drew] at o_
  have HXI1_6 := Lib.hid (OwnsInts.of_row o_)
  clear o_
  have h_ := HX0_6.out.view
  rw [← hl0.out, map_range_get, hl0.out] at h_
  have HXV0_ := Lib.hid h_
  clear h_
  have hC_ := implIsCongruence _ _ z0 _ n0 n0 fs0 _ _ _ n1 n1 xs1 w6 HXV0_.out (by omega) HSM0.out HXI1_6.out.view (by omega) (by unfold maxLen; omega)
  simp only [HVal.out] at hC_
  have HC_ := Lib.hid hC_
  clear hC_
  go_wp2_with fail
  refine HC_.out.mono ?_
  rintro e w7 ⟨rfl, b_⟩
  have b7 : Below w6.heap.size w6 w7 := b_
  have s7 : w6.heap.size ≤ w7.heap.size := b7.size
  have a00_7 : w7.cell? ⟨w.heap.size, 0, none⟩ = some (.int .i64 z0) := cell_b b7 a00_6
  have a01_7 : w7.cell? ⟨w.heap.size, 1, none⟩ = some (.slice a0 n0 c0) := cell_b b7 a01_6
  have x00_7 : w7.cell? ⟨w5.heap.size, 0, none⟩ = some (.int .i64 z0) := cell_b b7 x00_6
  have x01_7 : w7.cell? ⟨w5.heap.size, 1, none⟩ = some (.slice (some ⟨X0g, 0, none⟩) n0 n0) := cell_b b7 x01_6
  have HX0_7 := Lib.hid (HX0_6.out.kept (Kept.of_below b7 (by omega)))
  have HXI1_7 := Lib.hid (HXI1_6.out.kept (Kept.of_below b7 (by omega)))
  have B7 : Hid (Below w.heap.size w w7) := below_then B6.out b7
  clear a00_6 a01_6 x00_6 x01_6 HX0_6 HXI1_6 b_
  clear HC_
  clear HXV0_
  go_wp2_with fail
  refine wp_region_noPanic ?_
  refine wp_region_held_drew (S := fun W => W.cell? ⟨w.heap.size, 0, none⟩ = some (.int .i64 z0) ∧ W.cell? ⟨w.heap.size, 1, none⟩ = some (.slice a0 n0 c0) ∧ W.cell? ⟨w5.heap.size, 0, none⟩ = some (.int .i64 z0) ∧ W.cell? ⟨w5.heap.size, 1, none⟩ = some (.slice (some ⟨X0g, 0, none⟩) n0 n0)) (by kernel_rfl) ?_ (fun hHeld => ?_)
  · exact ⟨a00_7, a01_7, x00_7, x01_7⟩
  refine wpAnyH_take (i := 0) (oi := ⟨_, _, _, _, _, _⟩) (v := ?_) rfl (by kernel_rfl) (by kernel_rfl) (by kernel_rfl) (fun _ _ _ h => h) (Or.inl ⟨rfl, ?_⟩) (by assumption) ?_
  rotate_left 1
  · intro w_ hSw; (try dsimp only at hSw); go_simp; (try with_reducible rfl)
  (try simp only [Act.put, List.setIfInBounds_toArray, List.set_cons_zero, List.set_cons_succ])
  refine wpAnyH_take (i := 1) (oi := ⟨_, _, _, _, _, _⟩) (v := ?_) rfl (by kernel_rfl) (by kernel_rfl) (by kernel_rfl) (fun _ _ _ h => h) (Or.inl ⟨rfl, ?_⟩) (by assumption) ?_
  rotate_left 1
  · intro w_ hSw; (try dsimp only at hSw); go_simp; (try with_reducible rfl)
  (try simp only [Act.put, List.setIfInBounds_toArray, List.set_cons_zero, List.set_cons_succ])
  refine wpAnyH_ready (rs := [2]) (by kernel_rfl) (by simp) ?_
  refine AllReadyH.cons (o := ⟨_, _, _, _, _, _⟩) rfl (fun K hK => ?_) AllReadyH.nil
  go_simp
  go_at_call 17
  have hC_ := toAlg_view w.heap.size z0 a0 c0 n0 fs0 w7.drew (HV0.out.kept (Kept.of_below (below_then B7.out (below_drew w7)) (Nat.le_refl _))) (below_then B7.out (below_drew w7)).size hn3_0 HS80.out
  refine hC_.mono ?_
  clear hC_
  rintro e w8 ⟨Y0g, rfl, m_⟩; have b_ := m_.2
  have b8 : Below w7.heap.size w7 w8 := below_then (below_drew w7) b_
  have s8 : w7.heap.size ≤ w8.heap.size := b8.size
  have a00_8 : w8.cell? ⟨w.heap.size, 0, none⟩ = some (.int .i64 z0) := cell_b b8 a00_7
  have a01_8 : w8.cell? ⟨w.heap.size, 1, none⟩ = some (.slice a0 n0 c0) := cell_b b8 a01_7
  have x00_8 : w8.cell? ⟨w5.heap.size, 0, none⟩ = some (.int .i64 z0) := cell_b b8 x00_7
  have x01_8 : w8.cell? ⟨w5.heap.size, 1, none⟩ = some (.slice (some ⟨X0g, 0, none⟩) n0 n0) := cell_b b8 x01_7
  have HX0_8 := Lib.hid (HX0_7.out.kept (Kept.of_below b8 (by omega)))
  have HXI1_8 := Lib.hid (HXI1_7.out.kept (Kept.of_below b8 (by omega)))
  have B8 : Hid (Below w.heap.size w w8) := below_then B7.out b8
  clear a00_7 a01_7 x00_7 x01_7 HX0_7 HXI1_7 b_
  have m_ := m_.view hl0.out
  simp only [World.size_alloc, World.size_drew] at m_
  have HY0_8 := Lib.hid m_
  clear m_
  go_wp2_with fail
  refine hK.out _ _ ?_ (fun hHeld => ?_)
  · exact ⟨a00_8, a01_8, x00_8, x01_8⟩
  clear hK K
  (try simp only [Act.put, List.setIfInBounds_toArray, List.set_cons_zero, List.set_cons_succ])
  refine wpAnyH_ready (rs := [3]) (by kernel_rfl) (by simp) ?_
  refine AllReadyH.cons (o := ⟨_, _, _, _, _, _⟩) rfl (fun K hK => ?_) AllReadyH.nil
  go_simp
  have h_ := HX0_8.out.view
  rw [← hl0.out, map_range_get, hl0.out] at h_
  have XV_ := Lib.hid h_
  clear h_
  go_at_call 21
  have hC_ := eqAlg_view _ _ _ _ z0 _ _ n0 n0 n0 fs0 w8 XV_.out HY0_8.out (by unfold maxLen; omega) HSM0.out (by omega) (by omega)
  refine hC_.mono ?_
  clear hC_
  rintro e w9 ⟨rfl, b_⟩; clear XV_
  have b9 : Below w8.heap.size w8 w9 := b_
  have s9 : w8.heap.size ≤ w9.heap.size := b9.size
  have a00_9 : w9.cell? ⟨w.heap.size, 0, none⟩ = some (.int .i64 z0) := cell_b b9 a00_8
  have a01_9 : w9.cell? ⟨w.heap.size, 1, none⟩ = some (.slice a0 n0 c0) := cell_b b9 a01_8
  have x00_9 : w9.cell? ⟨w5.heap.size, 0, none⟩ = some (.int .i64 z0) := cell_b b9 x00_8
  have x01_9 : w9.cell? ⟨w5.heap.size, 1, none⟩ = some (.slice (some ⟨X0g, 0, none⟩) n0 n0) := cell_b b9 x01_8
  have HX0_9 := Lib.hid (HX0_8.out.kept (Kept.of_below b9 (by omega)))
  have HXI1_9 := Lib.hid (HXI1_8.out.kept (Kept.of_below b9 (by omega)))
  have HY0_9 := Lib.hid (HY0_8.out.kept (Kept.of_below b9 (by omega)))
  have B9 : Hid (Below w.heap.size w w9) := below_then B8.out b9
  clear a00_8 a01_8 x00_8 x01_8 HX0_8 HXI1_8 HY0_8 b_
  go_wp2_with fail
  refine hK.out _ _ ?_ (fun hHeld => ?_)
  · exact ⟨a00_9, a01_9, x00_9, x01_9⟩
  clear hK K
  (try simp only [Act.put, List.setIfInBounds_toArray, List.set_cons_zero, List.set_cons_succ])
  refine wpAnyH_take (i := 4) (oi := ⟨_, _, _, _, _, _⟩) (v := ?_) rfl (by kernel_rfl) (by kernel_rfl) (by kernel_rfl) (fun _ _ _ h => h) (Or.inl ⟨rfl, ?_⟩) (by assumption) ?_
  rotate_left 1
  · intro w_ hSw; (try dsimp only at hSw); go_simp; (try with_reducible rfl)
  (try simp only [Act.put, List.setIfInBounds_toArray, List.set_cons_zero, List.set_cons_succ])
  refine wpAnyH_done (by kernel_rfl) ?_ _
  refine NoPanic.normal ?_
  clear HY0_9
  have hC_ := toInts_view 0 w.heap.size a1 c1 n1 xs1 w9 (HV1.out.kept (Kept.of_below B9.out (Nat.le_refl _))) B9.out.size (by omega)
  have HC_ := Lib.hid hC_
  clear hC_
  go_wp2_with fail
  refine HC_.out.mono ?_
  rintro e w10 ⟨rfl, o_, b_⟩
  have b10 : Below w9.heap.size w9 w10 := b_
  have s10 : w9.heap.size ≤ w10.heap.size := b10.size
  have a00_10 : w10.cell? ⟨w.heap.size, 0, none⟩ = some (.int .i64 z0) := cell_b b10 a00_9
  have a01_10 : w10.cell? ⟨w.heap.size, 1, none⟩ = some (.slice a0 n0 c0) := cell_b b10 a01_9
  have x00_10 : w10.cell? ⟨w5.heap.size, 0, none⟩ = some (.int .i64 z0) := cell_b b10 x00_9
  have x01_10 : w10.cell? ⟨w5.heap.size, 1, none⟩ = some (.slice (some ⟨X0g, 0, none⟩) n0 n0) := cell_b b10 x01_9
  have HX0_10 := Lib.hid (HX0_9.out.kept (Kept.of_below b10 (by omega)))
  have HXI1_10 := Lib.hid (HXI1_9.out.kept (Kept.of_below b10 (by omega)))
  have B10 : Hid (Below w.heap.size w w10) := below_then B9.out b10
  clear a00_9 a01_9 x00_9 x01_9 HX0_9 HXI1_9 b_
  clear HC_
  have HYI1_10 := Lib.hid (OwnsInts.of_row o_).view
  clear o_
  have hC_ := eqInts_view _ _ _ _ _ _ n1 n1 n1 xs1 w10 HXI1_10.out.view HYI1_10.out (by unfold maxLen; omega)
  have HC_ := Lib.hid hC_
  clear hC_
  go_wp2_with fail
  refine HC_.out.mono ?_
  rintro e w11 ⟨rfl, q_⟩; have b_ := below_drawn (Below.refl w10.heap.size w10) q_; clear q_
  have b11 : Below w10.heap.size w10 w11 := b_
  have s11 : w10.heap.size ≤ w11.heap.size := b11.size
  have a00_11 : w11.cell? ⟨w.heap.size, 0, none⟩ = some (.int .i64 z0) := cell_b b11 a00_10
  have a01_11 : w11.cell? ⟨w.heap.size, 1, none⟩ = some (.slice a0 n0 c0) := cell_b b11 a01_10
  have x00_11 : w11.cell? ⟨w5.heap.size, 0, none⟩ = some (.int .i64 z0) := cell_b b11 x00_10
  have x01_11 : w11.cell? ⟨w5.heap.size, 1, none⟩ = some (.slice (some ⟨X0g, 0, none⟩) n0 n0) := cell_b b11 x01_10
  have HX0_11 := Lib.hid (HX0_10.out.kept (Kept.of_below b11 (by omega)))
  have HXI1_11 := Lib.hid (HXI1_10.out.kept (Kept.of_below b11 (by omega)))
  have HYI1_11 := Lib.hid (HYI1_10.out.kept (Kept.of_below b11 (by omega)))
  have B11 : Hid (Below w.heap.size w w11) := below_then B10.out b11
  clear a00_10 a01_10 x00_10 x01_10 HX0_10 HXI1_10 HYI1_10 b_
  clear HC_
  clear HYI1_11
  go_wp2_with fail
  go_ret
  exact ⟨rfl, B11.out⟩

theorem lawIsCongruence (w : World) (z0 : Int) (a0 : Option Addr) (n0 c0 : Nat) (fs0 : List OpD) (wz0 : (Lit.int .i64 z0).wf = true) (hn0 : n0 ≤ maxLen) (ht0 : ∀ (j : Nat) (f : OpD), fs0[j]? = some f → f.2.length ≤ maxLen) (hv0 : OView w 0 w.heap.size a0 n0 fs0) (a1 : Option Addr) (n1 c1 : Nat) (xs1 : List Int) (hc1 : n1 ≤ c1) (hm1 : c1 ≤ maxLen) (hv1 : IView w 0 w.heap.size a1 n1 xs1) :
    Calls Try.prog 6 #[.agg #[.int .i64 z0, .slice a0 n0 c0], .slice a1 n1 c1] w fun e w' => e = .returned (.bool true) ∧ Below w.heap.size w w' := by
  rcases Nat.lt_or_ge 1048576 n1 with hb1 | hb1
  · exact lawIsCongruence_big1 w z0 a0 n0 c0 fs0 wz0 hn0 ht0 hv0 a1 n1 c1 xs1 hc1 hm1 hv1  hb1
  refine (Classical.em (((n0 + osum fs0 : Nat) : Int) ≤ 1048576)).elim (fun hfit0 => ?_) (fun hfit0 => lawIsCongruence_no0 w z0 a0 n0 c0 fs0 wz0 hn0 ht0 hv0 a1 n1 c1 xs1 hc1 hm1 hv1 hb1  hfit0)
  exact lawIsCongruence_fit w z0 a0 n0 c0 fs0 wz0 hn0 ht0 hv0 a1 n1 c1 xs1 hc1 hm1 hv1 hb1  hfit0

end Go.Proofs.Ytcmjkfcgekmomaa
