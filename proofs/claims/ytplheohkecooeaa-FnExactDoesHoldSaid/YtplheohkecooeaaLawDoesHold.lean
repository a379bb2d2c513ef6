/-
  The walk of the law FnExactDoesHold: both DoesHold tell the same, for every algebra and identity. Conditions: the lengths are at most maxLen.
-/
import Derived.Test.YtplheohkecooeaaStep
import Derived.Deep.DrawnRows
import Derived.Deep.RegionHeld3
import Derived.Test.YtplheohkecooeaaDhJ
import Derived.Test.YtplheohkecooeaaIdn
namespace Go.Proofs.Ytplheohkecooeaa
open Go.RowKit
set_option linter.unusedVariables false
set_option linter.unusedSimpArgs false
attribute [local go_sem ↓] Go.wp_at_zero Go.wp_at_succ

set_option maxHeartbeats 400000 in
theorem lawDoesHold_no0 (w : World) (z0 : Int) (a0 : Option Addr) (n0 c0 : Nat) (fs0 : List OpD) (wz0 : (Lit.int .i64 z0).wf = true) (hn0 : n0 ≤ maxLen) (ht0 : ∀ (j : Nat) (f : OpD), fs0[j]? = some f → f.2.length ≤ maxLen) (hv0 : OView w 0 w.heap.size a0 n0 fs0) (a1 : Option Addr) (n1 c1 : Nat) (xs1 : List Int) (hc1 : n1 ≤ c1) (hm1 : c1 ≤ maxLen) (hv1 : IView w 0 w.heap.size a1 n1 xs1) (hq1 : ∀ x, x ∈ xs1 → (Lit.int .i64 x).wf = true) (ba1 : Option Addr) (m1 d1 : Nat) (ys1 : List Int) (hd1 : m1 ≤ d1) (hk1 : d1 ≤ maxLen) (hu1 : IView w 0 w.heap.size ba1 m1 ys1) (hr1 : ∀ x, x ∈ ys1 → (Lit.int .i64 x).wf = true) (hfit0 : ¬ ((n0 + osum fs0 : Nat) : Int) ≤ 1048576) :
    Calls Try.prog 12 #[.agg #[.int .i64 z0, .slice a0 n0 c0], .agg #[.slice a1 n1 c1, .slice ba1 m1 d1]] w fun e w' => e = .returned (.bool true) ∧ Below w.heap.size w w' := by
  have hB0 := (below_then (below_alloc w (.cells #[.int .i64 z0, .slice a0 n0 c0] 24)) (below_alloc (w.alloc (.cells #[.int .i64 z0, .slice a0 n0 c0] 24)) (.cells #[.slice a1 n1 c1, .slice ba1 m1 d1] 60)))
  have hsz0 := fun (W : World) (hW : Below w.heap.size w W) => szAlg_any w.heap.size z0 a0 c0 n0 fs0 (1048576) W (hv0.kept (Kept.of_below hW (Nat.le_refl _))) hW.size hn0 ht0 (by omega) (by omega)
  simp only [szI_no (show ¬ ((n0 + osum fs0 : Nat) : Int) ≤ 1048576 by omega)] at hsz0
  have HSz0 := Lib.hid hsz0
  clear hsz0
  have HB0 := Lib.hid hB0
  clear hB0 hv0 ht0 hn0 wz0 hm1 hv1 hq1 hk1 hu1 hr1 hc1 hd1 hfit0
  go_enter Try.func12, Try.ntmps12
  go_wp2_with fail
  refine (HSz0.out _ HB0.out).mono ?_
  rintro e v1 ⟨rfl, b1⟩
  have B1 := Lib.hid (below_then HB0.out b1)
  clear b1
  go_wp2_with fail
  go_ret
  exact ⟨rfl, B1.out⟩

set_option maxHeartbeats 400000 in
theorem lawDoesHold_no1 (w : World) (z0 : Int) (a0 : Option Addr) (n0 c0 : Nat) (fs0 : List OpD) (wz0 : (Lit.int .i64 z0).wf = true) (hn0 : n0 ≤ maxLen) (ht0 : ∀ (j : Nat) (f : OpD), fs0[j]? = some f → f.2.length ≤ maxLen) (hv0 : OView w 0 w.heap.size a0 n0 fs0) (a1 : Option Addr) (n1 c1 : Nat) (xs1 : List Int) (hc1 : n1 ≤ c1) (hm1 : c1 ≤ maxLen) (hv1 : IView w 0 w.heap.size a1 n1 xs1) (hq1 : ∀ x, x ∈ xs1 → (Lit.int .i64 x).wf = true) (ba1 : Option Addr) (m1 d1 : Nat) (ys1 : List Int) (hd1 : m1 ≤ d1) (hk1 : d1 ≤ maxLen) (hu1 : IView w 0 w.heap.size ba1 m1 ys1) (hr1 : ∀ x, x ∈ ys1 → (Lit.int .i64 x).wf = true) (hfit0 : ((n0 + osum fs0 : Nat) : Int) ≤ 1048576) (hfit1 : ¬ ((n1 + m1 : Nat) : Int) ≤ 1048576 - ((n0 + osum fs0 : Nat) : Int)) :
    Calls Try.prog 12 #[.agg #[.int .i64 z0, .slice a0 n0 c0], .agg #[.slice a1 n1 c1, .slice ba1 m1 d1]] w fun e w' => e = .returned (.bool true) ∧ Below w.heap.size w w' := by
  have hB0 := (below_then (below_alloc w (.cells #[.int .i64 z0, .slice a0 n0 c0] 24)) (below_alloc (w.alloc (.cells #[.int .i64 z0, .slice a0 n0 c0] 24)) (.cells #[.slice a1 n1 c1, .slice ba1 m1 d1] 60)))
  have hsz0 := fun (W : World) (hW : Below w.heap.size w W) => szAlg_any w.heap.size z0 a0 c0 n0 fs0 (1048576) W (hv0.kept (Kept.of_below hW (Nat.le_refl _))) hW.size hn0 ht0 (by omega) (by omega)
  obtain ⟨l1, hl_1, hl_1a, hl_1b⟩ : ∃ l : Int, l = 1048576 - ((n0 + osum fs0 : Nat) : Int) ∧ 0 ≤ l ∧ l ≤ 1048576 := ⟨_, rfl, by omega, by omega⟩
  simp only [szI_yes (show ((n0 + osum fs0 : Nat) : Int) ≤ 1048576 by omega), ← hl_1] at hsz0
  have HSz0 := Lib.hid hsz0
  clear hsz0
  have hsz1 := fun (W : World) (hW : Below w.heap.size w W) => szIdn_any a1 ba1 c1 d1 n1 m1 (l1) W (Nat.le_trans hc1 hm1) (Nat.le_trans hd1 hk1) (by omega) (by omega)
  simp only [szI_no (show ¬ ((n1 + m1 : Nat) : Int) ≤ l1 by omega)] at hsz1
  have HSz1 := Lib.hid hsz1
  clear hsz1
  have HB0 := Lib.hid hB0
  clear hB0 hv0 ht0 hn0 wz0 hm1 hv1 hq1 hk1 hu1 hr1 hc1 hd1 hl_1 hfit0 hfit1
  go_enter Try.func12, Try.ntmps12
  go_wp2_with fail
  refine (HSz0.out _ HB0.out).mono ?_
  rintro e v1 ⟨rfl, b1⟩
  have y10_1 : v1.cell? ⟨w.heap.size + 1, 0, none⟩ = some (.slice a1 n1 c1) := cell_b b1 (by simp)
  have y11_1 : v1.cell? ⟨w.heap.size + 1, 1, none⟩ = some (.slice ba1 m1 d1) := cell_b b1 (by simp)
  have B1 := Lib.hid (below_then HB0.out b1)
  clear b1
  go_wp2_with fail
  refine (HSz1.out _ B1.out).mono ?_
  rintro e v2 ⟨rfl, b1⟩
  have B2 := Lib.hid (below_then B1.out b1)
  clear b1
  go_wp2_with fail
  go_ret
  exact ⟨rfl, B2.out⟩

set_option maxRecDepth 100000 in
set_option maxHeartbeats 4000000 in
theorem lawDoesHold_fit (w : World) (z0 : Int) (a0 : Option Addr) (n0 c0 : Nat) (fs0 : List OpD) (wz0 : (Lit.int .i64 z0).wf = true) (hn0 : n0 ≤ maxLen) (ht0 : ∀ (j : Nat) (f : OpD), fs0[j]? = some f → f.2.length ≤ maxLen) (hv0 : OView w 0 w.heap.size a0 n0 fs0) (a1 : Option Addr) (n1 c1 : Nat) (xs1 : List Int) (hc1 : n1 ≤ c1) (hm1 : c1 ≤ maxLen) (hv1 : IView w 0 w.heap.size a1 n1 xs1) (hq1 : ∀ x, x ∈ xs1 → (Lit.int .i64 x).wf = true) (ba1 : Option Addr) (m1 d1 : Nat) (ys1 : List Int) (hd1 : m1 ≤ d1) (hk1 : d1 ≤ maxLen) (hu1 : IView w 0 w.heap.size ba1 m1 ys1) (hr1 : ∀ x, x ∈ ys1 → (Lit.int .i64 x).wf = true) (hfit0 : ((n0 + osum fs0 : Nat) : Int) ≤ 1048576) (hfit1 : ((n1 + m1 : Nat) : Int) ≤ 1048576 - ((n0 + osum fs0 : Nat) : Int)) :
    Calls Try.prog 12 #[.agg #[.int .i64 z0, .slice a0 n0 c0], .agg #[.slice a1 n1 c1, .slice ba1 m1 d1]] w fun e w' => e = .returned (.bool true) ∧ Below w.heap.size w w' := by
  obtain ⟨hn1_0, hn2_0, hn3_0, hs80, hsM0⟩ := small_of (left := 1048576) (show ((n0 + osum fs0 : Nat) : Int) ≤ 1048576 by omega) (Int.le_refl _)
  obtain ⟨hn1_1, hm1_1⟩ : n1 ≤ 1048576 ∧ m1 ≤ 1048576 := ⟨by omega, by omega⟩
  have hB0 := (below_then (below_alloc w (.cells #[.int .i64 z0, .slice a0 n0 c0] 24)) (below_alloc (w.alloc (.cells #[.int .i64 z0, .slice a0 n0 c0] 24)) (.cells #[.slice a1 n1 c1, .slice ba1 m1 d1] 60)))
  have hsz0 := fun (W : World) (hW : Below w.heap.size w W) => szAlg_any w.heap.size z0 a0 c0 n0 fs0 (1048576) W (hv0.kept (Kept.of_below hW (Nat.le_refl _))) hW.size hn0 ht0 (by omega) (by omega)
  obtain ⟨l1, hl_1, hl_1a, hl_1b⟩ : ∃ l : Int, l = 1048576 - ((n0 + osum fs0 : Nat) : Int) ∧ 0 ≤ l ∧ l ≤ 1048576 := ⟨_, rfl, by omega, by omega⟩
  simp only [szI_yes (show ((n0 + osum fs0 : Nat) : Int) ≤ 1048576 by omega), ← hl_1] at hsz0
  have HSz0 := Lib.hid hsz0
  clear hsz0
  have hsz1 := fun (W : World) (hW : Below w.heap.size w W) => szIdn_any a1 ba1 c1 d1 n1 m1 (l1) W (Nat.le_trans hc1 hm1) (Nat.le_trans hd1 hk1) (by omega) (by omega)
  obtain ⟨l2, hl_2, hl_2a, hl_2b⟩ : ∃ l : Int, l = l1 - ((n1 + m1 : Nat) : Int) ∧ 0 ≤ l ∧ l ≤ 1048576 := ⟨_, rfl, by omega, by omega⟩
  simp only [szI_yes (show ((n1 + m1 : Nat) : Int) ≤ l1 by omega), ← hl_2] at hsz1
  have HSz1 := Lib.hid hsz1
  clear hsz1
  have HB0 := Lib.hid hB0
  have HV0 := Lib.hid hv0
  have hl0 := Lib.hid hv0.1
  have HW0 := Lib.hid wz0
  have HS80 := Lib.hid hs80
  have HSM0 := Lib.hid hsM0
  have HFit0 : Hid (((n0 + osum fs0 : Nat) : Int) ≤ 1048576) := (show ((n0 + osum fs0 : Nat) : Int) ≤ 1048576 by omega)
  have HV1 := Lib.hid hv1
  have HU1_ := Lib.hid hu1
  have HQ1 := Lib.hid hq1
  have HR1_ := Lib.hid hr1
  obtain ⟨⟨r, ok⟩, hval⟩ : ∃ p, valDoesHold z0 fs0 xs1 ys1 = p := ⟨_, rfl⟩
  have HVal := Lib.hid hval
  clear hB0 hval hv0 ht0 hn0 wz0 hm1 hv1 hq1 hk1 hu1 hr1 hc1 hd1 hs80 hsM0 hn2_0 hfit0 hfit1 hl_1 hl_2
  have hne_r : (r != r) = false := by cases r <;> rfl
  have hne_ok : (ok != ok) = false := by cases ok <;> rfl
  go_enter Try.func12, Try.ntmps12
  go_wp2_with fail
  refine (HSz0.out _ (below_then (below_alloc w (.cells #[.int .i64 z0, .slice a0 n0 c0] 24)) (below_alloc (w.alloc (.cells #[.int .i64 z0, .slice a0 n0 c0] 24)) (.cells #[.slice a1 n1 c1, .slice ba1 m1 d1] 60)))).mono ?_
  rintro e w1 ⟨rfl, b_⟩
  have b1 : Below w.heap.size w w1 := below_then (below_then (below_alloc w (.cells #[.int .i64 z0, .slice a0 n0 c0] 24)) (below_alloc (w.alloc (.cells #[.int .i64 z0, .slice a0 n0 c0] 24)) (.cells #[.slice a1 n1 c1, .slice ba1 m1 d1] 60))) b_
  have s1 : w.heap.size ≤ w1.heap.size := b1.size
  have a00_1 : w1.cell? ⟨w.heap.size, 0, none⟩ = some (.int .i64 z0) := cell_b b_ (by simp)
  have a01_1 : w1.cell? ⟨w.heap.size, 1, none⟩ = some (.slice a0 n0 c0) := cell_b b_ (by simp)
  have za0 : w.heap.size < w1.heap.size := (by have := b_.size; simp at this; omega)
  have a10_1 : w1.cell? ⟨w.heap.size + 1, 0, none⟩ = some (.slice a1 n1 c1) := cell_b b_ (by simp)
  have a11_1 : w1.cell? ⟨w.heap.size + 1, 1, none⟩ = some (.slice ba1 m1 d1) := cell_b b_ (by simp)
  have za1 : w.heap.size + 1 < w1.heap.size := (by have := b_.size; simp at this; omega)
  have B1 : Hid (Below w.heap.size w w1) := b1
  clear b_
  go_wp2_with fail
  refine (HSz1.out _ B1.out).mono ?_
  rintro e w2 ⟨rfl, b_⟩
  have b2 : Below w1.heap.size w1 w2 := b_
  have s2 : w1.heap.size ≤ w2.heap.size := b2.size
  have a00_2 : w2.cell? ⟨w.heap.size, 0, none⟩ = some (.int .i64 z0) := cell_b b2 a00_1
  have a01_2 : w2.cell? ⟨w.heap.size, 1, none⟩ = some (.slice a0 n0 c0) := cell_b b2 a01_1
  have a10_2 : w2.cell? ⟨w.heap.size + 1, 0, none⟩ = some (.slice a1 n1 c1) := cell_b b2 a10_1
  have a11_2 : w2.cell? ⟨w.heap.size + 1, 1, none⟩ = some (.slice ba1 m1 d1) := cell_b b2 a11_1
  have B2 : Hid (Below w.heap.size w w2) := below_then B1.out b2
  clear a00_1 a01_1 a10_1 a11_1 b_
  go_wp2_with fail
  refine wp_region_noPanic ?_
  refine wp_region_held_drew (S := fun W => W.cell? ⟨w.heap.size, 0, none⟩ = some (.int .i64 z0) ∧ W.cell? ⟨w.heap.size, 1, none⟩ = some (.slice a0 n0 c0) ∧ W.cell? ⟨w.heap.size + 1, 0, none⟩ = some (.slice a1 n1 c1) ∧ W.cell? ⟨w.heap.size + 1, 1, none⟩ = some (.slice ba1 m1 d1)) (by kernel_rfl) ?_ (fun hHeld => ?_)
  · exact ⟨a00_2, a01_2, a10_2, a11_2⟩
  refine wpAnyH_take (i := 0) (oi := ⟨_, _, _, _, _, _⟩) (v := ?_) rfl (by kernel_rfl) (by kernel_rfl) (by kernel_rfl) (fun _ _ _ h => h) (Or.inl ⟨rfl, ?_⟩) (by assumption) ?_
  rotate_left 1
  · intro w_ hSw; (try dsimp only at hSw); go_simp; (try with_reducible rfl)
  (try simp only [Act.put, List.setIfInBounds_toArray, List.set_cons_zero, List.set_cons_succ])
  refine wpAnyH_take (i := 2) (oi := ⟨_, _, _, _, _, _⟩) (v := ?_) rfl (by kernel_rfl) (by kernel_rfl) (by kernel_rfl) (fun _ _ _ h => h) (Or.inl ⟨rfl, ?_⟩) (by assumption) ?_
  rotate_left 1
  · intro w_ hSw; (try dsimp only at hSw); go_simp; (try with_reducible rfl)
  (try simp only [Act.put, List.setIfInBounds_toArray, List.set_cons_zero, List.set_cons_succ])
  refine wpAnyH_ready (rs := [1]) (by kernel_rfl) (by simp) ?_
  refine AllReadyH.cons (o := ⟨_, _, _, _, _, _⟩) rfl (fun K hK => ?_) AllReadyH.nil
  go_simp
  go_at_call 17
  have hC_ := toAlg_view w.heap.size z0 a0 c0 n0 fs0 w2.drew (HV0.out.kept (Kept.of_below (below_then B2.out (below_drew w2)) (Nat.le_refl _))) (below_then B2.out (below_drew w2)).size hn3_0 HS80.out
  refine hC_.mono ?_
  clear hC_
  rintro e w3 ⟨S0g, rfl, m_⟩; have b_ := m_.2
  have b3 : Below w2.heap.size w2 w3 := below_then (below_drew w2) b_
  have s3 : w2.heap.size ≤ w3.heap.size := b3.size
  have a00_3 : w3.cell? ⟨w.heap.size, 0, none⟩ = some (.int .i64 z0) := cell_b b3 a00_2
  have a01_3 : w3.cell? ⟨w.heap.size, 1, none⟩ = some (.slice a0 n0 c0) := cell_b b3 a01_2
  have a10_3 : w3.cell? ⟨w.heap.size + 1, 0, none⟩ = some (.slice a1 n1 c1) := cell_b b3 a10_2
  have a11_3 : w3.cell? ⟨w.heap.size + 1, 1, none⟩ = some (.slice ba1 m1 d1) := cell_b b3 a11_2
  have B3 : Hid (Below w.heap.size w w3) := below_then B2.out b3
  clear a00_2 a01_2 a10_2 a11_2 b_
  have m_ := m_.view hl0.out
  simp only [World.size_alloc, World.size_drew] at m_
  have HS0_3 := Lib.hid m_
  clear m_
  go_wp2_with fail
  refine hK.out _ _ ?_ (fun hHeld => ?_)
  · exact ⟨a00_3, a01_3, a10_3, a11_3⟩
  clear hK K
  (try simp only [Act.put, List.setIfInBounds_toArray, List.set_cons_zero, List.set_cons_succ])
  refine wpAnyH_ready (rs := [3]) (by kernel_rfl) (by simp) ?_
  refine AllReadyH.cons (o := ⟨_, _, _, _, _, _⟩) rfl (fun K hK => ?_) AllReadyH.nil
  go_simp
  go_at_call 50
  have hC_ := toIdn_own 0 w.heap.size 0 w.heap.size a1 ba1 c1 d1 n1 m1 xs1 ys1 w3 (HV1.out.kept (Kept.of_below B3.out (Nat.le_refl _))) B3.out.size (HU1_.out.kept (Kept.of_below B3.out (Nat.le_refl _))) B3.out.size (by omega) (by omega)
  refine hC_.mono ?_
  clear hC_
  rintro e w4 ⟨S1g, S1h, S1m, rfl, S1lo, S1hi, o_, p_, b_⟩
  have b4 : Below w3.heap.size w3 w4 := b_
  have s4 : w3.heap.size ≤ w4.heap.size := b4.size
  have a00_4 : w4.cell? ⟨w.heap.size, 0, none⟩ = some (.int .i64 z0) := cell_b b4 a00_3
  have a01_4 : w4.cell? ⟨w.heap.size, 1, none⟩ = some (.slice a0 n0 c0) := cell_b b4 a01_3
  have a10_4 : w4.cell? ⟨w.heap.size + 1, 0, none⟩ = some (.slice a1 n1 c1) := cell_b b4 a10_3
  have a11_4 : w4.cell? ⟨w.heap.size + 1, 1, none⟩ = some (.slice ba1 m1 d1) := cell_b b4 a11_3
  have HS0_4 := Lib.hid (HS0_3.out.kept (Kept.of_below b4 (by omega)))
  have B4 : Hid (Below w.heap.size w w4) := below_then B3.out b4
  clear a00_3 a01_3 a10_3 a11_3 HS0_3 b_
  have HS1L_4 := Lib.hid o_.view
  have HS1R_4 := Lib.hid p_.view
  clear o_ p_
  go_wp2_with fail
  refine hK.out _ _ ?_ (fun hHeld => ?_)
  · exact ⟨a00_4, a01_4, a10_4, a11_4⟩
  clear hK K
  (try simp only [Act.put, List.setIfInBounds_toArray, List.set_cons_zero, List.set_cons_succ])
  refine wpAnyH_ready (rs := [4]) (by kernel_rfl) (by simp) ?_
  refine AllReadyH.cons (o := ⟨_, _, _, _, _, _⟩) rfl (fun K hK => ?_) AllReadyH.nil
  go_simp
  go_at_call 49
  have hC_ := specDoesHold _ _ z0 _ n0 n0 fs0 _ _ _ n1 n1 xs1 _ _ _ m1 m1 ys1 w4 HS0_4.out (by omega) HSM0.out HS1L_4.out (by omega) (Nat.le_refl _) (by unfold maxLen; omega) HQ1.out HS1R_4.out (by omega) (Nat.le_refl _) (by unfold maxLen; omega) HR1_.out
  simp only [HVal.out] at hC_
  refine hC_.mono ?_
  clear hC_
  rintro e w5 ⟨rfl, b_⟩
  have b5 : Below w4.heap.size w4 w5 := b_
  have s5 : w4.heap.size ≤ w5.heap.size := b5.size
  have a00_5 : w5.cell? ⟨w.heap.size, 0, none⟩ = some (.int .i64 z0) := cell_b b5 a00_4
  have a01_5 : w5.cell? ⟨w.heap.size, 1, none⟩ = some (.slice a0 n0 c0) := cell_b b5 a01_4
  have a10_5 : w5.cell? ⟨w.heap.size + 1, 0, none⟩ = some (.slice a1 n1 c1) := cell_b b5 a10_4
  have a11_5 : w5.cell? ⟨w.heap.size + 1, 1, none⟩ = some (.slice ba1 m1 d1) := cell_b b5 a11_4
  have HS0_5 := Lib.hid (HS0_4.out.kept (Kept.of_below b5 (by omega)))
  have HS1L_5 := Lib.hid (HS1L_4.out.kept (Kept.of_below b5 (by omega)))
  have HS1R_5 := Lib.hid (HS1R_4.out.kept (Kept.of_below b5 (by omega)))
  have B5 : Hid (Below w.heap.size w w5) := below_then B4.out b5
  clear a00_4 a01_4 a10_4 a11_4 HS0_4 HS1L_4 HS1R_4 b_
  go_wp2_with fail
  refine hK.out _ _ ?_ (fun hHeld => ?_)
  · exact ⟨a00_5, a01_5, a10_5, a11_5⟩
  clear hK K
  (try simp only [Act.put, List.setIfInBounds_toArray, List.set_cons_zero, List.set_cons_succ])
  refine wpAnyH_take (i := 5) (oi := ⟨_, _, _, _, _, _⟩) (v := ?_) rfl (by kernel_rfl) (by kernel_rfl) (by kernel_rfl) (fun _ _ _ h => h) (Or.inl ⟨rfl, ?_⟩) (by assumption) ?_
  rotate_left 1
  · intro w_ hSw; (try dsimp only at hSw); go_simp; (try with_reducible rfl)
  (try simp only [Act.put, List.setIfInBounds_toArray, List.set_cons_zero, List.set_cons_succ])
  refine wpAnyH_take (i := 6) (oi := ⟨_, _, _, _, _, _⟩) (v := ?_) rfl (by kernel_rfl) (by kernel_rfl) (by kernel_rfl) (fun _ _ _ h => h) (Or.inl ⟨rfl, ?_⟩) (by assumption) ?_
  rotate_left 1
  · intro w_ hSw; (try dsimp only at hSw); go_simp; (try with_reducible rfl)
  (try simp only [Act.put, List.setIfInBounds_toArray, List.set_cons_zero, List.set_cons_succ])
  refine wpAnyH_take (i := 7) (oi := ⟨_, _, _, _, _, _⟩) (v := ?_) rfl (by kernel_rfl) (by kernel_rfl) (by kernel_rfl) (fun _ _ _ h => h) (Or.inl ⟨rfl, ?_⟩) (by assumption) ?_
  rotate_left 1
  · intro w_ hSw; (try dsimp only at hSw); go_simp; (try with_reducible rfl)
  (try simp only [Act.put, List.setIfInBounds_toArray, List.set_cons_zero, List.set_cons_succ])
  refine wpAnyH_take (i := 8) (oi := ⟨_, _, _, _, _, _⟩) (v := ?_) rfl (by kernel_rfl) (by kernel_rfl) (by kernel_rfl) (fun _ _ _ h => h) (Or.inl ⟨rfl, ?_⟩) (by assumption) ?_
  rotate_left 1
  · intro w_ hSw; (try dsimp only at hSw); go_simp; (try with_reducible rfl)
  (try simp only [Act.put, List.setIfInBounds_toArray, List.set_cons_zero, List.set_cons_succ])
  refine wpAnyH_take (i := 9) (oi := ⟨_, _, _, _, _, _⟩) (v := ?_) rfl (by kernel_rfl) (by kernel_rfl) (by kernel_rfl) (fun _ _ _ h => h) (Or.inl ⟨rfl, ?_⟩) (by assumption) ?_
  rotate_left 1
  · intro w_ hSw; (try dsimp only at hSw); go_simp; (try with_reducible rfl)
  (try simp only [Act.put, List.setIfInBounds_toArray, List.set_cons_zero, List.set_cons_succ])
  refine wpAnyH_done (by kernel_rfl) ?_ _
  refine NoPanic.normal ?_
  clear HS0_5
  clear HS1L_5
  clear HS1R_5
  have hC_ := toAlg_view w.heap.size z0 a0 c0 n0 fs0 w5 (HV0.out.kept (Kept.of_below B5.out (Nat.le_refl _))) B5.out.size hn3_0 HS80.out
  have HC_ := Lib.hid hC_
  clear hC_
  go_wp2_with fail
  refine HC_.out.mono ?_
  rintro e w6 ⟨X0g, rfl, m_⟩; have b_ := m_.2
  have b6 : Below w5.heap.size w5 w6 := b_
  have s6 : w5.heap.size ≤ w6.heap.size := b6.size
  have a00_6 : w6.cell? ⟨w.heap.size, 0, none⟩ = some (.int .i64 z0) := cell_b b6 a00_5
  have a01_6 : w6.cell? ⟨w.heap.size, 1, none⟩ = some (.slice a0 n0 c0) := cell_b b6 a01_5
  have a10_6 : w6.cell? ⟨w.heap.size + 1, 0, none⟩ = some (.slice a1 n1 c1) := cell_b b6 a10_5
  have a11_6 : w6.cell? ⟨w.heap.size + 1, 1, none⟩ = some (.slice ba1 m1 d1) := cell_b b6 a11_5
  have B6 : Hid (Below w.heap.size w w6) := below_then B5.out b6
  clear a00_5 a01_5 a10_5 a11_5 b_
  clear HC_
  obtain ⟨⟨X0G, X0C, m_⟩, _⟩ := m_
  have HX0_6 := Lib.hid m_
  clear m_
  have a00_p : ((w6.alloc (.cells #[.int .i64 z0, .slice (some ⟨X0g, 0, none⟩) n0 n0] 30))).cell? ⟨w.heap.size, 0, none⟩ = some (.int .i64 z0) := cell_b (below_alloc w6 (.cells #[.int .i64 z0, .slice (some ⟨X0g, 0, none⟩) n0 n0] 30)) a00_6
  have a01_p : ((w6.alloc (.cells #[.int .i64 z0, .slice (some ⟨X0g, 0, none⟩) n0 n0] 30))).cell? ⟨w.heap.size, 1, none⟩ = some (.slice a0 n0 c0) := cell_b (below_alloc w6 (.cells #[.int .i64 z0, .slice (some ⟨X0g, 0, none⟩) n0 n0] 30)) a01_6
  have a10_p : ((w6.alloc (.cells #[.int .i64 z0, .slice (some ⟨X0g, 0, none⟩) n0 n0] 30))).cell? ⟨w.heap.size + 1, 0, none⟩ = some (.slice a1 n1 c1) := cell_b (below_alloc w6 (.cells #[.int .i64 z0, .slice (some ⟨X0g, 0, none⟩) n0 n0] 30)) a10_6
  have a11_p : ((w6.alloc (.cells #[.int .i64 z0, .slice (some ⟨X0g, 0, none⟩) n0 n0] 30))).cell? ⟨w.heap.size + 1, 1, none⟩ = some (.slice ba1 m1 d1) := cell_b (below_alloc w6 (.cells #[.int .i64 z0, .slice (some ⟨X0g, 0, none⟩) n0 n0] 30)) a11_6
  have hC_ := toIdn_own 0 w.heap.size 0 w.heap.size a1 ba1 c1 d1 n1 m1 xs1 ys1 (w6.alloc (.cells #[.int .i64 z0, .slice (some ⟨X0g, 0, none⟩) n0 n0] 30)) (HV1.out.kept (Kept.of_below (below_then B6.out (below_alloc w6 (.cells #[.int .i64 z0, .slice (some ⟨X0g, 0, none⟩) n0 n0] 30))) (Nat.le_refl _))) (below_then B6.out (below_alloc w6 (.cells #[.int .i64 z0, .slice (some ⟨X0g, 0, none⟩) n0 n0] 30))).size (HU1_.out.kept (Kept.of_below (below_then B6.out (below_alloc w6 (.cells #[.int .i64 z0, .slice (some ⟨X0g, 0, none⟩) n0 n0] 30))) (Nat.le_refl _))) (below_then B6.out (below_alloc w6 (.cells #[.int .i64 z0, .slice (some ⟨X0g, 0, none⟩) n0 n0] 30))).size (by omega) (by omega)
  have HC_ := Lib.hid hC_
  clear hC_
  go_wp2_with fail
  refine HC_.out.mono ?_
  rintro e w7 ⟨X1g, X1h, X1m, rfl, X1lo, X1hi, o_, p_, b_⟩
  have b7 : Below w6.heap.size w6 w7 := below_then (below_alloc w6 (.cells #[.int .i64 z0, .slice (some ⟨X0g, 0, none⟩) n0 n0] 30)) b_
  have s7 : w6.heap.size ≤ w7.heap.size := b7.size
  have a00_7 : w7.cell? ⟨w.heap.size, 0, none⟩ = some (.int .i64 z0) := cell_b b7 a00_6
  have a01_7 : w7.cell? ⟨w.heap.size, 1, none⟩ = some (.slice a0 n0 c0) := cell_b b7 a01_6
  have a10_7 : w7.cell? ⟨w.heap.size + 1, 0, none⟩ = some (.slice a1 n1 c1) := cell_b b7 a10_6
  have a11_7 : w7.cell? ⟨w.heap.size + 1, 1, none⟩ = some (.slice ba1 m1 d1) := cell_b b7 a11_6
  have HX0_7 := Lib.hid (HX0_6.out.kept (Kept.of_below b7 (by omega)))
  have x00_7 : w7.cell? ⟨w6.heap.size, 0, none⟩ = some (.int .i64 z0) := cell_b b_ (by simp)
  have x01_7 : w7.cell? ⟨w6.heap.size, 1, none⟩ = some (.slice (some ⟨X0g, 0, none⟩) n0 n0) := cell_b b_ (by simp)
  have zx0 : w6.heap.size < w7.heap.size := (by have := b_.size; simp at this; omega)
  have B7 : Hid (Below w.heap.size w w7) := below_then B6.out b7
  clear a00_6 a01_6 a10_6 a11_6 HX0_6 b_
  clear a00_p a01_p a10_p a11_p
  clear HC_
  simp only [World.size_alloc, World.size_drew] at o_ p_ X1lo
  have HX1L_7 := Lib.hid o_
  have HX1R_7 := Lib.hid p_
  clear o_ p_
  have h_ := HX0_7.out.view
  rw [← hl0.out, map_range_get, hl0.out] at h_
  have HXV0_ := Lib.hid h_
  clear h_
  have a00_p : ((w7.alloc (.cells #[.slice (some ⟨X1g, 0, none⟩) n1 n1, .slice (some ⟨X1h, 0, none⟩) m1 m1] 64))).cell? ⟨w.heap.size, 0, none⟩ = some (.int .i64 z0) := cell_b (below_alloc w7 (.cells #[.slice (some ⟨X1g, 0, none⟩) n1 n1, .slice (some ⟨X1h, 0, none⟩) m1 m1] 64)) a00_7
  have a01_p : ((w7.alloc (.cells #[.slice (some ⟨X1g, 0, none⟩) n1 n1, .slice (some ⟨X1h, 0, none⟩) m1 m1] 64))).cell? ⟨w.heap.size, 1, none⟩ = some (.slice a0 n0 c0) := cell_b (below_alloc w7 (.cells #[.slice (some ⟨X1g, 0, none⟩) n1 n1, .slice (some ⟨X1h, 0, none⟩) m1 m1] 64)) a01_7
  have a10_p : ((w7.alloc (.cells #[.slice (some ⟨X1g, 0, none⟩) n1 n1, .slice (some ⟨X1h, 0, none⟩) m1 m1] 64))).cell? ⟨w.heap.size + 1, 0, none⟩ = some (.slice a1 n1 c1) := cell_b (below_alloc w7 (.cells #[.slice (some ⟨X1g, 0, none⟩) n1 n1, .slice (some ⟨X1h, 0, none⟩) m1 m1] 64)) a10_7
  have a11_p : ((w7.alloc (.cells #[.slice (some ⟨X1g, 0, none⟩) n1 n1, .slice (some ⟨X1h, 0, none⟩) m1 m1] 64))).cell? ⟨w.heap.size + 1, 1, none⟩ = some (.slice ba1 m1 d1) := cell_b (below_alloc w7 (.cells #[.slice (some ⟨X1g, 0, none⟩) n1 n1, .slice (some ⟨X1h, 0, none⟩) m1 m1] 64)) a11_7
  have x00_p : ((w7.alloc (.cells #[.slice (some ⟨X1g, 0, none⟩) n1 n1, .slice (some ⟨X1h, 0, none⟩) m1 m1] 64))).cell? ⟨w6.heap.size, 0, none⟩ = some (.int .i64 z0) := cell_b (below_alloc w7 (.cells #[.slice (some ⟨X1g, 0, none⟩) n1 n1, .slice (some ⟨X1h, 0, none⟩) m1 m1] 64)) x00_7
  have x01_p : ((w7.alloc (.cells #[.slice (some ⟨X1g, 0, none⟩) n1 n1, .slice (some ⟨X1h, 0, none⟩) m1 m1] 64))).cell? ⟨w6.heap.size, 1, none⟩ = some (.slice (some ⟨X0g, 0, none⟩) n0 n0) := cell_b (below_alloc w7 (.cells #[.slice (some ⟨X1g, 0, none⟩) n1 n1, .slice (some ⟨X1h, 0, none⟩) m1 m1] 64)) x01_7
  have hC_ := implDoesHold _ _ z0 _ n0 n0 fs0 _ _ _ n1 n1 xs1 _ _ _ m1 m1 ys1 (w7.alloc (.cells #[.slice (some ⟨X1g, 0, none⟩) n1 n1, .slice (some ⟨X1h, 0, none⟩) m1 m1] 64)) (HXV0_.out.kept (Kept.of_below (below_alloc w7 (.cells #[.slice (some ⟨X1g, 0, none⟩) n1 n1, .slice (some ⟨X1h, 0, none⟩) m1 m1] 64)) (by omega))) (Nat.le_trans (by omega) (below_alloc w7 (.cells #[.slice (some ⟨X1g, 0, none⟩) n1 n1, .slice (some ⟨X1h, 0, none⟩) m1 m1] 64)).size) HSM0.out (HX1L_7.out.view.kept (Kept.of_below (below_alloc w7 (.cells #[.slice (some ⟨X1g, 0, none⟩) n1 n1, .slice (some ⟨X1h, 0, none⟩) m1 m1] 64)) (by omega))) (Nat.le_trans (by omega) (below_alloc w7 (.cells #[.slice (some ⟨X1g, 0, none⟩) n1 n1, .slice (some ⟨X1h, 0, none⟩) m1 m1] 64)).size) (Nat.le_refl _) (by unfold maxLen; omega) HQ1.out (HX1R_7.out.view.kept (Kept.of_below (below_alloc w7 (.cells #[.slice (some ⟨X1g, 0, none⟩) n1 n1, .slice (some ⟨X1h, 0, none⟩) m1 m1] 64)) (by omega))) (Nat.le_trans (by omega) (below_alloc w7 (.cells #[.slice (some ⟨X1g, 0, none⟩) n1 n1, .slice (some ⟨X1h, 0, none⟩) m1 m1] 64)).size) (Nat.le_refl _) (by unfold maxLen; omega) HR1_.out
  simp only [HVal.out] at hC_
  have HC_ := Lib.hid hC_
  clear hC_
  go_wp2_with fail
  refine HC_.out.mono ?_
  rintro e w8 ⟨rfl, b_⟩
  have b8 : Below w7.heap.size w7 w8 := below_then (below_alloc w7 (.cells #[.slice (some ⟨X1g, 0, none⟩) n1 n1, .slice (some ⟨X1h, 0, none⟩) m1 m1] 64)) b_
  have s8 : w7.heap.size ≤ w8.heap.size := b8.size
  have a00_8 : w8.cell? ⟨w.heap.size, 0, none⟩ = some (.int .i64 z0) := cell_b b8 a00_7
  have a01_8 : w8.cell? ⟨w.heap.size, 1, none⟩ = some (.slice a0 n0 c0) := cell_b b8 a01_7
  have a10_8 : w8.cell? ⟨w.heap.size + 1, 0, none⟩ = some (.slice a1 n1 c1) := cell_b b8 a10_7
  have a11_8 : w8.cell? ⟨w.heap.size + 1, 1, none⟩ = some (.slice ba1 m1 d1) := cell_b b8 a11_7
  have x00_8 : w8.cell? ⟨w6.heap.size, 0, none⟩ = some (.int .i64 z0) := cell_b b8 x00_7
  have x01_8 : w8.cell? ⟨w6.heap.size, 1, none⟩ = some (.slice (some ⟨X0g, 0, none⟩) n0 n0) := cell_b b8 x01_7
  have HX0_8 := Lib.hid (HX0_7.out.kept (Kept.of_below b8 (by omega)))
  have HX1L_8 := Lib.hid (HX1L_7.out.kept (Kept.of_below b8 (by omega)))
  have HX1R_8 := Lib.hid (HX1R_7.out.kept (Kept.of_below b8 (by omega)))
  have x10_8 : w8.cell? ⟨w7.heap.size, 0, none⟩ = some (.slice (some ⟨X1g, 0, none⟩) n1 n1) := cell_b b_ (by simp)
  have x11_8 : w8.cell? ⟨w7.heap.size, 1, none⟩ = some (.slice (some ⟨X1h, 0, none⟩) m1 m1) := cell_b b_ (by simp)
  have zx1 : w7.heap.size < w8.heap.size := (by have := b_.size; simp at this; omega)
  have B8 : Hid (Below w.heap.size w w8) := below_then B7.out b8
  clear a00_7 a01_7 a10_7 a11_7 x00_7 x01_7 HX0_7 HX1L_7 HX1R_7 b_
  clear a00_p a01_p a10_p a11_p x00_p x01_p
  clear HC_
  clear HXV0_
  go_wp2_with fail
  refine wp_region_noPanic ?_
  refine wp_region_held_drew (S := fun W => W.cell? ⟨w.heap.size, 0, none⟩ = some (.int .i64 z0) ∧ W.cell? ⟨w.heap.size, 1, none⟩ = some (.slice a0 n0 c0) ∧ W.cell? ⟨w.heap.size + 1, 0, none⟩ = some (.slice a1 n1 c1) ∧ W.cell? ⟨w.heap.size + 1, 1, none⟩ = some (.slice ba1 m1 d1) ∧ W.cell? ⟨w6.heap.size, 0, none⟩ = some (.int .i64 z0) ∧ W.cell? ⟨w6.heap.size, 1, none⟩ = some (.slice (some ⟨X0g, 0, none⟩) n0 n0) ∧ W.cell? ⟨w7.heap.size, 0, none⟩ = some (.slice (some ⟨X1g, 0, none⟩) n1 n1) ∧ W.cell? ⟨w7.heap.size, 1, none⟩ = some (.slice (some ⟨X1h, 0, none⟩) m1 m1)) (by kernel_rfl) ?_ (fun hHeld => ?_)
  · exact ⟨a00_8, a01_8, a10_8, a11_8, x00_8, x01_8, x10_8, x11_8⟩
  refine wpAnyH_take (i := 0) (oi := ⟨_, _, _, _, _, _⟩) (v := ?_) rfl (by kernel_rfl) (by kernel_rfl) (by kernel_rfl) (fun _ _ _ h => h) (Or.inl ⟨rfl, ?_⟩) (by assumption) ?_
  rotate_left 1
  · intro w_ hSw; (try dsimp only at hSw); go_simp; (try with_reducible rfl)
  (try simp only [Act.put, List.setIfInBounds_toArray, List.set_cons_zero, List.set_cons_succ])
  refine wpAnyH_take (i := 1) (oi := ⟨_, _, _, _, _, _⟩) (v := ?_) rfl (by kernel_rfl) (by kernel_rfl) (by kernel_rfl) (fun _ _ _ h => h) (Or.inl ⟨rfl, ?_⟩) (by assumption) ?_
  rotate_left 1
  · intro w_ hSw; (try dsimp only at hSw); go_simp; (try with_reducible rfl)
  (try simp only [Act.put, List.setIfInBounds_toArray, List.set_cons_zero, List.set_cons_succ])
  refine wpAnyH_ready (rs := [2]) (by kernel_rfl) (by simp) ?_
  refine AllReadyH.cons (o := ⟨_, _, _, _, _, _⟩) rfl (fun K hK => ?_) AllReadyH.nil
  go_simp
  go_at_call 17
  have hC_ := toAlg_view w.heap.size z0 a0 c0 n0 fs0 w8.drew (HV0.out.kept (Kept.of_below (below_then B8.out (below_drew w8)) (Nat.le_refl _))) (below_then B8.out (below_drew w8)).size hn3_0 HS80.out
  refine hC_.mono ?_
  clear hC_
  rintro e w9 ⟨Y0g, rfl, m_⟩; have b_ := m_.2
  have b9 : Below w8.heap.size w8 w9 := below_then (below_drew w8) b_
  have s9 : w8.heap.size ≤ w9.heap.size := b9.size
  have a00_9 : w9.cell? ⟨w.heap.size, 0, none⟩ = some (.int .i64 z0) := cell_b b9 a00_8
  have a01_9 : w9.cell? ⟨w.heap.size, 1, none⟩ = some (.slice a0 n0 c0) := cell_b b9 a01_8
  have a10_9 : w9.cell? ⟨w.heap.size + 1, 0, none⟩ = some (.slice a1 n1 c1) := cell_b b9 a10_8
  have a11_9 : w9.cell? ⟨w.heap.size + 1, 1, none⟩ = some (.slice ba1 m1 d1) := cell_b b9 a11_8
  have x00_9 : w9.cell? ⟨w6.heap.size, 0, none⟩ = some (.int .i64 z0) := cell_b b9 x00_8
  have x01_9 : w9.cell? ⟨w6.heap.size, 1, none⟩ = some (.slice (some ⟨X0g, 0, none⟩) n0 n0) := cell_b b9 x01_8
  have x10_9 : w9.cell? ⟨w7.heap.size, 0, none⟩ = some (.slice (some ⟨X1g, 0, none⟩) n1 n1) := cell_b b9 x10_8
  have x11_9 : w9.cell? ⟨w7.heap.size, 1, none⟩ = some (.slice (some ⟨X1h, 0, none⟩) m1 m1) := cell_b b9 x11_8
  have HX0_9 := Lib.hid (HX0_8.out.kept (Kept.of_below b9 (by omega)))
  have HX1L_9 := Lib.hid (HX1L_8.out.kept (Kept.of_below b9 (by omega)))
  have HX1R_9 := Lib.hid (HX1R_8.out.kept (Kept.of_below b9 (by omega)))
  have B9 : Hid (Below w.heap.size w w9) := below_then B8.out b9
  clear a00_8 a01_8 a10_8 a11_8 x00_8 x01_8 x10_8 x11_8 HX0_8 HX1L_8 HX1R_8 b_
  have m_ := m_.view hl0.out
  simp only [World.size_alloc, World.size_drew] at m_
  have HY0_9 := Lib.hid m_
  clear m_
  go_wp2_with fail
  refine hK.out _ _ ?_ (fun hHeld => ?_)
  · exact ⟨a00_9, a01_9, a10_9, a11_9, x00_9, x01_9, x10_9, x11_9⟩
  clear hK K
  (try simp only [Act.put, List.setIfInBounds_toArray, List.set_cons_zero, List.set_cons_succ])
  refine wpAnyH_ready (rs := [3]) (by kernel_rfl) (by simp) ?_
  refine AllReadyH.cons (o := ⟨_, _, _, _, _, _⟩) rfl (fun K hK => ?_) AllReadyH.nil
  go_simp
  have h_ := HX0_9.out.view
  rw [← hl0.out, map_range_get, hl0.out] at h_
  have XV_ := Lib.hid h_
  clear h_
  go_at_call 20
  have hC_ := eqAlg_view _ _ _ _ z0 _ _ n0 n0 n0 fs0 w9 XV_.out HY0_9.out (by unfold maxLen; omega) HSM0.out (by omega) (by omega)
  refine hC_.mono ?_
  clear hC_
  rintro e w10 ⟨rfl, b_⟩; clear XV_
  have b10 : Below w9.heap.size w9 w10 := b_
  have s10 : w9.heap.size ≤ w10.heap.size := b10.size
  have a00_10 : w10.cell? ⟨w.heap.size, 0, none⟩ = some (.int .i64 z0) := cell_b b10 a00_9
  have a01_10 : w10.cell? ⟨w.heap.size, 1, none⟩ = some (.slice a0 n0 c0) := cell_b b10 a01_9
  have a10_10 : w10.cell? ⟨w.heap.size + 1, 0, none⟩ = some (.slice a1 n1 c1) := cell_b b10 a10_9
  have a11_10 : w10.cell? ⟨w.heap.size + 1, 1, none⟩ = some (.slice ba1 m1 d1) := cell_b b10 a11_9
  have x00_10 : w10.cell? ⟨w6.heap.size, 0, none⟩ = some (.int .i64 z0) := cell_b b10 x00_9
  have x01_10 : w10.cell? ⟨w6.heap.size, 1, none⟩ = some (.slice (some ⟨X0g, 0, none⟩) n0 n0) := cell_b b10 x01_9
  have x10_10 : w10.cell? ⟨w7.heap.size, 0, none⟩ = some (.slice (some ⟨X1g, 0, none⟩) n1 n1) := cell_b b10 x10_9
  have x11_10 : w10.cell? ⟨w7.heap.size, 1, none⟩ = some (.slice (some ⟨X1h, 0, none⟩) m1 m1) := cell_b b10 x11_9
  have HX0_10 := Lib.hid (HX0_9.out.kept (Kept.of_below b10 (by omega)))
  have HX1L_10 := Lib.hid (HX1L_9.out.kept (Kept.of_below b10 (by omega)))
  have HX1R_10 := Lib.hid (HX1R_9.out.kept (Kept.of_below b10 (by omega)))
  have HY0_10 := Lib.hid (HY0_9.out.kept (Kept.of_below b10 (by omega)))
  have B10 : Hid (Below w.heap.size w w10) := below_then B9.out b10
  clear a00_9 a01_9 a10_9 a11_9 x00_9 x01_9 x10_9 x11_9 HX0_9 HX1L_9 HX1R_9 HY0_9 b_
  go_wp2_with fail
  refine hK.out _ _ ?_ (fun hHeld => ?_)
  · exact ⟨a00_10, a01_10, a10_10, a11_10, x00_10, x01_10, x10_10, x11_10⟩
  clear hK K
  (try simp only [Act.put, List.setIfInBounds_toArray, List.set_cons_zero, List.set_cons_succ])
  refine wpAnyH_take (i := 4) (oi := ⟨_, _, _, _, _, _⟩) (v := ?_) rfl (by kernel_rfl) (by kernel_rfl) (by kernel_rfl) (fun _ _ _ h => h) (Or.inl ⟨rfl, ?_⟩) (by assumption) ?_
  rotate_left 1
  · intro w_ hSw; (try dsimp only at hSw); go_simp; (try with_reducible rfl)
  (try simp only [Act.put, List.setIfInBounds_toArray, List.set_cons_zero, List.set_cons_succ])
  refine wpAnyH_done (by kernel_rfl) ?_ _
  refine NoPanic.normal ?_
  clear HY0_10
  go_wp2_with fail
  refine wp_region_noPanic ?_
  refine wp_region_held_drew (S := fun W => W.cell? ⟨w.heap.size, 0, none⟩ = some (.int .i64 z0) ∧ W.cell? ⟨w.heap.size, 1, none⟩ = some (.slice a0 n0 c0) ∧ W.cell? ⟨w.heap.size + 1, 0, none⟩ = some (.slice a1 n1 c1) ∧ W.cell? ⟨w.heap.size + 1, 1, none⟩ = some (.slice ba1 m1 d1) ∧ W.cell? ⟨w6.heap.size, 0, none⟩ = some (.int .i64 z0) ∧ W.cell? ⟨w6.heap.size, 1, none⟩ = some (.slice (some ⟨X0g, 0, none⟩) n0 n0) ∧ W.cell? ⟨w7.heap.size, 0, none⟩ = some (.slice (some ⟨X1g, 0, none⟩) n1 n1) ∧ W.cell? ⟨w7.heap.size, 1, none⟩ = some (.slice (some ⟨X1h, 0, none⟩) m1 m1)) (by kernel_rfl) ?_ (fun hHeld => ?_)
  · exact ⟨a00_10, a01_10, a10_10, a11_10, x00_10, x01_10, x10_10, x11_10⟩
  refine wpAnyH_take (i := 0) (oi := ⟨_, _, _, _, _, _⟩) (v := ?_) rfl (by kernel_rfl) (by kernel_rfl) (by kernel_rfl) (fun _ _ _ h => h) (Or.inl ⟨rfl, ?_⟩) (by assumption) ?_
  rotate_left 1
  · intro w_ hSw; (try dsimp only at hSw); go_simp; (try with_reducible rfl)
  (try simp only [Act.put, List.setIfInBounds_toArray, List.set_cons_zero, List.set_cons_succ])
  refine wpAnyH_take (i := 1) (oi := ⟨_, _, _, _, _, _⟩) (v := ?_) rfl (by kernel_rfl) (by kernel_rfl) (by kernel_rfl) (fun _ _ _ h => h) (Or.inl ⟨rfl, ?_⟩) (by assumption) ?_
  rotate_left 1
  · intro w_ hSw; (try dsimp only at hSw); go_simp; (try with_reducible rfl)
  (try simp only [Act.put, List.setIfInBounds_toArray, List.set_cons_zero, List.set_cons_succ])
  refine wpAnyH_ready (rs := [2]) (by kernel_rfl) (by simp) ?_
  refine AllReadyH.cons (o := ⟨_, _, _, _, _, _⟩) rfl (fun K hK => ?_) AllReadyH.nil
  go_simp
  go_at_call 50
  have hC_ := toIdn_own 0 w.heap.size 0 w.heap.size a1 ba1 c1 d1 n1 m1 xs1 ys1 w10.drew (HV1.out.kept (Kept.of_below (below_then B10.out (below_drew w10)) (Nat.le_refl _))) (below_then B10.out (below_drew w10)).size (HU1_.out.kept (Kept.of_below (below_then B10.out (below_drew w10)) (Nat.le_refl _))) (below_then B10.out (below_drew w10)).size (by omega) (by omega)
  refine hC_.mono ?_
  clear hC_
  rintro e w11 ⟨Y1g, Y1h, Y1m, rfl, Y1lo, Y1hi, o_, p_, b_⟩
  have b11 : Below w10.heap.size w10 w11 := below_then (below_drew w10) b_
  have s11 : w10.heap.size ≤ w11.heap.size := b11.size
  have a00_11 : w11.cell? ⟨w.heap.size, 0, none⟩ = some (.int .i64 z0) := cell_b b11 a00_10
  have a01_11 : w11.cell? ⟨w.heap.size, 1, none⟩ = some (.slice a0 n0 c0) := cell_b b11 a01_10
  have a10_11 : w11.cell? ⟨w.heap.size + 1, 0, none⟩ = some (.slice a1 n1 c1) := cell_b b11 a10_10
  have a11_11 : w11.cell? ⟨w.heap.size + 1, 1, none⟩ = some (.slice ba1 m1 d1) := cell_b b11 a11_10
  have x00_11 : w11.cell? ⟨w6.heap.size, 0, none⟩ = some (.int .i64 z0) := cell_b b11 x00_10
  have x01_11 : w11.cell? ⟨w6.heap.size, 1, none⟩ = some (.slice (some ⟨X0g, 0, none⟩) n0 n0) := cell_b b11 x01_10
  have x10_11 : w11.cell? ⟨w7.heap.size, 0, none⟩ = some (.slice (some ⟨X1g, 0, none⟩) n1 n1) := cell_b b11 x10_10
  have x11_11 : w11.cell? ⟨w7.heap.size, 1, none⟩ = some (.slice (some ⟨X1h, 0, none⟩) m1 m1) := cell_b b11 x11_10
  have HX0_11 := Lib.hid (HX0_10.out.kept (Kept.of_below b11 (by omega)))
  have HX1L_11 := Lib.hid (HX1L_10.out.kept (Kept.of_below b11 (by omega)))
  have HX1R_11 := Lib.hid (HX1R_10.out.kept (Kept.of_below b11 (by omega)))
  have B11 : Hid (Below w.heap.size w w11) := below_then B10.out b11
  clear a00_10 a01_10 a10_10 a11_10 x00_10 x01_10 x10_10 x11_10 HX0_10 HX1L_10 HX1R_10 b_
  simp only [World.size_alloc, World.size_drew] at o_ p_ Y1lo
  have HY1L_11 := Lib.hid o_.view
  have HY1R_11 := Lib.hid p_.view
  clear o_ p_
  go_wp2_with fail
  refine hK.out _ _ ?_ (fun hHeld => ?_)
  · exact ⟨a00_11, a01_11, a10_11, a11_11, x00_11, x01_11, x10_11, x11_11⟩
  clear hK K
  (try simp only [Act.put, List.setIfInBounds_toArray, List.set_cons_zero, List.set_cons_succ])
  refine wpAnyH_ready (rs := [3]) (by kernel_rfl) (by simp) ?_
  refine AllReadyH.cons (o := ⟨_, _, _, _, _, _⟩) rfl (fun K hK => ?_) AllReadyH.nil
  go_simp
  go_at_call 52
  have hC_ := eqIdn_view _ _ _ _ _ _ _ _ _ _ _ _ n1 m1 n1 m1 n1 m1 xs1 ys1 w11 HX1L_11.out.view HX1R_11.out.view HY1L_11.out HY1R_11.out (by unfold maxLen; omega) (by unfold maxLen; omega) (by omega) (by omega) (by omega) (by omega)
  refine hC_.mono ?_
  clear hC_
  rintro e w12 ⟨rfl, b_⟩
  have b12 : Below w11.heap.size w11 w12 := b_
  have s12 : w11.heap.size ≤ w12.heap.size := b12.size
  have a00_12 : w12.cell? ⟨w.heap.size, 0, none⟩ = some (.int .i64 z0) := cell_b b12 a00_11
  have a01_12 : w12.cell? ⟨w.heap.size, 1, none⟩ = some (.slice a0 n0 c0) := cell_b b12 a01_11
  have a10_12 : w12.cell? ⟨w.heap.size + 1, 0, none⟩ = some (.slice a1 n1 c1) := cell_b b12 a10_11
  have a11_12 : w12.cell? ⟨w.heap.size + 1, 1, none⟩ = some (.slice ba1 m1 d1) := cell_b b12 a11_11
  have x00_12 : w12.cell? ⟨w6.heap.size, 0, none⟩ = some (.int .i64 z0) := cell_b b12 x00_11
  have x01_12 : w12.cell? ⟨w6.heap.size, 1, none⟩ = some (.slice (some ⟨X0g, 0, none⟩) n0 n0) := cell_b b12 x01_11
  have x10_12 : w12.cell? ⟨w7.heap.size, 0, none⟩ = some (.slice (some ⟨X1g, 0, none⟩) n1 n1) := cell_b b12 x10_11
  have x11_12 : w12.cell? ⟨w7.heap.size, 1, none⟩ = some (.slice (some ⟨X1h, 0, none⟩) m1 m1) := cell_b b12 x11_11
  have HX0_12 := Lib.hid (HX0_11.out.kept (Kept.of_below b12 (by omega)))
  have HX1L_12 := Lib.hid (HX1L_11.out.kept (Kept.of_below b12 (by omega)))
  have HX1R_12 := Lib.hid (HX1R_11.out.kept (Kept.of_below b12 (by omega)))
  have HY1L_12 := Lib.hid (HY1L_11.out.kept (Kept.of_below b12 (by omega)))
  have HY1R_12 := Lib.hid (HY1R_11.out.kept (Kept.of_below b12 (by omega)))
  have B12 : Hid (Below w.heap.size w w12) := below_then B11.out b12
  clear a00_11 a01_11 a10_11 a11_11 x00_11 x01_11 x10_11 x11_11 HX0_11 HX1L_11 HX1R_11 HY1L_11 HY1R_11 b_
  go_wp2_with fail
  refine hK.out _ _ ?_ (fun hHeld => ?_)
  · exact ⟨a00_12, a01_12, a10_12, a11_12, x00_12, x01_12, x10_12, x11_12⟩
  clear hK K
  (try simp only [Act.put, List.setIfInBounds_toArray, List.set_cons_zero, List.set_cons_succ])
  refine wpAnyH_take (i := 4) (oi := ⟨_, _, _, _, _, _⟩) (v := ?_) rfl (by kernel_rfl) (by kernel_rfl) (by kernel_rfl) (fun _ _ _ h => h) (Or.inl ⟨rfl, ?_⟩) (by assumption) ?_
  rotate_left 1
  · intro w_ hSw; (try dsimp only at hSw); go_simp; (try with_reducible rfl)
  (try simp only [Act.put, List.setIfInBounds_toArray, List.set_cons_zero, List.set_cons_succ])
  refine wpAnyH_done (by kernel_rfl) ?_ _
  refine NoPanic.normal ?_
  clear HY1L_12
  clear HY1R_12
  go_wp2_with fail
  go_ret
  exact ⟨rfl, B12.out⟩

theorem lawDoesHold (w : World) (z0 : Int) (a0 : Option Addr) (n0 c0 : Nat) (fs0 : List OpD) (wz0 : (Lit.int .i64 z0).wf = true) (hn0 : n0 ≤ maxLen) (ht0 : ∀ (j : Nat) (f : OpD), fs0[j]? = some f → f.2.length ≤ maxLen) (hv0 : OView w 0 w.heap.size a0 n0 fs0) (a1 : Option Addr) (n1 c1 : Nat) (xs1 : List Int) (hc1 : n1 ≤ c1) (hm1 : c1 ≤ maxLen) (hv1 : IView w 0 w.heap.size a1 n1 xs1) (hq1 : ∀ x, x ∈ xs1 → (Lit.int .i64 x).wf = true) (ba1 : Option Addr) (m1 d1 : Nat) (ys1 : List Int) (hd1 : m1 ≤ d1) (hk1 : d1 ≤ maxLen) (hu1 : IView w 0 w.heap.size ba1 m1 ys1) (hr1 : ∀ x, x ∈ ys1 → (Lit.int .i64 x).wf = true) :
    Calls Try.prog 12 #[.agg #[.int .i64 z0, .slice a0 n0 c0], .agg #[.slice a1 n1 c1, .slice ba1 m1 d1]] w fun e w' => e = .returned (.bool true) ∧ Below w.heap.size w w' := by
  refine (Classical.em (((n0 + osum fs0 : Nat) : Int) ≤ 1048576)).elim (fun hfit0 => ?_) (fun hfit0 => lawDoesHold_no0 w z0 a0 n0 c0 fs0 wz0 hn0 ht0 hv0 a1 n1 c1 xs1 hc1 hm1 hv1 hq1 ba1 m1 d1 ys1 hd1 hk1 hu1 hr1   hfit0)
  refine (Classical.em (((n1 + m1 : Nat) : Int) ≤ 1048576 - ((n0 + osum fs0 : Nat) : Int))).elim (fun hfit1 => ?_) (fun hfit1 => lawDoesHold_no1 w z0 a0 n0 c0 fs0 wz0 hn0 ht0 hv0 a1 n1 c1 xs1 hc1 hm1 hv1 hq1 ba1 m1 d1 ys1 hd1 hk1 hu1 hr1   hfit0 hfit1)
  exact lawDoesHold_fit w z0 a0 n0 c0 fs0 wz0 hn0 ht0 hv0 a1 n1 c1 xs1 hc1 hm1 hv1 hq1 ba1 m1 d1 ys1 hd1 hk1 hu1 hr1   hfit0 hfit1

end Go.Proofs.Ytplheohkecooeaa
