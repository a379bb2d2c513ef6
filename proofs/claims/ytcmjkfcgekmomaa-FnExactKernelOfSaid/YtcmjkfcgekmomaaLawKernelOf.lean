/-
  The walk of the law FnExactKernelOf: impl.KernelOf and spec.KernelOf give the same answer at every argument, write into no argument, and the answer owns its memory. Conditions: the lengths are at most maxLen.
-/
import Derived.Test.YtcmjkfcgekmomaaStep
import Derived.Deep.DrawnRows
import Derived.Deep.RegionHeld3
import Derived.Test.YtcmjkfcgekmomaaKerI
import Derived.Test.YtcmjkfcgekmomaaKerS
namespace Go.Proofs.Ytcmjkfcgekmomaa
open Go.RowKit
set_option linter.unusedVariables false
set_option linter.unusedSimpArgs false
attribute [local go_sem ↓] Go.wp_at_zero Go.wp_at_succ

theorem lawKernelOf_big2 (w : World) (z0 : Int) (a0 : Option Addr) (n0 c0 : Nat) (fs0 : List OpD) (wz0 : (Lit.int .i64 z0).wf = true) (hn0 : n0 ≤ maxLen) (ht0 : ∀ (j : Nat) (f : OpD), fs0[j]? = some f → f.2.length ≤ maxLen) (hv0 : OView w 0 w.heap.size a0 n0 fs0) (z1 : Int) (a1 : Option Addr) (n1 c1 : Nat) (fs1 : List OpD) (wz1 : (Lit.int .i64 z1).wf = true) (hn1 : n1 ≤ maxLen) (ht1 : ∀ (j : Nat) (f : OpD), fs1[j]? = some f → f.2.length ≤ maxLen) (hv1 : OView w 0 w.heap.size a1 n1 fs1) (a2 : Option Addr) (n2 c2 : Nat) (xs2 : List Int) (hc2 : n2 ≤ c2) (hm2 : c2 ≤ maxLen) (hv2 : IView w 0 w.heap.size a2 n2 xs2) (hb : 1048576 < n2) :
    Calls Try.prog 3 #[.agg #[.int .i64 z0, .slice a0 n0 c0], .agg #[.int .i64 z1, .slice a1 n1 c1], .slice a2 n2 c2] w fun e w' => e = .returned (.bool true) ∧ Below w.heap.size w w' := by
  have hx : n2 ≤ 9223372036854775807 := by unfold maxLen at hm2; omega
  have hB0 := Lib.hid (below_then (below_alloc w (.cells #[.int .i64 z0, .slice a0 n0 c0] 24)) (below_alloc (w.alloc (.cells #[.int .i64 z0, .slice a0 n0 c0] 24)) (.cells #[.int .i64 z1, .slice a1 n1 c1] 24)))
  clear hv0 ht0 hn0 wz0 hv1 ht1 hn1 wz1 hm2 hv2
  go_enter Try.func3, Try.ntmps3
  go_wp2
  go_ret
  exact ⟨rfl, hB0.out⟩

set_option maxHeartbeats 400000 in
theorem lawKernelOf_no0 (w : World) (z0 : Int) (a0 : Option Addr) (n0 c0 : Nat) (fs0 : List OpD) (wz0 : (Lit.int .i64 z0).wf = true) (hn0 : n0 ≤ maxLen) (ht0 : ∀ (j : Nat) (f : OpD), fs0[j]? = some f → f.2.length ≤ maxLen) (hv0 : OView w 0 w.heap.size a0 n0 fs0) (z1 : Int) (a1 : Option Addr) (n1 c1 : Nat) (fs1 : List OpD) (wz1 : (Lit.int .i64 z1).wf = true) (hn1 : n1 ≤ maxLen) (ht1 : ∀ (j : Nat) (f : OpD), fs1[j]? = some f → f.2.length ≤ maxLen) (hv1 : OView w 0 w.heap.size a1 n1 fs1) (a2 : Option Addr) (n2 c2 : Nat) (xs2 : List Int) (hc2 : n2 ≤ c2) (hm2 : c2 ≤ maxLen) (hv2 : IView w 0 w.heap.size a2 n2 xs2) (hb2 : n2 ≤ 1048576) (hfit0 : ¬ ((n0 + osum fs0 : Nat) : Int) ≤ 1048576) :
    Calls Try.prog 3 #[.agg #[.int .i64 z0, .slice a0 n0 c0], .agg #[.int .i64 z1, .slice a1 n1 c1], .slice a2 n2 c2] w fun e w' => e = .returned (.bool true) ∧ Below w.heap.size w w' := by
  have hB0 := (below_then (below_alloc w (.cells #[.int .i64 z0, .slice a0 n0 c0] 24)) (below_alloc (w.alloc (.cells #[.int .i64 z0, .slice a0 n0 c0] 24)) (.cells #[.int .i64 z1, .slice a1 n1 c1] 24)))
  have hsz0 := fun (W : World) (hW : Below w.heap.size w W) => szAlg_any w.heap.size z0 a0 c0 n0 fs0 (1048576) W (hv0.kept (Kept.of_below hW (Nat.le_refl _))) hW.size hn0 ht0 (by omega) (by omega)
  simp only [szI_no (show ¬ ((n0 + osum fs0 : Nat) : Int) ≤ 1048576 by omega)] at hsz0
  have HSz0 := Lib.hid hsz0
  clear hsz0
  have HB0 := Lib.hid hB0
  clear hB0 hv0 ht0 hn0 wz0 hv1 ht1 hn1 wz1 hm2 hv2 hfit0
  go_enter Try.func3, Try.ntmps3
  go_wp2_with fail
  refine (HSz0.out _ HB0.out).mono ?_
  rintro e v1 ⟨rfl, b1⟩
  have B1 := Lib.hid (below_then HB0.out b1)
  clear b1
  go_wp2_with fail
  go_ret
  exact ⟨rfl, B1.out⟩

set_option maxHeartbeats 400000 in
theorem lawKernelOf_no1 (w : World) (z0 : Int) (a0 : Option Addr) (n0 c0 : Nat) (fs0 : List OpD) (wz0 : (Lit.int .i64 z0).wf = true) (hn0 : n0 ≤ maxLen) (ht0 : ∀ (j : Nat) (f : OpD), fs0[j]? = some f → f.2.length ≤ maxLen) (hv0 : OView w 0 w.heap.size a0 n0 fs0) (z1 : Int) (a1 : Option Addr) (n1 c1 : Nat) (fs1 : List OpD) (wz1 : (Lit.int .i64 z1).wf = true) (hn1 : n1 ≤ maxLen) (ht1 : ∀ (j : Nat) (f : OpD), fs1[j]? = some f → f.2.length ≤ maxLen) (hv1 : OView w 0 w.heap.size a1 n1 fs1) (a2 : Option Addr) (n2 c2 : Nat) (xs2 : List Int) (hc2 : n2 ≤ c2) (hm2 : c2 ≤ maxLen) (hv2 : IView w 0 w.heap.size a2 n2 xs2) (hb2 : n2 ≤ 1048576) (hfit0 : ((n0 + osum fs0 : Nat) : Int) ≤ 1048576) (hfit1 : ¬ ((n1 + osum fs1 : Nat) : Int) ≤ 1048576 - ((n0 + osum fs0 : Nat) : Int)) :
    Calls Try.prog 3 #[.agg #[.int .i64 z0, .slice a0 n0 c0], .agg #[.int .i64 z1, .slice a1 n1 c1], .slice a2 n2 c2] w fun e w' => e = .returned (.bool true) ∧ Below w.heap.size w w' := by
  have hB0 := (below_then (below_alloc w (.cells #[.int .i64 z0, .slice a0 n0 c0] 24)) (below_alloc (w.alloc (.cells #[.int .i64 z0, .slice a0 n0 c0] 24)) (.cells #[.int .i64 z1, .slice a1 n1 c1] 24)))
  have hsz0 := fun (W : World) (hW : Below w.heap.size w W) => szAlg_any w.heap.size z0 a0 c0 n0 fs0 (1048576) W (hv0.kept (Kept.of_below hW (Nat.le_refl _))) hW.size hn0 ht0 (by omega) (by omega)
  obtain ⟨l1, hl_1, hl_1a, hl_1b⟩ : ∃ l : Int, l = 1048576 - ((n0 + osum fs0 : Nat) : Int) ∧ 0 ≤ l ∧ l ≤ 1048576 := ⟨_, rfl, by omega, by omega⟩
  simp only [szI_yes (show ((n0 + osum fs0 : Nat) : Int) ≤ 1048576 by omega), ← hl_1] at hsz0
  have HSz0 := Lib.hid hsz0
  clear hsz0
  have hsz1 := fun (W : World) (hW : Below w.heap.size w W) => szAlg_any w.heap.size z1 a1 c1 n1 fs1 (l1) W (hv1.kept (Kept.of_below hW (Nat.le_refl _))) hW.size hn1 ht1 (by omega) (by omega)
  simp only [szI_no (show ¬ ((n1 + osum fs1 : Nat) : Int) ≤ l1 by omega)] at hsz1
  have HSz1 := Lib.hid hsz1
  clear hsz1
  have HB0 := Lib.hid hB0
  clear hB0 hv0 ht0 hn0 wz0 hv1 ht1 hn1 wz1 hm2 hv2 hl_1 hfit0 hfit1
  go_enter Try.func3, Try.ntmps3
  go_wp2_with fail
  refine (HSz0.out _ HB0.out).mono ?_
  rintro e v1 ⟨rfl, b1⟩
  have y10_1 : v1.cell? ⟨w.heap.size + 1, 0, none⟩ = some (.int .i64 z1) := cell_b b1 (by simp)
  have y11_1 : v1.cell? ⟨w.heap.size + 1, 1, none⟩ = some (.slice a1 n1 c1) := cell_b b1 (by simp)
  have B1 := Lib.hid (below_then HB0.out b1)
  clear b1
  go_wp2_with fail
  refine (HSz1.out _ B1.out).mono ?_
  rintro e v2 ⟨rfl, b1⟩
  have B2 := Lib.hid (below_then B1.out b1)
  clear b1
  go_wp2_with fail
  go_ret
  exact ⟨rfl, B2.out⟩

set_option maxRecDepth 100000 in
set_option maxHeartbeats 4000000 in
theorem lawKernelOf_fit (w : World) (z0 : Int) (a0 : Option Addr) (n0 c0 : Nat) (fs0 : List OpD) (wz0 : (Lit.int .i64 z0).wf = true) (hn0 : n0 ≤ maxLen) (ht0 : ∀ (j : Nat) (f : OpD), fs0[j]? = some f → f.2.length ≤ maxLen) (hv0 : OView w 0 w.heap.size a0 n0 fs0) (z1 : Int) (a1 : Option Addr) (n1 c1 : Nat) (fs1 : List OpD) (wz1 : (Lit.int .i64 z1).wf = true) (hn1 : n1 ≤ maxLen) (ht1 : ∀ (j : Nat) (f : OpD), fs1[j]? = some f → f.2.length ≤ maxLen) (hv1 : OView w 0 w.heap.size a1 n1 fs1) (a2 : Option Addr) (n2 c2 : Nat) (xs2 : List Int) (hc2 : n2 ≤ c2) (hm2 : c2 ≤ maxLen) (hv2 : IView w 0 w.heap.size a2 n2 xs2) (hb2 : n2 ≤ 1048576) (hfit0 : ((n0 + osum fs0 : Nat) : Int) ≤ 1048576) (hfit1 : ((n1 + osum fs1 : Nat) : Int) ≤ 1048576 - ((n0 + osum fs0 : Nat) : Int)) (hres : (valKernelOf z0 fs0 z1 fs1 xs2).1.length ≤ 4194304) :
    Calls Try.prog 3 #[.agg #[.int .i64 z0, .slice a0 n0 c0], .agg #[.int .i64 z1, .slice a1 n1 c1], .slice a2 n2 c2] w fun e w' => e = .returned (.bool true) ∧ Below w.heap.size w w' := by
  obtain ⟨hn1_0, hn2_0, hn3_0, hs80, hsM0⟩ := small_of (left := 1048576) (show ((n0 + osum fs0 : Nat) : Int) ≤ 1048576 by omega) (Int.le_refl _)
  obtain ⟨hn1_1, hn2_1, hn3_1, hs81, hsM1⟩ := small_of (left := 1048576) (show ((n1 + osum fs1 : Nat) : Int) ≤ 1048576 by omega) (Int.le_refl _)
  have hB0 := (below_then (below_alloc w (.cells #[.int .i64 z0, .slice a0 n0 c0] 24)) (below_alloc (w.alloc (.cells #[.int .i64 z0, .slice a0 n0 c0] 24)) (.cells #[.int .i64 z1, .slice a1 n1 c1] 24)))
  have hsz0 := fun (W : World) (hW : Below w.heap.size w W) => szAlg_any w.heap.size z0 a0 c0 n0 fs0 (1048576) W (hv0.kept (Kept.of_below hW (Nat.le_refl _))) hW.size hn0 ht0 (by omega) (by omega)
  obtain ⟨l1, hl_1, hl_1a, hl_1b⟩ : ∃ l : Int, l = 1048576 - ((n0 + osum fs0 : Nat) : Int) ∧ 0 ≤ l ∧ l ≤ 1048576 := ⟨_, rfl, by omega, by omega⟩
  simp only [szI_yes (show ((n0 + osum fs0 : Nat) : Int) ≤ 1048576 by omega), ← hl_1] at hsz0
  have HSz0 := Lib.hid hsz0
  clear hsz0
  have hsz1 := fun (W : World) (hW : Below w.heap.size w W) => szAlg_any w.heap.size z1 a1 c1 n1 fs1 (l1) W (hv1.kept (Kept.of_below hW (Nat.le_refl _))) hW.size hn1 ht1 (by omega) (by omega)
  obtain ⟨l2, hl_2, hl_2a, hl_2b⟩ : ∃ l : Int, l = l1 - ((n1 + osum fs1 : Nat) : Int) ∧ 0 ≤ l ∧ l ≤ 1048576 := ⟨_, rfl, by omega, by omega⟩
  simp only [szI_yes (show ((n1 + osum fs1 : Nat) : Int) ≤ l1 by omega), ← hl_2] at hsz1
  have HSz1 := Lib.hid hsz1
  clear hsz1
  have HB0 := Lib.hid hB0
  have HV0 := Lib.hid hv0
  have hl0 := Lib.hid hv0.1
  have HW0 := Lib.hid wz0
  have HS80 := Lib.hid hs80
  have HSM0 := Lib.hid hsM0
  have HFit0 : Hid (((n0 + osum fs0 : Nat) : Int) ≤ 1048576) := (show ((n0 + osum fs0 : Nat) : Int) ≤ 1048576 by omega)
  have HV1 := Lib.hid hv1
  have hl1 := Lib.hid hv1.1
  have HW1 := Lib.hid wz1
  have HS81 := Lib.hid hs81
  have HSM1 := Lib.hid hsM1
  have HFit1 : Hid (((n1 + osum fs1 : Nat) : Int) ≤ 1048576) := (show ((n1 + osum fs1 : Nat) : Int) ≤ 1048576 by omega)
  have HV2 := Lib.hid hv2
  have hl2 := Lib.hid hv2.1
  obtain ⟨⟨rs, ok⟩, hval⟩ : ∃ p, valKernelOf z0 fs0 z1 fs1 xs2 = p := ⟨_, rfl⟩
  simp only [hval] at hres
  have HRes := Lib.hid hres
  have hrl : rs.length ≤ 4194304 := hres
  obtain ⟨rn, hrn⟩ : ∃ rn, rn = rs.length := ⟨_, rfl⟩
  rw [← hrn] at hrl
  have HRn := Lib.hid hrn
  have HVal := Lib.hid hval
  clear hB0 hval hv0 ht0 hn0 wz0 hv1 ht1 hn1 wz1 hm2 hv2 hc2 hs80 hsM0 hn2_0 hs81 hsM1 hn2_1 hfit0 hfit1 hl_1 hl_2 hres hrn
  have hne_ok : (ok != ok) = false := by cases ok <;> rfl
  go_enter Try.func3, Try.ntmps3
  go_wp2_with fail
  refine (HSz0.out _ (below_then (below_alloc w (.cells #[.int .i64 z0, .slice a0 n0 c0] 24)) (below_alloc (w.alloc (.cells #[.int .i64 z0, .slice a0 n0 c0] 24)) (.cells #[.int .i64 z1, .slice a1 n1 c1] 24)))).mono ?_
  rintro e w1 ⟨rfl, b_⟩
  have b1 : Below w.heap.size w w1 := below_then (below_then (below_alloc w (.cells #[.int .i64 z0, .slice a0 n0 c0] 24)) (below_alloc (w.alloc (.cells #[.int .i64 z0, .slice a0 n0 c0] 24)) (.cells #[.int .i64 z1, .slice a1 n1 c1] 24))) b_
  have s1 : w.heap.size ≤ w1.heap.size := b1.size
  have a00_1 : w1.cell? ⟨w.heap.size, 0, none⟩ = some (.int .i64 z0) := cell_b b_ (by simp)
  have a01_1 : w1.cell? ⟨w.heap.size, 1, none⟩ = some (.slice a0 n0 c0) := cell_b b_ (by simp)
  have za0 : w.heap.size < w1.heap.size := (by have := b_.size; simp at this; omega)
  have a10_1 : w1.cell? ⟨w.heap.size + 1, 0, none⟩ = some (.int .i64 z1) := cell_b b_ (by simp)
  have a11_1 : w1.cell? ⟨w.heap.size + 1, 1, none⟩ = some (.slice a1 n1 c1) := cell_b b_ (by simp)
  have za1 : w.heap.size + 1 < w1.heap.size := (by have := b_.size; simp at this; omega)
  have B1 : Hid (Below w.heap.size w w1) := b1
  clear b_
  go_wp2_with fail
  refine (HSz1.out _ B1.out).mono ?_
  rintro e w2 ⟨rfl, b_⟩
  have b2 : Below w1.heap.size w1 w2 := b_
  have s2 : w1.heap.size ≤ w2.heap.size := b2.size
  have a00_2 : w2.cell? ⟨w.heap.size, 0, none⟩ = some (.int .i64 z0) := cell_b b2 a00_1
  have a01_2 : w2.cell? ⟨w.heap.size, 1, none⟩ = some (.slice a0 n0 c0) := cell_b b2 a01_1
  have a10_2 : w2.cell? ⟨w.heap.size + 1, 0, none⟩ = some (.int .i64 z1) := cell_b b2 a10_1
  have a11_2 : w2.cell? ⟨w.heap.size + 1, 1, none⟩ = some (.slice a1 n1 c1) := cell_b b2 a11_1
  have B2 : Hid (Below w.heap.size w w2) := below_then B1.out b2
  clear a00_1 a01_1 a10_1 a11_1 b_
  go_wp2_with fail
  refine wp_region_noPanic ?_
  refine wp_region_held_drew (S := fun W => W.cell? ⟨w.heap.size, 0, none⟩ = some (.int .i64 z0) ∧ W.cell? ⟨w.heap.size, 1, none⟩ = some (.slice a0 n0 c0) ∧ W.cell? ⟨w.heap.size + 1, 0, none⟩ = some (.int .i64 z1) ∧ W.cell? ⟨w.heap.size + 1, 1, none⟩ = some (.slice a1 n1 c1)) (by kernel_rfl) ?_ (fun hHeld => ?_)
  · exact ⟨a00_2, a01_2, a10_2, a11_2⟩
  refine wpAnyH_take (i := 0) (oi := ⟨_, _, _, _, _, _⟩) (v := ?_) rfl (by kernel_rfl) (by kernel_rfl) (by kernel_rfl) (fun _ _ _ h => h) (Or.inl ⟨rfl, ?_⟩) (by assumption) ?_
  rotate_left 1
  · intro w_ hSw; (try dsimp only at hSw); go_simp; (try with_reducible rfl)
  (try simp only [Act.put, List.setIfInBounds_toArray, List.set_cons_zero, List.set_cons_succ])
  refine wpAnyH_take (i := 2) (oi := ⟨_, _, _, _, _, _⟩) (v := ?_) rfl (by kernel_rfl) (by kernel_rfl) (by kernel_rfl) (fun _ _ _ h => h) (Or.inl ⟨rfl, ?_⟩) (by assumption) ?_
  rotate_left 1
  · intro w_ hSw; (try dsimp only at hSw); go_simp; (try with_reducible rfl)
  (try simp only [Act.put, List.setIfInBounds_toArray, List.set_cons_zero, List.set_cons_succ])
  refine wpAnyH_take (i := 4) (oi := ⟨_, _, _, _, _, _⟩) (v := ?_) rfl (by kernel_rfl) (by kernel_rfl) (by kernel_rfl) (fun _ _ _ h => h) (Or.inl ⟨rfl, ?_⟩) (by assumption) ?_
  rotate_left 1
  · intro w_ hSw; (try dsimp only at hSw); go_simp; (try with_reducible rfl)
  (try simp only [Act.put, List.setIfInBounds_toArray, List.set_cons_zero, List.set_cons_succ])
  refine wpAnyH_ready (rs := [1]) (by kernel_rfl) (by simp) ?_
  refine AllReadyH.cons (o := ⟨_, _, _, _, _, _⟩) rfl (fun K hK => ?_) AllReadyH.nil
  go_simp
  go_at_call 17
  have hC_ := toAlg_view w.heap.size z0 a0 c0 n0 fs0 w2.drew (HV0.out.kept (Kept.of_below (below_then B2.out (below_drew w2)) (Nat.le_refl _))) (below_then B2.out (below_drew w2)).size hn3_0 HS80.out
  refine hC_.mono ?_
  clear hC_
  rintro e w3 ⟨S0g, rfl, m_⟩; have b_ := m_.2
  have b3 : Below w2.heap.size w2 w3 := below_then (below_drew w2) b_
  have s3 : w2.heap.size ≤ w3.heap.size := b3.size
  have a00_3 : w3.cell? ⟨w.heap.size, 0, none⟩ = some (.int .i64 z0) := cell_b b3 a00_2
  have a01_3 : w3.cell? ⟨w.heap.size, 1, none⟩ = some (.slice a0 n0 c0) := cell_b b3 a01_2
  have a10_3 : w3.cell? ⟨w.heap.size + 1, 0, none⟩ = some (.int .i64 z1) := cell_b b3 a10_2
  have a11_3 : w3.cell? ⟨w.heap.size + 1, 1, none⟩ = some (.slice a1 n1 c1) := cell_b b3 a11_2
  have B3 : Hid (Below w.heap.size w w3) := below_then B2.out b3
  clear a00_2 a01_2 a10_2 a11_2 b_
  have m_ := m_.view hl0.out
  simp only [World.size_alloc, World.size_drew] at m_
  have HS0_3 := Lib.hid m_
  clear m_
  go_wp2_with fail
  refine hK.out _ _ ?_ (fun hHeld => ?_)
  · exact ⟨a00_3, a01_3, a10_3, a11_3⟩
  clear hK K
  (try simp only [Act.put, List.setIfInBounds_toArray, List.set_cons_zero, List.set_cons_succ])
  refine wpAnyH_ready (rs := [3]) (by kernel_rfl) (by simp) ?_
  refine AllReadyH.cons (o := ⟨_, _, _, _, _, _⟩) rfl (fun K hK => ?_) AllReadyH.nil
  go_simp
  go_at_call 17
  have hC_ := toAlg_view w.heap.size z1 a1 c1 n1 fs1 w3 (HV1.out.kept (Kept.of_below B3.out (Nat.le_refl _))) B3.out.size hn3_1 HS81.out
  refine hC_.mono ?_
  clear hC_
  rintro e w4 ⟨S1g, rfl, m_⟩; have b_ := m_.2
  have b4 : Below w3.heap.size w3 w4 := b_
  have s4 : w3.heap.size ≤ w4.heap.size := b4.size
  have a00_4 : w4.cell? ⟨w.heap.size, 0, none⟩ = some (.int .i64 z0) := cell_b b4 a00_3
  have a01_4 : w4.cell? ⟨w.heap.size, 1, none⟩ = some (.slice a0 n0 c0) := cell_b b4 a01_3
  have a10_4 : w4.cell? ⟨w.heap.size + 1, 0, none⟩ = some (.int .i64 z1) := cell_b b4 a10_3
  have a11_4 : w4.cell? ⟨w.heap.size + 1, 1, none⟩ = some (.slice a1 n1 c1) := cell_b b4 a11_3
  have HS0_4 := Lib.hid (HS0_3.out.kept (Kept.of_below b4 (by omega)))
  have B4 : Hid (Below w.heap.size w w4) := below_then B3.out b4
  clear a00_3 a01_3 a10_3 a11_3 HS0_3 b_
  have m_ := m_.view hl1.out
  have HS1_4 := Lib.hid m_
  clear m_
  go_wp2_with fail
  refine hK.out _ _ ?_ (fun hHeld => ?_)
  · exact ⟨a00_4, a01_4, a10_4, a11_4⟩
  clear hK K
  (try simp only [Act.put, List.setIfInBounds_toArray, List.set_cons_zero, List.set_cons_succ])
  refine wpAnyH_ready (rs := [5]) (by kernel_rfl) (by simp) ?_
  refine AllReadyH.cons (o := ⟨_, _, _, _, _, _⟩) rfl (fun K hK => ?_) AllReadyH.nil
  go_simp
  go_at_call 18
  have hC_ := toInts_view 0 w.heap.size a2 c2 n2 xs2 w4 (HV2.out.kept (Kept.of_below B4.out (Nat.le_refl _))) B4.out.size (by omega)
  refine hC_.mono ?_
  clear hC_
  rintro e w5 ⟨rfl, o_, b_⟩
  have b5 : Below w4.heap.size w4 w5 := b_
  have s5 : w4.heap.size ≤ w5.heap.size := b5.size
  have a00_5 : w5.cell? ⟨w.heap.size, 0, none⟩ = some (.int .i64 z0) := cell_b b5 a00_4
  have a01_5 : w5.cell? ⟨w.heap.size, 1, none⟩ = some (.slice a0 n0 c0) := cell_b b5 a01_4
  have a10_5 : w5.cell? ⟨w.heap.size + 1, 0, none⟩ = some (.int .i64 z1) := cell_b b5 a10_4
  have a11_5 : w5.cell? ⟨w.heap.size + 1, 1, none⟩ = some (.slice a1 n1 c1) := cell_b b5 a11_4
  have HS0_5 := Lib.hid (HS0_4.out.kept (Kept.of_below b5 (by omega)))
  have HS1_5 := Lib.hid (HS1_4.out.kept (Kept.of_below b5 (by omega)))
  have B5 : Hid (Below w.heap.size w w5) := below_then B4.out b5
  clear a00_4 a01_4 a10_4 a11_4 HS0_4 HS1_4 b_
  have HSI2_5 := Lib.hid (OwnsInts.of_row o_).view
  clear o_
  go_wp2_with fail
  refine hK.out _ _ ?_ (fun hHeld => ?_)
  · exact ⟨a00_5, a01_5, a10_5, a11_5⟩
  clear hK K
  (try simp only [Act.put, List.setIfInBounds_toArray, List.set_cons_zero, List.set_cons_succ])
  refine wpAnyH_ready (rs := [6]) (by kernel_rfl) (by simp) ?_
  refine AllReadyH.cons (o := ⟨_, _, _, _, _, _⟩) rfl (fun K hK => ?_) AllReadyH.nil
  go_simp
  go_at_call 16
  have hC_ := specKernelOf _ _ z0 _ n0 n0 fs0 _ _ z1 _ n1 n1 fs1 _ _ _ n2 n2 xs2 w5 HS0_5.out (by omega) HSM0.out HS1_5.out (by omega) HSM1.out HSI2_5.out (by omega) (by unfold maxLen; omega)
  simp only [HVal.out] at hC_
  refine hC_.mono ?_
  clear hC_
  rintro e w6 ⟨Ra, Rn, Rc, rfl, hq_, o_, b_⟩
  have b6 : Below w5.heap.size w5 w6 := b_
  have s6 : w5.heap.size ≤ w6.heap.size := b6.size
  have a00_6 : w6.cell? ⟨w.heap.size, 0, none⟩ = some (.int .i64 z0) := cell_b b6 a00_5
  have a01_6 : w6.cell? ⟨w.heap.size, 1, none⟩ = some (.slice a0 n0 c0) := cell_b b6 a01_5
  have a10_6 : w6.cell? ⟨w.heap.size + 1, 0, none⟩ = some (.int .i64 z1) := cell_b b6 a10_5
  have a11_6 : w6.cell? ⟨w.heap.size + 1, 1, none⟩ = some (.slice a1 n1 c1) := cell_b b6 a11_5
  have HS0_6 := Lib.hid (HS0_5.out.kept (Kept.of_below b6 (by omega)))
  have HS1_6 := Lib.hid (HS1_5.out.kept (Kept.of_below b6 (by omega)))
  have HSI2_6 := Lib.hid (HSI2_5.out.kept (Kept.of_below b6 (by omega)))
  have B6 : Hid (Below w.heap.size w w6) := below_then B5.out b6
  clear a00_5 a01_5 a10_5 a11_5 HS0_5 HS1_5 HSI2_5 b_
  obtain rfl : rn = Rn := HRn.out.trans hq_.symm
  have HR_6 := Lib.hid o_.view
  clear o_ hq_
  go_wp2_with fail
  refine hK.out _ _ ?_ (fun hHeld => ?_)
  · exact ⟨a00_6, a01_6, a10_6, a11_6⟩
  clear hK K
  (try simp only [Act.put, List.setIfInBounds_toArray, List.set_cons_zero, List.set_cons_succ])
  refine wpAnyH_take (i := 7) (oi := ⟨_, _, _, _, _, _⟩) (v := ?_) rfl (by kernel_rfl) (by kernel_rfl) (by kernel_rfl) (fun _ _ _ h => h) (Or.inl ⟨rfl, ?_⟩) (by assumption) ?_
  rotate_left 1
  · intro w_ hSw; (try dsimp only at hSw); go_simp; (try with_reducible rfl)
  (try simp only [Act.put, List.setIfInBounds_toArray, List.set_cons_zero, List.set_cons_succ])
  refine wpAnyH_take (i := 8) (oi := ⟨_, _, _, _, _, _⟩) (v := ?_) rfl (by kernel_rfl) (by kernel_rfl) (by kernel_rfl) (fun _ _ _ h => h) (Or.inl ⟨rfl, ?_⟩) (by assumption) ?_
  rotate_left 1
  · intro w_ hSw; (try dsimp only at hSw); go_simp; (try with_reducible rfl)
  (try simp only [Act.put, List.setIfInBounds_toArray, List.set_cons_zero, List.set_cons_succ])
  refine wpAnyH_take (i := 9) (oi := ⟨_, _, _, _, _, _⟩) (v := ?_) rfl (by kernel_rfl) (by kernel_rfl) (by kernel_rfl) (fun _ _ _ h => h) (Or.inl ⟨rfl, ?_⟩) (by assumption) ?_
  rotate_left 1
  · intro w_ hSw; (try dsimp only at hSw); go_simp; (try with_reducible rfl)
  (try simp only [Act.put, List.setIfInBounds_toArray, List.set_cons_zero, List.set_cons_succ])
  refine wpAnyH_take (i := 10) (oi := ⟨_, _, _, _, _, _⟩) (v := ?_) rfl (by kernel_rfl) (by kernel_rfl) (by kernel_rfl) (fun _ _ _ h => h) (Or.inl ⟨rfl, ?_⟩) (by assumption) ?_
  rotate_left 1
  · intro w_ hSw; (try dsimp only at hSw); go_simp; (try with_reducible rfl)
  (try simp only [Act.put, List.setIfInBounds_toArray, List.set_cons_zero, List.set_cons_succ])
  refine wpAnyH_take (i := 11) (oi := ⟨_, _, _, _, _, _⟩) (v := ?_) rfl (by kernel_rfl) (by kernel_rfl) (by kernel_rfl) (fun _ _ _ h => h) (Or.inl ⟨rfl, ?_⟩) (by assumption) ?_
  rotate_left 1
  · intro w_ hSw; (try dsimp only at hSw); go_simp; (try with_reducible rfl)
  (try simp only [Act.put, List.setIfInBounds_toArray, List.set_cons_zero, List.set_cons_succ])
  refine wpAnyH_done (by kernel_rfl) ?_ _
  refine NoPanic.normal ?_
  clear HS0_6
  clear HS1_6
  clear HSI2_6
  have hC_ := toAlg_view w.heap.size z0 a0 c0 n0 fs0 w6 (HV0.out.kept (Kept.of_below B6.out (Nat.le_refl _))) B6.out.size hn3_0 HS80.out
  have HC_ := Lib.hid hC_
  clear hC_
  go_wp2_with fail
  refine HC_.out.mono ?_
  rintro e w7 ⟨X0g, rfl, m_⟩; have b_ := m_.2
  have b7 : Below w6.heap.size w6 w7 := b_
  have s7 : w6.heap.size ≤ w7.heap.size := b7.size
  have a00_7 : w7.cell? ⟨w.heap.size, 0, none⟩ = some (.int .i64 z0) := cell_b b7 a00_6
  have a01_7 : w7.cell? ⟨w.heap.size, 1, none⟩ = some (.slice a0 n0 c0) := cell_b b7 a01_6
  have a10_7 : w7.cell? ⟨w.heap.size + 1, 0, none⟩ = some (.int .i64 z1) := cell_b b7 a10_6
  have a11_7 : w7.cell? ⟨w.heap.size + 1, 1, none⟩ = some (.slice a1 n1 c1) := cell_b b7 a11_6
  have HR_7 := Lib.hid (HR_6.out.kept (Kept.of_below b7 (by omega)))
  have B7 : Hid (Below w.heap.size w w7) := below_then B6.out b7
  clear a00_6 a01_6 a10_6 a11_6 HR_6 b_
  clear HC_
  obtain ⟨⟨X0G, X0C, m_⟩, _⟩ := m_
  have HX0_7 := Lib.hid m_
  clear m_
  have a00_p : ((w7.alloc (.cells #[.int .i64 z0, .slice (some ⟨X0g, 0, none⟩) n0 n0] 31))).cell? ⟨w.heap.size, 0, none⟩ = some (.int .i64 z0) := cell_b (below_alloc w7 (.cells #[.int .i64 z0, .slice (some ⟨X0g, 0, none⟩) n0 n0] 31)) a00_7
  have a01_p : ((w7.alloc (.cells #[.int .i64 z0, .slice (some ⟨X0g, 0, none⟩) n0 n0] 31))).cell? ⟨w.heap.size, 1, none⟩ = some (.slice a0 n0 c0) := cell_b (below_alloc w7 (.cells #[.int .i64 z0, .slice (some ⟨X0g, 0, none⟩) n0 n0] 31)) a01_7
  have a10_p : ((w7.alloc (.cells #[.int .i64 z0, .slice (some ⟨X0g, 0, none⟩) n0 n0] 31))).cell? ⟨w.heap.size + 1, 0, none⟩ = some (.int .i64 z1) := cell_b (below_alloc w7 (.cells #[.int .i64 z0, .slice (some ⟨X0g, 0, none⟩) n0 n0] 31)) a10_7
  have a11_p : ((w7.alloc (.cells #[.int .i64 z0, .slice (some ⟨X0g, 0, none⟩) n0 n0] 31))).cell? ⟨w.heap.size + 1, 1, none⟩ = some (.slice a1 n1 c1) := cell_b (below_alloc w7 (.cells #[.int .i64 z0, .slice (some ⟨X0g, 0, none⟩) n0 n0] 31)) a11_7
  have hC_ := toAlg_view w.heap.size z1 a1 c1 n1 fs1 (w7.alloc (.cells #[.int .i64 z0, .slice (some ⟨X0g, 0, none⟩) n0 n0] 31)) (HV1.out.kept (Kept.of_below (below_then B7.out (below_alloc w7 (.cells #[.int .i64 z0, .slice (some ⟨X0g, 0, none⟩) n0 n0] 31))) (Nat.le_refl _))) (below_then B7.out (below_alloc w7 (.cells #[.int .i64 z0, .slice (some ⟨X0g, 0, none⟩) n0 n0] 31))).size hn3_1 HS81.out
  have HC_ := Lib.hid hC_
  clear hC_
  go_wp2_with fail
  refine HC_.out.mono ?_
  rintro e w8 ⟨X1g, rfl, m_⟩; have b_ := m_.2
  have b8 : Below w7.heap.size w7 w8 := below_then (below_alloc w7 (.cells #[.int .i64 z0, .slice (some ⟨X0g, 0, none⟩) n0 n0] 31)) b_
  have s8 : w7.heap.size ≤ w8.heap.size := b8.size
  have a00_8 : w8.cell? ⟨w.heap.size, 0, none⟩ = some (.int .i64 z0) := cell_b b8 a00_7
  have a01_8 : w8.cell? ⟨w.heap.size, 1, none⟩ = some (.slice a0 n0 c0) := cell_b b8 a01_7
  have a10_8 : w8.cell? ⟨w.heap.size + 1, 0, none⟩ = some (.int .i64 z1) := cell_b b8 a10_7
  have a11_8 : w8.cell? ⟨w.heap.size + 1, 1, none⟩ = some (.slice a1 n1 c1) := cell_b b8 a11_7
  have HR_8 := Lib.hid (HR_7.out.kept (Kept.of_below b8 (by omega)))
  have HX0_8 := Lib.hid (HX0_7.out.kept (Kept.of_below b8 (by omega)))
  have x00_8 : w8.cell? ⟨w7.heap.size, 0, none⟩ = some (.int .i64 z0) := cell_b b_ (by simp)
  have x01_8 : w8.cell? ⟨w7.heap.size, 1, none⟩ = some (.slice (some ⟨X0g, 0, none⟩) n0 n0) := cell_b b_ (by simp)
  have zx0 : w7.heap.size < w8.heap.size := (by have := b_.size; simp at this; omega)
  have B8 : Hid (Below w.heap.size w w8) := below_then B7.out b8
  clear a00_7 a01_7 a10_7 a11_7 HR_7 HX0_7 b_
  clear a00_p a01_p a10_p a11_p
  clear HC_
  obtain ⟨⟨X1G, X1C, m_⟩, _⟩ := m_
  simp only [World.size_alloc, World.size_drew] at m_
  have HX1_8 := Lib.hid m_
  clear m_
  have hC_ := toInts_view 0 w.heap.size a2 c2 n2 xs2 (w8.alloc (.cells #[.int .i64 z1, .slice (some ⟨X1g, 0, none⟩) n1 n1] 31)) (HV2.out.kept (Kept.of_below (below_then B8.out (below_alloc w8 (.cells #[.int .i64 z1, .slice (some ⟨X1g, 0, none⟩) n1 n1] 31))) (Nat.le_refl _))) (below_then B8.out (below_alloc w8 (.cells #[.int .i64 z1, .slice (some ⟨X1g, 0, none⟩) n1 n1] 31))).size (by omega)
  have HC_ := Lib.hid hC_
  clear hC_
  go_wp2_with fail
  refine HC_.out.mono ?_
  rintro e w9 ⟨rfl, o_, b_⟩
  have b9 : Below w8.heap.size w8 w9 := below_then (below_alloc w8 (.cells #[.int .i64 z1, .slice (some ⟨X1g, 0, none⟩) n1 n1] 31)) b_
  have s9 : w8.heap.size ≤ w9.heap.size := b9.size
  have a00_9 : w9.cell? ⟨w.heap.size, 0, none⟩ = some (.int .i64 z0) := cell_b b9 a00_8
  have a01_9 : w9.cell? ⟨w.heap.size, 1, none⟩ = some (.slice a0 n0 c0) := cell_b b9 a01_8
  have a10_9 : w9.cell? ⟨w.heap.size + 1, 0, none⟩ = some (.int .i64 z1) := cell_b b9 a10_8
  have a11_9 : w9.cell? ⟨w.heap.size + 1, 1, none⟩ = some (.slice a1 n1 c1) := cell_b b9 a11_8
  have x00_9 : w9.cell? ⟨w7.heap.size, 0, none⟩ = some (.int .i64 z0) := cell_b b9 x00_8
  have x01_9 : w9.cell? ⟨w7.heap.size, 1, none⟩ = some (.slice (some ⟨X0g, 0, none⟩) n0 n0) := cell_b b9 x01_8
  have HR_9 := Lib.hid (HR_8.out.kept (Kept.of_below b9 (by omega)))
  have HX0_9 := Lib.hid (HX0_8.out.kept (Kept.of_below b9 (by omega)))
  have HX1_9 := Lib.hid (HX1_8.out.kept (Kept.of_below b9 (by omega)))
  have x10_9 : w9.cell? ⟨w8.heap.size, 0, none⟩ = some (.int .i64 z1) := cell_b b_ (by simp)
  have x11_9 : w9.cell? ⟨w8.heap.size, 1, none⟩ = some (.slice (some ⟨X1g, 0, none⟩) n1 n1) := cell_b b_ (by simp)
  have zx1 : w8.heap.size < w9.heap.size := (by have := b_.size; simp at this; omega)
  have B9 : Hid (Below w.heap.size w w9) := below_then B8.out b9
  clear a00_8 a01_8 a10_8 a11_8 x00_8 x01_8 HR_8 HX0_8 HX1_8 b_
  clear HC_
  simp only [World.size_alloc, World.size_drew] at o_
  have HXI2_9 := Lib.hid (OwnsInts.of_row o_)
  clear o_
  have h_ := HX0_9.out.view
  rw [← hl0.out, map_range_get, hl0.out] at h_
  have HXV0_ := Lib.hid h_
  clear h_
  have h_ := HX1_9.out.view
  rw [← hl1.out, map_range_get, hl1.out] at h_
  have HXV1_ := Lib.hid h_
  clear h_
  have hC_ := implKernelOf _ _ z0 _ n0 n0 fs0 _ _ z1 _ n1 n1 fs1 _ _ _ n2 n2 xs2 w9 HXV0_.out (by omega) HSM0.out HXV1_.out (by omega) HSM1.out HXI2_9.out.view (by omega) (by unfold maxLen; omega)
  simp only [HVal.out] at hC_
  have HC_ := Lib.hid hC_
  clear hC_
  go_wp2_with fail
  refine HC_.out.mono ?_
  rintro e w10 ⟨Ga, Gn, Gc, rfl, hq_, o_, b_⟩
  have b10 : Below w9.heap.size w9 w10 := b_
  have s10 : w9.heap.size ≤ w10.heap.size := b10.size
  have a00_10 : w10.cell? ⟨w.heap.size, 0, none⟩ = some (.int .i64 z0) := cell_b b10 a00_9
  have a01_10 : w10.cell? ⟨w.heap.size, 1, none⟩ = some (.slice a0 n0 c0) := cell_b b10 a01_9
  have a10_10 : w10.cell? ⟨w.heap.size + 1, 0, none⟩ = some (.int .i64 z1) := cell_b b10 a10_9
  have a11_10 : w10.cell? ⟨w.heap.size + 1, 1, none⟩ = some (.slice a1 n1 c1) := cell_b b10 a11_9
  have x00_10 : w10.cell? ⟨w7.heap.size, 0, none⟩ = some (.int .i64 z0) := cell_b b10 x00_9
  have x01_10 : w10.cell? ⟨w7.heap.size, 1, none⟩ = some (.slice (some ⟨X0g, 0, none⟩) n0 n0) := cell_b b10 x01_9
  have x10_10 : w10.cell? ⟨w8.heap.size, 0, none⟩ = some (.int .i64 z1) := cell_b b10 x10_9
  have x11_10 : w10.cell? ⟨w8.heap.size, 1, none⟩ = some (.slice (some ⟨X1g, 0, none⟩) n1 n1) := cell_b b10 x11_9
  have HR_10 := Lib.hid (HR_9.out.kept (Kept.of_below b10 (by omega)))
  have HX0_10 := Lib.hid (HX0_9.out.kept (Kept.of_below b10 (by omega)))
  have HX1_10 := Lib.hid (HX1_9.out.kept (Kept.of_below b10 (by omega)))
  have HXI2_10 := Lib.hid (HXI2_9.out.kept (Kept.of_below b10 (by omega)))
  have B10 : Hid (Below w.heap.size w w10) := below_then B9.out b10
  clear a00_9 a01_9 a10_9 a11_9 x00_9 x01_9 x10_9 x11_9 HR_9 HX0_9 HX1_9 HXI2_9 b_
  clear HC_
  obtain rfl : rn = Gn := HRn.out.trans hq_.symm
  have HG_10 := Lib.hid o_
  clear o_ hq_
  clear HXV0_ HXV1_
  have HGV_ := Lib.hid HG_10.out.view
  have hC_ := eqInts_view _ _ _ _ _ _ Gc Rc rn rs w10 HGV_.out HR_10.out (by unfold maxLen; omega)
  have HC_ := Lib.hid hC_
  clear hC_
  go_wp2_with fail
  refine HC_.out.mono ?_
  rintro e w11 ⟨rfl, q_⟩; have b_ := below_drawn (Below.refl w10.heap.size w10) q_; clear q_
  have b11 : Below w10.heap.size w10 w11 := b_
  have s11 : w10.heap.size ≤ w11.heap.size := b11.size
  have a00_11 : w11.cell? ⟨w.heap.size, 0, none⟩ = some (.int .i64 z0) := cell_b b11 a00_10
  have a01_11 : w11.cell? ⟨w.heap.size, 1, none⟩ = some (.slice a0 n0 c0) := cell_b b11 a01_10
  have a10_11 : w11.cell? ⟨w.heap.size + 1, 0, none⟩ = some (.int .i64 z1) := cell_b b11 a10_10
  have a11_11 : w11.cell? ⟨w.heap.size + 1, 1, none⟩ = some (.slice a1 n1 c1) := cell_b b11 a11_10
  have x00_11 : w11.cell? ⟨w7.heap.size, 0, none⟩ = some (.int .i64 z0) := cell_b b11 x00_10
  have x01_11 : w11.cell? ⟨w7.heap.size, 1, none⟩ = some (.slice (some ⟨X0g, 0, none⟩) n0 n0) := cell_b b11 x01_10
  have x10_11 : w11.cell? ⟨w8.heap.size, 0, none⟩ = some (.int .i64 z1) := cell_b b11 x10_10
  have x11_11 : w11.cell? ⟨w8.heap.size, 1, none⟩ = some (.slice (some ⟨X1g, 0, none⟩) n1 n1) := cell_b b11 x11_10
  have HR_11 := Lib.hid (HR_10.out.kept (Kept.of_below b11 (by omega)))
  have HX0_11 := Lib.hid (HX0_10.out.kept (Kept.of_below b11 (by omega)))
  have HX1_11 := Lib.hid (HX1_10.out.kept (Kept.of_below b11 (by omega)))
  have HXI2_11 := Lib.hid (HXI2_10.out.kept (Kept.of_below b11 (by omega)))
  have HG_11 := Lib.hid (HG_10.out.kept (Kept.of_below b11 (by omega)))
  have B11 : Hid (Below w.heap.size w w11) := below_then B10.out b11
  clear a00_10 a01_10 a10_10 a11_10 x00_10 x01_10 x10_10 x11_10 HR_10 HX0_10 HX1_10 HXI2_10 HG_10 b_
  clear HC_
  clear HGV_
  go_wp2_with fail
  refine wp_region_noPanic ?_
  refine wp_region_held_drew (S := fun W => W.cell? ⟨w.heap.size, 0, none⟩ = some (.int .i64 z0) ∧ W.cell? ⟨w.heap.size, 1, none⟩ = some (.slice a0 n0 c0) ∧ W.cell? ⟨w.heap.size + 1, 0, none⟩ = some (.int .i64 z1) ∧ W.cell? ⟨w.heap.size + 1, 1, none⟩ = some (.slice a1 n1 c1) ∧ W.cell? ⟨w7.heap.size, 0, none⟩ = some (.int .i64 z0) ∧ W.cell? ⟨w7.heap.size, 1, none⟩ = some (.slice (some ⟨X0g, 0, none⟩) n0 n0) ∧ W.cell? ⟨w8.heap.size, 0, none⟩ = some (.int .i64 z1) ∧ W.cell? ⟨w8.heap.size, 1, none⟩ = some (.slice (some ⟨X1g, 0, none⟩) n1 n1)) (by kernel_rfl) ?_ (fun hHeld => ?_)
  · exact ⟨a00_11, a01_11, a10_11, a11_11, x00_11, x01_11, x10_11, x11_11⟩
  refine wpAnyH_take (i := 0) (oi := ⟨_, _, _, _, _, _⟩) (v := ?_) rfl (by kernel_rfl) (by kernel_rfl) (by kernel_rfl) (fun _ _ _ h => h) (Or.inl ⟨rfl, ?_⟩) (by assumption) ?_
  rotate_left 1
  · intro w_ hSw; (try dsimp only at hSw); go_simp; (try with_reducible rfl)
  (try simp only [Act.put, List.setIfInBounds_toArray, List.set_cons_zero, List.set_cons_succ])
  refine wpAnyH_take (i := 1) (oi := ⟨_, _, _, _, _, _⟩) (v := ?_) rfl (by kernel_rfl) (by kernel_rfl) (by kernel_rfl) (fun _ _ _ h => h) (Or.inl ⟨rfl, ?_⟩) (by assumption) ?_
  rotate_left 1
  · intro w_ hSw; (try dsimp only at hSw); go_simp; (try with_reducible rfl)
  (try simp only [Act.put, List.setIfInBounds_toArray, List.set_cons_zero, List.set_cons_succ])
  refine wpAnyH_ready (rs := [2]) (by kernel_rfl) (by simp) ?_
  refine AllReadyH.cons (o := ⟨_, _, _, _, _, _⟩) rfl (fun K hK => ?_) AllReadyH.nil
  go_simp
  go_at_call 17
  have hC_ := toAlg_view w.heap.size z0 a0 c0 n0 fs0 w11.drew (HV0.out.kept (Kept.of_below (below_then B11.out (below_drew w11)) (Nat.le_refl _))) (below_then B11.out (below_drew w11)).size hn3_0 HS80.out
  refine hC_.mono ?_
  clear hC_
  rintro e w12 ⟨Y0g, rfl, m_⟩; have b_ := m_.2
  have b12 : Below w11.heap.size w11 w12 := below_then (below_drew w11) b_
  have s12 : w11.heap.size ≤ w12.heap.size := b12.size
  have a00_12 : w12.cell? ⟨w.heap.size, 0, none⟩ = some (.int .i64 z0) := cell_b b12 a00_11
  have a01_12 : w12.cell? ⟨w.heap.size, 1, none⟩ = some (.slice a0 n0 c0) := cell_b b12 a01_11
  have a10_12 : w12.cell? ⟨w.heap.size + 1, 0, none⟩ = some (.int .i64 z1) := cell_b b12 a10_11
  have a11_12 : w12.cell? ⟨w.heap.size + 1, 1, none⟩ = some (.slice a1 n1 c1) := cell_b b12 a11_11
  have x00_12 : w12.cell? ⟨w7.heap.size, 0, none⟩ = some (.int .i64 z0) := cell_b b12 x00_11
  have x01_12 : w12.cell? ⟨w7.heap.size, 1, none⟩ = some (.slice (some ⟨X0g, 0, none⟩) n0 n0) := cell_b b12 x01_11
  have x10_12 : w12.cell? ⟨w8.heap.size, 0, none⟩ = some (.int .i64 z1) := cell_b b12 x10_11
  have x11_12 : w12.cell? ⟨w8.heap.size, 1, none⟩ = some (.slice (some ⟨X1g, 0, none⟩) n1 n1) := cell_b b12 x11_11
  have HR_12 := Lib.hid (HR_11.out.kept (Kept.of_below b12 (by omega)))
  have HX0_12 := Lib.hid (HX0_11.out.kept (Kept.of_below b12 (by omega)))
  have HX1_12 := Lib.hid (HX1_11.out.kept (Kept.of_below b12 (by omega)))
  have HXI2_12 := Lib.hid (HXI2_11.out.kept (Kept.of_below b12 (by omega)))
  have HG_12 := Lib.hid (HG_11.out.kept (Kept.of_below b12 (by omega)))
  have B12 : Hid (Below w.heap.size w w12) := below_then B11.out b12
  clear a00_11 a01_11 a10_11 a11_11 x00_11 x01_11 x10_11 x11_11 HR_11 HX0_11 HX1_11 HXI2_11 HG_11 b_
  have m_ := m_.view hl0.out
  simp only [World.size_alloc, World.size_drew] at m_
  have HY0_12 := Lib.hid m_
  clear m_
  go_wp2_with fail
  refine hK.out _ _ ?_ (fun hHeld => ?_)
  · exact ⟨a00_12, a01_12, a10_12, a11_12, x00_12, x01_12, x10_12, x11_12⟩
  clear hK K
  (try simp only [Act.put, List.setIfInBounds_toArray, List.set_cons_zero, List.set_cons_succ])
  refine wpAnyH_ready (rs := [3]) (by kernel_rfl) (by simp) ?_
  refine AllReadyH.cons (o := ⟨_, _, _, _, _, _⟩) rfl (fun K hK => ?_) AllReadyH.nil
  go_simp
  have h_ := HX0_12.out.view
  rw [← hl0.out, map_range_get, hl0.out] at h_
  have XV_ := Lib.hid h_
  clear h_
  go_at_call 21
  have hC_ := eqAlg_view _ _ _ _ z0 _ _ n0 n0 n0 fs0 w12 XV_.out HY0_12.out (by unfold maxLen; omega) HSM0.out (by omega) (by omega)
  refine hC_.mono ?_
  clear hC_
  rintro e w13 ⟨rfl, b_⟩; clear XV_
  have b13 : Below w12.heap.size w12 w13 := b_
  have s13 : w12.heap.size ≤ w13.heap.size := b13.size
  have a00_13 : w13.cell? ⟨w.heap.size, 0, none⟩ = some (.int .i64 z0) := cell_b b13 a00_12
  have a01_13 : w13.cell? ⟨w.heap.size, 1, none⟩ = some (.slice a0 n0 c0) := cell_b b13 a01_12
  have a10_13 : w13.cell? ⟨w.heap.size + 1, 0, none⟩ = some (.int .i64 z1) := cell_b b13 a10_12
  have a11_13 : w13.cell? ⟨w.heap.size + 1, 1, none⟩ = some (.slice a1 n1 c1) := cell_b b13 a11_12
  have x00_13 : w13.cell? ⟨w7.heap.size, 0, none⟩ = some (.int .i64 z0) := cell_b b13 x00_12
  have x01_13 : w13.cell? ⟨w7.heap.size, 1, none⟩ = some (.slice (some ⟨X0g, 0, none⟩) n0 n0) := cell_b b13 x01_12
  have x10_13 : w13.cell? ⟨w8.heap.size, 0, none⟩ = some (.int .i64 z1) := cell_b b13 x10_12
  have x11_13 : w13.cell? ⟨w8.heap.size, 1, none⟩ = some (.slice (some ⟨X1g, 0, none⟩) n1 n1) := cell_b b13 x11_12
  have HR_13 := Lib.hid (HR_12.out.kept (Kept.of_below b13 (by omega)))
  have HX0_13 := Lib.hid (HX0_12.out.kept (Kept.of_below b13 (by omega)))
  have HX1_13 := Lib.hid (HX1_12.out.kept (Kept.of_below b13 (by omega)))
  have HXI2_13 := Lib.hid (HXI2_12.out.kept (Kept.of_below b13 (by omega)))
  have HG_13 := Lib.hid (HG_12.out.kept (Kept.of_below b13 (by omega)))
  have HY0_13 := Lib.hid (HY0_12.out.kept (Kept.of_below b13 (by omega)))
  have B13 : Hid (Below w.heap.size w w13) := below_then B12.out b13
  clear a00_12 a01_12 a10_12 a11_12 x00_12 x01_12 x10_12 x11_12 HR_12 HX0_12 HX1_12 HXI2_12 HG_12 HY0_12 b_
  go_wp2_with fail
  refine hK.out _ _ ?_ (fun hHeld => ?_)
  · exact ⟨a00_13, a01_13, a10_13, a11_13, x00_13, x01_13, x10_13, x11_13⟩
  clear hK K
  (try simp only [Act.put, List.setIfInBounds_toArray, List.set_cons_zero, List.set_cons_succ])
  refine wpAnyH_take (i := 4) (oi := ⟨_, _, _, _, _, _⟩) (v := ?_) rfl (by kernel_rfl) (by kernel_rfl) (by kernel_rfl) (fun _ _ _ h => h) (Or.inl ⟨rfl, ?_⟩) (by assumption) ?_
  rotate_left 1
  · intro w_ hSw; (try dsimp only at hSw); go_simp; (try with_reducible rfl)
  (try simp only [Act.put, List.setIfInBounds_toArray, List.set_cons_zero, List.set_cons_succ])
  refine wpAnyH_done (by kernel_rfl) ?_ _
  refine NoPanic.normal ?_
  clear HY0_13
  go_wp2_with fail
  refine wp_region_noPanic ?_
  refine wp_region_held_drew (S := fun W => W.cell? ⟨w.heap.size, 0, none⟩ = some (.int .i64 z0) ∧ W.cell? ⟨w.heap.size, 1, none⟩ = some (.slice a0 n0 c0) ∧ W.cell? ⟨w.heap.size + 1, 0, none⟩ = some (.int .i64 z1) ∧ W.cell? ⟨w.heap.size + 1, 1, none⟩ = some (.slice a1 n1 c1) ∧ W.cell? ⟨w7.heap.size, 0, none⟩ = some (.int .i64 z0) ∧ W.cell? ⟨w7.heap.size, 1, none⟩ = some (.slice (some ⟨X0g, 0, none⟩) n0 n0) ∧ W.cell? ⟨w8.heap.size, 0, none⟩ = some (.int .i64 z1) ∧ W.cell? ⟨w8.heap.size, 1, none⟩ = some (.slice (some ⟨X1g, 0, none⟩) n1 n1)) (by kernel_rfl) ?_ (fun hHeld => ?_)
  · exact ⟨a00_13, a01_13, a10_13, a11_13, x00_13, x01_13, x10_13, x11_13⟩
  refine wpAnyH_take (i := 0) (oi := ⟨_, _, _, _, _, _⟩) (v := ?_) rfl (by kernel_rfl) (by kernel_rfl) (by kernel_rfl) (fun _ _ _ h => h) (Or.inl ⟨rfl, ?_⟩) (by assumption) ?_
  rotate_left 1
  · intro w_ hSw; (try dsimp only at hSw); go_simp; (try with_reducible rfl)
  (try simp only [Act.put, List.setIfInBounds_toArray, List.set_cons_zero, List.set_cons_succ])
  refine wpAnyH_take (i := 1) (oi := ⟨_, _, _, _, _, _⟩) (v := ?_) rfl (by kernel_rfl) (by kernel_rfl) (by kernel_rfl) (fun _ _ _ h => h) (Or.inl ⟨rfl, ?_⟩) (by assumption) ?_
  rotate_left 1
  · intro w_ hSw; (try dsimp only at hSw); go_simp; (try with_reducible rfl)
  (try simp only [Act.put, List.setIfInBounds_toArray, List.set_cons_zero, List.set_cons_succ])
  refine wpAnyH_ready (rs := [2]) (by kernel_rfl) (by simp) ?_
  refine AllReadyH.cons (o := ⟨_, _, _, _, _, _⟩) rfl (fun K hK => ?_) AllReadyH.nil
  go_simp
  go_at_call 17
  have hC_ := toAlg_view w.heap.size z1 a1 c1 n1 fs1 w13.drew (HV1.out.kept (Kept.of_below (below_then B13.out (below_drew w13)) (Nat.le_refl _))) (below_then B13.out (below_drew w13)).size hn3_1 HS81.out
  refine hC_.mono ?_
  clear hC_
  rintro e w14 ⟨Y1g, rfl, m_⟩; have b_ := m_.2
  have b14 : Below w13.heap.size w13 w14 := below_then (below_drew w13) b_
  have s14 : w13.heap.size ≤ w14.heap.size := b14.size
  have a00_14 : w14.cell? ⟨w.heap.size, 0, none⟩ = some (.int .i64 z0) := cell_b b14 a00_13
  have a01_14 : w14.cell? ⟨w.heap.size, 1, none⟩ = some (.slice a0 n0 c0) := cell_b b14 a01_13
  have a10_14 : w14.cell? ⟨w.heap.size + 1, 0, none⟩ = some (.int .i64 z1) := cell_b b14 a10_13
  have a11_14 : w14.cell? ⟨w.heap.size + 1, 1, none⟩ = some (.slice a1 n1 c1) := cell_b b14 a11_13
  have x00_14 : w14.cell? ⟨w7.heap.size, 0, none⟩ = some (.int .i64 z0) := cell_b b14 x00_13
  have x01_14 : w14.cell? ⟨w7.heap.size, 1, none⟩ = some (.slice (some ⟨X0g, 0, none⟩) n0 n0) := cell_b b14 x01_13
  have x10_14 : w14.cell? ⟨w8.heap.size, 0, none⟩ = some (.int .i64 z1) := cell_b b14 x10_13
  have x11_14 : w14.cell? ⟨w8.heap.size, 1, none⟩ = some (.slice (some ⟨X1g, 0, none⟩) n1 n1) := cell_b b14 x11_13
  have HR_14 := Lib.hid (HR_13.out.kept (Kept.of_below b14 (by omega)))
  have HX0_14 := Lib.hid (HX0_13.out.kept (Kept.of_below b14 (by omega)))
  have HX1_14 := Lib.hid (HX1_13.out.kept (Kept.of_below b14 (by omega)))
  have HXI2_14 := Lib.hid (HXI2_13.out.kept (Kept.of_below b14 (by omega)))
  have HG_14 := Lib.hid (HG_13.out.kept (Kept.of_below b14 (by omega)))
  have B14 : Hid (Below w.heap.size w w14) := below_then B13.out b14
  clear a00_13 a01_13 a10_13 a11_13 x00_13 x01_13 x10_13 x11_13 HR_13 HX0_13 HX1_13 HXI2_13 HG_13 b_
  have m_ := m_.view hl1.out
  simp only [World.size_alloc, World.size_drew] at m_
  have HY1_14 := Lib.hid m_
  clear m_
  go_wp2_with fail
  refine hK.out _ _ ?_ (fun hHeld => ?_)
  · exact ⟨a00_14, a01_14, a10_14, a11_14, x00_14, x01_14, x10_14, x11_14⟩
  clear hK K
  (try simp only [Act.put, List.setIfInBounds_toArray, List.set_cons_zero, List.set_cons_succ])
  refine wpAnyH_ready (rs := [3]) (by kernel_rfl) (by simp) ?_
  refine AllReadyH.cons (o := ⟨_, _, _, _, _, _⟩) rfl (fun K hK => ?_) AllReadyH.nil
  go_simp
  have h_ := HX1_14.out.view
  rw [← hl1.out, map_range_get, hl1.out] at h_
  have XV_ := Lib.hid h_
  clear h_
  go_at_call 21
  have hC_ := eqAlg_view _ _ _ _ z1 _ _ n1 n1 n1 fs1 w14 XV_.out HY1_14.out (by unfold maxLen; omega) HSM1.out (by omega) (by omega)
  refine hC_.mono ?_
  clear hC_
  rintro e w15 ⟨rfl, b_⟩; clear XV_
  have b15 : Below w14.heap.size w14 w15 := b_
  have s15 : w14.heap.size ≤ w15.heap.size := b15.size
  have a00_15 : w15.cell? ⟨w.heap.size, 0, none⟩ = some (.int .i64 z0) := cell_b b15 a00_14
  have a01_15 : w15.cell? ⟨w.heap.size, 1, none⟩ = some (.slice a0 n0 c0) := cell_b b15 a01_14
  have a10_15 : w15.cell? ⟨w.heap.size + 1, 0, none⟩ = some (.int .i64 z1) := cell_b b15 a10_14
  have a11_15 : w15.cell? ⟨w.heap.size + 1, 1, none⟩ = some (.slice a1 n1 c1) := cell_b b15 a11_14
  have x00_15 : w15.cell? ⟨w7.heap.size, 0, none⟩ = some (.int .i64 z0) := cell_b b15 x00_14
  have x01_15 : w15.cell? ⟨w7.heap.size, 1, none⟩ = some (.slice (some ⟨X0g, 0, none⟩) n0 n0) := cell_b b15 x01_14
  have x10_15 : w15.cell? ⟨w8.heap.size, 0, none⟩ = some (.int .i64 z1) := cell_b b15 x10_14
  have x11_15 : w15.cell? ⟨w8.heap.size, 1, none⟩ = some (.slice (some ⟨X1g, 0, none⟩) n1 n1) := cell_b b15 x11_14
  have HR_15 := Lib.hid (HR_14.out.kept (Kept.of_below b15 (by omega)))
  have HX0_15 := Lib.hid (HX0_14.out.kept (Kept.of_below b15 (by omega)))
  have HX1_15 := Lib.hid (HX1_14.out.kept (Kept.of_below b15 (by omega)))
  have HXI2_15 := Lib.hid (HXI2_14.out.kept (Kept.of_below b15 (by omega)))
  have HG_15 := Lib.hid (HG_14.out.kept (Kept.of_below b15 (by omega)))
  have HY1_15 := Lib.hid (HY1_14.out.kept (Kept.of_below b15 (by omega)))
  have B15 : Hid (Below w.heap.size w w15) := below_then B14.out b15
  clear a00_14 a01_14 a10_14 a11_14 x00_14 x01_14 x10_14 x11_14 HR_14 HX0_14 HX1_14 HXI2_14 HG_14 HY1_14 b_
  go_wp2_with fail
  refine hK.out _ _ ?_ (fun hHeld => ?_)
  · exact ⟨a00_15, a01_15, a10_15, a11_15, x00_15, x01_15, x10_15, x11_15⟩
  clear hK K
  (try simp only [Act.put, List.setIfInBounds_toArray, List.set_cons_zero, List.set_cons_succ])
  refine wpAnyH_take (i := 4) (oi := ⟨_, _, _, _, _, _⟩) (v := ?_) rfl (by kernel_rfl) (by kernel_rfl) (by kernel_rfl) (fun _ _ _ h => h) (Or.inl ⟨rfl, ?_⟩) (by assumption) ?_
  rotate_left 1
  · intro w_ hSw; (try dsimp only at hSw); go_simp; (try with_reducible rfl)
  (try simp only [Act.put, List.setIfInBounds_toArray, List.set_cons_zero, List.set_cons_succ])
  refine wpAnyH_done (by kernel_rfl) ?_ _
  refine NoPanic.normal ?_
  clear HY1_15
  have hC_ := toInts_view 0 w.heap.size a2 c2 n2 xs2 w15 (HV2.out.kept (Kept.of_below B15.out (Nat.le_refl _))) B15.out.size (by omega)
  have HC_ := Lib.hid hC_
  clear hC_
  go_wp2_with fail
  refine HC_.out.mono ?_
  rintro e w16 ⟨rfl, o_, b_⟩
  have b16 : Below w15.heap.size w15 w16 := b_
  have s16 : w15.heap.size ≤ w16.heap.size := b16.size
  have a00_16 : w16.cell? ⟨w.heap.size, 0, none⟩ = some (.int .i64 z0) := cell_b b16 a00_15
  have a01_16 : w16.cell? ⟨w.heap.size, 1, none⟩ = some (.slice a0 n0 c0) := cell_b b16 a01_15
  have a10_16 : w16.cell? ⟨w.heap.size + 1, 0, none⟩ = some (.int .i64 z1) := cell_b b16 a10_15
  have a11_16 : w16.cell? ⟨w.heap.size + 1, 1, none⟩ = some (.slice a1 n1 c1) := cell_b b16 a11_15
  have x00_16 : w16.cell? ⟨w7.heap.size, 0, none⟩ = some (.int .i64 z0) := cell_b b16 x00_15
  have x01_16 : w16.cell? ⟨w7.heap.size, 1, none⟩ = some (.slice (some ⟨X0g, 0, none⟩) n0 n0) := cell_b b16 x01_15
  have x10_16 : w16.cell? ⟨w8.heap.size, 0, none⟩ = some (.int .i64 z1) := cell_b b16 x10_15
  have x11_16 : w16.cell? ⟨w8.heap.size, 1, none⟩ = some (.slice (some ⟨X1g, 0, none⟩) n1 n1) := cell_b b16 x11_15
  have HR_16 := Lib.hid (HR_15.out.kept (Kept.of_below b16 (by omega)))
  have HX0_16 := Lib.hid (HX0_15.out.kept (Kept.of_below b16 (by omega)))
  have HX1_16 := Lib.hid (HX1_15.out.kept (Kept.of_below b16 (by omega)))
  have HXI2_16 := Lib.hid (HXI2_15.out.kept (Kept.of_below b16 (by omega)))
  have HG_16 := Lib.hid (HG_15.out.kept (Kept.of_below b16 (by omega)))
  have B16 : Hid (Below w.heap.size w w16) := below_then B15.out b16
  clear a00_15 a01_15 a10_15 a11_15 x00_15 x01_15 x10_15 x11_15 HR_15 HX0_15 HX1_15 HXI2_15 HG_15 b_
  clear HC_
  have HYI2_16 := Lib.hid (OwnsInts.of_row o_).view
  clear o_
  have hC_ := eqInts_view _ _ _ _ _ _ n2 n2 n2 xs2 w16 HXI2_16.out.view HYI2_16.out (by unfold maxLen; omega)
  have HC_ := Lib.hid hC_
  clear hC_
  go_wp2_with fail
  refine HC_.out.mono ?_
  rintro e w17 ⟨rfl, q_⟩; have b_ := below_drawn (Below.refl w16.heap.size w16) q_; clear q_
  have b17 : Below w16.heap.size w16 w17 := b_
  have s17 : w16.heap.size ≤ w17.heap.size := b17.size
  have a00_17 : w17.cell? ⟨w.heap.size, 0, none⟩ = some (.int .i64 z0) := cell_b b17 a00_16
  have a01_17 : w17.cell? ⟨w.heap.size, 1, none⟩ = some (.slice a0 n0 c0) := cell_b b17 a01_16
  have a10_17 : w17.cell? ⟨w.heap.size + 1, 0, none⟩ = some (.int .i64 z1) := cell_b b17 a10_16
  have a11_17 : w17.cell? ⟨w.heap.size + 1, 1, none⟩ = some (.slice a1 n1 c1) := cell_b b17 a11_16
  have x00_17 : w17.cell? ⟨w7.heap.size, 0, none⟩ = some (.int .i64 z0) := cell_b b17 x00_16
  have x01_17 : w17.cell? ⟨w7.heap.size, 1, none⟩ = some (.slice (some ⟨X0g, 0, none⟩) n0 n0) := cell_b b17 x01_16
  have x10_17 : w17.cell? ⟨w8.heap.size, 0, none⟩ = some (.int .i64 z1) := cell_b b17 x10_16
  have x11_17 : w17.cell? ⟨w8.heap.size, 1, none⟩ = some (.slice (some ⟨X1g, 0, none⟩) n1 n1) := cell_b b17 x11_16
  have HR_17 := Lib.hid (HR_16.out.kept (Kept.of_below b17 (by omega)))
  have HX0_17 := Lib.hid (HX0_16.out.kept (Kept.of_below b17 (by omega)))
  have HX1_17 := Lib.hid (HX1_16.out.kept (Kept.of_below b17 (by omega)))
  have HXI2_17 := Lib.hid (HXI2_16.out.kept (Kept.of_below b17 (by omega)))
  have HG_17 := Lib.hid (HG_16.out.kept (Kept.of_below b17 (by omega)))
  have HYI2_17 := Lib.hid (HYI2_16.out.kept (Kept.of_below b17 (by omega)))
  have B17 : Hid (Below w.heap.size w w17) := below_then B16.out b17
  clear a00_16 a01_16 a10_16 a11_16 x00_16 x01_16 x10_16 x11_16 HR_16 HX0_16 HX1_16 HXI2_16 HG_16 HYI2_16 b_
  clear HC_
  clear HYI2_17
  have HPre0 : Hid (preLen (fun j => fs0.getD j (0, [])) n0 = n0 + osum fs0) := by have h_ := preLen_fs fs0; rw [hl0.out] at h_; exact h_
  have hfit_ := HFit0.out
  obtain ⟨kx0, hkx, hkx00, hkx10⟩ : ∃ kx : Int, kx = 1 + (preLen (fun j => fs0.getD j (0, [])) n0 : Int) ∧ 0 ≤ kx ∧ kx ≤ 1048577 := ⟨_, rfl, by omega, by rw [HPre0.out]; omega⟩
  have HKX0 := Lib.hid hkx
  clear hkx hfit_
  have hC_ := markAlg_own _ _ n0 n0 z0 _ X0G X0C (fun j => fs0.getD j (0, [])) 1 w17 (by omega) (by rw [← HKX0.out]; omega) HX0_17.out (by omega)
  rw [← HKX0.out] at hC_
  have HC_ := Lib.hid hC_
  clear hC_
  go_wp2_with fail
  refine HC_.out.mono ?_
  rintro e w18 ⟨rfl, o_, b_⟩; clear o_
  have s18 : w17.heap.size ≤ w18.heap.size := b_.size
  have a00_18 : w18.cell? ⟨w.heap.size, 0, none⟩ = some (.int .i64 z0) := cell_o b_ a00_17 (by dsimp only; omega)
  have a01_18 : w18.cell? ⟨w.heap.size, 1, none⟩ = some (.slice a0 n0 c0) := cell_o b_ a01_17 (by dsimp only; omega)
  have a10_18 : w18.cell? ⟨w.heap.size + 1, 0, none⟩ = some (.int .i64 z1) := cell_o b_ a10_17 (by dsimp only; omega)
  have a11_18 : w18.cell? ⟨w.heap.size + 1, 1, none⟩ = some (.slice a1 n1 c1) := cell_o b_ a11_17 (by dsimp only; omega)
  have x00_18 : w18.cell? ⟨w7.heap.size, 0, none⟩ = some (.int .i64 z0) := cell_o b_ x00_17 (by dsimp only; omega)
  have x01_18 : w18.cell? ⟨w7.heap.size, 1, none⟩ = some (.slice (some ⟨X0g, 0, none⟩) n0 n0) := cell_o b_ x01_17 (by dsimp only; omega)
  have x10_18 : w18.cell? ⟨w8.heap.size, 0, none⟩ = some (.int .i64 z1) := cell_o b_ x10_17 (by dsimp only; omega)
  have x11_18 : w18.cell? ⟨w8.heap.size, 1, none⟩ = some (.slice (some ⟨X1g, 0, none⟩) n1 n1) := cell_o b_ x11_17 (by dsimp only; omega)
  have HR_18 := Lib.hid (HR_17.out.kept (kept_only b_ (by omega) (by omega)))
  have HX1_18 := Lib.hid (HX1_17.out.kept (kept_only b_ (by omega) (by omega)))
  have HXI2_18 := Lib.hid (HXI2_17.out.kept (kept_only b_ (by omega) (by omega)))
  have HG_18 := Lib.hid (HG_17.out.kept (kept_only b_ (by omega) (by omega)))
  have B18 : Hid (Below w.heap.size w w18) := below_only B17.out b_ (by omega) (by omega)
  clear a00_17 a01_17 a10_17 a11_17 x00_17 x01_17 x10_17 x11_17 HR_17 HX1_17 HXI2_17 HG_17 HX0_17 b_
  clear HC_
  have HPre1 : Hid (preLen (fun j => fs1.getD j (0, [])) n1 = n1 + osum fs1) := by have h_ := preLen_fs fs1; rw [hl1.out] at h_; exact h_
  have hfit_ := HFit1.out
  obtain ⟨kx1, hkx, hkx01, hkx11⟩ : ∃ kx : Int, kx = kx0 + (preLen (fun j => fs1.getD j (0, [])) n1 : Int) ∧ 0 ≤ kx ∧ kx ≤ 2097153 := ⟨_, rfl, by omega, by rw [HPre1.out]; omega⟩
  have HKX1 := Lib.hid hkx
  clear hkx hfit_
  have hC_ := markAlg_own _ _ n1 n1 z1 _ X1G X1C (fun j => fs1.getD j (0, [])) (kx0) w18 (by omega) (by rw [← HKX1.out]; omega) HX1_18.out (by omega)
  rw [← HKX1.out] at hC_
  have HC_ := Lib.hid hC_
  clear hC_
  go_wp2_with fail
  refine HC_.out.mono ?_
  rintro e w19 ⟨rfl, o_, b_⟩; clear o_
  have s19 : w18.heap.size ≤ w19.heap.size := b_.size
  have a00_19 : w19.cell? ⟨w.heap.size, 0, none⟩ = some (.int .i64 z0) := cell_o b_ a00_18 (by dsimp only; omega)
  have a01_19 : w19.cell? ⟨w.heap.size, 1, none⟩ = some (.slice a0 n0 c0) := cell_o b_ a01_18 (by dsimp only; omega)
  have a10_19 : w19.cell? ⟨w.heap.size + 1, 0, none⟩ = some (.int .i64 z1) := cell_o b_ a10_18 (by dsimp only; omega)
  have a11_19 : w19.cell? ⟨w.heap.size + 1, 1, none⟩ = some (.slice a1 n1 c1) := cell_o b_ a11_18 (by dsimp only; omega)
  have x00_19 : w19.cell? ⟨w7.heap.size, 0, none⟩ = some (.int .i64 z0) := cell_o b_ x00_18 (by dsimp only; omega)
  have x01_19 : w19.cell? ⟨w7.heap.size, 1, none⟩ = some (.slice (some ⟨X0g, 0, none⟩) n0 n0) := cell_o b_ x01_18 (by dsimp only; omega)
  have x10_19 : w19.cell? ⟨w8.heap.size, 0, none⟩ = some (.int .i64 z1) := cell_o b_ x10_18 (by dsimp only; omega)
  have x11_19 : w19.cell? ⟨w8.heap.size, 1, none⟩ = some (.slice (some ⟨X1g, 0, none⟩) n1 n1) := cell_o b_ x11_18 (by dsimp only; omega)
  have HR_19 := Lib.hid (HR_18.out.kept (kept_only b_ (by omega) (by omega)))
  have HXI2_19 := Lib.hid (HXI2_18.out.kept (kept_only b_ (by omega) (by omega)))
  have HG_19 := Lib.hid (HG_18.out.kept (kept_only b_ (by omega) (by omega)))
  have B19 : Hid (Below w.heap.size w w19) := below_only B18.out b_ (by omega) (by omega)
  clear a00_18 a01_18 a10_18 a11_18 x00_18 x01_18 x10_18 x11_18 HR_18 HXI2_18 HG_18 HX1_18 b_
  clear HC_
  have hC_ := markInts_own _ _ n2 n2 (kx1) _ xs2 w19 (by omega) (by omega) HXI2_19.out
  have HC_ := Lib.hid hC_
  clear hC_
  go_wp2_with fail
  refine HC_.out.mono ?_
  rintro e w20 ⟨rfl, o_, b_⟩; clear o_
  have s20 : w19.heap.size ≤ w20.heap.size := b_.size
  have a00_20 : w20.cell? ⟨w.heap.size, 0, none⟩ = some (.int .i64 z0) := cell_o b_ a00_19 (by dsimp only; omega)
  have a01_20 : w20.cell? ⟨w.heap.size, 1, none⟩ = some (.slice a0 n0 c0) := cell_o b_ a01_19 (by dsimp only; omega)
  have a10_20 : w20.cell? ⟨w.heap.size + 1, 0, none⟩ = some (.int .i64 z1) := cell_o b_ a10_19 (by dsimp only; omega)
  have a11_20 : w20.cell? ⟨w.heap.size + 1, 1, none⟩ = some (.slice a1 n1 c1) := cell_o b_ a11_19 (by dsimp only; omega)
  have x00_20 : w20.cell? ⟨w7.heap.size, 0, none⟩ = some (.int .i64 z0) := cell_o b_ x00_19 (by dsimp only; omega)
  have x01_20 : w20.cell? ⟨w7.heap.size, 1, none⟩ = some (.slice (some ⟨X0g, 0, none⟩) n0 n0) := cell_o b_ x01_19 (by dsimp only; omega)
  have x10_20 : w20.cell? ⟨w8.heap.size, 0, none⟩ = some (.int .i64 z1) := cell_o b_ x10_19 (by dsimp only; omega)
  have x11_20 : w20.cell? ⟨w8.heap.size, 1, none⟩ = some (.slice (some ⟨X1g, 0, none⟩) n1 n1) := cell_o b_ x11_19 (by dsimp only; omega)
  have HR_20 := Lib.hid (HR_19.out.kept (kept_only b_ (by omega) (by omega)))
  have HG_20 := Lib.hid (HG_19.out.kept (kept_only b_ (by omega) (by omega)))
  have B20 : Hid (Below w.heap.size w w20) := below_only B19.out b_ (by omega) (by omega)
  clear a00_19 a01_19 a10_19 a11_19 x00_19 x01_19 x10_19 x11_19 HR_19 HG_19 HXI2_19 b_
  clear HC_
  have HGV_ := Lib.hid HG_20.out.view
  have hC_ := eqInts_view _ _ _ _ _ _ Gc Rc rn rs w20 HGV_.out HR_20.out (by unfold maxLen; omega)
  have HC_ := Lib.hid hC_
  clear hC_
  go_wp2_with fail
  refine HC_.out.mono ?_
  rintro e w21 ⟨rfl, q_⟩; have b_ := below_drawn (Below.refl w20.heap.size w20) q_; clear q_
  have b21 : Below w20.heap.size w20 w21 := b_
  have s21 : w20.heap.size ≤ w21.heap.size := b21.size
  have a00_21 : w21.cell? ⟨w.heap.size, 0, none⟩ = some (.int .i64 z0) := cell_b b21 a00_20
  have a01_21 : w21.cell? ⟨w.heap.size, 1, none⟩ = some (.slice a0 n0 c0) := cell_b b21 a01_20
  have a10_21 : w21.cell? ⟨w.heap.size + 1, 0, none⟩ = some (.int .i64 z1) := cell_b b21 a10_20
  have a11_21 : w21.cell? ⟨w.heap.size + 1, 1, none⟩ = some (.slice a1 n1 c1) := cell_b b21 a11_20
  have x00_21 : w21.cell? ⟨w7.heap.size, 0, none⟩ = some (.int .i64 z0) := cell_b b21 x00_20
  have x01_21 : w21.cell? ⟨w7.heap.size, 1, none⟩ = some (.slice (some ⟨X0g, 0, none⟩) n0 n0) := cell_b b21 x01_20
  have x10_21 : w21.cell? ⟨w8.heap.size, 0, none⟩ = some (.int .i64 z1) := cell_b b21 x10_20
  have x11_21 : w21.cell? ⟨w8.heap.size, 1, none⟩ = some (.slice (some ⟨X1g, 0, none⟩) n1 n1) := cell_b b21 x11_20
  have HR_21 := Lib.hid (HR_20.out.kept (Kept.of_below b21 (by omega)))
  have HG_21 := Lib.hid (HG_20.out.kept (Kept.of_below b21 (by omega)))
  have B21 : Hid (Below w.heap.size w w21) := below_then B20.out b21
  clear a00_20 a01_20 a10_20 a11_20 x00_20 x01_20 x10_20 x11_20 HR_20 HG_20 b_
  clear HC_
  clear HGV_
  have hC_ := markInts_own _ _ rn Gc 1 Ga rs w21 (by omega) (by omega) HG_21.out
  have HC_ := Lib.hid hC_
  clear hC_
  go_wp2_with fail
  refine HC_.out.mono ?_
  rintro e w22 ⟨rfl, o_, b_⟩
  have s22 : w21.heap.size ≤ w22.heap.size := b_.size
  have a00_22 : w22.cell? ⟨w.heap.size, 0, none⟩ = some (.int .i64 z0) := cell_o b_ a00_21 (by dsimp only; omega)
  have a01_22 : w22.cell? ⟨w.heap.size, 1, none⟩ = some (.slice a0 n0 c0) := cell_o b_ a01_21 (by dsimp only; omega)
  have a10_22 : w22.cell? ⟨w.heap.size + 1, 0, none⟩ = some (.int .i64 z1) := cell_o b_ a10_21 (by dsimp only; omega)
  have a11_22 : w22.cell? ⟨w.heap.size + 1, 1, none⟩ = some (.slice a1 n1 c1) := cell_o b_ a11_21 (by dsimp only; omega)
  have x00_22 : w22.cell? ⟨w7.heap.size, 0, none⟩ = some (.int .i64 z0) := cell_o b_ x00_21 (by dsimp only; omega)
  have x01_22 : w22.cell? ⟨w7.heap.size, 1, none⟩ = some (.slice (some ⟨X0g, 0, none⟩) n0 n0) := cell_o b_ x01_21 (by dsimp only; omega)
  have x10_22 : w22.cell? ⟨w8.heap.size, 0, none⟩ = some (.int .i64 z1) := cell_o b_ x10_21 (by dsimp only; omega)
  have x11_22 : w22.cell? ⟨w8.heap.size, 1, none⟩ = some (.slice (some ⟨X1g, 0, none⟩) n1 n1) := cell_o b_ x11_21 (by dsimp only; omega)
  have HR_22 := Lib.hid (HR_21.out.kept (kept_only b_ (by omega) (by omega)))
  have B22 : Hid (Below w.heap.size w w22) := below_only B21.out b_ (by omega) (by omega)
  clear a00_21 a01_21 a10_21 a11_21 x00_21 x01_21 x10_21 x11_21 HR_21 HG_21 b_
  clear HC_
  have HG_22 := Lib.hid o_.view
  clear o_
  have hC_ := heldInts_view _ _ Ga Gc rn 1 w22 (by omega) (by omega) HG_22.out
  have HC_ := Lib.hid hC_
  clear hC_
  go_wp2_with fail
  refine HC_.out.mono ?_
  rintro e w_ ⟨rfl, rfl⟩
  clear HC_
  go_wp2_with fail
  refine wp_region_noPanic ?_
  refine wp_region_held_drew (S := fun W => W.cell? ⟨w.heap.size, 0, none⟩ = some (.int .i64 z0) ∧ W.cell? ⟨w.heap.size, 1, none⟩ = some (.slice a0 n0 c0) ∧ W.cell? ⟨w.heap.size + 1, 0, none⟩ = some (.int .i64 z1) ∧ W.cell? ⟨w.heap.size + 1, 1, none⟩ = some (.slice a1 n1 c1) ∧ W.cell? ⟨w7.heap.size, 0, none⟩ = some (.int .i64 z0) ∧ W.cell? ⟨w7.heap.size, 1, none⟩ = some (.slice (some ⟨X0g, 0, none⟩) n0 n0) ∧ W.cell? ⟨w8.heap.size, 0, none⟩ = some (.int .i64 z1) ∧ W.cell? ⟨w8.heap.size, 1, none⟩ = some (.slice (some ⟨X1g, 0, none⟩) n1 n1)) (by kernel_rfl) ?_ (fun hHeld => ?_)
  · exact ⟨a00_22, a01_22, a10_22, a11_22, x00_22, x01_22, x10_22, x11_22⟩
  refine wpAnyH_take (i := 0) (oi := ⟨_, _, _, _, _, _⟩) (v := ?_) rfl (by kernel_rfl) (by kernel_rfl) (by kernel_rfl) (fun _ _ _ h => h) (Or.inl ⟨rfl, ?_⟩) (by assumption) ?_
  rotate_left 1
  · intro w_ hSw; (try dsimp only at hSw); go_simp; (try with_reducible rfl)
  (try simp only [Act.put, List.setIfInBounds_toArray, List.set_cons_zero, List.set_cons_succ])
  refine wpAnyH_take (i := 2) (oi := ⟨_, _, _, _, _, _⟩) (v := ?_) rfl (by kernel_rfl) (by kernel_rfl) (by kernel_rfl) (fun _ _ _ h => h) (Or.inl ⟨rfl, ?_⟩) (by assumption) ?_
  rotate_left 1
  · intro w_ hSw; (try dsimp only at hSw); go_simp; (try with_reducible rfl)
  (try simp only [Act.put, List.setIfInBounds_toArray, List.set_cons_zero, List.set_cons_succ])
  refine wpAnyH_take (i := 4) (oi := ⟨_, _, _, _, _, _⟩) (v := ?_) rfl (by kernel_rfl) (by kernel_rfl) (by kernel_rfl) (fun _ _ _ h => h) (Or.inl ⟨rfl, ?_⟩) (by assumption) ?_
  rotate_left 1
  · intro w_ hSw; (try dsimp only at hSw); go_simp; (try with_reducible rfl)
  (try simp only [Act.put, List.setIfInBounds_toArray, List.set_cons_zero, List.set_cons_succ])
  refine wpAnyH_ready (rs := [1]) (by kernel_rfl) (by simp) ?_
  refine AllReadyH.cons (o := ⟨_, _, _, _, _, _⟩) rfl (fun K hK => ?_) AllReadyH.nil
  go_simp
  go_at_call 17
  have hC_ := toAlg_view w.heap.size z0 a0 c0 n0 fs0 w22.drew (HV0.out.kept (Kept.of_below (below_then B22.out (below_drew w22)) (Nat.le_refl _))) (below_then B22.out (below_drew w22)).size hn3_0 HS80.out
  refine hC_.mono ?_
  clear hC_
  rintro e w23 ⟨T0g, rfl, m_⟩; have b_ := m_.2
  have b23 : Below w22.heap.size w22 w23 := below_then (below_drew w22) b_
  have s23 : w22.heap.size ≤ w23.heap.size := b23.size
  have a00_23 : w23.cell? ⟨w.heap.size, 0, none⟩ = some (.int .i64 z0) := cell_b b23 a00_22
  have a01_23 : w23.cell? ⟨w.heap.size, 1, none⟩ = some (.slice a0 n0 c0) := cell_b b23 a01_22
  have a10_23 : w23.cell? ⟨w.heap.size + 1, 0, none⟩ = some (.int .i64 z1) := cell_b b23 a10_22
  have a11_23 : w23.cell? ⟨w.heap.size + 1, 1, none⟩ = some (.slice a1 n1 c1) := cell_b b23 a11_22
  have x00_23 : w23.cell? ⟨w7.heap.size, 0, none⟩ = some (.int .i64 z0) := cell_b b23 x00_22
  have x01_23 : w23.cell? ⟨w7.heap.size, 1, none⟩ = some (.slice (some ⟨X0g, 0, none⟩) n0 n0) := cell_b b23 x01_22
  have x10_23 : w23.cell? ⟨w8.heap.size, 0, none⟩ = some (.int .i64 z1) := cell_b b23 x10_22
  have x11_23 : w23.cell? ⟨w8.heap.size, 1, none⟩ = some (.slice (some ⟨X1g, 0, none⟩) n1 n1) := cell_b b23 x11_22
  have HR_23 := Lib.hid (HR_22.out.kept (Kept.of_below b23 (by omega)))
  have HG_23 := Lib.hid (HG_22.out.kept (Kept.of_below b23 (by omega)))
  have B23 : Hid (Below w.heap.size w w23) := below_then B22.out b23
  clear a00_22 a01_22 a10_22 a11_22 x00_22 x01_22 x10_22 x11_22 HR_22 HG_22 b_
  have m_ := m_.view hl0.out
  simp only [World.size_alloc, World.size_drew] at m_
  have HT0_23 := Lib.hid m_
  clear m_
  go_wp2_with fail
  refine hK.out _ _ ?_ (fun hHeld => ?_)
  · exact ⟨a00_23, a01_23, a10_23, a11_23, x00_23, x01_23, x10_23, x11_23⟩
  clear hK K
  (try simp only [Act.put, List.setIfInBounds_toArray, List.set_cons_zero, List.set_cons_succ])
  refine wpAnyH_ready (rs := [3]) (by kernel_rfl) (by simp) ?_
  refine AllReadyH.cons (o := ⟨_, _, _, _, _, _⟩) rfl (fun K hK => ?_) AllReadyH.nil
  go_simp
  go_at_call 17
  have hC_ := toAlg_view w.heap.size z1 a1 c1 n1 fs1 w23 (HV1.out.kept (Kept.of_below B23.out (Nat.le_refl _))) B23.out.size hn3_1 HS81.out
  refine hC_.mono ?_
  clear hC_
  rintro e w24 ⟨T1g, rfl, m_⟩; have b_ := m_.2
  have b24 : Below w23.heap.size w23 w24 := b_
  have s24 : w23.heap.size ≤ w24.heap.size := b24.size
  have a00_24 : w24.cell? ⟨w.heap.size, 0, none⟩ = some (.int .i64 z0) := cell_b b24 a00_23
  have a01_24 : w24.cell? ⟨w.heap.size, 1, none⟩ = some (.slice a0 n0 c0) := cell_b b24 a01_23
  have a10_24 : w24.cell? ⟨w.heap.size + 1, 0, none⟩ = some (.int .i64 z1) := cell_b b24 a10_23
  have a11_24 : w24.cell? ⟨w.heap.size + 1, 1, none⟩ = some (.slice a1 n1 c1) := cell_b b24 a11_23
  have x00_24 : w24.cell? ⟨w7.heap.size, 0, none⟩ = some (.int .i64 z0) := cell_b b24 x00_23
  have x01_24 : w24.cell? ⟨w7.heap.size, 1, none⟩ = some (.slice (some ⟨X0g, 0, none⟩) n0 n0) := cell_b b24 x01_23
  have x10_24 : w24.cell? ⟨w8.heap.size, 0, none⟩ = some (.int .i64 z1) := cell_b b24 x10_23
  have x11_24 : w24.cell? ⟨w8.heap.size, 1, none⟩ = some (.slice (some ⟨X1g, 0, none⟩) n1 n1) := cell_b b24 x11_23
  have HR_24 := Lib.hid (HR_23.out.kept (Kept.of_below b24 (by omega)))
  have HG_24 := Lib.hid (HG_23.out.kept (Kept.of_below b24 (by omega)))
  have HT0_24 := Lib.hid (HT0_23.out.kept (Kept.of_below b24 (by omega)))
  have B24 : Hid (Below w.heap.size w w24) := below_then B23.out b24
  clear a00_23 a01_23 a10_23 a11_23 x00_23 x01_23 x10_23 x11_23 HR_23 HG_23 HT0_23 b_
  have m_ := m_.view hl1.out
  have HT1_24 := Lib.hid m_
  clear m_
  go_wp2_with fail
  refine hK.out _ _ ?_ (fun hHeld => ?_)
  · exact ⟨a00_24, a01_24, a10_24, a11_24, x00_24, x01_24, x10_24, x11_24⟩
  clear hK K
  (try simp only [Act.put, List.setIfInBounds_toArray, List.set_cons_zero, List.set_cons_succ])
  refine wpAnyH_ready (rs := [5]) (by kernel_rfl) (by simp) ?_
  refine AllReadyH.cons (o := ⟨_, _, _, _, _, _⟩) rfl (fun K hK => ?_) AllReadyH.nil
  go_simp
  go_at_call 18
  have hC_ := toInts_view 0 w.heap.size a2 c2 n2 xs2 w24 (HV2.out.kept (Kept.of_below B24.out (Nat.le_refl _))) B24.out.size (by omega)
  refine hC_.mono ?_
  clear hC_
  rintro e w25 ⟨rfl, o_, b_⟩
  have b25 : Below w24.heap.size w24 w25 := b_
  have s25 : w24.heap.size ≤ w25.heap.size := b25.size
  have a00_25 : w25.cell? ⟨w.heap.size, 0, none⟩ = some (.int .i64 z0) := cell_b b25 a00_24
  have a01_25 : w25.cell? ⟨w.heap.size, 1, none⟩ = some (.slice a0 n0 c0) := cell_b b25 a01_24
  have a10_25 : w25.cell? ⟨w.heap.size + 1, 0, none⟩ = some (.int .i64 z1) := cell_b b25 a10_24
  have a11_25 : w25.cell? ⟨w.heap.size + 1, 1, none⟩ = some (.slice a1 n1 c1) := cell_b b25 a11_24
  have x00_25 : w25.cell? ⟨w7.heap.size, 0, none⟩ = some (.int .i64 z0) := cell_b b25 x00_24
  have x01_25 : w25.cell? ⟨w7.heap.size, 1, none⟩ = some (.slice (some ⟨X0g, 0, none⟩) n0 n0) := cell_b b25 x01_24
  have x10_25 : w25.cell? ⟨w8.heap.size, 0, none⟩ = some (.int .i64 z1) := cell_b b25 x10_24
  have x11_25 : w25.cell? ⟨w8.heap.size, 1, none⟩ = some (.slice (some ⟨X1g, 0, none⟩) n1 n1) := cell_b b25 x11_24
  have HR_25 := Lib.hid (HR_24.out.kept (Kept.of_below b25 (by omega)))
  have HG_25 := Lib.hid (HG_24.out.kept (Kept.of_below b25 (by omega)))
  have HT0_25 := Lib.hid (HT0_24.out.kept (Kept.of_below b25 (by omega)))
  have HT1_25 := Lib.hid (HT1_24.out.kept (Kept.of_below b25 (by omega)))
  have B25 : Hid (Below w.heap.size w w25) := below_then B24.out b25
  clear a00_24 a01_24 a10_24 a11_24 x00_24 x01_24 x10_24 x11_24 HR_24 HG_24 HT0_24 HT1_24 b_
  have HTI2_25 := Lib.hid (OwnsInts.of_row o_).view
  clear o_
  go_wp2_with fail
  refine hK.out _ _ ?_ (fun hHeld => ?_)
  · exact ⟨a00_25, a01_25, a10_25, a11_25, x00_25, x01_25, x10_25, x11_25⟩
  clear hK K
  (try simp only [Act.put, List.setIfInBounds_toArray, List.set_cons_zero, List.set_cons_succ])
  refine wpAnyH_ready (rs := [6]) (by kernel_rfl) (by simp) ?_
  refine AllReadyH.cons (o := ⟨_, _, _, _, _, _⟩) rfl (fun K hK => ?_) AllReadyH.nil
  go_simp
  go_at_call 19
  have hC_ := implKernelOf _ _ z0 _ n0 n0 fs0 _ _ z1 _ n1 n1 fs1 _ _ _ n2 n2 xs2 w25 HT0_25.out (by omega) HSM0.out HT1_25.out (by omega) HSM1.out HTI2_25.out (by omega) (by unfold maxLen; omega)
  simp only [HVal.out] at hC_
  refine hC_.mono ?_
  clear hC_
  rintro e w26 ⟨Ua, Un, Uc, rfl, hq_, o_, b_⟩
  have b26 : Below w25.heap.size w25 w26 := b_
  have s26 : w25.heap.size ≤ w26.heap.size := b26.size
  have a00_26 : w26.cell? ⟨w.heap.size, 0, none⟩ = some (.int .i64 z0) := cell_b b26 a00_25
  have a01_26 : w26.cell? ⟨w.heap.size, 1, none⟩ = some (.slice a0 n0 c0) := cell_b b26 a01_25
  have a10_26 : w26.cell? ⟨w.heap.size + 1, 0, none⟩ = some (.int .i64 z1) := cell_b b26 a10_25
  have a11_26 : w26.cell? ⟨w.heap.size + 1, 1, none⟩ = some (.slice a1 n1 c1) := cell_b b26 a11_25
  have x00_26 : w26.cell? ⟨w7.heap.size, 0, none⟩ = some (.int .i64 z0) := cell_b b26 x00_25
  have x01_26 : w26.cell? ⟨w7.heap.size, 1, none⟩ = some (.slice (some ⟨X0g, 0, none⟩) n0 n0) := cell_b b26 x01_25
  have x10_26 : w26.cell? ⟨w8.heap.size, 0, none⟩ = some (.int .i64 z1) := cell_b b26 x10_25
  have x11_26 : w26.cell? ⟨w8.heap.size, 1, none⟩ = some (.slice (some ⟨X1g, 0, none⟩) n1 n1) := cell_b b26 x11_25
  have HR_26 := Lib.hid (HR_25.out.kept (Kept.of_below b26 (by omega)))
  have HG_26 := Lib.hid (HG_25.out.kept (Kept.of_below b26 (by omega)))
  have HT0_26 := Lib.hid (HT0_25.out.kept (Kept.of_below b26 (by omega)))
  have HT1_26 := Lib.hid (HT1_25.out.kept (Kept.of_below b26 (by omega)))
  have HTI2_26 := Lib.hid (HTI2_25.out.kept (Kept.of_below b26 (by omega)))
  have B26 : Hid (Below w.heap.size w w26) := below_then B25.out b26
  clear a00_25 a01_25 a10_25 a11_25 x00_25 x01_25 x10_25 x11_25 HR_25 HG_25 HT0_25 HT1_25 HTI2_25 b_
  obtain rfl : rn = Un := HRn.out.trans hq_.symm
  have HU_26 := Lib.hid o_.view
  clear o_ hq_
  go_wp2_with fail
  refine hK.out _ _ ?_ (fun hHeld => ?_)
  · exact ⟨a00_26, a01_26, a10_26, a11_26, x00_26, x01_26, x10_26, x11_26⟩
  clear hK K
  (try simp only [Act.put, List.setIfInBounds_toArray, List.set_cons_zero, List.set_cons_succ])
  refine wpAnyH_take (i := 7) (oi := ⟨_, _, _, _, _, _⟩) (v := ?_) rfl (by kernel_rfl) (by kernel_rfl) (by kernel_rfl) (fun _ _ _ h => h) (Or.inl ⟨rfl, ?_⟩) (by assumption) ?_
  rotate_left 1
  · intro w_ hSw; (try dsimp only at hSw); go_simp; (try with_reducible rfl)
  (try simp only [Act.put, List.setIfInBounds_toArray, List.set_cons_zero, List.set_cons_succ])
  refine wpAnyH_take (i := 8) (oi := ⟨_, _, _, _, _, _⟩) (v := ?_) rfl (by kernel_rfl) (by kernel_rfl) (by kernel_rfl) (fun _ _ _ h => h) (Or.inl ⟨rfl, ?_⟩) (by assumption) ?_
  rotate_left 1
  · intro w_ hSw; (try dsimp only at hSw); go_simp; (try with_reducible rfl)
  (try simp only [Act.put, List.setIfInBounds_toArray, List.set_cons_zero, List.set_cons_succ])
  refine wpAnyH_take (i := 9) (oi := ⟨_, _, _, _, _, _⟩) (v := ?_) rfl (by kernel_rfl) (by kernel_rfl) (by kernel_rfl) (fun _ _ _ h => h) (Or.inl ⟨rfl, ?_⟩) (by assumption) ?_
  rotate_left 1
  · intro w_ hSw; (try dsimp only at hSw); go_simp; (try with_reducible rfl)
  (try simp only [Act.put, List.setIfInBounds_toArray, List.set_cons_zero, List.set_cons_succ])
  refine wpAnyH_take (i := 10) (oi := ⟨_, _, _, _, _, _⟩) (v := ?_) rfl (by kernel_rfl) (by kernel_rfl) (by kernel_rfl) (fun _ _ _ h => h) (Or.inl ⟨rfl, ?_⟩) (by assumption) ?_
  rotate_left 1
  · intro w_ hSw; (try dsimp only at hSw); go_simp; (try with_reducible rfl)
  (try simp only [Act.put, List.setIfInBounds_toArray, List.set_cons_zero, List.set_cons_succ])
  refine wpAnyH_take (i := 11) (oi := ⟨_, _, _, _, _, _⟩) (v := ?_) rfl (by kernel_rfl) (by kernel_rfl) (by kernel_rfl) (fun _ _ _ h => h) (Or.inl ⟨rfl, ?_⟩) (by assumption) ?_
  rotate_left 1
  · intro w_ hSw; (try dsimp only at hSw); go_simp; (try with_reducible rfl)
  (try simp only [Act.put, List.setIfInBounds_toArray, List.set_cons_zero, List.set_cons_succ])
  refine wpAnyH_done (by kernel_rfl) ?_ _
  refine NoPanic.normal ?_
  clear HT0_26
  clear HT1_26
  clear HTI2_26
  have hC_ := eqInts_view _ _ _ _ _ _ Uc Rc rn rs w26 HU_26.out HR_26.out (by unfold maxLen; omega)
  have HC_ := Lib.hid hC_
  clear hC_
  go_wp2_with fail
  refine HC_.out.mono ?_
  rintro e w27 ⟨rfl, q_⟩; have b_ := below_drawn (Below.refl w26.heap.size w26) q_; clear q_
  have b27 : Below w26.heap.size w26 w27 := b_
  have s27 : w26.heap.size ≤ w27.heap.size := b27.size
  have a00_27 : w27.cell? ⟨w.heap.size, 0, none⟩ = some (.int .i64 z0) := cell_b b27 a00_26
  have a01_27 : w27.cell? ⟨w.heap.size, 1, none⟩ = some (.slice a0 n0 c0) := cell_b b27 a01_26
  have a10_27 : w27.cell? ⟨w.heap.size + 1, 0, none⟩ = some (.int .i64 z1) := cell_b b27 a10_26
  have a11_27 : w27.cell? ⟨w.heap.size + 1, 1, none⟩ = some (.slice a1 n1 c1) := cell_b b27 a11_26
  have x00_27 : w27.cell? ⟨w7.heap.size, 0, none⟩ = some (.int .i64 z0) := cell_b b27 x00_26
  have x01_27 : w27.cell? ⟨w7.heap.size, 1, none⟩ = some (.slice (some ⟨X0g, 0, none⟩) n0 n0) := cell_b b27 x01_26
  have x10_27 : w27.cell? ⟨w8.heap.size, 0, none⟩ = some (.int .i64 z1) := cell_b b27 x10_26
  have x11_27 : w27.cell? ⟨w8.heap.size, 1, none⟩ = some (.slice (some ⟨X1g, 0, none⟩) n1 n1) := cell_b b27 x11_26
  have HR_27 := Lib.hid (HR_26.out.kept (Kept.of_below b27 (by omega)))
  have HG_27 := Lib.hid (HG_26.out.kept (Kept.of_below b27 (by omega)))
  have HU_27 := Lib.hid (HU_26.out.kept (Kept.of_below b27 (by omega)))
  have B27 : Hid (Below w.heap.size w w27) := below_then B26.out b27
  clear a00_26 a01_26 a10_26 a11_26 x00_26 x01_26 x10_26 x11_26 HR_26 HG_26 HU_26 b_
  clear HC_
  have hC_ := heldInts_view _ _ Ga Gc rn 1 w27 (by omega) (by omega) HG_27.out
  have HC_ := Lib.hid hC_
  clear hC_
  go_wp2_with fail
  refine HC_.out.mono ?_
  rintro e w_ ⟨rfl, rfl⟩
  clear HC_
  go_wp2_with fail
  go_ret
  exact ⟨rfl, B27.out⟩

theorem lawKernelOf (w : World) (z0 : Int) (a0 : Option Addr) (n0 c0 : Nat) (fs0 : List OpD) (wz0 : (Lit.int .i64 z0).wf = true) (hn0 : n0 ≤ maxLen) (ht0 : ∀ (j : Nat) (f : OpD), fs0[j]? = some f → f.2.length ≤ maxLen) (hv0 : OView w 0 w.heap.size a0 n0 fs0) (z1 : Int) (a1 : Option Addr) (n1 c1 : Nat) (fs1 : List OpD) (wz1 : (Lit.int .i64 z1).wf = true) (hn1 : n1 ≤ maxLen) (ht1 : ∀ (j : Nat) (f : OpD), fs1[j]? = some f → f.2.length ≤ maxLen) (hv1 : OView w 0 w.heap.size a1 n1 fs1) (a2 : Option Addr) (n2 c2 : Nat) (xs2 : List Int) (hc2 : n2 ≤ c2) (hm2 : c2 ≤ maxLen) (hv2 : IView w 0 w.heap.size a2 n2 xs2) :
    Calls Try.prog 3 #[.agg #[.int .i64 z0, .slice a0 n0 c0], .agg #[.int .i64 z1, .slice a1 n1 c1], .slice a2 n2 c2] w fun e w' => e = .returned (.bool true) ∧ Below w.heap.size w w' := by
  rcases Nat.lt_or_ge 1048576 n2 with hb2 | hb2
  · exact lawKernelOf_big2 w z0 a0 n0 c0 fs0 wz0 hn0 ht0 hv0 z1 a1 n1 c1 fs1 wz1 hn1 ht1 hv1 a2 n2 c2 xs2 hc2 hm2 hv2  hb2
  refine (Classical.em (((n0 + osum fs0 : Nat) : Int) ≤ 1048576)).elim (fun hfit0 => ?_) (fun hfit0 => lawKernelOf_no0 w z0 a0 n0 c0 fs0 wz0 hn0 ht0 hv0 z1 a1 n1 c1 fs1 wz1 hn1 ht1 hv1 a2 n2 c2 xs2 hc2 hm2 hv2 hb2  hfit0)
  refine (Classical.em (((n1 + osum fs1 : Nat) : Int) ≤ 1048576 - ((n0 + osum fs0 : Nat) : Int))).elim (fun hfit1 => ?_) (fun hfit1 => lawKernelOf_no1 w z0 a0 n0 c0 fs0 wz0 hn0 ht0 hv0 z1 a1 n1 c1 fs1 wz1 hn1 ht1 hv1 a2 n2 c2 xs2 hc2 hm2 hv2 hb2  hfit0 hfit1)
  exact lawKernelOf_fit w z0 a0 n0 c0 fs0 wz0 hn0 ht0 hv0 z1 a1 n1 c1 fs1 wz1 hn1 ht1 hv1 a2 n2 c2 xs2 hc2 hm2 hv2 hb2  hfit0 hfit1 (smallKernelOf z0 fs0 z1 fs1 xs2)

end Go.Proofs.Ytcmjkfcgekmomaa
