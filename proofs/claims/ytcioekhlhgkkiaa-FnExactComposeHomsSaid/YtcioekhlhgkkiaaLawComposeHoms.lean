/-
  The walk of the law FnExactComposeHoms: the composite of two homomorphisms. Conditions: the lengths are at most maxLen.
-/
import Derived.Test.YtcioekhlhgkkiaaStep
import Derived.Deep.DrawnRows
import Derived.Deep.RegionHeld3
import Derived.Test.YtcioekhlhgkkiaaCmpS
namespace Go.Proofs.Ytcioekhlhgkkiaa
open Go.RowKit
set_option linter.unusedVariables false
set_option linter.unusedSimpArgs false
set_option maxRecDepth 100000
attribute [local go_sem ↓] Go.wp_at_zero Go.wp_at_succ

theorem lawComposeHoms_big3 (w : World) (z0 : Int) (a0 : Option Addr) (n0 c0 : Nat) (fs0 : List OpD) (wz0 : (Lit.int .i64 z0).wf = true) (hn0 : n0 ≤ maxLen) (ht0 : ∀ (j : Nat) (f : OpD), fs0[j]? = some f → f.2.length ≤ maxLen) (hv0 : OView w 0 w.heap.size a0 n0 fs0) (z1 : Int) (a1 : Option Addr) (n1 c1 : Nat) (fs1 : List OpD) (wz1 : (Lit.int .i64 z1).wf = true) (hn1 : n1 ≤ maxLen) (ht1 : ∀ (j : Nat) (f : OpD), fs1[j]? = some f → f.2.length ≤ maxLen) (hv1 : OView w 0 w.heap.size a1 n1 fs1) (z2 : Int) (a2 : Option Addr) (n2 c2 : Nat) (fs2 : List OpD) (wz2 : (Lit.int .i64 z2).wf = true) (hn2 : n2 ≤ maxLen) (ht2 : ∀ (j : Nat) (f : OpD), fs2[j]? = some f → f.2.length ≤ maxLen) (hv2 : OView w 0 w.heap.size a2 n2 fs2) (a3 : Option Addr) (n3 c3 : Nat) (xs3 : List Int) (hc3 : n3 ≤ c3) (hm3 : c3 ≤ maxLen) (hv3 : IView w 0 w.heap.size a3 n3 xs3) (a4 : Option Addr) (n4 c4 : Nat) (xs4 : List Int) (hc4 : n4 ≤ c4) (hm4 : c4 ≤ maxLen) (hv4 : IView w 0 w.heap.size a4 n4 xs4) (hb : 1048576 < n3) :
    Calls Try.prog 6 #[.agg #[.int .i64 z0, .slice a0 n0 c0], .agg #[.int .i64 z1, .slice a1 n1 c1], .agg #[.int .i64 z2, .slice a2 n2 c2], .slice a3 n3 c3, .slice a4 n4 c4] w fun e w' => e = .returned (.bool true) ∧ Below w.heap.size w w' := by
  have hx : n3 ≤ 9223372036854775807 := by unfold maxLen at hm3; omega
  have hB0 := Lib.hid (below_then (below_then (below_alloc w (.cells #[.int .i64 z0, .slice a0 n0 c0] 24)) (below_alloc (w.alloc (.cells #[.int .i64 z0, .slice a0 n0 c0] 24)) (.cells #[.int .i64 z1, .slice a1 n1 c1] 24))) (below_alloc ((w.alloc (.cells #[.int .i64 z0, .slice a0 n0 c0] 24)).alloc (.cells #[.int .i64 z1, .slice a1 n1 c1] 24)) (.cells #[.int .i64 z2, .slice a2 n2 c2] 24)))
  clear hv0 ht0 hn0 wz0 hv1 ht1 hn1 wz1 hv2 ht2 hn2 wz2 hm3 hv3 hm4 hv4
  go_enter Try.func6, Try.ntmps6
  go_wp2
  go_ret
  exact ⟨rfl, hB0.out⟩

theorem lawComposeHoms_big4 (w : World) (z0 : Int) (a0 : Option Addr) (n0 c0 : Nat) (fs0 : List OpD) (wz0 : (Lit.int .i64 z0).wf = true) (hn0 : n0 ≤ maxLen) (ht0 : ∀ (j : Nat) (f : OpD), fs0[j]? = some f → f.2.length ≤ maxLen) (hv0 : OView w 0 w.heap.size a0 n0 fs0) (z1 : Int) (a1 : Option Addr) (n1 c1 : Nat) (fs1 : List OpD) (wz1 : (Lit.int .i64 z1).wf = true) (hn1 : n1 ≤ maxLen) (ht1 : ∀ (j : Nat) (f : OpD), fs1[j]? = some f → f.2.length ≤ maxLen) (hv1 : OView w 0 w.heap.size a1 n1 fs1) (z2 : Int) (a2 : Option Addr) (n2 c2 : Nat) (fs2 : List OpD) (wz2 : (Lit.int .i64 z2).wf = true) (hn2 : n2 ≤ maxLen) (ht2 : ∀ (j : Nat) (f : OpD), fs2[j]? = some f → f.2.length ≤ maxLen) (hv2 : OView w 0 w.heap.size a2 n2 fs2) (a3 : Option Addr) (n3 c3 : Nat) (xs3 : List Int) (hc3 : n3 ≤ c3) (hm3 : c3 ≤ maxLen) (hv3 : IView w 0 w.heap.size a3 n3 xs3) (a4 : Option Addr) (n4 c4 : Nat) (xs4 : List Int) (hc4 : n4 ≤ c4) (hm4 : c4 ≤ maxLen) (hv4 : IView w 0 w.heap.size a4 n4 xs4) (hb3 : n3 ≤ 1048576) (hb : 1048576 < n4) :
    Calls Try.prog 6 #[.agg #[.int .i64 z0, .slice a0 n0 c0], .agg #[.int .i64 z1, .slice a1 n1 c1], .agg #[.int .i64 z2, .slice a2 n2 c2], .slice a3 n3 c3, .slice a4 n4 c4] w fun e w' => e = .returned (.bool true) ∧ Below w.heap.size w w' := by
  have hx : n4 ≤ 9223372036854775807 := by unfold maxLen at hm4; omega
  have hB0 := Lib.hid (below_then (below_then (below_alloc w (.cells #[.int .i64 z0, .slice a0 n0 c0] 24)) (below_alloc (w.alloc (.cells #[.int .i64 z0, .slice a0 n0 c0] 24)) (.cells #[.int .i64 z1, .slice a1 n1 c1] 24))) (below_alloc ((w.alloc (.cells #[.int .i64 z0, .slice a0 n0 c0] 24)).alloc (.cells #[.int .i64 z1, .slice a1 n1 c1] 24)) (.cells #[.int .i64 z2, .slice a2 n2 c2] 24)))
  clear hv0 ht0 hn0 wz0 hv1 ht1 hn1 wz1 hv2 ht2 hn2 wz2 hm3 hv3 hm4 hv4
  go_enter Try.func6, Try.ntmps6
  go_wp2
  go_ret
  exact ⟨rfl, hB0.out⟩

set_option maxHeartbeats 400000 in
theorem lawComposeHoms_no0 (w : World) (z0 : Int) (a0 : Option Addr) (n0 c0 : Nat) (fs0 : List OpD) (wz0 : (Lit.int .i64 z0).wf = true) (hn0 : n0 ≤ maxLen) (ht0 : ∀ (j : Nat) (f : OpD), fs0[j]? = some f → f.2.length ≤ maxLen) (hv0 : OView w 0 w.heap.size a0 n0 fs0) (z1 : Int) (a1 : Option Addr) (n1 c1 : Nat) (fs1 : List OpD) (wz1 : (Lit.int .i64 z1).wf = true) (hn1 : n1 ≤ maxLen) (ht1 : ∀ (j : Nat) (f : OpD), fs1[j]? = some f → f.2.length ≤ maxLen) (hv1 : OView w 0 w.heap.size a1 n1 fs1) (z2 : Int) (a2 : Option Addr) (n2 c2 : Nat) (fs2 : List OpD) (wz2 : (Lit.int .i64 z2).wf = true) (hn2 : n2 ≤ maxLen) (ht2 : ∀ (j : Nat) (f : OpD), fs2[j]? = some f → f.2.length ≤ maxLen) (hv2 : OView w 0 w.heap.size a2 n2 fs2) (a3 : Option Addr) (n3 c3 : Nat) (xs3 : List Int) (hc3 : n3 ≤ c3) (hm3 : c3 ≤ maxLen) (hv3 : IView w 0 w.heap.size a3 n3 xs3) (a4 : Option Addr) (n4 c4 : Nat) (xs4 : List Int) (hc4 : n4 ≤ c4) (hm4 : c4 ≤ maxLen) (hv4 : IView w 0 w.heap.size a4 n4 xs4) (hb3 : n3 ≤ 1048576) (hb4 : n4 ≤ 1048576) (hfit0 : ¬ ((n0 + osum fs0 : Nat) : Int) ≤ 1048576) :
    Calls Try.prog 6 #[.agg #[.int .i64 z0, .slice a0 n0 c0], .agg #[.int .i64 z1, .slice a1 n1 c1], .agg #[.int .i64 z2, .slice a2 n2 c2], .slice a3 n3 c3, .slice a4 n4 c4] w fun e w' => e = .returned (.bool true) ∧ Below w.heap.size w w' := by
  have hB0 := (below_then (below_then (below_alloc w (.cells #[.int .i64 z0, .slice a0 n0 c0] 24)) (below_alloc (w.alloc (.cells #[.int .i64 z0, .slice a0 n0 c0] 24)) (.cells #[.int .i64 z1, .slice a1 n1 c1] 24))) (below_alloc ((w.alloc (.cells #[.int .i64 z0, .slice a0 n0 c0] 24)).alloc (.cells #[.int .i64 z1, .slice a1 n1 c1] 24)) (.cells #[.int .i64 z2, .slice a2 n2 c2] 24)))
  have hsz0 := fun (W : World) (hW : Below w.heap.size w W) => szAlg_any w.heap.size z0 a0 c0 n0 fs0 (1048576) W (hv0.kept (Kept.of_below hW (Nat.le_refl _))) hW.size hn0 ht0 (by omega) (by omega)
  simp only [szI_no (show ¬ ((n0 + osum fs0 : Nat) : Int) ≤ 1048576 by omega)] at hsz0
  have HSz0 := Lib.hid hsz0
  clear hsz0
  have HB0 := Lib.hid hB0
  clear hB0 hv0 ht0 hn0 wz0 hv1 ht1 hn1 wz1 hv2 ht2 hn2 wz2 hm3 hv3 hm4 hv4 hfit0
  go_enter Try.func6, Try.ntmps6
  go_wp2_with fail
  refine (HSz0.out _ HB0.out).mono ?_
  rintro e v1 ⟨rfl, b1⟩
  have B1 := Lib.hid (below_then HB0.out b1)
  clear b1
  go_wp2_with fail
  go_ret
  exact ⟨rfl, B1.out⟩

set_option maxHeartbeats 400000 in
theorem lawComposeHoms_no1 (w : World) (z0 : Int) (a0 : Option Addr) (n0 c0 : Nat) (fs0 : List OpD) (wz0 : (Lit.int .i64 z0).wf = true) (hn0 : n0 ≤ maxLen) (ht0 : ∀ (j : Nat) (f : OpD), fs0[j]? = some f → f.2.length ≤ maxLen) (hv0 : OView w 0 w.heap.size a0 n0 fs0) (z1 : Int) (a1 : Option Addr) (n1 c1 : Nat) (fs1 : List OpD) (wz1 : (Lit.int .i64 z1).wf = true) (hn1 : n1 ≤ maxLen) (ht1 : ∀ (j : Nat) (f : OpD), fs1[j]? = some f → f.2.length ≤ maxLen) (hv1 : OView w 0 w.heap.size a1 n1 fs1) (z2 : Int) (a2 : Option Addr) (n2 c2 : Nat) (fs2 : List OpD) (wz2 : (Lit.int .i64 z2).wf = true) (hn2 : n2 ≤ maxLen) (ht2 : ∀ (j : Nat) (f : OpD), fs2[j]? = some f → f.2.length ≤ maxLen) (hv2 : OView w 0 w.heap.size a2 n2 fs2) (a3 : Option Addr) (n3 c3 : Nat) (xs3 : List Int) (hc3 : n3 ≤ c3) (hm3 : c3 ≤ maxLen) (hv3 : IView w 0 w.heap.size a3 n3 xs3) (a4 : Option Addr) (n4 c4 : Nat) (xs4 : List Int) (hc4 : n4 ≤ c4) (hm4 : c4 ≤ maxLen) (hv4 : IView w 0 w.heap.size a4 n4 xs4) (hb3 : n3 ≤ 1048576) (hb4 : n4 ≤ 1048576) (hfit0 : ((n0 + osum fs0 : Nat) : Int) ≤ 1048576) (hfit1 : ¬ ((n1 + osum fs1 : Nat) : Int) ≤ 1048576 - ((n0 + osum fs0 : Nat) : Int)) :
    Calls Try.prog 6 #[.agg #[.int .i64 z0, .slice a0 n0 c0], .agg #[.int .i64 z1, .slice a1 n1 c1], .agg #[.int .i64 z2, .slice a2 n2 c2], .slice a3 n3 c3, .slice a4 n4 c4] w fun e w' => e = .returned (.bool true) ∧ Below w.heap.size w w' := by
  have hB0 := (below_then (below_then (below_alloc w (.cells #[.int .i64 z0, .slice a0 n0 c0] 24)) (below_alloc (w.alloc (.cells #[.int .i64 z0, .slice a0 n0 c0] 24)) (.cells #[.int .i64 z1, .slice a1 n1 c1] 24))) (below_alloc ((w.alloc (.cells #[.int .i64 z0, .slice a0 n0 c0] 24)).alloc (.cells #[.int .i64 z1, .slice a1 n1 c1] 24)) (.cells #[.int .i64 z2, .slice a2 n2 c2] 24)))
  have hsz0 := fun (W : World) (hW : Below w.heap.size w W) => szAlg_any w.heap.size z0 a0 c0 n0 fs0 (1048576) W (hv0.kept (Kept.of_below hW (Nat.le_refl _))) hW.size hn0 ht0 (by omega) (by omega)
  obtain ⟨l1, hl_1, hl_1a, hl_1b⟩ : ∃ l : Int, l = 1048576 - ((n0 + osum fs0 : Nat) : Int) ∧ 0 ≤ l ∧ l ≤ 1048576 := ⟨_, rfl, by omega, by omega⟩
  simp only [szI_yes (show ((n0 + osum fs0 : Nat) : Int) ≤ 1048576 by omega), ← hl_1] at hsz0
  have HSz0 := Lib.hid hsz0
  clear hsz0
  have hsz1 := fun (W : World) (hW : Below w.heap.size w W) => szAlg_any w.heap.size z1 a1 c1 n1 fs1 (l1) W (hv1.kept (Kept.of_below hW (Nat.le_refl _))) hW.size hn1 ht1 (by omega) (by omega)
  simp only [szI_no (show ¬ ((n1 + osum fs1 : Nat) : Int) ≤ l1 by omega)] at hsz1
  have HSz1 := Lib.hid hsz1
  clear hsz1
  have HB0 := Lib.hid hB0
  clear hB0 hv0 ht0 hn0 wz0 hv1 ht1 hn1 wz1 hv2 ht2 hn2 wz2 hm3 hv3 hm4 hv4 hl_1 hfit0 hfit1
  go_enter Try.func6, Try.ntmps6
  go_wp2_with fail
  refine (HSz0.out _ HB0.out).mono ?_
  rintro e v1 ⟨rfl, b1⟩
  have y10_1 : v1.cell? ⟨w.heap.size + 1, 0, none⟩ = some (.int .i64 z1) := cell_b b1 (by first | exact cell_of_row _ _ _ _ _ _ (three_heap w _ _ _ _).1 | exact cell_of_row _ _ _ _ _ _ (three_heap w _ _ _ _).2.1 | exact cell_of_row _ _ _ _ _ _ (three_heap w _ _ _ _).2.2 | simp)
  have y11_1 : v1.cell? ⟨w.heap.size + 1, 1, none⟩ = some (.slice a1 n1 c1) := cell_b b1 (by first | exact cell_of_row _ _ _ _ _ _ (three_heap w _ _ _ _).1 | exact cell_of_row _ _ _ _ _ _ (three_heap w _ _ _ _).2.1 | exact cell_of_row _ _ _ _ _ _ (three_heap w _ _ _ _).2.2 | simp)
  have B1 := Lib.hid (below_then HB0.out b1)
  clear b1
  go_wp2_with fail
  refine (HSz1.out _ B1.out).mono ?_
  rintro e v2 ⟨rfl, b1⟩
  have B2 := Lib.hid (below_then B1.out b1)
  clear b1
  go_wp2_with fail
  go_ret
  exact ⟨rfl, B2.out⟩

set_option maxHeartbeats 400000 in
theorem lawComposeHoms_no2 (w : World) (z0 : Int) (a0 : Option Addr) (n0 c0 : Nat) (fs0 : List OpD) (wz0 : (Lit.int .i64 z0).wf = true) (hn0 : n0 ≤ maxLen) (ht0 : ∀ (j : Nat) (f : OpD), fs0[j]? = some f → f.2.length ≤ maxLen) (hv0 : OView w 0 w.heap.size a0 n0 fs0) (z1 : Int) (a1 : Option Addr) (n1 c1 : Nat) (fs1 : List OpD) (wz1 : (Lit.int .i64 z1).wf = true) (hn1 : n1 ≤ maxLen) (ht1 : ∀ (j : Nat) (f : OpD), fs1[j]? = some f → f.2.length ≤ maxLen) (hv1 : OView w 0 w.heap.size a1 n1 fs1) (z2 : Int) (a2 : Option Addr) (n2 c2 : Nat) (fs2 : List OpD) (wz2 : (Lit.int .i64 z2).wf = true) (hn2 : n2 ≤ maxLen) (ht2 : ∀ (j : Nat) (f : OpD), fs2[j]? = some f → f.2.length ≤ maxLen) (hv2 : OView w 0 w.heap.size a2 n2 fs2) (a3 : Option Addr) (n3 c3 : Nat) (xs3 : List Int) (hc3 : n3 ≤ c3) (hm3 : c3 ≤ maxLen) (hv3 : IView w 0 w.heap.size a3 n3 xs3) (a4 : Option Addr) (n4 c4 : Nat) (xs4 : List Int) (hc4 : n4 ≤ c4) (hm4 : c4 ≤ maxLen) (hv4 : IView w 0 w.heap.size a4 n4 xs4) (hb3 : n3 ≤ 1048576) (hb4 : n4 ≤ 1048576) (hfit0 : ((n0 + osum fs0 : Nat) : Int) ≤ 1048576) (hfit1 : ((n1 + osum fs1 : Nat) : Int) ≤ 1048576 - ((n0 + osum fs0 : Nat) : Int)) (hfit2 : ¬ ((n2 + osum fs2 : Nat) : Int) ≤ 1048576 - ((n0 + osum fs0 : Nat) : Int) - ((n1 + osum fs1 : Nat) : Int)) :
    Calls Try.prog 6 #[.agg #[.int .i64 z0, .slice a0 n0 c0], .agg #[.int .i64 z1, .slice a1 n1 c1], .agg #[.int .i64 z2, .slice a2 n2 c2], .slice a3 n3 c3, .slice a4 n4 c4] w fun e w' => e = .returned (.bool true) ∧ Below w.heap.size w w' := by
  have hB0 := (below_then (below_then (below_alloc w (.cells #[.int .i64 z0, .slice a0 n0 c0] 24)) (below_alloc (w.alloc (.cells #[.int .i64 z0, .slice a0 n0 c0] 24)) (.cells #[.int .i64 z1, .slice a1 n1 c1] 24))) (below_alloc ((w.alloc (.cells #[.int .i64 z0, .slice a0 n0 c0] 24)).alloc (.cells #[.int .i64 z1, .slice a1 n1 c1] 24)) (.cells #[.int .i64 z2, .slice a2 n2 c2] 24)))
  have hsz0 := fun (W : World) (hW : Below w.heap.size w W) => szAlg_any w.heap.size z0 a0 c0 n0 fs0 (1048576) W (hv0.kept (Kept.of_below hW (Nat.le_refl _))) hW.size hn0 ht0 (by omega) (by omega)
  obtain ⟨l1, hl_1, hl_1a, hl_1b⟩ : ∃ l : Int, l = 1048576 - ((n0 + osum fs0 : Nat) : Int) ∧ 0 ≤ l ∧ l ≤ 1048576 := ⟨_, rfl, by omega, by omega⟩
  simp only [szI_yes (show ((n0 + osum fs0 : Nat) : Int) ≤ 1048576 by omega), ← hl_1] at hsz0
  have HSz0 := Lib.hid hsz0
  clear hsz0
  have hsz1 := fun (W : World) (hW : Below w.heap.size w W) => szAlg_any w.heap.size z1 a1 c1 n1 fs1 (l1) W (hv1.kept (Kept.of_below hW (Nat.le_refl _))) hW.size hn1 ht1 (by omega) (by omega)
  obtain ⟨l2, hl_2, hl_2a, hl_2b⟩ : ∃ l : Int, l = l1 - ((n1 + osum fs1 : Nat) : Int) ∧ 0 ≤ l ∧ l ≤ 1048576 := ⟨_, rfl, by omega, by omega⟩
  simp only [szI_yes (show ((n1 + osum fs1 : Nat) : Int) ≤ l1 by omega), ← hl_2] at hsz1
  have HSz1 := Lib.hid hsz1
  clear hsz1
  have hsz2 := fun (W : World) (hW : Below w.heap.size w W) => szAlg_any w.heap.size z2 a2 c2 n2 fs2 (l2) W (hv2.kept (Kept.of_below hW (Nat.le_refl _))) hW.size hn2 ht2 (by omega) (by omega)
  simp only [szI_no (show ¬ ((n2 + osum fs2 : Nat) : Int) ≤ l2 by omega)] at hsz2
  have HSz2 := Lib.hid hsz2
  clear hsz2
  have HB0 := Lib.hid hB0
  clear hB0 hv0 ht0 hn0 wz0 hv1 ht1 hn1 wz1 hv2 ht2 hn2 wz2 hm3 hv3 hm4 hv4 hl_1 hl_2 hfit0 hfit1 hfit2
  go_enter Try.func6, Try.ntmps6
  go_wp2_with fail
  refine (HSz0.out _ HB0.out).mono ?_
  rintro e v1 ⟨rfl, b1⟩
  have y10_1 : v1.cell? ⟨w.heap.size + 1, 0, none⟩ = some (.int .i64 z1) := cell_b b1 (by first | exact cell_of_row _ _ _ _ _ _ (three_heap w _ _ _ _).1 | exact cell_of_row _ _ _ _ _ _ (three_heap w _ _ _ _).2.1 | exact cell_of_row _ _ _ _ _ _ (three_heap w _ _ _ _).2.2 | simp)
  have y11_1 : v1.cell? ⟨w.heap.size + 1, 1, none⟩ = some (.slice a1 n1 c1) := cell_b b1 (by first | exact cell_of_row _ _ _ _ _ _ (three_heap w _ _ _ _).1 | exact cell_of_row _ _ _ _ _ _ (three_heap w _ _ _ _).2.1 | exact cell_of_row _ _ _ _ _ _ (three_heap w _ _ _ _).2.2 | simp)
  have y20_1 : v1.cell? ⟨w.heap.size + 1 + 1, 0, none⟩ = some (.int .i64 z2) := cell_b b1 (by first | exact cell_of_row _ _ _ _ _ _ (three_heap w _ _ _ _).1 | exact cell_of_row _ _ _ _ _ _ (three_heap w _ _ _ _).2.1 | exact cell_of_row _ _ _ _ _ _ (three_heap w _ _ _ _).2.2 | simp)
  have y21_1 : v1.cell? ⟨w.heap.size + 1 + 1, 1, none⟩ = some (.slice a2 n2 c2) := cell_b b1 (by first | exact cell_of_row _ _ _ _ _ _ (three_heap w _ _ _ _).1 | exact cell_of_row _ _ _ _ _ _ (three_heap w _ _ _ _).2.1 | exact cell_of_row _ _ _ _ _ _ (three_heap w _ _ _ _).2.2 | simp)
  have B1 := Lib.hid (below_then HB0.out b1)
  clear b1
  go_wp2_with fail
  refine (HSz1.out _ B1.out).mono ?_
  rintro e v2 ⟨rfl, b1⟩
  have y20_2 : v2.cell? ⟨w.heap.size + 1 + 1, 0, none⟩ = some (.int .i64 z2) := cell_b b1 y20_1
  have y21_2 : v2.cell? ⟨w.heap.size + 1 + 1, 1, none⟩ = some (.slice a2 n2 c2) := cell_b b1 y21_1
  have B2 := Lib.hid (below_then B1.out b1)
  clear b1
  go_wp2_with fail
  refine (HSz2.out _ B2.out).mono ?_
  rintro e v3 ⟨rfl, b1⟩
  have B3 := Lib.hid (below_then B2.out b1)
  clear b1
  go_wp2_with fail
  go_ret
  exact ⟨rfl, B3.out⟩

set_option maxRecDepth 100000 in
set_option maxHeartbeats 4000000 in
theorem lawComposeHoms_fit (w : World) (z0 : Int) (a0 : Option Addr) (n0 c0 : Nat) (fs0 : List OpD) (wz0 : (Lit.int .i64 z0).wf = true) (hn0 : n0 ≤ maxLen) (ht0 : ∀ (j : Nat) (f : OpD), fs0[j]? = some f → f.2.length ≤ maxLen) (hv0 : OView w 0 w.heap.size a0 n0 fs0) (z1 : Int) (a1 : Option Addr) (n1 c1 : Nat) (fs1 : List OpD) (wz1 : (Lit.int .i64 z1).wf = true) (hn1 : n1 ≤ maxLen) (ht1 : ∀ (j : Nat) (f : OpD), fs1[j]? = some f → f.2.length ≤ maxLen) (hv1 : OView w 0 w.heap.size a1 n1 fs1) (z2 : Int) (a2 : Option Addr) (n2 c2 : Nat) (fs2 : List OpD) (wz2 : (Lit.int .i64 z2).wf = true) (hn2 : n2 ≤ maxLen) (ht2 : ∀ (j : Nat) (f : OpD), fs2[j]? = some f → f.2.length ≤ maxLen) (hv2 : OView w 0 w.heap.size a2 n2 fs2) (a3 : Option Addr) (n3 c3 : Nat) (xs3 : List Int) (hc3 : n3 ≤ c3) (hm3 : c3 ≤ maxLen) (hv3 : IView w 0 w.heap.size a3 n3 xs3) (a4 : Option Addr) (n4 c4 : Nat) (xs4 : List Int) (hc4 : n4 ≤ c4) (hm4 : c4 ≤ maxLen) (hv4 : IView w 0 w.heap.size a4 n4 xs4) (hb3 : n3 ≤ 1048576) (hb4 : n4 ≤ 1048576) (hfit0 : ((n0 + osum fs0 : Nat) : Int) ≤ 1048576) (hfit1 : ((n1 + osum fs1 : Nat) : Int) ≤ 1048576 - ((n0 + osum fs0 : Nat) : Int)) (hfit2 : ((n2 + osum fs2 : Nat) : Int) ≤ 1048576 - ((n0 + osum fs0 : Nat) : Int) - ((n1 + osum fs1 : Nat) : Int)) (hres : (valComposeHoms z0 fs0 z1 fs1 z2 fs2 xs3 xs4).1.length ≤ 4194304) :
    Calls Try.prog 6 #[.agg #[.int .i64 z0, .slice a0 n0 c0], .agg #[.int .i64 z1, .slice a1 n1 c1], .agg #[.int .i64 z2, .slice a2 n2 c2], .slice a3 n3 c3, .slice a4 n4 c4] w fun e w' => e = .returned (.bool true) ∧ Below w.heap.size w w' := by
  obtain ⟨hn1_0, hn2_0, hn3_0, hs80, hsM0⟩ := small_of (left := 1048576) (show ((n0 + osum fs0 : Nat) : Int) ≤ 1048576 by omega) (Int.le_refl _)
  obtain ⟨hn1_1, hn2_1, hn3_1, hs81, hsM1⟩ := small_of (left := 1048576) (show ((n1 + osum fs1 : Nat) : Int) ≤ 1048576 by omega) (Int.le_refl _)
  obtain ⟨hn1_2, hn2_2, hn3_2, hs82, hsM2⟩ := small_of (left := 1048576) (show ((n2 + osum fs2 : Nat) : Int) ≤ 1048576 by omega) (Int.le_refl _)
  have hB0 := (below_then (below_then (below_alloc w (.cells #[.int .i64 z0, .slice a0 n0 c0] 24)) (below_alloc (w.alloc (.cells #[.int .i64 z0, .slice a0 n0 c0] 24)) (.cells #[.int .i64 z1, .slice a1 n1 c1] 24))) (below_alloc ((w.alloc (.cells #[.int .i64 z0, .slice a0 n0 c0] 24)).alloc (.cells #[.int .i64 z1, .slice a1 n1 c1] 24)) (.cells #[.int .i64 z2, .slice a2 n2 c2] 24)))
  have hsz0 := fun (W : World) (hW : Below w.heap.size w W) => szAlg_any w.heap.size z0 a0 c0 n0 fs0 (1048576) W (hv0.kept (Kept.of_below hW (Nat.le_refl _))) hW.size hn0 ht0 (by omega) (by omega)
  obtain ⟨l1, hl_1, hl_1a, hl_1b⟩ : ∃ l : Int, l = 1048576 - ((n0 + osum fs0 : Nat) : Int) ∧ 0 ≤ l ∧ l ≤ 1048576 := ⟨_, rfl, by omega, by omega⟩
  simp only [szI_yes (show ((n0 + osum fs0 : Nat) : Int) ≤ 1048576 by omega), ← hl_1] at hsz0
  have HSz0 := Lib.hid hsz0
  clear hsz0
  have hsz1 := fun (W : World) (hW : Below w.heap.size w W) => szAlg_any w.heap.size z1 a1 c1 n1 fs1 (l1) W (hv1.kept (Kept.of_below hW (Nat.le_refl _))) hW.size hn1 ht1 (by omega) (by omega)
  obtain ⟨l2, hl_2, hl_2a, hl_2b⟩ : ∃ l : Int, l = l1 - ((n1 + osum fs1 : Nat) : Int) ∧ 0 ≤ l ∧ l ≤ 1048576 := ⟨_, rfl, by omega, by omega⟩
  simp only [szI_yes (show ((n1 + osum fs1 : Nat) : Int) ≤ l1 by omega), ← hl_2] at hsz1
  have HSz1 := Lib.hid hsz1
  clear hsz1
  have hsz2 := fun (W : World) (hW : Below w.heap.size w W) => szAlg_any w.heap.size z2 a2 c2 n2 fs2 (l2) W (hv2.kept (Kept.of_below hW (Nat.le_refl _))) hW.size hn2 ht2 (by omega) (by omega)
  obtain ⟨l3, hl_3, hl_3a, hl_3b⟩ : ∃ l : Int, l = l2 - ((n2 + osum fs2 : Nat) : Int) ∧ 0 ≤ l ∧ l ≤ 1048576 := ⟨_, rfl, by omega, by omega⟩
  simp only [szI_yes (show ((n2 + osum fs2 : Nat) : Int) ≤ l2 by omega), ← hl_3] at hsz2
  have HSz2 := Lib.hid hsz2
  clear hsz2
  have HB0 := Lib.hid hB0
  have HV0 := Lib.hid hv0
  have hl0 := Lib.hid hv0.1
  have HW0 := Lib.hid wz0
  have HS80 := Lib.hid hs80
  have HSM0 := Lib.hid hsM0
  have HFit0 : Hid (((n0 + osum fs0 : Nat) : Int) ≤ 1048576) := (show ((n0 + osum fs0 : Nat) : Int) ≤ 1048576 by omega)
  have HV1 := Lib.hid hv1
  have hl1 := Lib.hid hv1.1
  have HW1 := Lib.hid wz1
  have HS81 := Lib.hid hs81
  have HSM1 := Lib.hid hsM1
  have HFit1 : Hid (((n1 + osum fs1 : Nat) : Int) ≤ 1048576) := (show ((n1 + osum fs1 : Nat) : Int) ≤ 1048576 by omega)
  have HV2 := Lib.hid hv2
  have hl2 := Lib.hid hv2.1
  have HW2 := Lib.hid wz2
  have HS82 := Lib.hid hs82
  have HSM2 := Lib.hid hsM2
  have HFit2 : Hid (((n2 + osum fs2 : Nat) : Int) ≤ 1048576) := (show ((n2 + osum fs2 : Nat) : Int) ≤ 1048576 by omega)
  have HV3 := Lib.hid hv3
  have hl3 := Lib.hid hv3.1
  have HV4 := Lib.hid hv4
  have hl4 := Lib.hid hv4.1
  obtain ⟨⟨rs, ok⟩, hval⟩ : ∃ p, valComposeHoms z0 fs0 z1 fs1 z2 fs2 xs3 xs4 = p := ⟨_, rfl⟩
  simp only [hval] at hres
  have HRes := Lib.hid hres
  have hrl : rs.length ≤ 4194304 := hres
  obtain ⟨rn, hrn⟩ : ∃ rn, rn = rs.length := ⟨_, rfl⟩
  rw [← hrn] at hrl
  have HRn := Lib.hid hrn
  have HVal := Lib.hid hval
  clear hB0 hval hv0 ht0 hn0 wz0 hv1 ht1 hn1 wz1 hv2 ht2 hn2 wz2 hm3 hv3 hm4 hv4 hc3 hc4 hs80 hsM0 hn2_0 hs81 hsM1 hn2_1 hs82 hsM2 hn2_2 hfit0 hfit1 hfit2 hl_1 hl_2 hl_3 hres hrn
  have hne_ok : (ok != ok) = false := by cases ok <;> rfl
  go_enter Try.func6, Try.ntmps6
  go_wp2_with fail
  refine (HSz0.out _ (below_then (below_then (below_alloc w (.cells #[.int .i64 z0, .slice a0 n0 c0] 24)) (below_alloc (w.alloc (.cells #[.int .i64 z0, .slice a0 n0 c0] 24)) (.cells #[.int .i64 z1, .slice a1 n1 c1] 24))) (below_alloc ((w.alloc (.cells #[.int .i64 z0, .slice a0 n0 c0] 24)).alloc (.cells #[.int .i64 z1, .slice a1 n1 c1] 24)) (.cells #[.int .i64 z2, .slice a2 n2 c2] 24)))).mono ?_
  rintro e w1 ⟨rfl, b_⟩
  have b1 : Below w.heap.size w w1 := below_then (below_then (below_then (below_alloc w (.cells #[.int .i64 z0, .slice a0 n0 c0] 24)) (below_alloc (w.alloc (.cells #[.int .i64 z0, .slice a0 n0 c0] 24)) (.cells #[.int .i64 z1, .slice a1 n1 c1] 24))) (below_alloc ((w.alloc (.cells #[.int .i64 z0, .slice a0 n0 c0] 24)).alloc (.cells #[.int .i64 z1, .slice a1 n1 c1] 24)) (.cells #[.int .i64 z2, .slice a2 n2 c2] 24))) b_
  have s1 : w.heap.size ≤ w1.heap.size := b1.size
  have a00_1 : w1.cell? ⟨w.heap.size, 0, none⟩ = some (.int .i64 z0) := cell_b b_ (by first | exact cell_of_row _ _ _ _ _ _ (three_heap w _ _ _ _).1 | exact cell_of_row _ _ _ _ _ _ (three_heap w _ _ _ _).2.1 | exact cell_of_row _ _ _ _ _ _ (three_heap w _ _ _ _).2.2 | simp)
  have a01_1 : w1.cell? ⟨w.heap.size, 1, none⟩ = some (.slice a0 n0 c0) := cell_b b_ (by first | exact cell_of_row _ _ _ _ _ _ (three_heap w _ _ _ _).1 | exact cell_of_row _ _ _ _ _ _ (three_heap w _ _ _ _).2.1 | exact cell_of_row _ _ _ _ _ _ (three_heap w _ _ _ _).2.2 | simp)
  have za0 : w.heap.size < w1.heap.size := (by have := b_.size; simp at this; omega)
  have a10_1 : w1.cell? ⟨w.heap.size + 1, 0, none⟩ = some (.int .i64 z1) := cell_b b_ (by first | exact cell_of_row _ _ _ _ _ _ (three_heap w _ _ _ _).1 | exact cell_of_row _ _ _ _ _ _ (three_heap w _ _ _ _).2.1 | exact cell_of_row _ _ _ _ _ _ (three_heap w _ _ _ _).2.2 | simp)
  have a11_1 : w1.cell? ⟨w.heap.size + 1, 1, none⟩ = some (.slice a1 n1 c1) := cell_b b_ (by first | exact cell_of_row _ _ _ _ _ _ (three_heap w _ _ _ _).1 | exact cell_of_row _ _ _ _ _ _ (three_heap w _ _ _ _).2.1 | exact cell_of_row _ _ _ _ _ _ (three_heap w _ _ _ _).2.2 | simp)
  have za1 : w.heap.size + 1 < w1.heap.size := (by have := b_.size; simp at this; omega)
  have a20_1 : w1.cell? ⟨w.heap.size + 1 + 1, 0, none⟩ = some (.int .i64 z2) := cell_b b_ (by first | exact cell_of_row _ _ _ _ _ _ (three_heap w _ _ _ _).1 | exact cell_of_row _ _ _ _ _ _ (three_heap w _ _ _ _).2.1 | exact cell_of_row _ _ _ _ _ _ (three_heap w _ _ _ _).2.2 | simp)
  have a21_1 : w1.cell? ⟨w.heap.size + 1 + 1, 1, none⟩ = some (.slice a2 n2 c2) := cell_b b_ (by first | exact cell_of_row _ _ _ _ _ _ (three_heap w _ _ _ _).1 | exact cell_of_row _ _ _ _ _ _ (three_heap w _ _ _ _).2.1 | exact cell_of_row _ _ _ _ _ _ (three_heap w _ _ _ _).2.2 | simp)
  have za2 : w.heap.size + 1 + 1 < w1.heap.size := (by have := b_.size; simp at this; omega)
  have B1 : Hid (Below w.heap.size w w1) := b1
  clear b_
  go_wp2_with fail
  refine (HSz1.out _ B1.out).mono ?_
  rintro e w2 ⟨rfl, b_⟩
  have b2 : Below w1.heap.size w1 w2 := b_
  have s2 : w1.heap.size ≤ w2.heap.size := b2.size
  have a00_2 : w2.cell? ⟨w.heap.size, 0, none⟩ = some (.int .i64 z0) := cell_b b2 a00_1
  have a01_2 : w2.cell? ⟨w.heap.size, 1, none⟩ = some (.slice a0 n0 c0) := cell_b b2 a01_1
  have a10_2 : w2.cell? ⟨w.heap.size + 1, 0, none⟩ = some (.int .i64 z1) := cell_b b2 a10_1
  have a11_2 : w2.cell? ⟨w.heap.size + 1, 1, none⟩ = some (.slice a1 n1 c1) := cell_b b2 a11_1
  have a20_2 : w2.cell? ⟨w.heap.size + 1 + 1, 0, none⟩ = some (.int .i64 z2) := cell_b b2 a20_1
  have a21_2 : w2.cell? ⟨w.heap.size + 1 + 1, 1, none⟩ = some (.slice a2 n2 c2) := cell_b b2 a21_1
  have B2 : Hid (Below w.heap.size w w2) := below_then B1.out b2
  clear a00_1 a01_1 a10_1 a11_1 a20_1 a21_1 b_
  go_wp2_with fail
  refine (HSz2.out _ B2.out).mono ?_
  rintro e w3 ⟨rfl, b_⟩
  have b3 : Below w2.heap.size w2 w3 := b_
  have s3 : w2.heap.size ≤ w3.heap.size := b3.size
  have a00_3 : w3.cell? ⟨w.heap.size, 0, none⟩ = some (.int .i64 z0) := cell_b b3 a00_2
  have a01_3 : w3.cell? ⟨w.heap.size, 1, none⟩ = some (.slice a0 n0 c0) := cell_b b3 a01_2
  have a10_3 : w3.cell? ⟨w.heap.size + 1, 0, none⟩ = some (.int .i64 z1) := cell_b b3 a10_2
  have a11_3 : w3.cell? ⟨w.heap.size + 1, 1, none⟩ = some (.slice a1 n1 c1) := cell_b b3 a11_2
  have a20_3 : w3.cell? ⟨w.heap.size + 1 + 1, 0, none⟩ = some (.int .i64 z2) := cell_b b3 a20_2
  have a21_3 : w3.cell? ⟨w.heap.size + 1 + 1, 1, none⟩ = some (.slice a2 n2 c2) := cell_b b3 a21_2
  have B3 : Hid (Below w.heap.size w w3) := below_then B2.out b3
  clear a00_2 a01_2 a10_2 a11_2 a20_2 a21_2 b_
  go_wp2_with fail
  refine wp_region_noPanic ?_
  refine wp_region_held_drew (S := fun W => W.cell? ⟨w.heap.size, 0, none⟩ = some (.int .i64 z0) ∧ W.cell? ⟨w.heap.size, 1, none⟩ = some (.slice a0 n0 c0) ∧ W.cell? ⟨w.heap.size + 1, 0, none⟩ = some (.int .i64 z1) ∧ W.cell? ⟨w.heap.size + 1, 1, none⟩ = some (.slice a1 n1 c1) ∧ W.cell? ⟨w.heap.size + 1 + 1, 0, none⟩ = some (.int .i64 z2) ∧ W.cell? ⟨w.heap.size + 1 + 1, 1, none⟩ = some (.slice a2 n2 c2)) (by kernel_rfl) ?_ (fun hHeld => ?_)
  · exact ⟨a00_3, a01_3, a10_3, a11_3, a20_3, a21_3⟩
  refine wpAnyH_take (i := 0) (oi := ⟨_, _, _, _, _, _⟩) (v := ?_) rfl (by kernel_rfl) (by kernel_rfl) (by kernel_rfl) (fun _ _ _ h => h) (Or.inl ⟨rfl, ?_⟩) (by assumption) ?_
  rotate_left 1
  · intro w_ hSw; (try dsimp only at hSw); go_simp; (try with_reducible rfl)
  (try simp only [Act.put, List.setIfInBounds_toArray, List.set_cons_zero, List.set_cons_succ])
  refine wpAnyH_take (i := 2) (oi := ⟨_, _, _, _, _, _⟩) (v := ?_) rfl (by kernel_rfl) (by kernel_rfl) (by kernel_rfl) (fun _ _ _ h => h) (Or.inl ⟨rfl, ?_⟩) (by assumption) ?_
  rotate_left 1
  · intro w_ hSw; (try dsimp only at hSw); go_simp; (try with_reducible rfl)
  (try simp only [Act.put, List.setIfInBounds_toArray, List.set_cons_zero, List.set_cons_succ])
  refine wpAnyH_take (i := 4) (oi := ⟨_, _, _, _, _, _⟩) (v := ?_) rfl (by kernel_rfl) (by kernel_rfl) (by kernel_rfl) (fun _ _ _ h => h) (Or.inl ⟨rfl, ?_⟩) (by assumption) ?_
  rotate_left 1
  · intro w_ hSw; (try dsimp only at hSw); go_simp; (try with_reducible rfl)
  (try simp only [Act.put, List.setIfInBounds_toArray, List.set_cons_zero, List.set_cons_succ])
  refine wpAnyH_take (i := 6) (oi := ⟨_, _, _, _, _, _⟩) (v := ?_) rfl (by kernel_rfl) (by kernel_rfl) (by kernel_rfl) (fun _ _ _ h => h) (Or.inl ⟨rfl, ?_⟩) (by assumption) ?_
  rotate_left 1
  · intro w_ hSw; (try dsimp only at hSw); go_simp; (try with_reducible rfl)
  (try simp only [Act.put, List.setIfInBounds_toArray, List.set_cons_zero, List.set_cons_succ])
  refine wpAnyH_take (i := 8) (oi := ⟨_, _, _, _, _, _⟩) (v := ?_) rfl (by kernel_rfl) (by kernel_rfl) (by kernel_rfl) (fun _ _ _ h => h) (Or.inl ⟨rfl, ?_⟩) (by assumption) ?_
  rotate_left 1
  · intro w_ hSw; (try dsimp only at hSw); go_simp; (try with_reducible rfl)
  (try simp only [Act.put, List.setIfInBounds_toArray, List.set_cons_zero, List.set_cons_succ])
  refine wpAnyH_ready (rs := [1]) (by kernel_rfl) (by simp) ?_
  refine AllReadyH.cons (o := ⟨_, _, _, _, _, _⟩) rfl (fun K hK => ?_) AllReadyH.nil
  go_simp
  go_at_call 17
  have hC_ := toAlg_view w.heap.size z0 a0 c0 n0 fs0 w3.drew (HV0.out.kept (Kept.of_below (below_then B3.out (below_drew w3)) (Nat.le_refl _))) (below_then B3.out (below_drew w3)).size hn3_0 HS80.out
  refine hC_.mono ?_
  clear hC_
  rintro e w4 ⟨S0g, rfl, m_⟩; have b_ := m_.2
  have b4 : Below w3.heap.size w3 w4 := below_then (below_drew w3) b_
  have s4 : w3.heap.size ≤ w4.heap.size := b4.size
  have a00_4 : w4.cell? ⟨w.heap.size, 0, none⟩ = some (.int .i64 z0) := cell_b b4 a00_3
  have a01_4 : w4.cell? ⟨w.heap.size, 1, none⟩ = some (.slice a0 n0 c0) := cell_b b4 a01_3
  have a10_4 : w4.cell? ⟨w.heap.size + 1, 0, none⟩ = some (.int .i64 z1) := cell_b b4 a10_3
  have a11_4 : w4.cell? ⟨w.heap.size + 1, 1, none⟩ = some (.slice a1 n1 c1) := cell_b b4 a11_3
  have a20_4 : w4.cell? ⟨w.heap.size + 1 + 1, 0, none⟩ = some (.int .i64 z2) := cell_b b4 a20_3
  have a21_4 : w4.cell? ⟨w.heap.size + 1 + 1, 1, none⟩ = some (.slice a2 n2 c2) := cell_b b4 a21_3
  have B4 : Hid (Below w.heap.size w w4) := below_then B3.out b4
  clear a00_3 a01_3 a10_3 a11_3 a20_3 a21_3 b_
  have m_ := m_.view hl0.out
  simp only [World.size_alloc, World.size_drew] at m_
  have HS0_4 := Lib.hid m_
  clear m_
  go_wp2_with fail
  refine hK.out _ _ ?_ (fun hHeld => ?_)
  · exact ⟨a00_4, a01_4, a10_4, a11_4, a20_4, a21_4⟩
  clear hK K
  (try simp only [Act.put, List.setIfInBounds_toArray, List.set_cons_zero, List.set_cons_succ])
  refine wpAnyH_ready (rs := [3]) (by kernel_rfl) (by simp) ?_
  refine AllReadyH.cons (o := ⟨_, _, _, _, _, _⟩) rfl (fun K hK => ?_) AllReadyH.nil
  go_simp
  go_at_call 17
  have hC_ := toAlg_view w.heap.size z1 a1 c1 n1 fs1 w4 (HV1.out.kept (Kept.of_below B4.out (Nat.le_refl _))) B4.out.size hn3_1 HS81.out
  refine hC_.mono ?_
  clear hC_
  rintro e w5 ⟨S1g, rfl, m_⟩; have b_ := m_.2
  have b5 : Below w4.heap.size w4 w5 := b_
  have s5 : w4.heap.size ≤ w5.heap.size := b5.size
  have a00_5 : w5.cell? ⟨w.heap.size, 0, none⟩ = some (.int .i64 z0) := cell_b b5 a00_4
  have a01_5 : w5.cell? ⟨w.heap.size, 1, none⟩ = some (.slice a0 n0 c0) := cell_b b5 a01_4
  have a10_5 : w5.cell? ⟨w.heap.size + 1, 0, none⟩ = some (.int .i64 z1) := cell_b b5 a10_4
  have a11_5 : w5.cell? ⟨w.heap.size + 1, 1, none⟩ = some (.slice a1 n1 c1) := cell_b b5 a11_4
  have a20_5 : w5.cell? ⟨w.heap.size + 1 + 1, 0, none⟩ = some (.int .i64 z2) := cell_b b5 a20_4
  have a21_5 : w5.cell? ⟨w.heap.size + 1 + 1, 1, none⟩ = some (.slice a2 n2 c2) := cell_b b5 a21_4
  have HS0_5 := Lib.hid (HS0_4.out.kept (Kept.of_below b5 (by omega)))
  have B5 : Hid (Below w.heap.size w w5) := below_then B4.out b5
  clear a00_4 a01_4 a10_4 a11_4 a20_4 a21_4 HS0_4 b_
  have m_ := m_.view hl1.out
  have HS1_5 := Lib.hid m_
  clear m_
  go_wp2_with fail
  refine hK.out _ _ ?_ (fun hHeld => ?_)
  · exact ⟨a00_5, a01_5, a10_5, a11_5, a20_5, a21_5⟩
  clear hK K
  (try simp only [Act.put, List.setIfInBounds_toArray, List.set_cons_zero, List.set_cons_succ])
  refine wpAnyH_ready (rs := [5]) (by kernel_rfl) (by simp) ?_
  refine AllReadyH.cons (o := ⟨_, _, _, _, _, _⟩) rfl (fun K hK => ?_) AllReadyH.nil
  go_simp
  go_at_call 17
  have hC_ := toAlg_view w.heap.size z2 a2 c2 n2 fs2 w5 (HV2.out.kept (Kept.of_below B5.out (Nat.le_refl _))) B5.out.size hn3_2 HS82.out
  refine hC_.mono ?_
  clear hC_
  rintro e w6 ⟨S2g, rfl, m_⟩; have b_ := m_.2
  have b6 : Below w5.heap.size w5 w6 := b_
  have s6 : w5.heap.size ≤ w6.heap.size := b6.size
  have a00_6 : w6.cell? ⟨w.heap.size, 0, none⟩ = some (.int .i64 z0) := cell_b b6 a00_5
  have a01_6 : w6.cell? ⟨w.heap.size, 1, none⟩ = some (.slice a0 n0 c0) := cell_b b6 a01_5
  have a10_6 : w6.cell? ⟨w.heap.size + 1, 0, none⟩ = some (.int .i64 z1) := cell_b b6 a10_5
  have a11_6 : w6.cell? ⟨w.heap.size + 1, 1, none⟩ = some (.slice a1 n1 c1) := cell_b b6 a11_5
  have a20_6 : w6.cell? ⟨w.heap.size + 1 + 1, 0, none⟩ = some (.int .i64 z2) := cell_b b6 a20_5
  have a21_6 : w6.cell? ⟨w.heap.size + 1 + 1, 1, none⟩ = some (.slice a2 n2 c2) := cell_b b6 a21_5
  have HS0_6 := Lib.hid (HS0_5.out.kept (Kept.of_below b6 (by omega)))
  have HS1_6 := Lib.hid (HS1_5.out.kept (Kept.of_below b6 (by omega)))
  have B6 : Hid (Below w.heap.size w w6) := below_then B5.out b6
  clear a00_5 a01_5 a10_5 a11_5 a20_5 a21_5 HS0_5 HS1_5 b_
  have m_ := m_.view hl2.out
  have HS2_6 := Lib.hid m_
  clear m_
  go_wp2_with fail
  refine hK.out _ _ ?_ (fun hHeld => ?_)
  · exact ⟨a00_6, a01_6, a10_6, a11_6, a20_6, a21_6⟩
  clear hK K
  (try simp only [Act.put, List.setIfInBounds_toArray, List.set_cons_zero, List.set_cons_succ])
  refine wpAnyH_ready (rs := [7]) (by kernel_rfl) (by simp) ?_
  refine AllReadyH.cons (o := ⟨_, _, _, _, _, _⟩) rfl (fun K hK => ?_) AllReadyH.nil
  go_simp
  go_at_call 18
  have hC_ := toInts_view 0 w.heap.size a3 c3 n3 xs3 w6 (HV3.out.kept (Kept.of_below B6.out (Nat.le_refl _))) B6.out.size (by omega)
  refine hC_.mono ?_
  clear hC_
  rintro e w7 ⟨rfl, o_, b_⟩
  have b7 : Below w6.heap.size w6 w7 := b_
  have s7 : w6.heap.size ≤ w7.heap.size := b7.size
  have a00_7 : w7.cell? ⟨w.heap.size, 0, none⟩ = some (.int .i64 z0) := cell_b b7 a00_6
  have a01_7 : w7.cell? ⟨w.heap.size, 1, none⟩ = some (.slice a0 n0 c0) := cell_b b7 a01_6
  have a10_7 : w7.cell? ⟨w.heap.size + 1, 0, none⟩ = some (.int .i64 z1) := cell_b b7 a10_6
  have a11_7 : w7.cell? ⟨w.heap.size + 1, 1, none⟩ = some (.slice a1 n1 c1) := cell_b b7 a11_6
  have a20_7 : w7.cell? ⟨w.heap.size + 1 + 1, 0, none⟩ = some (.int .i64 z2) := cell_b b7 a20_6
  have a21_7 : w7.cell? ⟨w.heap.size + 1 + 1, 1, none⟩ = some (.slice a2 n2 c2) := cell_b b7 a21_6
  have HS0_7 := Lib.hid (HS0_6.out.kept (Kept.of_below b7 (by omega)))
  have HS1_7 := Lib.hid (HS1_6.out.kept (Kept.of_below b7 (by omega)))
  have HS2_7 := Lib.hid (HS2_6.out.kept (Kept.of_below b7 (by omega)))
  have B7 : Hid (Below w.heap.size w w7) := below_then B6.out b7
  clear a00_6 a01_6 a10_6 a11_6 a20_6 a21_6 HS0_6 HS1_6 HS2_6 b_
  have HSI3_7 := Lib.hid (OwnsInts.of_row o_).view
  clear o_
  go_wp2_with fail
  refine hK.out _ _ ?_ (fun hHeld => ?_)
  · exact ⟨a00_7, a01_7, a10_7, a11_7, a20_7, a21_7⟩
  clear hK K
  (try simp only [Act.put, List.setIfInBounds_toArray, List.set_cons_zero, List.set_cons_succ])
  refine wpAnyH_ready (rs := [9]) (by kernel_rfl) (by simp) ?_
  refine AllReadyH.cons (o := ⟨_, _, _, _, _, _⟩) rfl (fun K hK => ?_) AllReadyH.nil
  go_simp
  go_at_call 18
  have hC_ := toInts_view 0 w.heap.size a4 c4 n4 xs4 w7 (HV4.out.kept (Kept.of_below B7.out (Nat.le_refl _))) B7.out.size (by omega)
  refine hC_.mono ?_
  clear hC_
  rintro e w8 ⟨rfl, o_, b_⟩
  have b8 : Below w7.heap.size w7 w8 := b_
  have s8 : w7.heap.size ≤ w8.heap.size := b8.size
  have a00_8 : w8.cell? ⟨w.heap.size, 0, none⟩ = some (.int .i64 z0) := cell_b b8 a00_7
  have a01_8 : w8.cell? ⟨w.heap.size, 1, none⟩ = some (.slice a0 n0 c0) := cell_b b8 a01_7
  have a10_8 : w8.cell? ⟨w.heap.size + 1, 0, none⟩ = some (.int .i64 z1) := cell_b b8 a10_7
  have a11_8 : w8.cell? ⟨w.heap.size + 1, 1, none⟩ = some (.slice a1 n1 c1) := cell_b b8 a11_7
  have a20_8 : w8.cell? ⟨w.heap.size + 1 + 1, 0, none⟩ = some (.int .i64 z2) := cell_b b8 a20_7
  have a21_8 : w8.cell? ⟨w.heap.size + 1 + 1, 1, none⟩ = some (.slice a2 n2 c2) := cell_b b8 a21_7
  have HS0_8 := Lib.hid (HS0_7.out.kept (Kept.of_below b8 (by omega)))
  have HS1_8 := Lib.hid (HS1_7.out.kept (Kept.of_below b8 (by omega)))
  have HS2_8 := Lib.hid (HS2_7.out.kept (Kept.of_below b8 (by omega)))
  have HSI3_8 := Lib.hid (HSI3_7.out.kept (Kept.of_below b8 (by omega)))
  have B8 : Hid (Below w.heap.size w w8) := below_then B7.out b8
  clear a00_7 a01_7 a10_7 a11_7 a20_7 a21_7 HS0_7 HS1_7 HS2_7 HSI3_7 b_
  have HSI4_8 := Lib.hid (OwnsInts.of_row o_).view
  clear o_
  go_wp2_with fail
  refine hK.out _ _ ?_ (fun hHeld => ?_)
  · exact ⟨a00_8, a01_8, a10_8, a11_8, a20_8, a21_8⟩
  clear hK K
  (try simp only [Act.put, List.setIfInBounds_toArray, List.set_cons_zero, List.set_cons_succ])
  refine wpAnyH_ready (rs := [10]) (by kernel_rfl) (by simp) ?_
  refine AllReadyH.cons (o := ⟨_, _, _, _, _, _⟩) rfl (fun K hK => ?_) AllReadyH.nil
  go_simp
  go_at_call 29
  have hC_ := specComposeHoms _ _ z0 _ n0 n0 fs0 _ _ z1 _ n1 n1 fs1 _ _ z2 _ n2 n2 fs2 _ _ _ n3 n3 xs3 _ _ _ n4 n4 xs4 w8 HS0_8.out (by omega) HSM0.out HS1_8.out (by omega) HSM1.out HS2_8.out (by omega) HSM2.out HSI3_8.out (by omega) (by unfold maxLen; omega) HSI4_8.out (by omega) (by unfold maxLen; omega)
  simp only [HVal.out] at hC_
  refine hC_.mono ?_
  clear hC_
  rintro e w9 ⟨Ra, Rn, Rc, rfl, hq_, o_, b_⟩
  have b9 : Below w8.heap.size w8 w9 := b_
  have s9 : w8.heap.size ≤ w9.heap.size := b9.size
  have a00_9 : w9.cell? ⟨w.heap.size, 0, none⟩ = some (.int .i64 z0) := cell_b b9 a00_8
  have a01_9 : w9.cell? ⟨w.heap.size, 1, none⟩ = some (.slice a0 n0 c0) := cell_b b9 a01_8
  have a10_9 : w9.cell? ⟨w.heap.size + 1, 0, none⟩ = some (.int .i64 z1) := cell_b b9 a10_8
  have a11_9 : w9.cell? ⟨w.heap.size + 1, 1, none⟩ = some (.slice a1 n1 c1) := cell_b b9 a11_8
  have a20_9 : w9.cell? ⟨w.heap.size + 1 + 1, 0, none⟩ = some (.int .i64 z2) := cell_b b9 a20_8
  have a21_9 : w9.cell? ⟨w.heap.size + 1 + 1, 1, none⟩ = some (.slice a2 n2 c2) := cell_b b9 a21_8
  have HS0_9 := Lib.hid (HS0_8.out.kept (Kept.of_below b9 (by omega)))
  have HS1_9 := Lib.hid (HS1_8.out.kept (Kept.of_below b9 (by omega)))
  have HS2_9 := Lib.hid (HS2_8.out.kept (Kept.of_below b9 (by omega)))
  have HSI3_9 := Lib.hid (HSI3_8.out.kept (Kept.of_below b9 (by omega)))
  have HSI4_9 := Lib.hid (HSI4_8.out.kept (Kept.of_below b9 (by omega)))
  have B9 : Hid (Below w.heap.size w w9) := below_then B8.out b9
  clear a00_8 a01_8 a10_8 a11_8 a20_8 a21_8 HS0_8 HS1_8 HS2_8 HSI3_8 HSI4_8 b_
  obtain rfl : rn = Rn := HRn.out.trans hq_.symm
  have HR_9 := Lib.hid o_.view
  clear o_ hq_
  go_wp2_with fail
  refine hK.out _ _ ?_ (fun hHeld => ?_)
  · exact ⟨a00_9, a01_9, a10_9, a11_9, a20_9, a21_9⟩
  clear hK K
  (try simp only [Act.put, List.setIfInBounds_toArray, List.set_cons_zero, List.set_cons_succ])
  refine wpAnyH_take (i := 11) (oi := ⟨_, _, _, _, _, _⟩) (v := ?_) rfl (by kernel_rfl) (by kernel_rfl) (by kernel_rfl) (fun _ _ _ h => h) (Or.inl ⟨rfl, ?_⟩) (by assumption) ?_
  rotate_left 1
  · intro w_ hSw; (try dsimp only at hSw); go_simp; (try with_reducible rfl)
  (try simp only [Act.put, List.setIfInBounds_toArray, List.set_cons_zero, List.set_cons_succ])
  refine wpAnyH_take (i := 12) (oi := ⟨_, _, _, _, _, _⟩) (v := ?_) rfl (by kernel_rfl) (by kernel_rfl) (by kernel_rfl) (fun _ _ _ h => h) (Or.inl ⟨rfl, ?_⟩) (by assumption) ?_
  rotate_left 1
  · intro w_ hSw; (try dsimp only at hSw); go_simp; (try with_reducible rfl)
  (try simp only [Act.put, List.setIfInBounds_toArray, List.set_cons_zero, List.set_cons_succ])
  refine wpAnyH_take (i := 13) (oi := ⟨_, _, _, _, _, _⟩) (v := ?_) rfl (by kernel_rfl) (by kernel_rfl) (by kernel_rfl) (fun _ _ _ h => h) (Or.inl ⟨rfl, ?_⟩) (by assumption) ?_
  rotate_left 1
  · intro w_ hSw; (try dsimp only at hSw); go_simp; (try with_reducible rfl)
  (try simp only [Act.put, List.setIfInBounds_toArray, List.set_cons_zero, List.set_cons_succ])
  refine wpAnyH_take (i := 14) (oi := ⟨_, _, _, _, _, _⟩) (v := ?_) rfl (by kernel_rfl) (by kernel_rfl) (by kernel_rfl) (fun _ _ _ h => h) (Or.inl ⟨rfl, ?_⟩) (by assumption) ?_
  rotate_left 1
  · intro w_ hSw; (try dsimp only at hSw); go_simp; (try with_reducible rfl)
  (try simp only [Act.put, List.setIfInBounds_toArray, List.set_cons_zero, List.set_cons_succ])
  refine wpAnyH_take (i := 15) (oi := ⟨_, _, _, _, _, _⟩) (v := ?_) rfl (by kernel_rfl) (by kernel_rfl) (by kernel_rfl) (fun _ _ _ h => h) (Or.inl ⟨rfl, ?_⟩) (by assumption) ?_
  rotate_left 1
  · intro w_ hSw; (try dsimp only at hSw); go_simp; (try with_reducible rfl)
  (try simp only [Act.put, List.setIfInBounds_toArray, List.set_cons_zero, List.set_cons_succ])
  refine wpAnyH_done (by kernel_rfl) ?_ _
  refine NoPanic.normal ?_
  clear HS0_9
  clear HS1_9
  clear HS2_9
  clear HSI3_9
  clear HSI4_9
  have hC_ := toAlg_view w.heap.size z0 a0 c0 n0 fs0 w9 (HV0.out.kept (Kept.of_below B9.out (Nat.le_refl _))) B9.out.size hn3_0 HS80.out
  have HC_ := Lib.hid hC_
  clear hC_
  go_wp2_with fail
  refine HC_.out.mono ?_
  rintro e w10 ⟨X0g, rfl, m_⟩; have b_ := m_.2
  have b10 : Below w9.heap.size w9 w10 := b_
  have s10 : w9.heap.size ≤ w10.heap.size := b10.size
  have a00_10 : w10.cell? ⟨w.heap.size, 0, none⟩ = some (.int .i64 z0) := cell_b b10 a00_9
  have a01_10 : w10.cell? ⟨w.heap.size, 1, none⟩ = some (.slice a0 n0 c0) := cell_b b10 a01_9
  have a10_10 : w10.cell? ⟨w.heap.size + 1, 0, none⟩ = some (.int .i64 z1) := cell_b b10 a10_9
  have a11_10 : w10.cell? ⟨w.heap.size + 1, 1, none⟩ = some (.slice a1 n1 c1) := cell_b b10 a11_9
  have a20_10 : w10.cell? ⟨w.heap.size + 1 + 1, 0, none⟩ = some (.int .i64 z2) := cell_b b10 a20_9
  have a21_10 : w10.cell? ⟨w.heap.size + 1 + 1, 1, none⟩ = some (.slice a2 n2 c2) := cell_b b10 a21_9
  have HR_10 := Lib.hid (HR_9.out.kept (Kept.of_below b10 (by omega)))
  have B10 : Hid (Below w.heap.size w w10) := below_then B9.out b10
  clear a00_9 a01_9 a10_9 a11_9 a20_9 a21_9 HR_9 b_
  clear HC_
  obtain ⟨⟨X0G, X0C, m_⟩, _⟩ := m_
  have HX0_10 := Lib.hid m_
  clear m_
  have a00_p : ((w10.alloc (.cells #[.int .i64 z0, .slice (some ⟨X0g, 0, none⟩) n0 n0] 31))).cell? ⟨w.heap.size, 0, none⟩ = some (.int .i64 z0) := cell_b (below_alloc w10 (.cells #[.int .i64 z0, .slice (some ⟨X0g, 0, none⟩) n0 n0] 31)) a00_10
  have a01_p : ((w10.alloc (.cells #[.int .i64 z0, .slice (some ⟨X0g, 0, none⟩) n0 n0] 31))).cell? ⟨w.heap.size, 1, none⟩ = some (.slice a0 n0 c0) := cell_b (below_alloc w10 (.cells #[.int .i64 z0, .slice (some ⟨X0g, 0, none⟩) n0 n0] 31)) a01_10
  have a10_p : ((w10.alloc (.cells #[.int .i64 z0, .slice (some ⟨X0g, 0, none⟩) n0 n0] 31))).cell? ⟨w.heap.size + 1, 0, none⟩ = some (.int .i64 z1) := cell_b (below_alloc w10 (.cells #[.int .i64 z0, .slice (some ⟨X0g, 0, none⟩) n0 n0] 31)) a10_10
  have a11_p : ((w10.alloc (.cells #[.int .i64 z0, .slice (some ⟨X0g, 0, none⟩) n0 n0] 31))).cell? ⟨w.heap.size + 1, 1, none⟩ = some (.slice a1 n1 c1) := cell_b (below_alloc w10 (.cells #[.int .i64 z0, .slice (some ⟨X0g, 0, none⟩) n0 n0] 31)) a11_10
  have a20_p : ((w10.alloc (.cells #[.int .i64 z0, .slice (some ⟨X0g, 0, none⟩) n0 n0] 31))).cell? ⟨w.heap.size + 1 + 1, 0, none⟩ = some (.int .i64 z2) := cell_b (below_alloc w10 (.cells #[.int .i64 z0, .slice (some ⟨X0g, 0, none⟩) n0 n0] 31)) a20_10
  have a21_p : ((w10.alloc (.cells #[.int .i64 z0, .slice (some ⟨X0g, 0, none⟩) n0 n0] 31))).cell? ⟨w.heap.size + 1 + 1, 1, none⟩ = some (.slice a2 n2 c2) := cell_b (below_alloc w10 (.cells #[.int .i64 z0, .slice (some ⟨X0g, 0, none⟩) n0 n0] 31)) a21_10
  have hC_ := toAlg_view w.heap.size z1 a1 c1 n1 fs1 (w10.alloc (.cells #[.int .i64 z0, .slice (some ⟨X0g, 0, none⟩) n0 n0] 31)) (HV1.out.kept (Kept.of_below (below_then B10.out (below_alloc w10 (.cells #[.int .i64 z0, .slice (some ⟨X0g, 0, none⟩) n0 n0] 31))) (Nat.le_refl _))) (below_then B10.out (below_alloc w10 (.cells #[.int .i64 z0, .slice (some ⟨X0g, 0, none⟩) n0 n0] 31))).size hn3_1 HS81.out
  have HC_ := Lib.hid hC_
  clear hC_
  go_wp2_with fail
  refine HC_.out.mono ?_
  rintro e w11 ⟨X1g, rfl, m_⟩; have b_ := m_.2
  have b11 : Below w10.heap.size w10 w11 := below_then (below_alloc w10 (.cells #[.int .i64 z0, .slice (some ⟨X0g, 0, none⟩) n0 n0] 31)) b_
  have s11 : w10.heap.size ≤ w11.heap.size := b11.size
  have a00_11 : w11.cell? ⟨w.heap.size, 0, none⟩ = some (.int .i64 z0) := cell_b b11 a00_10
  have a01_11 : w11.cell? ⟨w.heap.size, 1, none⟩ = some (.slice a0 n0 c0) := cell_b b11 a01_10
  have a10_11 : w11.cell? ⟨w.heap.size + 1, 0, none⟩ = some (.int .i64 z1) := cell_b b11 a10_10
  have a11_11 : w11.cell? ⟨w.heap.size + 1, 1, none⟩ = some (.slice a1 n1 c1) := cell_b b11 a11_10
  have a20_11 : w11.cell? ⟨w.heap.size + 1 + 1, 0, none⟩ = some (.int .i64 z2) := cell_b b11 a20_10
  have a21_11 : w11.cell? ⟨w.heap.size + 1 + 1, 1, none⟩ = some (.slice a2 n2 c2) := cell_b b11 a21_10
  have HR_11 := Lib.hid (HR_10.out.kept (Kept.of_below b11 (by omega)))
  have HX0_11 := Lib.hid (HX0_10.out.kept (Kept.of_below b11 (by omega)))
  have x00_11 : w11.cell? ⟨w10.heap.size, 0, none⟩ = some (.int .i64 z0) := cell_b b_ (by first | exact cell_of_row _ _ _ _ _ _ (three_heap w _ _ _ _).1 | exact cell_of_row _ _ _ _ _ _ (three_heap w _ _ _ _).2.1 | exact cell_of_row _ _ _ _ _ _ (three_heap w _ _ _ _).2.2 | simp)
  have x01_11 : w11.cell? ⟨w10.heap.size, 1, none⟩ = some (.slice (some ⟨X0g, 0, none⟩) n0 n0) := cell_b b_ (by first | exact cell_of_row _ _ _ _ _ _ (three_heap w _ _ _ _).1 | exact cell_of_row _ _ _ _ _ _ (three_heap w _ _ _ _).2.1 | exact cell_of_row _ _ _ _ _ _ (three_heap w _ _ _ _).2.2 | simp)
  have zx0 : w10.heap.size < w11.heap.size := (by have := b_.size; simp at this; omega)
  have B11 : Hid (Below w.heap.size w w11) := below_then B10.out b11
  clear a00_10 a01_10 a10_10 a11_10 a20_10 a21_10 HR_10 HX0_10 b_
  clear a00_p a01_p a10_p a11_p a20_p a21_p
  clear HC_
  obtain ⟨⟨X1G, X1C, m_⟩, _⟩ := m_
  simp only [World.size_alloc, World.size_drew] at m_
  have HX1_11 := Lib.hid m_
  clear m_
  have a00_p : ((w11.alloc (.cells #[.int .i64 z1, .slice (some ⟨X1g, 0, none⟩) n1 n1] 31))).cell? ⟨w.heap.size, 0, none⟩ = some (.int .i64 z0) := cell_b (below_alloc w11 (.cells #[.int .i64 z1, .slice (some ⟨X1g, 0, none⟩) n1 n1] 31)) a00_11
  have a01_p : ((w11.alloc (.cells #[.int .i64 z1, .slice (some ⟨X1g, 0, none⟩) n1 n1] 31))).cell? ⟨w.heap.size, 1, none⟩ = some (.slice a0 n0 c0) := cell_b (below_alloc w11 (.cells #[.int .i64 z1, .slice (some ⟨X1g, 0, none⟩) n1 n1] 31)) a01_11
  have a10_p : ((w11.alloc (.cells #[.int .i64 z1, .slice (some ⟨X1g, 0, none⟩) n1 n1] 31))).cell? ⟨w.heap.size + 1, 0, none⟩ = some (.int .i64 z1) := cell_b (below_alloc w11 (.cells #[.int .i64 z1, .slice (some ⟨X1g, 0, none⟩) n1 n1] 31)) a10_11
  have a11_p : ((w11.alloc (.cells #[.int .i64 z1, .slice (some ⟨X1g, 0, none⟩) n1 n1] 31))).cell? ⟨w.heap.size + 1, 1, none⟩ = some (.slice a1 n1 c1) := cell_b (below_alloc w11 (.cells #[.int .i64 z1, .slice (some ⟨X1g, 0, none⟩) n1 n1] 31)) a11_11
  have a20_p : ((w11.alloc (.cells #[.int .i64 z1, .slice (some ⟨X1g, 0, none⟩) n1 n1] 31))).cell? ⟨w.heap.size + 1 + 1, 0, none⟩ = some (.int .i64 z2) := cell_b (below_alloc w11 (.cells #[.int .i64 z1, .slice (some ⟨X1g, 0, none⟩) n1 n1] 31)) a20_11
  have a21_p : ((w11.alloc (.cells #[.int .i64 z1, .slice (some ⟨X1g, 0, none⟩) n1 n1] 31))).cell? ⟨w.heap.size + 1 + 1, 1, none⟩ = some (.slice a2 n2 c2) := cell_b (below_alloc w11 (.cells #[.int .i64 z1, .slice (some ⟨X1g, 0, none⟩) n1 n1] 31)) a21_11
  have x00_p : ((w11.alloc (.cells #[.int .i64 z1, .slice (some ⟨X1g, 0, none⟩) n1 n1] 31))).cell? ⟨w10.heap.size, 0, none⟩ = some (.int .i64 z0) := cell_b (below_alloc w11 (.cells #[.int .i64 z1, .slice (some ⟨X1g, 0, none⟩) n1 n1] 31)) x00_11
  have x01_p : ((w11.alloc (.cells #[.int .i64 z1, .slice (some ⟨X1g, 0, none⟩) n1 n1] 31))).cell? ⟨w10.heap.size, 1, none⟩ = some (.slice (some ⟨X0g, 0, none⟩) n0 n0) := cell_b (below_alloc w11 (.cells #[.int .i64 z1, .slice (some ⟨X1g, 0, none⟩) n1 n1] 31)) x01_11
  have hC_ := toAlg_view w.heap.size z2 a2 c2 n2 fs2 (w11.alloc (.cells #[.int .i64 z1, .slice (some ⟨X1g, 0, none⟩) n1 n1] 31)) (HV2.out.kept (Kept.of_below (below_then B11.out (below_alloc w11 (.cells #[.int .i64 z1, .slice (some ⟨X1g, 0, none⟩) n1 n1] 31))) (Nat.le_refl _))) (below_then B11.out (below_alloc w11 (.cells #[.int .i64 z1, .slice (some ⟨X1g, 0, none⟩) n1 n1] 31))).size hn3_2 HS82.out
  have HC_ := Lib.hid hC_
  clear hC_
  go_wp2_with fail
  refine HC_.out.mono ?_
  rintro e w12 ⟨X2g, rfl, m_⟩; have b_ := m_.2
  have b12 : Below w11.heap.size w11 w12 := below_then (below_alloc w11 (.cells #[.int .i64 z1, .slice (some ⟨X1g, 0, none⟩) n1 n1] 31)) b_
  have s12 : w11.heap.size ≤ w12.heap.size := b12.size
  have a00_12 : w12.cell? ⟨w.heap.size, 0, none⟩ = some (.int .i64 z0) := cell_b b12 a00_11
  have a01_12 : w12.cell? ⟨w.heap.size, 1, none⟩ = some (.slice a0 n0 c0) := cell_b b12 a01_11
  have a10_12 : w12.cell? ⟨w.heap.size + 1, 0, none⟩ = some (.int .i64 z1) := cell_b b12 a10_11
  have a11_12 : w12.cell? ⟨w.heap.size + 1, 1, none⟩ = some (.slice a1 n1 c1) := cell_b b12 a11_11
  have a20_12 : w12.cell? ⟨w.heap.size + 1 + 1, 0, none⟩ = some (.int .i64 z2) := cell_b b12 a20_11
  have a21_12 : w12.cell? ⟨w.heap.size + 1 + 1, 1, none⟩ = some (.slice a2 n2 c2) := cell_b b12 a21_11
  have x00_12 : w12.cell? ⟨w10.heap.size, 0, none⟩ = some (.int .i64 z0) := cell_b b12 x00_11
  have x01_12 : w12.cell? ⟨w10.heap.size, 1, none⟩ = some (.slice (some ⟨X0g, 0, none⟩) n0 n0) := cell_b b12 x01_11
  have HR_12 := Lib.hid (HR_11.out.kept (Kept.of_below b12 (by omega)))
  have HX0_12 := Lib.hid (HX0_11.out.kept (Kept.of_below b12 (by omega)))
  have HX1_12 := Lib.hid (HX1_11.out.kept (Kept.of_below b12 (by omega)))
  have x10_12 : w12.cell? ⟨w11.heap.size, 0, none⟩ = some (.int .i64 z1) := cell_b b_ (by first | exact cell_of_row _ _ _ _ _ _ (three_heap w _ _ _ _).1 | exact cell_of_row _ _ _ _ _ _ (three_heap w _ _ _ _).2.1 | exact cell_of_row _ _ _ _ _ _ (three_heap w _ _ _ _).2.2 | simp)
  have x11_12 : w12.cell? ⟨w11.heap.size, 1, none⟩ = some (.slice (some ⟨X1g, 0, none⟩) n1 n1) := cell_b b_ (by first | exact cell_of_row _ _ _ _ _ _ (three_heap w _ _ _ _).1 | exact cell_of_row _ _ _ _ _ _ (three_heap w _ _ _ _).2.1 | exact cell_of_row _ _ _ _ _ _ (three_heap w _ _ _ _).2.2 | simp)
  have zx1 : w11.heap.size < w12.heap.size := (by have := b_.size; simp at this; omega)
  have B12 : Hid (Below w.heap.size w w12) := below_then B11.out b12
  clear a00_11 a01_11 a10_11 a11_11 a20_11 a21_11 x00_11 x01_11 HR_11 HX0_11 HX1_11 b_
  clear a00_p a01_p a10_p a11_p a20_p a21_p x00_p x01_p
  clear HC_
  obtain ⟨⟨X2G, X2C, m_⟩, _⟩ := m_
  simp only [World.size_alloc, World.size_drew] at m_
  have HX2_12 := Lib.hid m_
  clear m_
  have hC_ := toInts_view 0 w.heap.size a3 c3 n3 xs3 (w12.alloc (.cells #[.int .i64 z2, .slice (some ⟨X2g, 0, none⟩) n2 n2] 31)) (HV3.out.kept (Kept.of_below (below_then B12.out (below_alloc w12 (.cells #[.int .i64 z2, .slice (some ⟨X2g, 0, none⟩) n2 n2] 31))) (Nat.le_refl _))) (below_then B12.out (below_alloc w12 (.cells #[.int .i64 z2, .slice (some ⟨X2g, 0, none⟩) n2 n2] 31))).size (by omega)
  have HC_ := Lib.hid hC_
  clear hC_
  go_wp2_with fail
  refine HC_.out.mono ?_
  rintro e w13 ⟨rfl, o_, b_⟩
  have b13 : Below w12.heap.size w12 w13 := below_then (below_alloc w12 (.cells #[.int .i64 z2, .slice (some ⟨X2g, 0, none⟩) n2 n2] 31)) b_
  have s13 : w12.heap.size ≤ w13.heap.size := b13.size
  have a00_13 : w13.cell? ⟨w.heap.size, 0, none⟩ = some (.int .i64 z0) := cell_b b13 a00_12
  have a01_13 : w13.cell? ⟨w.heap.size, 1, none⟩ = some (.slice a0 n0 c0) := cell_b b13 a01_12
  have a10_13 : w13.cell? ⟨w.heap.size + 1, 0, none⟩ = some (.int .i64 z1) := cell_b b13 a10_12
  have a11_13 : w13.cell? ⟨w.heap.size + 1, 1, none⟩ = some (.slice a1 n1 c1) := cell_b b13 a11_12
  have a20_13 : w13.cell? ⟨w.heap.size + 1 + 1, 0, none⟩ = some (.int .i64 z2) := cell_b b13 a20_12
  have a21_13 : w13.cell? ⟨w.heap.size + 1 + 1, 1, none⟩ = some (.slice a2 n2 c2) := cell_b b13 a21_12
  have x00_13 : w13.cell? ⟨w10.heap.size, 0, none⟩ = some (.int .i64 z0) := cell_b b13 x00_12
  have x01_13 : w13.cell? ⟨w10.heap.size, 1, none⟩ = some (.slice (some ⟨X0g, 0, none⟩) n0 n0) := cell_b b13 x01_12
  have x10_13 : w13.cell? ⟨w11.heap.size, 0, none⟩ = some (.int .i64 z1) := cell_b b13 x10_12
  have x11_13 : w13.cell? ⟨w11.heap.size, 1, none⟩ = some (.slice (some ⟨X1g, 0, none⟩) n1 n1) := cell_b b13 x11_12
  have HR_13 := Lib.hid (HR_12.out.kept (Kept.of_below b13 (by omega)))
  have HX0_13 := Lib.hid (HX0_12.out.kept (Kept.of_below b13 (by omega)))
  have HX1_13 := Lib.hid (HX1_12.out.kept (Kept.of_below b13 (by omega)))
  have HX2_13 := Lib.hid (HX2_12.out.kept (Kept.of_below b13 (by omega)))
  have x20_13 : w13.cell? ⟨w12.heap.size, 0, none⟩ = some (.int .i64 z2) := cell_b b_ (by first | exact cell_of_row _ _ _ _ _ _ (three_heap w _ _ _ _).1 | exact cell_of_row _ _ _ _ _ _ (three_heap w _ _ _ _).2.1 | exact cell_of_row _ _ _ _ _ _ (three_heap w _ _ _ _).2.2 | simp)
  have x21_13 : w13.cell? ⟨w12.heap.size, 1, none⟩ = some (.slice (some ⟨X2g, 0, none⟩) n2 n2) := cell_b b_ (by first | exact cell_of_row _ _ _ _ _ _ (three_heap w _ _ _ _).1 | exact cell_of_row _ _ _ _ _ _ (three_heap w _ _ _ _).2.1 | exact cell_of_row _ _ _ _ _ _ (three_heap w _ _ _ _).2.2 | simp)
  have zx2 : w12.heap.size < w13.heap.size := (by have := b_.size; simp at this; omega)
  have B13 : Hid (Below w.heap.size w w13) := below_then B12.out b13
  clear a00_12 a01_12 a10_12 a11_12 a20_12 a21_12 x00_12 x01_12 x10_12 x11_12 HR_12 HX0_12 HX1_12 HX2_12 b_
  clear HC_
  simp only [World.size_alloc, World.size_drew] at o_
  have HXI3_13 := Lib.hid (OwnsInts.of_row o_)
  clear o_
  have hC_ := toInts_view 0 w.heap.size a4 c4 n4 xs4 w13 (HV4.out.kept (Kept.of_below B13.out (Nat.le_refl _))) B13.out.size (by omega)
  have HC_ := Lib.hid hC_
  clear hC_
  go_wp2_with fail
  refine HC_.out.mono ?_
  rintro e w14 ⟨rfl, o_, b_⟩
  have b14 : Below w13.heap.size w13 w14 := b_
  have s14 : w13.heap.size ≤ w14.heap.size := b14.size
  have a00_14 : w14.cell? ⟨w.heap.size, 0, none⟩ = some (.int .i64 z0) := cell_b b14 a00_13
  have a01_14 : w14.cell? ⟨w.heap.size, 1, none⟩ = some (.slice a0 n0 c0) := cell_b b14 a01_13
  have a10_14 : w14.cell? ⟨w.heap.size + 1, 0, none⟩ = some (.int .i64 z1) := cell_b b14 a10_13
  have a11_14 : w14.cell? ⟨w.heap.size + 1, 1, none⟩ = some (.slice a1 n1 c1) := cell_b b14 a11_13
  have a20_14 : w14.cell? ⟨w.heap.size + 1 + 1, 0, none⟩ = some (.int .i64 z2) := cell_b b14 a20_13
  have a21_14 : w14.cell? ⟨w.heap.size + 1 + 1, 1, none⟩ = some (.slice a2 n2 c2) := cell_b b14 a21_13
  have x00_14 : w14.cell? ⟨w10.heap.size, 0, none⟩ = some (.int .i64 z0) := cell_b b14 x00_13
  have x01_14 : w14.cell? ⟨w10.heap.size, 1, none⟩ = some (.slice (some ⟨X0g, 0, none⟩) n0 n0) := cell_b b14 x01_13
  have x10_14 : w14.cell? ⟨w11.heap.size, 0, none⟩ = some (.int .i64 z1) := cell_b b14 x10_13
  have x11_14 : w14.cell? ⟨w11.heap.size, 1, none⟩ = some (.slice (some ⟨X1g, 0, none⟩) n1 n1) := cell_b b14 x11_13
  have x20_14 : w14.cell? ⟨w12.heap.size, 0, none⟩ = some (.int .i64 z2) := cell_b b14 x20_13
  have x21_14 : w14.cell? ⟨w12.heap.size, 1, none⟩ = some (.slice (some ⟨X2g, 0, none⟩) n2 n2) := cell_b b14 x21_13
  have HR_14 := Lib.hid (HR_13.out.kept (Kept.of_below b14 (by omega)))
  have HX0_14 := Lib.hid (HX0_13.out.kept (Kept.of_below b14 (by omega)))
  have HX1_14 := Lib.hid (HX1_13.out.kept (Kept.of_below b14 (by omega)))
  have HX2_14 := Lib.hid (HX2_13.out.kept (Kept.of_below b14 (by omega)))
  have HXI3_14 := Lib.hid (HXI3_13.out.kept (Kept.of_below b14 (by omega)))
  have B14 : Hid (Below w.heap.size w w14) := below_then B13.out b14
  clear a00_13 a01_13 a10_13 a11_13 a20_13 a21_13 x00_13 x01_13 x10_13 x11_13 x20_13 x21_13 HR_13 HX0_13 HX1_13 HX2_13 HXI3_13 b_
  clear HC_
  have HXI4_14 := Lib.hid (OwnsInts.of_row o_)
  clear o_
  have h_ := HX0_14.out.view
  rw [← hl0.out, map_range_get, hl0.out] at h_
  have HXV0_ := Lib.hid h_
  clear h_
  have h_ := HX1_14.out.view
  rw [← hl1.out, map_range_get, hl1.out] at h_
  have HXV1_ := Lib.hid h_
  clear h_
  have h_ := HX2_14.out.view
  rw [← hl2.out, map_range_get, hl2.out] at h_
  have HXV2_ := Lib.hid h_
  clear h_
  have hC_ := implComposeHoms _ _ z0 _ n0 n0 fs0 _ _ z1 _ n1 n1 fs1 _ _ z2 _ n2 n2 fs2 _ _ _ n3 n3 xs3 _ _ _ n4 n4 xs4 w14 HXV0_.out (by omega) HSM0.out HXV1_.out (by omega) HSM1.out HXV2_.out (by omega) HSM2.out HXI3_14.out.view (by omega) (by unfold maxLen; omega) HXI4_14.out.view (by omega) (by unfold maxLen; omega)
  simp only [HVal.out] at hC_
  have HC_ := Lib.hid hC_
  clear hC_
  go_wp2_with fail
  refine HC_.out.mono ?_
  rintro e w15 ⟨Ga, Gn, Gc, rfl, hq_, o_, b_⟩
  have b15 : Below w14.heap.size w14 w15 := b_
  have s15 : w14.heap.size ≤ w15.heap.size := b15.size
  have a00_15 : w15.cell? ⟨w.heap.size, 0, none⟩ = some (.int .i64 z0) := cell_b b15 a00_14
  have a01_15 : w15.cell? ⟨w.heap.size, 1, none⟩ = some (.slice a0 n0 c0) := cell_b b15 a01_14
  have a10_15 : w15.cell? ⟨w.heap.size + 1, 0, none⟩ = some (.int .i64 z1) := cell_b b15 a10_14
  have a11_15 : w15.cell? ⟨w.heap.size + 1, 1, none⟩ = some (.slice a1 n1 c1) := cell_b b15 a11_14
  have a20_15 : w15.cell? ⟨w.heap.size + 1 + 1, 0, none⟩ = some (.int .i64 z2) := cell_b b15 a20_14
  have a21_15 : w15.cell? ⟨w.heap.size + 1 + 1, 1, none⟩ = some (.slice a2 n2 c2) := cell_b b15 a21_14
  have x00_15 : w15.cell? ⟨w10.heap.size, 0, none⟩ = some (.int .i64 z0) := cell_b b15 x00_14
  have x01_15 : w15.cell? ⟨w10.heap.size, 1, none⟩ = some (.slice (some ⟨X0g, 0, none⟩) n0 n0) := cell_b b15 x01_14
  have x10_15 : w15.cell? ⟨w11.heap.size, 0, none⟩ = some (.int .i64 z1) := cell_b b15 x10_14
  have x11_15 : w15.cell? ⟨w11.heap.size, 1, none⟩ = some (.slice (some ⟨X1g, 0, none⟩) n1 n1) := cell_b b15 x11_14
  have x20_15 : w15.cell? ⟨w12.heap.size, 0, none⟩ = some (.int .i64 z2) := cell_b b15 x20_14
  have x21_15 : w15.cell? ⟨w12.heap.size, 1, none⟩ = some (.slice (some ⟨X2g, 0, none⟩) n2 n2) := cell_b b15 x21_14
  have HR_15 := Lib.hid (HR_14.out.kept (Kept.of_below b15 (by omega)))
  have HX0_15 := Lib.hid (HX0_14.out.kept (Kept.of_below b15 (by omega)))
  have HX1_15 := Lib.hid (HX1_14.out.kept (Kept.of_below b15 (by omega)))
  have HX2_15 := Lib.hid (HX2_14.out.kept (Kept.of_below b15 (by omega)))
  have HXI3_15 := Lib.hid (HXI3_14.out.kept (Kept.of_below b15 (by omega)))
  have HXI4_15 := Lib.hid (HXI4_14.out.kept (Kept.of_below b15 (by omega)))
  have B15 : Hid (Below w.heap.size w w15) := below_then B14.out b15
  clear a00_14 a01_14 a10_14 a11_14 a20_14 a21_14 x00_14 x01_14 x10_14 x11_14 x20_14 x21_14 HR_14 HX0_14 HX1_14 HX2_14 HXI3_14 HXI4_14 b_
  clear HC_
  obtain rfl : rn = Gn := HRn.out.trans hq_.symm
  have HG_15 := Lib.hid o_
  clear o_ hq_
  clear HXV0_ HXV1_ HXV2_
  have HGV_ := Lib.hid HG_15.out.view
  have hC_ := eqInts_view _ _ _ _ _ _ Gc Rc rn rs w15 HGV_.out HR_15.out (by unfold maxLen; omega)
  have HC_ := Lib.hid hC_
  clear hC_
  go_wp2_with fail
  refine HC_.out.mono ?_
  rintro e w16 ⟨rfl, q_⟩; have b_ := below_drawn (Below.refl w15.heap.size w15) q_; clear q_
  have b16 : Below w15.heap.size w15 w16 := b_
  have s16 : w15.heap.size ≤ w16.heap.size := b16.size
  have a00_16 : w16.cell? ⟨w.heap.size, 0, none⟩ = some (.int .i64 z0) := cell_b b16 a00_15
  have a01_16 : w16.cell? ⟨w.heap.size, 1, none⟩ = some (.slice a0 n0 c0) := cell_b b16 a01_15
  have a10_16 : w16.cell? ⟨w.heap.size + 1, 0, none⟩ = some (.int .i64 z1) := cell_b b16 a10_15
  have a11_16 : w16.cell? ⟨w.heap.size + 1, 1, none⟩ = some (.slice a1 n1 c1) := cell_b b16 a11_15
  have a20_16 : w16.cell? ⟨w.heap.size + 1 + 1, 0, none⟩ = some (.int .i64 z2) := cell_b b16 a20_15
  have a21_16 : w16.cell? ⟨w.heap.size + 1 + 1, 1, none⟩ = some (.slice a2 n2 c2) := cell_b b16 a21_15
  have x00_16 : w16.cell? ⟨w10.heap.size, 0, none⟩ = some (.int .i64 z0) := cell_b b16 x00_15
  have x01_16 : w16.cell? ⟨w10.heap.size, 1, none⟩ = some (.slice (some ⟨X0g, 0, none⟩) n0 n0) := cell_b b16 x01_15
  have x10_16 : w16.cell? ⟨w11.heap.size, 0, none⟩ = some (.int .i64 z1) := cell_b b16 x10_15
  have x11_16 : w16.cell? ⟨w11.heap.size, 1, none⟩ = some (.slice (some ⟨X1g, 0, none⟩) n1 n1) := cell_b b16 x11_15
  have x20_16 : w16.cell? ⟨w12.heap.size, 0, none⟩ = some (.int .i64 z2) := cell_b b16 x20_15
  have x21_16 : w16.cell? ⟨w12.heap.size, 1, none⟩ = some (.slice (some ⟨X2g, 0, none⟩) n2 n2) := cell_b b16 x21_15
  have HR_16 := Lib.hid (HR_15.out.kept (Kept.of_below b16 (by omega)))
  have HX0_16 := Lib.hid (HX0_15.out.kept (Kept.of_below b16 (by omega)))
  have HX1_16 := Lib.hid (HX1_15.out.kept (Kept.of_below b16 (by omega)))
  have HX2_16 := Lib.hid (HX2_15.out.kept (Kept.of_below b16 (by omega)))
  have HXI3_16 := Lib.hid (HXI3_15.out.kept (Kept.of_below b16 (by omega)))
  have HXI4_16 := Lib.hid (HXI4_15.out.kept (Kept.of_below b16 (by omega)))
  have HG_16 := Lib.hid (HG_15.out.kept (Kept.of_below b16 (by omega)))
  have B16 : Hid (Below w.heap.size w w16) := below_then B15.out b16
  clear a00_15 a01_15 a10_15 a11_15 a20_15 a21_15 x00_15 x01_15 x10_15 x11_15 x20_15 x21_15 HR_15 HX0_15 HX1_15 HX2_15 HXI3_15 HXI4_15 HG_15 b_
  clear HC_
  clear HGV_
  go_wp2_with fail
  refine wp_region_noPanic ?_
  refine wp_region_held_drew (S := fun W => W.cell? ⟨w.heap.size, 0, none⟩ = some (.int .i64 z0) ∧ W.cell? ⟨w.heap.size, 1, none⟩ = some (.slice a0 n0 c0) ∧ W.cell? ⟨w.heap.size + 1, 0, none⟩ = some (.int .i64 z1) ∧ W.cell? ⟨w.heap.size + 1, 1, none⟩ = some (.slice a1 n1 c1) ∧ W.cell? ⟨w.heap.size + 1 + 1, 0, none⟩ = some (.int .i64 z2) ∧ W.cell? ⟨w.heap.size + 1 + 1, 1, none⟩ = some (.slice a2 n2 c2) ∧ W.cell? ⟨w10.heap.size, 0, none⟩ = some (.int .i64 z0) ∧ W.cell? ⟨w10.heap.size, 1, none⟩ = some (.slice (some ⟨X0g, 0, none⟩) n0 n0) ∧ W.cell? ⟨w11.heap.size, 0, none⟩ = some (.int .i64 z1) ∧ W.cell? ⟨w11.heap.size, 1, none⟩ = some (.slice (some ⟨X1g, 0, none⟩) n1 n1) ∧ W.cell? ⟨w12.heap.size, 0, none⟩ = some (.int .i64 z2) ∧ W.cell? ⟨w12.heap.size, 1, none⟩ = some (.slice (some ⟨X2g, 0, none⟩) n2 n2)) (by kernel_rfl) ?_ (fun hHeld => ?_)
  · exact ⟨a00_16, a01_16, a10_16, a11_16, a20_16, a21_16, x00_16, x01_16, x10_16, x11_16, x20_16, x21_16⟩
  refine wpAnyH_take (i := 0) (oi := ⟨_, _, _, _, _, _⟩) (v := ?_) rfl (by kernel_rfl) (by kernel_rfl) (by kernel_rfl) (fun _ _ _ h => h) (Or.inl ⟨rfl, ?_⟩) (by assumption) ?_
  rotate_left 1
  · intro w_ hSw; (try dsimp only at hSw); go_simp; (try with_reducible rfl)
  (try simp only [Act.put, List.setIfInBounds_toArray, List.set_cons_zero, List.set_cons_succ])
  refine wpAnyH_take (i := 1) (oi := ⟨_, _, _, _, _, _⟩) (v := ?_) rfl (by kernel_rfl) (by kernel_rfl) (by kernel_rfl) (fun _ _ _ h => h) (Or.inl ⟨rfl, ?_⟩) (by assumption) ?_
  rotate_left 1
  · intro w_ hSw; (try dsimp only at hSw); go_simp; (try with_reducible rfl)
  (try simp only [Act.put, List.setIfInBounds_toArray, List.set_cons_zero, List.set_cons_succ])
  refine wpAnyH_ready (rs := [2]) (by kernel_rfl) (by simp) ?_
  refine AllReadyH.cons (o := ⟨_, _, _, _, _, _⟩) rfl (fun K hK => ?_) AllReadyH.nil
  go_simp
  go_at_call 17
  have hC_ := toAlg_view w.heap.size z0 a0 c0 n0 fs0 w16.drew (HV0.out.kept (Kept.of_below (below_then B16.out (below_drew w16)) (Nat.le_refl _))) (below_then B16.out (below_drew w16)).size hn3_0 HS80.out
  refine hC_.mono ?_
  clear hC_
  rintro e w17 ⟨Y0g, rfl, m_⟩; have b_ := m_.2
  have b17 : Below w16.heap.size w16 w17 := below_then (below_drew w16) b_
  have s17 : w16.heap.size ≤ w17.heap.size := b17.size
  have a00_17 : w17.cell? ⟨w.heap.size, 0, none⟩ = some (.int .i64 z0) := cell_b b17 a00_16
  have a01_17 : w17.cell? ⟨w.heap.size, 1, none⟩ = some (.slice a0 n0 c0) := cell_b b17 a01_16
  have a10_17 : w17.cell? ⟨w.heap.size + 1, 0, none⟩ = some (.int .i64 z1) := cell_b b17 a10_16
  have a11_17 : w17.cell? ⟨w.heap.size + 1, 1, none⟩ = some (.slice a1 n1 c1) := cell_b b17 a11_16
  have a20_17 : w17.cell? ⟨w.heap.size + 1 + 1, 0, none⟩ = some (.int .i64 z2) := cell_b b17 a20_16
  have a21_17 : w17.cell? ⟨w.heap.size + 1 + 1, 1, none⟩ = some (.slice a2 n2 c2) := cell_b b17 a21_16
  have x00_17 : w17.cell? ⟨w10.heap.size, 0, none⟩ = some (.int .i64 z0) := cell_b b17 x00_16
  have x01_17 : w17.cell? ⟨w10.heap.size, 1, none⟩ = some (.slice (some ⟨X0g, 0, none⟩) n0 n0) := cell_b b17 x01_16
  have x10_17 : w17.cell? ⟨w11.heap.size, 0, none⟩ = some (.int .i64 z1) := cell_b b17 x10_16
  have x11_17 : w17.cell? ⟨w11.heap.size, 1, none⟩ = some (.slice (some ⟨X1g, 0, none⟩) n1 n1) := cell_b b17 x11_16
  have x20_17 : w17.cell? ⟨w12.heap.size, 0, none⟩ = some (.int .i64 z2) := cell_b b17 x20_16
  have x21_17 : w17.cell? ⟨w12.heap.size, 1, none⟩ = some (.slice (some ⟨X2g, 0, none⟩) n2 n2) := cell_b b17 x21_16
  have HR_17 := Lib.hid (HR_16.out.kept (Kept.of_below b17 (by omega)))
  have HX0_17 := Lib.hid (HX0_16.out.kept (Kept.of_below b17 (by omega)))
  have HX1_17 := Lib.hid (HX1_16.out.kept (Kept.of_below b17 (by omega)))
  have HX2_17 := Lib.hid (HX2_16.out.kept (Kept.of_below b17 (by omega)))
  have HXI3_17 := Lib.hid (HXI3_16.out.kept (Kept.of_below b17 (by omega)))
  have HXI4_17 := Lib.hid (HXI4_16.out.kept (Kept.of_below b17 (by omega)))
  have HG_17 := Lib.hid (HG_16.out.kept (Kept.of_below b17 (by omega)))
  have B17 : Hid (Below w.heap.size w w17) := below_then B16.out b17
  clear a00_16 a01_16 a10_16 a11_16 a20_16 a21_16 x00_16 x01_16 x10_16 x11_16 x20_16 x21_16 HR_16 HX0_16 HX1_16 HX2_16 HXI3_16 HXI4_16 HG_16 b_
  have m_ := m_.view hl0.out
  simp only [World.size_alloc, World.size_drew] at m_
  have HY0_17 := Lib.hid m_
  clear m_
  go_wp2_with fail
  refine hK.out _ _ ?_ (fun hHeld => ?_)
  · exact ⟨a00_17, a01_17, a10_17, a11_17, a20_17, a21_17, x00_17, x01_17, x10_17, x11_17, x20_17, x21_17⟩
  clear hK K
  (try simp only [Act.put, List.setIfInBounds_toArray, List.set_cons_zero, List.set_cons_succ])
  refine wpAnyH_ready (rs := [3]) (by kernel_rfl) (by simp) ?_
  refine AllReadyH.cons (o := ⟨_, _, _, _, _, _⟩) rfl (fun K hK => ?_) AllReadyH.nil
  go_simp
  have h_ := HX0_17.out.view
  rw [← hl0.out, map_range_get, hl0.out] at h_
  have XV_ := Lib.hid h_
  clear h_
  go_at_call 20
  have hC_ := eqAlg_view _ _ _ _ z0 _ _ n0 n0 n0 fs0 w17 XV_.out HY0_17.out (by unfold maxLen; omega) HSM0.out (by omega) (by omega)
  refine hC_.mono ?_
  clear hC_
  rintro e w18 ⟨rfl, b_⟩; clear XV_
  have b18 : Below w17.heap.size w17 w18 := b_
  have s18 : w17.heap.size ≤ w18.heap.size := b18.size
  have a00_18 : w18.cell? ⟨w.heap.size, 0, none⟩ = some (.int .i64 z0) := cell_b b18 a00_17
  have a01_18 : w18.cell? ⟨w.heap.size, 1, none⟩ = some (.slice a0 n0 c0) := cell_b b18 a01_17
  have a10_18 : w18.cell? ⟨w.heap.size + 1, 0, none⟩ = some (.int .i64 z1) := cell_b b18 a10_17
  have a11_18 : w18.cell? ⟨w.heap.size + 1, 1, none⟩ = some (.slice a1 n1 c1) := cell_b b18 a11_17
  have a20_18 : w18.cell? ⟨w.heap.size + 1 + 1, 0, none⟩ = some (.int .i64 z2) := cell_b b18 a20_17
  have a21_18 : w18.cell? ⟨w.heap.size + 1 + 1, 1, none⟩ = some (.slice a2 n2 c2) := cell_b b18 a21_17
  have x00_18 : w18.cell? ⟨w10.heap.size, 0, none⟩ = some (.int .i64 z0) := cell_b b18 x00_17
  have x01_18 : w18.cell? ⟨w10.heap.size, 1, none⟩ = some (.slice (some ⟨X0g, 0, none⟩) n0 n0) := cell_b b18 x01_17
  have x10_18 : w18.cell? ⟨w11.heap.size, 0, none⟩ = some (.int .i64 z1) := cell_b b18 x10_17
  have x11_18 : w18.cell? ⟨w11.heap.size, 1, none⟩ = some (.slice (some ⟨X1g, 0, none⟩) n1 n1) := cell_b b18 x11_17
  have x20_18 : w18.cell? ⟨w12.heap.size, 0, none⟩ = some (.int .i64 z2) := cell_b b18 x20_17
  have x21_18 : w18.cell? ⟨w12.heap.size, 1, none⟩ = some (.slice (some ⟨X2g, 0, none⟩) n2 n2) := cell_b b18 x21_17
  have HR_18 := Lib.hid (HR_17.out.kept (Kept.of_below b18 (by omega)))
  have HX0_18 := Lib.hid (HX0_17.out.kept (Kept.of_below b18 (by omega)))
  have HX1_18 := Lib.hid (HX1_17.out.kept (Kept.of_below b18 (by omega)))
  have HX2_18 := Lib.hid (HX2_17.out.kept (Kept.of_below b18 (by omega)))
  have HXI3_18 := Lib.hid (HXI3_17.out.kept (Kept.of_below b18 (by omega)))
  have HXI4_18 := Lib.hid (HXI4_17.out.kept (Kept.of_below b18 (by omega)))
  have HG_18 := Lib.hid (HG_17.out.kept (Kept.of_below b18 (by omega)))
  have HY0_18 := Lib.hid (HY0_17.out.kept (Kept.of_below b18 (by omega)))
  have B18 : Hid (Below w.heap.size w w18) := below_then B17.out b18
  clear a00_17 a01_17 a10_17 a11_17 a20_17 a21_17 x00_17 x01_17 x10_17 x11_17 x20_17 x21_17 HR_17 HX0_17 HX1_17 HX2_17 HXI3_17 HXI4_17 HG_17 HY0_17 b_
  go_wp2_with fail
  refine hK.out _ _ ?_ (fun hHeld => ?_)
  · exact ⟨a00_18, a01_18, a10_18, a11_18, a20_18, a21_18, x00_18, x01_18, x10_18, x11_18, x20_18, x21_18⟩
  clear hK K
  (try simp only [Act.put, List.setIfInBounds_toArray, List.set_cons_zero, List.set_cons_succ])
  refine wpAnyH_take (i := 4) (oi := ⟨_, _, _, _, _, _⟩) (v := ?_) rfl (by kernel_rfl) (by kernel_rfl) (by kernel_rfl) (fun _ _ _ h => h) (Or.inl ⟨rfl, ?_⟩) (by assumption) ?_
  rotate_left 1
  · intro w_ hSw; (try dsimp only at hSw); go_simp; (try with_reducible rfl)
  (try simp only [Act.put, List.setIfInBounds_toArray, List.set_cons_zero, List.set_cons_succ])
  refine wpAnyH_done (by kernel_rfl) ?_ _
  refine NoPanic.normal ?_
  clear HY0_18
  go_wp2_with fail
  refine wp_region_noPanic ?_
  refine wp_region_held_drew (S := fun W => W.cell? ⟨w.heap.size, 0, none⟩ = some (.int .i64 z0) ∧ W.cell? ⟨w.heap.size, 1, none⟩ = some (.slice a0 n0 c0) ∧ W.cell? ⟨w.heap.size + 1, 0, none⟩ = some (.int .i64 z1) ∧ W.cell? ⟨w.heap.size + 1, 1, none⟩ = some (.slice a1 n1 c1) ∧ W.cell? ⟨w.heap.size + 1 + 1, 0, none⟩ = some (.int .i64 z2) ∧ W.cell? ⟨w.heap.size + 1 + 1, 1, none⟩ = some (.slice a2 n2 c2) ∧ W.cell? ⟨w10.heap.size, 0, none⟩ = some (.int .i64 z0) ∧ W.cell? ⟨w10.heap.size, 1, none⟩ = some (.slice (some ⟨X0g, 0, none⟩) n0 n0) ∧ W.cell? ⟨w11.heap.size, 0, none⟩ = some (.int .i64 z1) ∧ W.cell? ⟨w11.heap.size, 1, none⟩ = some (.slice (some ⟨X1g, 0, none⟩) n1 n1) ∧ W.cell? ⟨w12.heap.size, 0, none⟩ = some (.int .i64 z2) ∧ W.cell? ⟨w12.heap.size, 1, none⟩ = some (.slice (some ⟨X2g, 0, none⟩) n2 n2)) (by kernel_rfl) ?_ (fun hHeld => ?_)
  · exact ⟨a00_18, a01_18, a10_18, a11_18, a20_18, a21_18, x00_18, x01_18, x10_18, x11_18, x20_18, x21_18⟩
  refine wpAnyH_take (i := 0) (oi := ⟨_, _, _, _, _, _⟩) (v := ?_) rfl (by kernel_rfl) (by kernel_rfl) (by kernel_rfl) (fun _ _ _ h => h) (Or.inl ⟨rfl, ?_⟩) (by assumption) ?_
  rotate_left 1
  · intro w_ hSw; (try dsimp only at hSw); go_simp; (try with_reducible rfl)
  (try simp only [Act.put, List.setIfInBounds_toArray, List.set_cons_zero, List.set_cons_succ])
  refine wpAnyH_take (i := 1) (oi := ⟨_, _, _, _, _, _⟩) (v := ?_) rfl (by kernel_rfl) (by kernel_rfl) (by kernel_rfl) (fun _ _ _ h => h) (Or.inl ⟨rfl, ?_⟩) (by assumption) ?_
  rotate_left 1
  · intro w_ hSw; (try dsimp only at hSw); go_simp; (try with_reducible rfl)
  (try simp only [Act.put, List.setIfInBounds_toArray, List.set_cons_zero, List.set_cons_succ])
  refine wpAnyH_ready (rs := [2]) (by kernel_rfl) (by simp) ?_
  refine AllReadyH.cons (o := ⟨_, _, _, _, _, _⟩) rfl (fun K hK => ?_) AllReadyH.nil
  go_simp
  go_at_call 17
  have hC_ := toAlg_view w.heap.size z1 a1 c1 n1 fs1 w18.drew (HV1.out.kept (Kept.of_below (below_then B18.out (below_drew w18)) (Nat.le_refl _))) (below_then B18.out (below_drew w18)).size hn3_1 HS81.out
  refine hC_.mono ?_
  clear hC_
  rintro e w19 ⟨Y1g, rfl, m_⟩; have b_ := m_.2
  have b19 : Below w18.heap.size w18 w19 := below_then (below_drew w18) b_
  have s19 : w18.heap.size ≤ w19.heap.size := b19.size
  have a00_19 : w19.cell? ⟨w.heap.size, 0, none⟩ = some (.int .i64 z0) := cell_b b19 a00_18
  have a01_19 : w19.cell? ⟨w.heap.size, 1, none⟩ = some (.slice a0 n0 c0) := cell_b b19 a01_18
  have a10_19 : w19.cell? ⟨w.heap.size + 1, 0, none⟩ = some (.int .i64 z1) := cell_b b19 a10_18
  have a11_19 : w19.cell? ⟨w.heap.size + 1, 1, none⟩ = some (.slice a1 n1 c1) := cell_b b19 a11_18
  have a20_19 : w19.cell? ⟨w.heap.size + 1 + 1, 0, none⟩ = some (.int .i64 z2) := cell_b b19 a20_18
  have a21_19 : w19.cell? ⟨w.heap.size + 1 + 1, 1, none⟩ = some (.slice a2 n2 c2) := cell_b b19 a21_18
  have x00_19 : w19.cell? ⟨w10.heap.size, 0, none⟩ = some (.int .i64 z0) := cell_b b19 x00_18
  have x01_19 : w19.cell? ⟨w10.heap.size, 1, none⟩ = some (.slice (some ⟨X0g, 0, none⟩) n0 n0) := cell_b b19 x01_18
  have x10_19 : w19.cell? ⟨w11.heap.size, 0, none⟩ = some (.int .i64 z1) := cell_b b19 x10_18
  have x11_19 : w19.cell? ⟨w11.heap.size, 1, none⟩ = some (.slice (some ⟨X1g, 0, none⟩) n1 n1) := cell_b b19 x11_18
  have x20_19 : w19.cell? ⟨w12.heap.size, 0, none⟩ = some (.int .i64 z2) := cell_b b19 x20_18
  have x21_19 : w19.cell? ⟨w12.heap.size, 1, none⟩ = some (.slice (some ⟨X2g, 0, none⟩) n2 n2) := cell_b b19 x21_18
  have HR_19 := Lib.hid (HR_18.out.kept (Kept.of_below b19 (by omega)))
  have HX0_19 := Lib.hid (HX0_18.out.kept (Kept.of_below b19 (by omega)))
  have HX1_19 := Lib.hid (HX1_18.out.kept (Kept.of_below b19 (by omega)))
  have HX2_19 := Lib.hid (HX2_18.out.kept (Kept.of_below b19 (by omega)))
  have HXI3_19 := Lib.hid (HXI3_18.out.kept (Kept.of_below b19 (by omega)))
  have HXI4_19 := Lib.hid (HXI4_18.out.kept (Kept.of_below b19 (by omega)))
  have HG_19 := Lib.hid (HG_18.out.kept (Kept.of_below b19 (by omega)))
  have B19 : Hid (Below w.heap.size w w19) := below_then B18.out b19
  clear a00_18 a01_18 a10_18 a11_18 a20_18 a21_18 x00_18 x01_18 x10_18 x11_18 x20_18 x21_18 HR_18 HX0_18 HX1_18 HX2_18 HXI3_18 HXI4_18 HG_18 b_
  have m_ := m_.view hl1.out
  simp only [World.size_alloc, World.size_drew] at m_
  have HY1_19 := Lib.hid m_
  clear m_
  go_wp2_with fail
  refine hK.out _ _ ?_ (fun hHeld => ?_)
  · exact ⟨a00_19, a01_19, a10_19, a11_19, a20_19, a21_19, x00_19, x01_19, x10_19, x11_19, x20_19, x21_19⟩
  clear hK K
  (try simp only [Act.put, List.setIfInBounds_toArray, List.set_cons_zero, List.set_cons_succ])
  refine wpAnyH_ready (rs := [3]) (by kernel_rfl) (by simp) ?_
  refine AllReadyH.cons (o := ⟨_, _, _, _, _, _⟩) rfl (fun K hK => ?_) AllReadyH.nil
  go_simp
  have h_ := HX1_19.out.view
  rw [← hl1.out, map_range_get, hl1.out] at h_
  have XV_ := Lib.hid h_
  clear h_
  go_at_call 20
  have hC_ := eqAlg_view _ _ _ _ z1 _ _ n1 n1 n1 fs1 w19 XV_.out HY1_19.out (by unfold maxLen; omega) HSM1.out (by omega) (by omega)
  refine hC_.mono ?_
  clear hC_
  rintro e w20 ⟨rfl, b_⟩; clear XV_
  have b20 : Below w19.heap.size w19 w20 := b_
  have s20 : w19.heap.size ≤ w20.heap.size := b20.size
  have a00_20 : w20.cell? ⟨w.heap.size, 0, none⟩ = some (.int .i64 z0) := cell_b b20 a00_19
  have a01_20 : w20.cell? ⟨w.heap.size, 1, none⟩ = some (.slice a0 n0 c0) := cell_b b20 a01_19
  have a10_20 : w20.cell? ⟨w.heap.size + 1, 0, none⟩ = some (.int .i64 z1) := cell_b b20 a10_19
  have a11_20 : w20.cell? ⟨w.heap.size + 1, 1, none⟩ = some (.slice a1 n1 c1) := cell_b b20 a11_19
  have a20_20 : w20.cell? ⟨w.heap.size + 1 + 1, 0, none⟩ = some (.int .i64 z2) := cell_b b20 a20_19
  have a21_20 : w20.cell? ⟨w.heap.size + 1 + 1, 1, none⟩ = some (.slice a2 n2 c2) := cell_b b20 a21_19
  have x00_20 : w20.cell? ⟨w10.heap.size, 0, none⟩ = some (.int .i64 z0) := cell_b b20 x00_19
  have x01_20 : w20.cell? ⟨w10.heap.size, 1, none⟩ = some (.slice (some ⟨X0g, 0, none⟩) n0 n0) := cell_b b20 x01_19
  have x10_20 : w20.cell? ⟨w11.heap.size, 0, none⟩ = some (.int .i64 z1) := cell_b b20 x10_19
  have x11_20 : w20.cell? ⟨w11.heap.size, 1, none⟩ = some (.slice (some ⟨X1g, 0, none⟩) n1 n1) := cell_b b20 x11_19
  have x20_20 : w20.cell? ⟨w12.heap.size, 0, none⟩ = some (.int .i64 z2) := cell_b b20 x20_19
  have x21_20 : w20.cell? ⟨w12.heap.size, 1, none⟩ = some (.slice (some ⟨X2g, 0, none⟩) n2 n2) := cell_b b20 x21_19
  have HR_20 := Lib.hid (HR_19.out.kept (Kept.of_below b20 (by omega)))
  have HX0_20 := Lib.hid (HX0_19.out.kept (Kept.of_below b20 (by omega)))
  have HX1_20 := Lib.hid (HX1_19.out.kept (Kept.of_below b20 (by omega)))
  have HX2_20 := Lib.hid (HX2_19.out.kept (Kept.of_below b20 (by omega)))
  have HXI3_20 := Lib.hid (HXI3_19.out.kept (Kept.of_below b20 (by omega)))
  have HXI4_20 := Lib.hid (HXI4_19.out.kept (Kept.of_below b20 (by omega)))
  have HG_20 := Lib.hid (HG_19.out.kept (Kept.of_below b20 (by omega)))
  have HY1_20 := Lib.hid (HY1_19.out.kept (Kept.of_below b20 (by omega)))
  have B20 : Hid (Below w.heap.size w w20) := below_then B19.out b20
  clear a00_19 a01_19 a10_19 a11_19 a20_19 a21_19 x00_19 x01_19 x10_19 x11_19 x20_19 x21_19 HR_19 HX0_19 HX1_19 HX2_19 HXI3_19 HXI4_19 HG_19 HY1_19 b_
  go_wp2_with fail
  refine hK.out _ _ ?_ (fun hHeld => ?_)
  · exact ⟨a00_20, a01_20, a10_20, a11_20, a20_20, a21_20, x00_20, x01_20, x10_20, x11_20, x20_20, x21_20⟩
  clear hK K
  (try simp only [Act.put, List.setIfInBounds_toArray, List.set_cons_zero, List.set_cons_succ])
  refine wpAnyH_take (i := 4) (oi := ⟨_, _, _, _, _, _⟩) (v := ?_) rfl (by kernel_rfl) (by kernel_rfl) (by kernel_rfl) (fun _ _ _ h => h) (Or.inl ⟨rfl, ?_⟩) (by assumption) ?_
  rotate_left 1
  · intro w_ hSw; (try dsimp only at hSw); go_simp; (try with_reducible rfl)
  (try simp only [Act.put, List.setIfInBounds_toArray, List.set_cons_zero, List.set_cons_succ])
  refine wpAnyH_done (by kernel_rfl) ?_ _
  refine NoPanic.normal ?_
  clear HY1_20
  go_wp2_with fail
  refine wp_region_noPanic ?_
  refine wp_region_held_drew (S := fun W => W.cell? ⟨w.heap.size, 0, none⟩ = some (.int .i64 z0) ∧ W.cell? ⟨w.heap.size, 1, none⟩ = some (.slice a0 n0 c0) ∧ W.cell? ⟨w.heap.size + 1, 0, none⟩ = some (.int .i64 z1) ∧ W.cell? ⟨w.heap.size + 1, 1, none⟩ = some (.slice a1 n1 c1) ∧ W.cell? ⟨w.heap.size + 1 + 1, 0, none⟩ = some (.int .i64 z2) ∧ W.cell? ⟨w.heap.size + 1 + 1, 1, none⟩ = some (.slice a2 n2 c2) ∧ W.cell? ⟨w10.heap.size, 0, none⟩ = some (.int .i64 z0) ∧ W.cell? ⟨w10.heap.size, 1, none⟩ = some (.slice (some ⟨X0g, 0, none⟩) n0 n0) ∧ W.cell? ⟨w11.heap.size, 0, none⟩ = some (.int .i64 z1) ∧ W.cell? ⟨w11.heap.size, 1, none⟩ = some (.slice (some ⟨X1g, 0, none⟩) n1 n1) ∧ W.cell? ⟨w12.heap.size, 0, none⟩ = some (.int .i64 z2) ∧ W.cell? ⟨w12.heap.size, 1, none⟩ = some (.slice (some ⟨X2g, 0, none⟩) n2 n2)) (by kernel_rfl) ?_ (fun hHeld => ?_)
  · exact ⟨a00_20, a01_20, a10_20, a11_20, a20_20, a21_20, x00_20, x01_20, x10_20, x11_20, x20_20, x21_20⟩
  refine wpAnyH_take (i := 0) (oi := ⟨_, _, _, _, _, _⟩) (v := ?_) rfl (by kernel_rfl) (by kernel_rfl) (by kernel_rfl) (fun _ _ _ h => h) (Or.inl ⟨rfl, ?_⟩) (by assumption) ?_
  rotate_left 1
  · intro w_ hSw; (try dsimp only at hSw); go_simp; (try with_reducible rfl)
  (try simp only [Act.put, List.setIfInBounds_toArray, List.set_cons_zero, List.set_cons_succ])
  refine wpAnyH_take (i := 1) (oi := ⟨_, _, _, _, _, _⟩) (v := ?_) rfl (by kernel_rfl) (by kernel_rfl) (by kernel_rfl) (fun _ _ _ h => h) (Or.inl ⟨rfl, ?_⟩) (by assumption) ?_
  rotate_left 1
  · intro w_ hSw; (try dsimp only at hSw); go_simp; (try with_reducible rfl)
  (try simp only [Act.put, List.setIfInBounds_toArray, List.set_cons_zero, List.set_cons_succ])
  refine wpAnyH_ready (rs := [2]) (by kernel_rfl) (by simp) ?_
  refine AllReadyH.cons (o := ⟨_, _, _, _, _, _⟩) rfl (fun K hK => ?_) AllReadyH.nil
  go_simp
  go_at_call 17
  have hC_ := toAlg_view w.heap.size z2 a2 c2 n2 fs2 w20.drew (HV2.out.kept (Kept.of_below (below_then B20.out (below_drew w20)) (Nat.le_refl _))) (below_then B20.out (below_drew w20)).size hn3_2 HS82.out
  refine hC_.mono ?_
  clear hC_
  rintro e w21 ⟨Y2g, rfl, m_⟩; have b_ := m_.2
  have b21 : Below w20.heap.size w20 w21 := below_then (below_drew w20) b_
  have s21 : w20.heap.size ≤ w21.heap.size := b21.size
  have a00_21 : w21.cell? ⟨w.heap.size, 0, none⟩ = some (.int .i64 z0) := cell_b b21 a00_20
  have a01_21 : w21.cell? ⟨w.heap.size, 1, none⟩ = some (.slice a0 n0 c0) := cell_b b21 a01_20
  have a10_21 : w21.cell? ⟨w.heap.size + 1, 0, none⟩ = some (.int .i64 z1) := cell_b b21 a10_20
  have a11_21 : w21.cell? ⟨w.heap.size + 1, 1, none⟩ = some (.slice a1 n1 c1) := cell_b b21 a11_20
  have a20_21 : w21.cell? ⟨w.heap.size + 1 + 1, 0, none⟩ = some (.int .i64 z2) := cell_b b21 a20_20
  have a21_21 : w21.cell? ⟨w.heap.size + 1 + 1, 1, none⟩ = some (.slice a2 n2 c2) := cell_b b21 a21_20
  have x00_21 : w21.cell? ⟨w10.heap.size, 0, none⟩ = some (.int .i64 z0) := cell_b b21 x00_20
  have x01_21 : w21.cell? ⟨w10.heap.size, 1, none⟩ = some (.slice (some ⟨X0g, 0, none⟩) n0 n0) := cell_b b21 x01_20
  have x10_21 : w21.cell? ⟨w11.heap.size, 0, none⟩ = some (.int .i64 z1) := cell_b b21 x10_20
  have x11_21 : w21.cell? ⟨w11.heap.size, 1, none⟩ = some (.slice (some ⟨X1g, 0, none⟩) n1 n1) := cell_b b21 x11_20
  have x20_21 : w21.cell? ⟨w12.heap.size, 0, none⟩ = some (.int .i64 z2) := cell_b b21 x20_20
  have x21_21 : w21.cell? ⟨w12.heap.size, 1, none⟩ = some (.slice (some ⟨X2g, 0, none⟩) n2 n2) := cell_b b21 x21_20
  have HR_21 := Lib.hid (HR_20.out.kept (Kept.of_below b21 (by omega)))
  have HX0_21 := Lib.hid (HX0_20.out.kept (Kept.of_below b21 (by omega)))
  have HX1_21 := Lib.hid (HX1_20.out.kept (Kept.of_below b21 (by omega)))
  have HX2_21 := Lib.hid (HX2_20.out.kept (Kept.of_below b21 (by omega)))
  have HXI3_21 := Lib.hid (HXI3_20.out.kept (Kept.of_below b21 (by omega)))
  have HXI4_21 := Lib.hid (HXI4_20.out.kept (Kept.of_below b21 (by omega)))
  have HG_21 := Lib.hid (HG_20.out.kept (Kept.of_below b21 (by omega)))
  have B21 : Hid (Below w.heap.size w w21) := below_then B20.out b21
  clear a00_20 a01_20 a10_20 a11_20 a20_20 a21_20 x00_20 x01_20 x10_20 x11_20 x20_20 x21_20 HR_20 HX0_20 HX1_20 HX2_20 HXI3_20 HXI4_20 HG_20 b_
  have m_ := m_.view hl2.out
  simp only [World.size_alloc, World.size_drew] at m_
  have HY2_21 := Lib.hid m_
  clear m_
  go_wp2_with fail
  refine hK.out _ _ ?_ (fun hHeld => ?_)
  · exact ⟨a00_21, a01_21, a10_21, a11_21, a20_21, a21_21, x00_21, x01_21, x10_21, x11_21, x20_21, x21_21⟩
  clear hK K
  (try simp only [Act.put, List.setIfInBounds_toArray, List.set_cons_zero, List.set_cons_succ])
  refine wpAnyH_ready (rs := [3]) (by kernel_rfl) (by simp) ?_
  refine AllReadyH.cons (o := ⟨_, _, _, _, _, _⟩) rfl (fun K hK => ?_) AllReadyH.nil
  go_simp
  have h_ := HX2_21.out.view
  rw [← hl2.out, map_range_get, hl2.out] at h_
  have XV_ := Lib.hid h_
  clear h_
  go_at_call 20
  have hC_ := eqAlg_view _ _ _ _ z2 _ _ n2 n2 n2 fs2 w21 XV_.out HY2_21.out (by unfold maxLen; omega) HSM2.out (by omega) (by omega)
  refine hC_.mono ?_
  clear hC_
  rintro e w22 ⟨rfl, b_⟩; clear XV_
  have b22 : Below w21.heap.size w21 w22 := b_
  have s22 : w21.heap.size ≤ w22.heap.size := b22.size
  have a00_22 : w22.cell? ⟨w.heap.size, 0, none⟩ = some (.int .i64 z0) := cell_b b22 a00_21
  have a01_22 : w22.cell? ⟨w.heap.size, 1, none⟩ = some (.slice a0 n0 c0) := cell_b b22 a01_21
  have a10_22 : w22.cell? ⟨w.heap.size + 1, 0, none⟩ = some (.int .i64 z1) := cell_b b22 a10_21
  have a11_22 : w22.cell? ⟨w.heap.size + 1, 1, none⟩ = some (.slice a1 n1 c1) := cell_b b22 a11_21
  have a20_22 : w22.cell? ⟨w.heap.size + 1 + 1, 0, none⟩ = some (.int .i64 z2) := cell_b b22 a20_21
  have a21_22 : w22.cell? ⟨w.heap.size + 1 + 1, 1, none⟩ = some (.slice a2 n2 c2) := cell_b b22 a21_21
  have x00_22 : w22.cell? ⟨w10.heap.size, 0, none⟩ = some (.int .i64 z0) := cell_b b22 x00_21
  have x01_22 : w22.cell? ⟨w10.heap.size, 1, none⟩ = some (.slice (some ⟨X0g, 0, none⟩) n0 n0) := cell_b b22 x01_21
  have x10_22 : w22.cell? ⟨w11.heap.size, 0, none⟩ = some (.int .i64 z1) := cell_b b22 x10_21
  have x11_22 : w22.cell? ⟨w11.heap.size, 1, none⟩ = some (.slice (some ⟨X1g, 0, none⟩) n1 n1) := cell_b b22 x11_21
  have x20_22 : w22.cell? ⟨w12.heap.size, 0, none⟩ = some (.int .i64 z2) := cell_b b22 x20_21
  have x21_22 : w22.cell? ⟨w12.heap.size, 1, none⟩ = some (.slice (some ⟨X2g, 0, none⟩) n2 n2) := cell_b b22 x21_21
  have HR_22 := Lib.hid (HR_21.out.kept (Kept.of_below b22 (by omega)))
  have HX0_22 := Lib.hid (HX0_21.out.kept (Kept.of_below b22 (by omega)))
  have HX1_22 := Lib.hid (HX1_21.out.kept (Kept.of_below b22 (by omega)))
  have HX2_22 := Lib.hid (HX2_21.out.kept (Kept.of_below b22 (by omega)))
  have HXI3_22 := Lib.hid (HXI3_21.out.kept (Kept.of_below b22 (by omega)))
  have HXI4_22 := Lib.hid (HXI4_21.out.kept (Kept.of_below b22 (by omega)))
  have HG_22 := Lib.hid (HG_21.out.kept (Kept.of_below b22 (by omega)))
  have HY2_22 := Lib.hid (HY2_21.out.kept (Kept.of_below b22 (by omega)))
  have B22 : Hid (Below w.heap.size w w22) := below_then B21.out b22
  clear a00_21 a01_21 a10_21 a11_21 a20_21 a21_21 x00_21 x01_21 x10_21 x11_21 x20_21 x21_21 HR_21 HX0_21 HX1_21 HX2_21 HXI3_21 HXI4_21 HG_21 HY2_21 b_
  go_wp2_with fail
  refine hK.out _ _ ?_ (fun hHeld => ?_)
  · exact ⟨a00_22, a01_22, a10_22, a11_22, a20_22, a21_22, x00_22, x01_22, x10_22, x11_22, x20_22, x21_22⟩
  clear hK K
  (try simp only [Act.put, List.setIfInBounds_toArray, List.set_cons_zero, List.set_cons_succ])
  refine wpAnyH_take (i := 4) (oi := ⟨_, _, _, _, _, _⟩) (v := ?_) rfl (by kernel_rfl) (by kernel_rfl) (by kernel_rfl) (fun _ _ _ h => h) (Or.inl ⟨rfl, ?_⟩) (by assumption) ?_
  rotate_left 1
  · intro w_ hSw; (try dsimp only at hSw); go_simp; (try with_reducible rfl)
  (try simp only [Act.put, List.setIfInBounds_toArray, List.set_cons_zero, List.set_cons_succ])
  refine wpAnyH_done (by kernel_rfl) ?_ _
  refine NoPanic.normal ?_
  clear HY2_22
  have hC_ := toInts_view 0 w.heap.size a3 c3 n3 xs3 w22 (HV3.out.kept (Kept.of_below B22.out (Nat.le_refl _))) B22.out.size (by omega)
  have HC_ := Lib.hid hC_
  clear hC_
  go_wp2_with fail
  refine HC_.out.mono ?_
  rintro e w23 ⟨rfl, o_, b_⟩
  have b23 : Below w22.heap.size w22 w23 := b_
  have s23 : w22.heap.size ≤ w23.heap.size := b23.size
  have a00_23 : w23.cell? ⟨w.heap.size, 0, none⟩ = some (.int .i64 z0) := cell_b b23 a00_22
  have a01_23 : w23.cell? ⟨w.heap.size, 1, none⟩ = some (.slice a0 n0 c0) := cell_b b23 a01_22
  have a10_23 : w23.cell? ⟨w.heap.size + 1, 0, none⟩ = some (.int .i64 z1) := cell_b b23 a10_22
  have a11_23 : w23.cell? ⟨w.heap.size + 1, 1, none⟩ = some (.slice a1 n1 c1) := cell_b b23 a11_22
  have a20_23 : w23.cell? ⟨w.heap.size + 1 + 1, 0, none⟩ = some (.int .i64 z2) := cell_b b23 a20_22
  have a21_23 : w23.cell? ⟨w.heap.size + 1 + 1, 1, none⟩ = some (.slice a2 n2 c2) := cell_b b23 a21_22
  have x00_23 : w23.cell? ⟨w10.heap.size, 0, none⟩ = some (.int .i64 z0) := cell_b b23 x00_22
  have x01_23 : w23.cell? ⟨w10.heap.size, 1, none⟩ = some (.slice (some ⟨X0g, 0, none⟩) n0 n0) := cell_b b23 x01_22
  have x10_23 : w23.cell? ⟨w11.heap.size, 0, none⟩ = some (.int .i64 z1) := cell_b b23 x10_22
  have x11_23 : w23.cell? ⟨w11.heap.size, 1, none⟩ = some (.slice (some ⟨X1g, 0, none⟩) n1 n1) := cell_b b23 x11_22
  have x20_23 : w23.cell? ⟨w12.heap.size, 0, none⟩ = some (.int .i64 z2) := cell_b b23 x20_22
  have x21_23 : w23.cell? ⟨w12.heap.size, 1, none⟩ = some (.slice (some ⟨X2g, 0, none⟩) n2 n2) := cell_b b23 x21_22
  have HR_23 := Lib.hid (HR_22.out.kept (Kept.of_below b23 (by omega)))
  have HX0_23 := Lib.hid (HX0_22.out.kept (Kept.of_below b23 (by omega)))
  have HX1_23 := Lib.hid (HX1_22.out.kept (Kept.of_below b23 (by omega)))
  have HX2_23 := Lib.hid (HX2_22.out.kept (Kept.of_below b23 (by omega)))
  have HXI3_23 := Lib.hid (HXI3_22.out.kept (Kept.of_below b23 (by omega)))
  have HXI4_23 := Lib.hid (HXI4_22.out.kept (Kept.of_below b23 (by omega)))
  have HG_23 := Lib.hid (HG_22.out.kept (Kept.of_below b23 (by omega)))
  have B23 : Hid (Below w.heap.size w w23) := below_then B22.out b23
  clear a00_22 a01_22 a10_22 a11_22 a20_22 a21_22 x00_22 x01_22 x10_22 x11_22 x20_22 x21_22 HR_22 HX0_22 HX1_22 HX2_22 HXI3_22 HXI4_22 HG_22 b_
  clear HC_
  have HYI3_23 := Lib.hid (OwnsInts.of_row o_).view
  clear o_
  have hC_ := eqInts_view _ _ _ _ _ _ n3 n3 n3 xs3 w23 HXI3_23.out.view HYI3_23.out (by unfold maxLen; omega)
  have HC_ := Lib.hid hC_
  clear hC_
  go_wp2_with fail
  refine HC_.out.mono ?_
  rintro e w24 ⟨rfl, q_⟩; have b_ := below_drawn (Below.refl w23.heap.size w23) q_; clear q_
  have b24 : Below w23.heap.size w23 w24 := b_
  have s24 : w23.heap.size ≤ w24.heap.size := b24.size
  have a00_24 : w24.cell? ⟨w.heap.size, 0, none⟩ = some (.int .i64 z0) := cell_b b24 a00_23
  have a01_24 : w24.cell? ⟨w.heap.size, 1, none⟩ = some (.slice a0 n0 c0) := cell_b b24 a01_23
  have a10_24 : w24.cell? ⟨w.heap.size + 1, 0, none⟩ = some (.int .i64 z1) := cell_b b24 a10_23
  have a11_24 : w24.cell? ⟨w.heap.size + 1, 1, none⟩ = some (.slice a1 n1 c1) := cell_b b24 a11_23
  have a20_24 : w24.cell? ⟨w.heap.size + 1 + 1, 0, none⟩ = some (.int .i64 z2) := cell_b b24 a20_23
  have a21_24 : w24.cell? ⟨w.heap.size + 1 + 1, 1, none⟩ = some (.slice a2 n2 c2) := cell_b b24 a21_23
  have x00_24 : w24.cell? ⟨w10.heap.size, 0, none⟩ = some (.int .i64 z0) := cell_b b24 x00_23
  have x01_24 : w24.cell? ⟨w10.heap.size, 1, none⟩ = some (.slice (some ⟨X0g, 0, none⟩) n0 n0) := cell_b b24 x01_23
  have x10_24 : w24.cell? ⟨w11.heap.size, 0, none⟩ = some (.int .i64 z1) := cell_b b24 x10_23
  have x11_24 : w24.cell? ⟨w11.heap.size, 1, none⟩ = some (.slice (some ⟨X1g, 0, none⟩) n1 n1) := cell_b b24 x11_23
  have x20_24 : w24.cell? ⟨w12.heap.size, 0, none⟩ = some (.int .i64 z2) := cell_b b24 x20_23
  have x21_24 : w24.cell? ⟨w12.heap.size, 1, none⟩ = some (.slice (some ⟨X2g, 0, none⟩) n2 n2) := cell_b b24 x21_23
  have HR_24 := Lib.hid (HR_23.out.kept (Kept.of_below b24 (by omega)))
  have HX0_24 := Lib.hid (HX0_23.out.kept (Kept.of_below b24 (by omega)))
  have HX1_24 := Lib.hid (HX1_23.out.kept (Kept.of_below b24 (by omega)))
  have HX2_24 := Lib.hid (HX2_23.out.kept (Kept.of_below b24 (by omega)))
  have HXI3_24 := Lib.hid (HXI3_23.out.kept (Kept.of_below b24 (by omega)))
  have HXI4_24 := Lib.hid (HXI4_23.out.kept (Kept.of_below b24 (by omega)))
  have HG_24 := Lib.hid (HG_23.out.kept (Kept.of_below b24 (by omega)))
  have HYI3_24 := Lib.hid (HYI3_23.out.kept (Kept.of_below b24 (by omega)))
  have B24 : Hid (Below w.heap.size w w24) := below_then B23.out b24
  clear a00_23 a01_23 a10_23 a11_23 a20_23 a21_23 x00_23 x01_23 x10_23 x11_23 x20_23 x21_23 HR_23 HX0_23 HX1_23 HX2_23 HXI3_23 HXI4_23 HG_23 HYI3_23 b_
  clear HC_
  clear HYI3_24
  have hC_ := toInts_view 0 w.heap.size a4 c4 n4 xs4 w24 (HV4.out.kept (Kept.of_below B24.out (Nat.le_refl _))) B24.out.size (by omega)
  have HC_ := Lib.hid hC_
  clear hC_
  go_wp2_with fail
  refine HC_.out.mono ?_
  rintro e w25 ⟨rfl, o_, b_⟩
  have b25 : Below w24.heap.size w24 w25 := b_
  have s25 : w24.heap.size ≤ w25.heap.size := b25.size
  have a00_25 : w25.cell? ⟨w.heap.size, 0, none⟩ = some (.int .i64 z0) := cell_b b25 a00_24
  have a01_25 : w25.cell? ⟨w.heap.size, 1, none⟩ = some (.slice a0 n0 c0) := cell_b b25 a01_24
  have a10_25 : w25.cell? ⟨w.heap.size + 1, 0, none⟩ = some (.int .i64 z1) := cell_b b25 a10_24
  have a11_25 : w25.cell? ⟨w.heap.size + 1, 1, none⟩ = some (.slice a1 n1 c1) := cell_b b25 a11_24
  have a20_25 : w25.cell? ⟨w.heap.size + 1 + 1, 0, none⟩ = some (.int .i64 z2) := cell_b b25 a20_24
  have a21_25 : w25.cell? ⟨w.heap.size + 1 + 1, 1, none⟩ = some (.slice a2 n2 c2) := cell_b b25 a21_24
  have x00_25 : w25.cell? ⟨w10.heap.size, 0, none⟩ = some (.int .i64 z0) := cell_b b25 x00_24
  have x01_25 : w25.cell? ⟨w10.heap.size, 1, none⟩ = some (.slice (some ⟨X0g, 0, none⟩) n0 n0) := cell_b b25 x01_24
  have x10_25 : w25.cell? ⟨w11.heap.size, 0, none⟩ = some (.int .i64 z1) := cell_b b25 x10_24
  have x11_25 : w25.cell? ⟨w11.heap.size, 1, none⟩ = some (.slice (some ⟨X1g, 0, none⟩) n1 n1) := cell_b b25 x11_24
  have x20_25 : w25.cell? ⟨w12.heap.size, 0, none⟩ = some (.int .i64 z2) := cell_b b25 x20_24
  have x21_25 : w25.cell? ⟨w12.heap.size, 1, none⟩ = some (.slice (some ⟨X2g, 0, none⟩) n2 n2) := cell_b b25 x21_24
  have HR_25 := Lib.hid (HR_24.out.kept (Kept.of_below b25 (by omega)))
  have HX0_25 := Lib.hid (HX0_24.out.kept (Kept.of_below b25 (by omega)))
  have HX1_25 := Lib.hid (HX1_24.out.kept (Kept.of_below b25 (by omega)))
  have HX2_25 := Lib.hid (HX2_24.out.kept (Kept.of_below b25 (by omega)))
  have HXI3_25 := Lib.hid (HXI3_24.out.kept (Kept.of_below b25 (by omega)))
  have HXI4_25 := Lib.hid (HXI4_24.out.kept (Kept.of_below b25 (by omega)))
  have HG_25 := Lib.hid (HG_24.out.kept (Kept.of_below b25 (by omega)))
  have B25 : Hid (Below w.heap.size w w25) := below_then B24.out b25
  clear a00_24 a01_24 a10_24 a11_24 a20_24 a21_24 x00_24 x01_24 x10_24 x11_24 x20_24 x21_24 HR_24 HX0_24 HX1_24 HX2_24 HXI3_24 HXI4_24 HG_24 b_
  clear HC_
  have HYI4_25 := Lib.hid (OwnsInts.of_row o_).view
  clear o_
  have hC_ := eqInts_view _ _ _ _ _ _ n4 n4 n4 xs4 w25 HXI4_25.out.view HYI4_25.out (by unfold maxLen; omega)
  have HC_ := Lib.hid hC_
  clear hC_
  go_wp2_with fail
  refine HC_.out.mono ?_
  rintro e w26 ⟨rfl, q_⟩; have b_ := below_drawn (Below.refl w25.heap.size w25) q_; clear q_
  have b26 : Below w25.heap.size w25 w26 := b_
  have s26 : w25.heap.size ≤ w26.heap.size := b26.size
  have a00_26 : w26.cell? ⟨w.heap.size, 0, none⟩ = some (.int .i64 z0) := cell_b b26 a00_25
  have a01_26 : w26.cell? ⟨w.heap.size, 1, none⟩ = some (.slice a0 n0 c0) := cell_b b26 a01_25
  have a10_26 : w26.cell? ⟨w.heap.size + 1, 0, none⟩ = some (.int .i64 z1) := cell_b b26 a10_25
  have a11_26 : w26.cell? ⟨w.heap.size + 1, 1, none⟩ = some (.slice a1 n1 c1) := cell_b b26 a11_25
  have a20_26 : w26.cell? ⟨w.heap.size + 1 + 1, 0, none⟩ = some (.int .i64 z2) := cell_b b26 a20_25
  have a21_26 : w26.cell? ⟨w.heap.size + 1 + 1, 1, none⟩ = some (.slice a2 n2 c2) := cell_b b26 a21_25
  have x00_26 : w26.cell? ⟨w10.heap.size, 0, none⟩ = some (.int .i64 z0) := cell_b b26 x00_25
  have x01_26 : w26.cell? ⟨w10.heap.size, 1, none⟩ = some (.slice (some ⟨X0g, 0, none⟩) n0 n0) := cell_b b26 x01_25
  have x10_26 : w26.cell? ⟨w11.heap.size, 0, none⟩ = some (.int .i64 z1) := cell_b b26 x10_25
  have x11_26 : w26.cell? ⟨w11.heap.size, 1, none⟩ = some (.slice (some ⟨X1g, 0, none⟩) n1 n1) := cell_b b26 x11_25
  have x20_26 : w26.cell? ⟨w12.heap.size, 0, none⟩ = some (.int .i64 z2) := cell_b b26 x20_25
  have x21_26 : w26.cell? ⟨w12.heap.size, 1, none⟩ = some (.slice (some ⟨X2g, 0, none⟩) n2 n2) := cell_b b26 x21_25
  have HR_26 := Lib.hid (HR_25.out.kept (Kept.of_below b26 (by omega)))
  have HX0_26 := Lib.hid (HX0_25.out.kept (Kept.of_below b26 (by omega)))
  have HX1_26 := Lib.hid (HX1_25.out.kept (Kept.of_below b26 (by omega)))
  have HX2_26 := Lib.hid (HX2_25.out.kept (Kept.of_below b26 (by omega)))
  have HXI3_26 := Lib.hid (HXI3_25.out.kept (Kept.of_below b26 (by omega)))
  have HXI4_26 := Lib.hid (HXI4_25.out.kept (Kept.of_below b26 (by omega)))
  have HG_26 := Lib.hid (HG_25.out.kept (Kept.of_below b26 (by omega)))
  have HYI4_26 := Lib.hid (HYI4_25.out.kept (Kept.of_below b26 (by omega)))
  have B26 : Hid (Below w.heap.size w w26) := below_then B25.out b26
  clear a00_25 a01_25 a10_25 a11_25 a20_25 a21_25 x00_25 x01_25 x10_25 x11_25 x20_25 x21_25 HR_25 HX0_25 HX1_25 HX2_25 HXI3_25 HXI4_25 HG_25 HYI4_25 b_
  clear HC_
  clear HYI4_26
  have HPre0 : Hid (preLen (fun j => fs0.getD j (0, [])) n0 = n0 + osum fs0) := by have h_ := preLen_fs fs0; rw [hl0.out] at h_; exact h_
  have hfit_ := HFit0.out
  obtain ⟨kx0, hkx, hkx00, hkx10⟩ : ∃ kx : Int, kx = 1 + (preLen (fun j => fs0.getD j (0, [])) n0 : Int) ∧ 0 ≤ kx ∧ kx ≤ 1048577 := ⟨_, rfl, by omega, by rw [HPre0.out]; omega⟩
  have HKX0 := Lib.hid hkx
  clear hkx hfit_
  have hC_ := markAlg_own _ _ n0 n0 z0 _ X0G X0C (fun j => fs0.getD j (0, [])) 1 w26 (by omega) (by rw [← HKX0.out]; omega) HX0_26.out (by omega)
  rw [← HKX0.out] at hC_
  have HC_ := Lib.hid hC_
  clear hC_
  go_wp2_with fail
  refine HC_.out.mono ?_
  rintro e w27 ⟨rfl, o_, b_⟩; clear o_
  have s27 : w26.heap.size ≤ w27.heap.size := b_.size
  have a00_27 : w27.cell? ⟨w.heap.size, 0, none⟩ = some (.int .i64 z0) := cell_o b_ a00_26 (by dsimp only; omega)
  have a01_27 : w27.cell? ⟨w.heap.size, 1, none⟩ = some (.slice a0 n0 c0) := cell_o b_ a01_26 (by dsimp only; omega)
  have a10_27 : w27.cell? ⟨w.heap.size + 1, 0, none⟩ = some (.int .i64 z1) := cell_o b_ a10_26 (by dsimp only; omega)
  have a11_27 : w27.cell? ⟨w.heap.size + 1, 1, none⟩ = some (.slice a1 n1 c1) := cell_o b_ a11_26 (by dsimp only; omega)
  have a20_27 : w27.cell? ⟨w.heap.size + 1 + 1, 0, none⟩ = some (.int .i64 z2) := cell_o b_ a20_26 (by dsimp only; omega)
  have a21_27 : w27.cell? ⟨w.heap.size + 1 + 1, 1, none⟩ = some (.slice a2 n2 c2) := cell_o b_ a21_26 (by dsimp only; omega)
  have x00_27 : w27.cell? ⟨w10.heap.size, 0, none⟩ = some (.int .i64 z0) := cell_o b_ x00_26 (by dsimp only; omega)
  have x01_27 : w27.cell? ⟨w10.heap.size, 1, none⟩ = some (.slice (some ⟨X0g, 0, none⟩) n0 n0) := cell_o b_ x01_26 (by dsimp only; omega)
  have x10_27 : w27.cell? ⟨w11.heap.size, 0, none⟩ = some (.int .i64 z1) := cell_o b_ x10_26 (by dsimp only; omega)
  have x11_27 : w27.cell? ⟨w11.heap.size, 1, none⟩ = some (.slice (some ⟨X1g, 0, none⟩) n1 n1) := cell_o b_ x11_26 (by dsimp only; omega)
  have x20_27 : w27.cell? ⟨w12.heap.size, 0, none⟩ = some (.int .i64 z2) := cell_o b_ x20_26 (by dsimp only; omega)
  have x21_27 : w27.cell? ⟨w12.heap.size, 1, none⟩ = some (.slice (some ⟨X2g, 0, none⟩) n2 n2) := cell_o b_ x21_26 (by dsimp only; omega)
  have HR_27 := Lib.hid (HR_26.out.kept (kept_only b_ (by omega) (by omega)))
  have HX1_27 := Lib.hid (HX1_26.out.kept (kept_only b_ (by omega) (by omega)))
  have HX2_27 := Lib.hid (HX2_26.out.kept (kept_only b_ (by omega) (by omega)))
  have HXI3_27 := Lib.hid (HXI3_26.out.kept (kept_only b_ (by omega) (by omega)))
  have HXI4_27 := Lib.hid (HXI4_26.out.kept (kept_only b_ (by omega) (by omega)))
  have HG_27 := Lib.hid (HG_26.out.kept (kept_only b_ (by omega) (by omega)))
  have B27 : Hid (Below w.heap.size w w27) := below_only B26.out b_ (by omega) (by omega)
  clear a00_26 a01_26 a10_26 a11_26 a20_26 a21_26 x00_26 x01_26 x10_26 x11_26 x20_26 x21_26 HR_26 HX1_26 HX2_26 HXI3_26 HXI4_26 HG_26 HX0_26 b_
  clear HC_
  have HPre1 : Hid (preLen (fun j => fs1.getD j (0, [])) n1 = n1 + osum fs1) := by have h_ := preLen_fs fs1; rw [hl1.out] at h_; exact h_
  have hfit_ := HFit1.out
  obtain ⟨kx1, hkx, hkx01, hkx11⟩ : ∃ kx : Int, kx = kx0 + (preLen (fun j => fs1.getD j (0, [])) n1 : Int) ∧ 0 ≤ kx ∧ kx ≤ 2097153 := ⟨_, rfl, by omega, by rw [HPre1.out]; omega⟩
  have HKX1 := Lib.hid hkx
  clear hkx hfit_
  have hC_ := markAlg_own _ _ n1 n1 z1 _ X1G X1C (fun j => fs1.getD j (0, [])) (kx0) w27 (by omega) (by rw [← HKX1.out]; omega) HX1_27.out (by omega)
  rw [← HKX1.out] at hC_
  have HC_ := Lib.hid hC_
  clear hC_
  go_wp2_with fail
  refine HC_.out.mono ?_
  rintro e w28 ⟨rfl, o_, b_⟩; clear o_
  have s28 : w27.heap.size ≤ w28.heap.size := b_.size
  have a00_28 : w28.cell? ⟨w.heap.size, 0, none⟩ = some (.int .i64 z0) := cell_o b_ a00_27 (by dsimp only; omega)
  have a01_28 : w28.cell? ⟨w.heap.size, 1, none⟩ = some (.slice a0 n0 c0) := cell_o b_ a01_27 (by dsimp only; omega)
  have a10_28 : w28.cell? ⟨w.heap.size + 1, 0, none⟩ = some (.int .i64 z1) := cell_o b_ a10_27 (by dsimp only; omega)
  have a11_28 : w28.cell? ⟨w.heap.size + 1, 1, none⟩ = some (.slice a1 n1 c1) := cell_o b_ a11_27 (by dsimp only; omega)
  have a20_28 : w28.cell? ⟨w.heap.size + 1 + 1, 0, none⟩ = some (.int .i64 z2) := cell_o b_ a20_27 (by dsimp only; omega)
  have a21_28 : w28.cell? ⟨w.heap.size + 1 + 1, 1, none⟩ = some (.slice a2 n2 c2) := cell_o b_ a21_27 (by dsimp only; omega)
  have x00_28 : w28.cell? ⟨w10.heap.size, 0, none⟩ = some (.int .i64 z0) := cell_o b_ x00_27 (by dsimp only; omega)
  have x01_28 : w28.cell? ⟨w10.heap.size, 1, none⟩ = some (.slice (some ⟨X0g, 0, none⟩) n0 n0) := cell_o b_ x01_27 (by dsimp only; omega)
  have x10_28 : w28.cell? ⟨w11.heap.size, 0, none⟩ = some (.int .i64 z1) := cell_o b_ x10_27 (by dsimp only; omega)
  have x11_28 : w28.cell? ⟨w11.heap.size, 1, none⟩ = some (.slice (some ⟨X1g, 0, none⟩) n1 n1) := cell_o b_ x11_27 (by dsimp only; omega)
  have x20_28 : w28.cell? ⟨w12.heap.size, 0, none⟩ = some (.int .i64 z2) := cell_o b_ x20_27 (by dsimp only; omega)
  have x21_28 : w28.cell? ⟨w12.heap.size, 1, none⟩ = some (.slice (some ⟨X2g, 0, none⟩) n2 n2) := cell_o b_ x21_27 (by dsimp only; omega)
  have HR_28 := Lib.hid (HR_27.out.kept (kept_only b_ (by omega) (by omega)))
  have HX2_28 := Lib.hid (HX2_27.out.kept (kept_only b_ (by omega) (by omega)))
  have HXI3_28 := Lib.hid (HXI3_27.out.kept (kept_only b_ (by omega) (by omega)))
  have HXI4_28 := Lib.hid (HXI4_27.out.kept (kept_only b_ (by omega) (by omega)))
  have HG_28 := Lib.hid (HG_27.out.kept (kept_only b_ (by omega) (by omega)))
  have B28 : Hid (Below w.heap.size w w28) := below_only B27.out b_ (by omega) (by omega)
  clear a00_27 a01_27 a10_27 a11_27 a20_27 a21_27 x00_27 x01_27 x10_27 x11_27 x20_27 x21_27 HR_27 HX2_27 HXI3_27 HXI4_27 HG_27 HX1_27 b_
  clear HC_
  have HPre2 : Hid (preLen (fun j => fs2.getD j (0, [])) n2 = n2 + osum fs2) := by have h_ := preLen_fs fs2; rw [hl2.out] at h_; exact h_
  have hfit_ := HFit2.out
  obtain ⟨kx2, hkx, hkx02, hkx12⟩ : ∃ kx : Int, kx = kx1 + (preLen (fun j => fs2.getD j (0, [])) n2 : Int) ∧ 0 ≤ kx ∧ kx ≤ 3145729 := ⟨_, rfl, by omega, by rw [HPre2.out]; omega⟩
  have HKX2 := Lib.hid hkx
  clear hkx hfit_
  have hC_ := markAlg_own _ _ n2 n2 z2 _ X2G X2C (fun j => fs2.getD j (0, [])) (kx1) w28 (by omega) (by rw [← HKX2.out]; omega) HX2_28.out (by omega)
  rw [← HKX2.out] at hC_
  have HC_ := Lib.hid hC_
  clear hC_
  go_wp2_with fail
  refine HC_.out.mono ?_
  rintro e w29 ⟨rfl, o_, b_⟩; clear o_
  have s29 : w28.heap.size ≤ w29.heap.size := b_.size
  have a00_29 : w29.cell? ⟨w.heap.size, 0, none⟩ = some (.int .i64 z0) := cell_o b_ a00_28 (by dsimp only; omega)
  have a01_29 : w29.cell? ⟨w.heap.size, 1, none⟩ = some (.slice a0 n0 c0) := cell_o b_ a01_28 (by dsimp only; omega)
  have a10_29 : w29.cell? ⟨w.heap.size + 1, 0, none⟩ = some (.int .i64 z1) := cell_o b_ a10_28 (by dsimp only; omega)
  have a11_29 : w29.cell? ⟨w.heap.size + 1, 1, none⟩ = some (.slice a1 n1 c1) := cell_o b_ a11_28 (by dsimp only; omega)
  have a20_29 : w29.cell? ⟨w.heap.size + 1 + 1, 0, none⟩ = some (.int .i64 z2) := cell_o b_ a20_28 (by dsimp only; omega)
  have a21_29 : w29.cell? ⟨w.heap.size + 1 + 1, 1, none⟩ = some (.slice a2 n2 c2) := cell_o b_ a21_28 (by dsimp only; omega)
  have x00_29 : w29.cell? ⟨w10.heap.size, 0, none⟩ = some (.int .i64 z0) := cell_o b_ x00_28 (by dsimp only; omega)
  have x01_29 : w29.cell? ⟨w10.heap.size, 1, none⟩ = some (.slice (some ⟨X0g, 0, none⟩) n0 n0) := cell_o b_ x01_28 (by dsimp only; omega)
  have x10_29 : w29.cell? ⟨w11.heap.size, 0, none⟩ = some (.int .i64 z1) := cell_o b_ x10_28 (by dsimp only; omega)
  have x11_29 : w29.cell? ⟨w11.heap.size, 1, none⟩ = some (.slice (some ⟨X1g, 0, none⟩) n1 n1) := cell_o b_ x11_28 (by dsimp only; omega)
  have x20_29 : w29.cell? ⟨w12.heap.size, 0, none⟩ = some (.int .i64 z2) := cell_o b_ x20_28 (by dsimp only; omega)
  have x21_29 : w29.cell? ⟨w12.heap.size, 1, none⟩ = some (.slice (some ⟨X2g, 0, none⟩) n2 n2) := cell_o b_ x21_28 (by dsimp only; omega)
  have HR_29 := Lib.hid (HR_28.out.kept (kept_only b_ (by omega) (by omega)))
  have HXI3_29 := Lib.hid (HXI3_28.out.kept (kept_only b_ (by omega) (by omega)))
  have HXI4_29 := Lib.hid (HXI4_28.out.kept (kept_only b_ (by omega) (by omega)))
  have HG_29 := Lib.hid (HG_28.out.kept (kept_only b_ (by omega) (by omega)))
  have B29 : Hid (Below w.heap.size w w29) := below_only B28.out b_ (by omega) (by omega)
  clear a00_28 a01_28 a10_28 a11_28 a20_28 a21_28 x00_28 x01_28 x10_28 x11_28 x20_28 x21_28 HR_28 HXI3_28 HXI4_28 HG_28 HX2_28 b_
  clear HC_
  have hC_ := markInts_own _ _ n3 n3 (kx2) _ xs3 w29 (by omega) (by omega) HXI3_29.out
  have HC_ := Lib.hid hC_
  clear hC_
  go_wp2_with fail
  refine HC_.out.mono ?_
  rintro e w30 ⟨rfl, o_, b_⟩; clear o_
  have s30 : w29.heap.size ≤ w30.heap.size := b_.size
  have a00_30 : w30.cell? ⟨w.heap.size, 0, none⟩ = some (.int .i64 z0) := cell_o b_ a00_29 (by dsimp only; omega)
  have a01_30 : w30.cell? ⟨w.heap.size, 1, none⟩ = some (.slice a0 n0 c0) := cell_o b_ a01_29 (by dsimp only; omega)
  have a10_30 : w30.cell? ⟨w.heap.size + 1, 0, none⟩ = some (.int .i64 z1) := cell_o b_ a10_29 (by dsimp only; omega)
  have a11_30 : w30.cell? ⟨w.heap.size + 1, 1, none⟩ = some (.slice a1 n1 c1) := cell_o b_ a11_29 (by dsimp only; omega)
  have a20_30 : w30.cell? ⟨w.heap.size + 1 + 1, 0, none⟩ = some (.int .i64 z2) := cell_o b_ a20_29 (by dsimp only; omega)
  have a21_30 : w30.cell? ⟨w.heap.size + 1 + 1, 1, none⟩ = some (.slice a2 n2 c2) := cell_o b_ a21_29 (by dsimp only; omega)
  have x00_30 : w30.cell? ⟨w10.heap.size, 0, none⟩ = some (.int .i64 z0) := cell_o b_ x00_29 (by dsimp only; omega)
  have x01_30 : w30.cell? ⟨w10.heap.size, 1, none⟩ = some (.slice (some ⟨X0g, 0, none⟩) n0 n0) := cell_o b_ x01_29 (by dsimp only; omega)
  have x10_30 : w30.cell? ⟨w11.heap.size, 0, none⟩ = some (.int .i64 z1) := cell_o b_ x10_29 (by dsimp only; omega)
  have x11_30 : w30.cell? ⟨w11.heap.size, 1, none⟩ = some (.slice (some ⟨X1g, 0, none⟩) n1 n1) := cell_o b_ x11_29 (by dsimp only; omega)
  have x20_30 : w30.cell? ⟨w12.heap.size, 0, none⟩ = some (.int .i64 z2) := cell_o b_ x20_29 (by dsimp only; omega)
  have x21_30 : w30.cell? ⟨w12.heap.size, 1, none⟩ = some (.slice (some ⟨X2g, 0, none⟩) n2 n2) := cell_o b_ x21_29 (by dsimp only; omega)
  have HR_30 := Lib.hid (HR_29.out.kept (kept_only b_ (by omega) (by omega)))
  have HXI4_30 := Lib.hid (HXI4_29.out.kept (kept_only b_ (by omega) (by omega)))
  have HG_30 := Lib.hid (HG_29.out.kept (kept_only b_ (by omega) (by omega)))
  have B30 : Hid (Below w.heap.size w w30) := below_only B29.out b_ (by omega) (by omega)
  clear a00_29 a01_29 a10_29 a11_29 a20_29 a21_29 x00_29 x01_29 x10_29 x11_29 x20_29 x21_29 HR_29 HXI4_29 HG_29 HXI3_29 b_
  clear HC_
  have hC_ := markInts_own _ _ n4 n4 (kx2 + (n3 : Int)) _ xs4 w30 (by omega) (by omega) HXI4_30.out
  have HC_ := Lib.hid hC_
  clear hC_
  go_wp2_with fail
  refine HC_.out.mono ?_
  rintro e w31 ⟨rfl, o_, b_⟩; clear o_
  have s31 : w30.heap.size ≤ w31.heap.size := b_.size
  have a00_31 : w31.cell? ⟨w.heap.size, 0, none⟩ = some (.int .i64 z0) := cell_o b_ a00_30 (by dsimp only; omega)
  have a01_31 : w31.cell? ⟨w.heap.size, 1, none⟩ = some (.slice a0 n0 c0) := cell_o b_ a01_30 (by dsimp only; omega)
  have a10_31 : w31.cell? ⟨w.heap.size + 1, 0, none⟩ = some (.int .i64 z1) := cell_o b_ a10_30 (by dsimp only; omega)
  have a11_31 : w31.cell? ⟨w.heap.size + 1, 1, none⟩ = some (.slice a1 n1 c1) := cell_o b_ a11_30 (by dsimp only; omega)
  have a20_31 : w31.cell? ⟨w.heap.size + 1 + 1, 0, none⟩ = some (.int .i64 z2) := cell_o b_ a20_30 (by dsimp only; omega)
  have a21_31 : w31.cell? ⟨w.heap.size + 1 + 1, 1, none⟩ = some (.slice a2 n2 c2) := cell_o b_ a21_30 (by dsimp only; omega)
  have x00_31 : w31.cell? ⟨w10.heap.size, 0, none⟩ = some (.int .i64 z0) := cell_o b_ x00_30 (by dsimp only; omega)
  have x01_31 : w31.cell? ⟨w10.heap.size, 1, none⟩ = some (.slice (some ⟨X0g, 0, none⟩) n0 n0) := cell_o b_ x01_30 (by dsimp only; omega)
  have x10_31 : w31.cell? ⟨w11.heap.size, 0, none⟩ = some (.int .i64 z1) := cell_o b_ x10_30 (by dsimp only; omega)
  have x11_31 : w31.cell? ⟨w11.heap.size, 1, none⟩ = some (.slice (some ⟨X1g, 0, none⟩) n1 n1) := cell_o b_ x11_30 (by dsimp only; omega)
  have x20_31 : w31.cell? ⟨w12.heap.size, 0, none⟩ = some (.int .i64 z2) := cell_o b_ x20_30 (by dsimp only; omega)
  have x21_31 : w31.cell? ⟨w12.heap.size, 1, none⟩ = some (.slice (some ⟨X2g, 0, none⟩) n2 n2) := cell_o b_ x21_30 (by dsimp only; omega)
  have HR_31 := Lib.hid (HR_30.out.kept (kept_only b_ (by omega) (by omega)))
  have HG_31 := Lib.hid (HG_30.out.kept (kept_only b_ (by omega) (by omega)))
  have B31 : Hid (Below w.heap.size w w31) := below_only B30.out b_ (by omega) (by omega)
  clear a00_30 a01_30 a10_30 a11_30 a20_30 a21_30 x00_30 x01_30 x10_30 x11_30 x20_30 x21_30 HR_30 HG_30 HXI4_30 b_
  clear HC_
  have HGV_ := Lib.hid HG_31.out.view
  have hC_ := eqInts_view _ _ _ _ _ _ Gc Rc rn rs w31 HGV_.out HR_31.out (by unfold maxLen; omega)
  have HC_ := Lib.hid hC_
  clear hC_
  go_wp2_with fail
  refine HC_.out.mono ?_
  rintro e w32 ⟨rfl, q_⟩; have b_ := below_drawn (Below.refl w31.heap.size w31) q_; clear q_
  have b32 : Below w31.heap.size w31 w32 := b_
  have s32 : w31.heap.size ≤ w32.heap.size := b32.size
  have a00_32 : w32.cell? ⟨w.heap.size, 0, none⟩ = some (.int .i64 z0) := cell_b b32 a00_31
  have a01_32 : w32.cell? ⟨w.heap.size, 1, none⟩ = some (.slice a0 n0 c0) := cell_b b32 a01_31
  have a10_32 : w32.cell? ⟨w.heap.size + 1, 0, none⟩ = some (.int .i64 z1) := cell_b b32 a10_31
  have a11_32 : w32.cell? ⟨w.heap.size + 1, 1, none⟩ = some (.slice a1 n1 c1) := cell_b b32 a11_31
  have a20_32 : w32.cell? ⟨w.heap.size + 1 + 1, 0, none⟩ = some (.int .i64 z2) := cell_b b32 a20_31
  have a21_32 : w32.cell? ⟨w.heap.size + 1 + 1, 1, none⟩ = some (.slice a2 n2 c2) := cell_b b32 a21_31
  have x00_32 : w32.cell? ⟨w10.heap.size, 0, none⟩ = some (.int .i64 z0) := cell_b b32 x00_31
  have x01_32 : w32.cell? ⟨w10.heap.size, 1, none⟩ = some (.slice (some ⟨X0g, 0, none⟩) n0 n0) := cell_b b32 x01_31
  have x10_32 : w32.cell? ⟨w11.heap.size, 0, none⟩ = some (.int .i64 z1) := cell_b b32 x10_31
  have x11_32 : w32.cell? ⟨w11.heap.size, 1, none⟩ = some (.slice (some ⟨X1g, 0, none⟩) n1 n1) := cell_b b32 x11_31
  have x20_32 : w32.cell? ⟨w12.heap.size, 0, none⟩ = some (.int .i64 z2) := cell_b b32 x20_31
  have x21_32 : w32.cell? ⟨w12.heap.size, 1, none⟩ = some (.slice (some ⟨X2g, 0, none⟩) n2 n2) := cell_b b32 x21_31
  have HR_32 := Lib.hid (HR_31.out.kept (Kept.of_below b32 (by omega)))
  have HG_32 := Lib.hid (HG_31.out.kept (Kept.of_below b32 (by omega)))
  have B32 : Hid (Below w.heap.size w w32) := below_then B31.out b32
  clear a00_31 a01_31 a10_31 a11_31 a20_31 a21_31 x00_31 x01_31 x10_31 x11_31 x20_31 x21_31 HR_31 HG_31 b_
  clear HC_
  clear HGV_
  have hC_ := markInts_own _ _ rn Gc 1 Ga rs w32 (by omega) (by omega) HG_32.out
  have HC_ := Lib.hid hC_
  clear hC_
  go_wp2_with fail
  refine HC_.out.mono ?_
  rintro e w33 ⟨rfl, o_, b_⟩
  have s33 : w32.heap.size ≤ w33.heap.size := b_.size
  have a00_33 : w33.cell? ⟨w.heap.size, 0, none⟩ = some (.int .i64 z0) := cell_o b_ a00_32 (by dsimp only; omega)
  have a01_33 : w33.cell? ⟨w.heap.size, 1, none⟩ = some (.slice a0 n0 c0) := cell_o b_ a01_32 (by dsimp only; omega)
  have a10_33 : w33.cell? ⟨w.heap.size + 1, 0, none⟩ = some (.int .i64 z1) := cell_o b_ a10_32 (by dsimp only; omega)
  have a11_33 : w33.cell? ⟨w.heap.size + 1, 1, none⟩ = some (.slice a1 n1 c1) := cell_o b_ a11_32 (by dsimp only; omega)
  have a20_33 : w33.cell? ⟨w.heap.size + 1 + 1, 0, none⟩ = some (.int .i64 z2) := cell_o b_ a20_32 (by dsimp only; omega)
  have a21_33 : w33.cell? ⟨w.heap.size + 1 + 1, 1, none⟩ = some (.slice a2 n2 c2) := cell_o b_ a21_32 (by dsimp only; omega)
  have x00_33 : w33.cell? ⟨w10.heap.size, 0, none⟩ = some (.int .i64 z0) := cell_o b_ x00_32 (by dsimp only; omega)
  have x01_33 : w33.cell? ⟨w10.heap.size, 1, none⟩ = some (.slice (some ⟨X0g, 0, none⟩) n0 n0) := cell_o b_ x01_32 (by dsimp only; omega)
  have x10_33 : w33.cell? ⟨w11.heap.size, 0, none⟩ = some (.int .i64 z1) := cell_o b_ x10_32 (by dsimp only; omega)
  have x11_33 : w33.cell? ⟨w11.heap.size, 1, none⟩ = some (.slice (some ⟨X1g, 0, none⟩) n1 n1) := cell_o b_ x11_32 (by dsimp only; omega)
  have x20_33 : w33.cell? ⟨w12.heap.size, 0, none⟩ = some (.int .i64 z2) := cell_o b_ x20_32 (by dsimp only; omega)
  have x21_33 : w33.cell? ⟨w12.heap.size, 1, none⟩ = some (.slice (some ⟨X2g, 0, none⟩) n2 n2) := cell_o b_ x21_32 (by dsimp only; omega)
  have HR_33 := Lib.hid (HR_32.out.kept (kept_only b_ (by omega) (by omega)))
  have B33 : Hid (Below w.heap.size w w33) := below_only B32.out b_ (by omega) (by omega)
  clear a00_32 a01_32 a10_32 a11_32 a20_32 a21_32 x00_32 x01_32 x10_32 x11_32 x20_32 x21_32 HR_32 HG_32 b_
  clear HC_
  have HG_33 := Lib.hid o_.view
  clear o_
  have hC_ := heldInts_view _ _ Ga Gc rn 1 w33 (by omega) (by omega) HG_33.out
  have HC_ := Lib.hid hC_
  clear hC_
  go_wp2_with fail
  refine HC_.out.mono ?_
  rintro e w_ ⟨rfl, rfl⟩
  clear HC_
  go_wp2_with fail
  refine wp_region_noPanic ?_
  refine wp_region_held_drew (S := fun W => W.cell? ⟨w.heap.size, 0, none⟩ = some (.int .i64 z0) ∧ W.cell? ⟨w.heap.size, 1, none⟩ = some (.slice a0 n0 c0) ∧ W.cell? ⟨w.heap.size + 1, 0, none⟩ = some (.int .i64 z1) ∧ W.cell? ⟨w.heap.size + 1, 1, none⟩ = some (.slice a1 n1 c1) ∧ W.cell? ⟨w.heap.size + 1 + 1, 0, none⟩ = some (.int .i64 z2) ∧ W.cell? ⟨w.heap.size + 1 + 1, 1, none⟩ = some (.slice a2 n2 c2) ∧ W.cell? ⟨w10.heap.size, 0, none⟩ = some (.int .i64 z0) ∧ W.cell? ⟨w10.heap.size, 1, none⟩ = some (.slice (some ⟨X0g, 0, none⟩) n0 n0) ∧ W.cell? ⟨w11.heap.size, 0, none⟩ = some (.int .i64 z1) ∧ W.cell? ⟨w11.heap.size, 1, none⟩ = some (.slice (some ⟨X1g, 0, none⟩) n1 n1) ∧ W.cell? ⟨w12.heap.size, 0, none⟩ = some (.int .i64 z2) ∧ W.cell? ⟨w12.heap.size, 1, none⟩ = some (.slice (some ⟨X2g, 0, none⟩) n2 n2)) (by kernel_rfl) ?_ (fun hHeld => ?_)
  · exact ⟨a00_33, a01_33, a10_33, a11_33, a20_33, a21_33, x00_33, x01_33, x10_33, x11_33, x20_33, x21_33⟩
  refine wpAnyH_take (i := 0) (oi := ⟨_, _, _, _, _, _⟩) (v := ?_) rfl (by kernel_rfl) (by kernel_rfl) (by kernel_rfl) (fun _ _ _ h => h) (Or.inl ⟨rfl, ?_⟩) (by assumption) ?_
  rotate_left 1
  · intro w_ hSw; (try dsimp only at hSw); go_simp; (try with_reducible rfl)
  (try simp only [Act.put, List.setIfInBounds_toArray, List.set_cons_zero, List.set_cons_succ])
  refine wpAnyH_take (i := 2) (oi := ⟨_, _, _, _, _, _⟩) (v := ?_) rfl (by kernel_rfl) (by kernel_rfl) (by kernel_rfl) (fun _ _ _ h => h) (Or.inl ⟨rfl, ?_⟩) (by assumption) ?_
  rotate_left 1
  · intro w_ hSw; (try dsimp only at hSw); go_simp; (try with_reducible rfl)
  (try simp only [Act.put, List.setIfInBounds_toArray, List.set_cons_zero, List.set_cons_succ])
  refine wpAnyH_take (i := 4) (oi := ⟨_, _, _, _, _, _⟩) (v := ?_) rfl (by kernel_rfl) (by kernel_rfl) (by kernel_rfl) (fun _ _ _ h => h) (Or.inl ⟨rfl, ?_⟩) (by assumption) ?_
  rotate_left 1
  · intro w_ hSw; (try dsimp only at hSw); go_simp; (try with_reducible rfl)
  (try simp only [Act.put, List.setIfInBounds_toArray, List.set_cons_zero, List.set_cons_succ])
  refine wpAnyH_take (i := 6) (oi := ⟨_, _, _, _, _, _⟩) (v := ?_) rfl (by kernel_rfl) (by kernel_rfl) (by kernel_rfl) (fun _ _ _ h => h) (Or.inl ⟨rfl, ?_⟩) (by assumption) ?_
  rotate_left 1
  · intro w_ hSw; (try dsimp only at hSw); go_simp; (try with_reducible rfl)
  (try simp only [Act.put, List.setIfInBounds_toArray, List.set_cons_zero, List.set_cons_succ])
  refine wpAnyH_take (i := 8) (oi := ⟨_, _, _, _, _, _⟩) (v := ?_) rfl (by kernel_rfl) (by kernel_rfl) (by kernel_rfl) (fun _ _ _ h => h) (Or.inl ⟨rfl, ?_⟩) (by assumption) ?_
  rotate_left 1
  · intro w_ hSw; (try dsimp only at hSw); go_simp; (try with_reducible rfl)
  (try simp only [Act.put, List.setIfInBounds_toArray, List.set_cons_zero, List.set_cons_succ])
  refine wpAnyH_ready (rs := [1]) (by kernel_rfl) (by simp) ?_
  refine AllReadyH.cons (o := ⟨_, _, _, _, _, _⟩) rfl (fun K hK => ?_) AllReadyH.nil
  go_simp
  go_at_call 17
  have hC_ := toAlg_view w.heap.size z0 a0 c0 n0 fs0 w33.drew (HV0.out.kept (Kept.of_below (below_then B33.out (below_drew w33)) (Nat.le_refl _))) (below_then B33.out (below_drew w33)).size hn3_0 HS80.out
  refine hC_.mono ?_
  clear hC_
  rintro e w34 ⟨T0g, rfl, m_⟩; have b_ := m_.2
  have b34 : Below w33.heap.size w33 w34 := below_then (below_drew w33) b_
  have s34 : w33.heap.size ≤ w34.heap.size := b34.size
  have a00_34 : w34.cell? ⟨w.heap.size, 0, none⟩ = some (.int .i64 z0) := cell_b b34 a00_33
  have a01_34 : w34.cell? ⟨w.heap.size, 1, none⟩ = some (.slice a0 n0 c0) := cell_b b34 a01_33
  have a10_34 : w34.cell? ⟨w.heap.size + 1, 0, none⟩ = some (.int .i64 z1) := cell_b b34 a10_33
  have a11_34 : w34.cell? ⟨w.heap.size + 1, 1, none⟩ = some (.slice a1 n1 c1) := cell_b b34 a11_33
  have a20_34 : w34.cell? ⟨w.heap.size + 1 + 1, 0, none⟩ = some (.int .i64 z2) := cell_b b34 a20_33
  have a21_34 : w34.cell? ⟨w.heap.size + 1 + 1, 1, none⟩ = some (.slice a2 n2 c2) := cell_b b34 a21_33
  have x00_34 : w34.cell? ⟨w10.heap.size, 0, none⟩ = some (.int .i64 z0) := cell_b b34 x00_33
  have x01_34 : w34.cell? ⟨w10.heap.size, 1, none⟩ = some (.slice (some ⟨X0g, 0, none⟩) n0 n0) := cell_b b34 x01_33
  have x10_34 : w34.cell? ⟨w11.heap.size, 0, none⟩ = some (.int .i64 z1) := cell_b b34 x10_33
  have x11_34 : w34.cell? ⟨w11.heap.size, 1, none⟩ = some (.slice (some ⟨X1g, 0, none⟩) n1 n1) := cell_b b34 x11_33
  have x20_34 : w34.cell? ⟨w12.heap.size, 0, none⟩ = some (.int .i64 z2) := cell_b b34 x20_33
  have x21_34 : w34.cell? ⟨w12.heap.size, 1, none⟩ = some (.slice (some ⟨X2g, 0, none⟩) n2 n2) := cell_b b34 x21_33
  have HR_34 := Lib.hid (HR_33.out.kept (Kept.of_below b34 (by omega)))
  have HG_34 := Lib.hid (HG_33.out.kept (Kept.of_below b34 (by omega)))
  have B34 : Hid (Below w.heap.size w w34) := below_then B33.out b34
  clear a00_33 a01_33 a10_33 a11_33 a20_33 a21_33 x00_33 x01_33 x10_33 x11_33 x20_33 x21_33 HR_33 HG_33 b_
  have m_ := m_.view hl0.out
  simp only [World.size_alloc, World.size_drew] at m_
  have HT0_34 := Lib.hid m_
  clear m_
  go_wp2_with fail
  refine hK.out _ _ ?_ (fun hHeld => ?_)
  · exact ⟨a00_34, a01_34, a10_34, a11_34, a20_34, a21_34, x00_34, x01_34, x10_34, x11_34, x20_34, x21_34⟩
  clear hK K
  (try simp only [Act.put, List.setIfInBounds_toArray, List.set_cons_zero, List.set_cons_succ])
  refine wpAnyH_ready (rs := [3]) (by kernel_rfl) (by simp) ?_
  refine AllReadyH.cons (o := ⟨_, _, _, _, _, _⟩) rfl (fun K hK => ?_) AllReadyH.nil
  go_simp
  go_at_call 17
  have hC_ := toAlg_view w.heap.size z1 a1 c1 n1 fs1 w34 (HV1.out.kept (Kept.of_below B34.out (Nat.le_refl _))) B34.out.size hn3_1 HS81.out
  refine hC_.mono ?_
  clear hC_
  rintro e w35 ⟨T1g, rfl, m_⟩; have b_ := m_.2
  have b35 : Below w34.heap.size w34 w35 := b_
  have s35 : w34.heap.size ≤ w35.heap.size := b35.size
  have a00_35 : w35.cell? ⟨w.heap.size, 0, none⟩ = some (.int .i64 z0) := cell_b b35 a00_34
  have a01_35 : w35.cell? ⟨w.heap.size, 1, none⟩ = some (.slice a0 n0 c0) := cell_b b35 a01_34
  have a10_35 : w35.cell? ⟨w.heap.size + 1, 0, none⟩ = some (.int .i64 z1) := cell_b b35 a10_34
  have a11_35 : w35.cell? ⟨w.heap.size + 1, 1, none⟩ = some (.slice a1 n1 c1) := cell_b b35 a11_34
  have a20_35 : w35.cell? ⟨w.heap.size + 1 + 1, 0, none⟩ = some (.int .i64 z2) := cell_b b35 a20_34
  have a21_35 : w35.cell? ⟨w.heap.size + 1 + 1, 1, none⟩ = some (.slice a2 n2 c2) := cell_b b35 a21_34
  have x00_35 : w35.cell? ⟨w10.heap.size, 0, none⟩ = some (.int .i64 z0) := cell_b b35 x00_34
  have x01_35 : w35.cell? ⟨w10.heap.size, 1, none⟩ = some (.slice (some ⟨X0g, 0, none⟩) n0 n0) := cell_b b35 x01_34
  have x10_35 : w35.cell? ⟨w11.heap.size, 0, none⟩ = some (.int .i64 z1) := cell_b b35 x10_34
  have x11_35 : w35.cell? ⟨w11.heap.size, 1, none⟩ = some (.slice (some ⟨X1g, 0, none⟩) n1 n1) := cell_b b35 x11_34
  have x20_35 : w35.cell? ⟨w12.heap.size, 0, none⟩ = some (.int .i64 z2) := cell_b b35 x20_34
  have x21_35 : w35.cell? ⟨w12.heap.size, 1, none⟩ = some (.slice (some ⟨X2g, 0, none⟩) n2 n2) := cell_b b35 x21_34
  have HR_35 := Lib.hid (HR_34.out.kept (Kept.of_below b35 (by omega)))
  have HG_35 := Lib.hid (HG_34.out.kept (Kept.of_below b35 (by omega)))
  have HT0_35 := Lib.hid (HT0_34.out.kept (Kept.of_below b35 (by omega)))
  have B35 : Hid (Below w.heap.size w w35) := below_then B34.out b35
  clear a00_34 a01_34 a10_34 a11_34 a20_34 a21_34 x00_34 x01_34 x10_34 x11_34 x20_34 x21_34 HR_34 HG_34 HT0_34 b_
  have m_ := m_.view hl1.out
  have HT1_35 := Lib.hid m_
  clear m_
  go_wp2_with fail
  refine hK.out _ _ ?_ (fun hHeld => ?_)
  · exact ⟨a00_35, a01_35, a10_35, a11_35, a20_35, a21_35, x00_35, x01_35, x10_35, x11_35, x20_35, x21_35⟩
  clear hK K
  (try simp only [Act.put, List.setIfInBounds_toArray, List.set_cons_zero, List.set_cons_succ])
  refine wpAnyH_ready (rs := [5]) (by kernel_rfl) (by simp) ?_
  refine AllReadyH.cons (o := ⟨_, _, _, _, _, _⟩) rfl (fun K hK => ?_) AllReadyH.nil
  go_simp
  go_at_call 17
  have hC_ := toAlg_view w.heap.size z2 a2 c2 n2 fs2 w35 (HV2.out.kept (Kept.of_below B35.out (Nat.le_refl _))) B35.out.size hn3_2 HS82.out
  refine hC_.mono ?_
  clear hC_
  rintro e w36 ⟨T2g, rfl, m_⟩; have b_ := m_.2
  have b36 : Below w35.heap.size w35 w36 := b_
  have s36 : w35.heap.size ≤ w36.heap.size := b36.size
  have a00_36 : w36.cell? ⟨w.heap.size, 0, none⟩ = some (.int .i64 z0) := cell_b b36 a00_35
  have a01_36 : w36.cell? ⟨w.heap.size, 1, none⟩ = some (.slice a0 n0 c0) := cell_b b36 a01_35
  have a10_36 : w36.cell? ⟨w.heap.size + 1, 0, none⟩ = some (.int .i64 z1) := cell_b b36 a10_35
  have a11_36 : w36.cell? ⟨w.heap.size + 1, 1, none⟩ = some (.slice a1 n1 c1) := cell_b b36 a11_35
  have a20_36 : w36.cell? ⟨w.heap.size + 1 + 1, 0, none⟩ = some (.int .i64 z2) := cell_b b36 a20_35
  have a21_36 : w36.cell? ⟨w.heap.size + 1 + 1, 1, none⟩ = some (.slice a2 n2 c2) := cell_b b36 a21_35
  have x00_36 : w36.cell? ⟨w10.heap.size, 0, none⟩ = some (.int .i64 z0) := cell_b b36 x00_35
  have x01_36 : w36.cell? ⟨w10.heap.size, 1, none⟩ = some (.slice (some ⟨X0g, 0, none⟩) n0 n0) := cell_b b36 x01_35
  have x10_36 : w36.cell? ⟨w11.heap.size, 0, none⟩ = some (.int .i64 z1) := cell_b b36 x10_35
  have x11_36 : w36.cell? ⟨w11.heap.size, 1, none⟩ = some (.slice (some ⟨X1g, 0, none⟩) n1 n1) := cell_b b36 x11_35
  have x20_36 : w36.cell? ⟨w12.heap.size, 0, none⟩ = some (.int .i64 z2) := cell_b b36 x20_35
  have x21_36 : w36.cell? ⟨w12.heap.size, 1, none⟩ = some (.slice (some ⟨X2g, 0, none⟩) n2 n2) := cell_b b36 x21_35
  have HR_36 := Lib.hid (HR_35.out.kept (Kept.of_below b36 (by omega)))
  have HG_36 := Lib.hid (HG_35.out.kept (Kept.of_below b36 (by omega)))
  have HT0_36 := Lib.hid (HT0_35.out.kept (Kept.of_below b36 (by omega)))
  have HT1_36 := Lib.hid (HT1_35.out.kept (Kept.of_below b36 (by omega)))
  have B36 : Hid (Below w.heap.size w w36) := below_then B35.out b36
  clear a00_35 a01_35 a10_35 a11_35 a20_35 a21_35 x00_35 x01_35 x10_35 x11_35 x20_35 x21_35 HR_35 HG_35 HT0_35 HT1_35 b_
  have m_ := m_.view hl2.out
  have HT2_36 := Lib.hid m_
  clear m_
  go_wp2_with fail
  refine hK.out _ _ ?_ (fun hHeld => ?_)
  · exact ⟨a00_36, a01_36, a10_36, a11_36, a20_36, a21_36, x00_36, x01_36, x10_36, x11_36, x20_36, x21_36⟩
  clear hK K
  (try simp only [Act.put, List.setIfInBounds_toArray, List.set_cons_zero, List.set_cons_succ])
  refine wpAnyH_ready (rs := [7]) (by kernel_rfl) (by simp) ?_
  refine AllReadyH.cons (o := ⟨_, _, _, _, _, _⟩) rfl (fun K hK => ?_) AllReadyH.nil
  go_simp
  go_at_call 18
  have hC_ := toInts_view 0 w.heap.size a3 c3 n3 xs3 w36 (HV3.out.kept (Kept.of_below B36.out (Nat.le_refl _))) B36.out.size (by omega)
  refine hC_.mono ?_
  clear hC_
  rintro e w37 ⟨rfl, o_, b_⟩
  have b37 : Below w36.heap.size w36 w37 := b_
  have s37 : w36.heap.size ≤ w37.heap.size := b37.size
  have a00_37 : w37.cell? ⟨w.heap.size, 0, none⟩ = some (.int .i64 z0) := cell_b b37 a00_36
  have a01_37 : w37.cell? ⟨w.heap.size, 1, none⟩ = some (.slice a0 n0 c0) := cell_b b37 a01_36
  have a10_37 : w37.cell? ⟨w.heap.size + 1, 0, none⟩ = some (.int .i64 z1) := cell_b b37 a10_36
  have a11_37 : w37.cell? ⟨w.heap.size + 1, 1, none⟩ = some (.slice a1 n1 c1) := cell_b b37 a11_36
  have a20_37 : w37.cell? ⟨w.heap.size + 1 + 1, 0, none⟩ = some (.int .i64 z2) := cell_b b37 a20_36
  have a21_37 : w37.cell? ⟨w.heap.size + 1 + 1, 1, none⟩ = some (.slice a2 n2 c2) := cell_b b37 a21_36
  have x00_37 : w37.cell? ⟨w10.heap.size, 0, none⟩ = some (.int .i64 z0) := cell_b b37 x00_36
  have x01_37 : w37.cell? ⟨w10.heap.size, 1, none⟩ = some (.slice (some ⟨X0g, 0, none⟩) n0 n0) := cell_b b37 x01_36
  have x10_37 : w37.cell? ⟨w11.heap.size, 0, none⟩ = some (.int .i64 z1) := cell_b b37 x10_36
  have x11_37 : w37.cell? ⟨w11.heap.size, 1, none⟩ = some (.slice (some ⟨X1g, 0, none⟩) n1 n1) := cell_b b37 x11_36
  have x20_37 : w37.cell? ⟨w12.heap.size, 0, none⟩ = some (.int .i64 z2) := cell_b b37 x20_36
  have x21_37 : w37.cell? ⟨w12.heap.size, 1, none⟩ = some (.slice (some ⟨X2g, 0, none⟩) n2 n2) := cell_b b37 x21_36
  have HR_37 := Lib.hid (HR_36.out.kept (Kept.of_below b37 (by omega)))
  have HG_37 := Lib.hid (HG_36.out.kept (Kept.of_below b37 (by omega)))
  have HT0_37 := Lib.hid (HT0_36.out.kept (Kept.of_below b37 (by omega)))
  have HT1_37 := Lib.hid (HT1_36.out.kept (Kept.of_below b37 (by omega)))
  have HT2_37 := Lib.hid (HT2_36.out.kept (Kept.of_below b37 (by omega)))
  have B37 : Hid (Below w.heap.size w w37) := below_then B36.out b37
  clear a00_36 a01_36 a10_36 a11_36 a20_36 a21_36 x00_36 x01_36 x10_36 x11_36 x20_36 x21_36 HR_36 HG_36 HT0_36 HT1_36 HT2_36 b_
  have HTI3_37 := Lib.hid (OwnsInts.of_row o_).view
  clear o_
  go_wp2_with fail
  refine hK.out _ _ ?_ (fun hHeld => ?_)
  · exact ⟨a00_37, a01_37, a10_37, a11_37, a20_37, a21_37, x00_37, x01_37, x10_37, x11_37, x20_37, x21_37⟩
  clear hK K
  (try simp only [Act.put, List.setIfInBounds_toArray, List.set_cons_zero, List.set_cons_succ])
  refine wpAnyH_ready (rs := [9]) (by kernel_rfl) (by simp) ?_
  refine AllReadyH.cons (o := ⟨_, _, _, _, _, _⟩) rfl (fun K hK => ?_) AllReadyH.nil
  go_simp
  go_at_call 18
  have hC_ := toInts_view 0 w.heap.size a4 c4 n4 xs4 w37 (HV4.out.kept (Kept.of_below B37.out (Nat.le_refl _))) B37.out.size (by omega)
  refine hC_.mono ?_
  clear hC_
  rintro e w38 ⟨rfl, o_, b_⟩
  have b38 : Below w37.heap.size w37 w38 := b_
  have s38 : w37.heap.size ≤ w38.heap.size := b38.size
  have a00_38 : w38.cell? ⟨w.heap.size, 0, none⟩ = some (.int .i64 z0) := cell_b b38 a00_37
  have a01_38 : w38.cell? ⟨w.heap.size, 1, none⟩ = some (.slice a0 n0 c0) := cell_b b38 a01_37
  have a10_38 : w38.cell? ⟨w.heap.size + 1, 0, none⟩ = some (.int .i64 z1) := cell_b b38 a10_37
  have a11_38 : w38.cell? ⟨w.heap.size + 1, 1, none⟩ = some (.slice a1 n1 c1) := cell_b b38 a11_37
  have a20_38 : w38.cell? ⟨w.heap.size + 1 + 1, 0, none⟩ = some (.int .i64 z2) := cell_b b38 a20_37
  have a21_38 : w38.cell? ⟨w.heap.size + 1 + 1, 1, none⟩ = some (.slice a2 n2 c2) := cell_b b38 a21_37
  have x00_38 : w38.cell? ⟨w10.heap.size, 0, none⟩ = some (.int .i64 z0) := cell_b b38 x00_37
  have x01_38 : w38.cell? ⟨w10.heap.size, 1, none⟩ = some (.slice (some ⟨X0g, 0, none⟩) n0 n0) := cell_b b38 x01_37
  have x10_38 : w38.cell? ⟨w11.heap.size, 0, none⟩ = some (.int .i64 z1) := cell_b b38 x10_37
  have x11_38 : w38.cell? ⟨w11.heap.size, 1, none⟩ = some (.slice (some ⟨X1g, 0, none⟩) n1 n1) := cell_b b38 x11_37
  have x20_38 : w38.cell? ⟨w12.heap.size, 0, none⟩ = some (.int .i64 z2) := cell_b b38 x20_37
  have x21_38 : w38.cell? ⟨w12.heap.size, 1, none⟩ = some (.slice (some ⟨X2g, 0, none⟩) n2 n2) := cell_b b38 x21_37
  have HR_38 := Lib.hid (HR_37.out.kept (Kept.of_below b38 (by omega)))
  have HG_38 := Lib.hid (HG_37.out.kept (Kept.of_below b38 (by omega)))
  have HT0_38 := Lib.hid (HT0_37.out.kept (Kept.of_below b38 (by omega)))
  have HT1_38 := Lib.hid (HT1_37.out.kept (Kept.of_below b38 (by omega)))
  have HT2_38 := Lib.hid (HT2_37.out.kept (Kept.of_below b38 (by omega)))
  have HTI3_38 := Lib.hid (HTI3_37.out.kept (Kept.of_below b38 (by omega)))
  have B38 : Hid (Below w.heap.size w w38) := below_then B37.out b38
  clear a00_37 a01_37 a10_37 a11_37 a20_37 a21_37 x00_37 x01_37 x10_37 x11_37 x20_37 x21_37 HR_37 HG_37 HT0_37 HT1_37 HT2_37 HTI3_37 b_
  have HTI4_38 := Lib.hid (OwnsInts.of_row o_).view
  clear o_
  go_wp2_with fail
  refine hK.out _ _ ?_ (fun hHeld => ?_)
  · exact ⟨a00_38, a01_38, a10_38, a11_38, a20_38, a21_38, x00_38, x01_38, x10_38, x11_38, x20_38, x21_38⟩
  clear hK K
  (try simp only [Act.put, List.setIfInBounds_toArray, List.set_cons_zero, List.set_cons_succ])
  refine wpAnyH_ready (rs := [10]) (by kernel_rfl) (by simp) ?_
  refine AllReadyH.cons (o := ⟨_, _, _, _, _, _⟩) rfl (fun K hK => ?_) AllReadyH.nil
  go_simp
  go_at_call 30
  have hC_ := implComposeHoms _ _ z0 _ n0 n0 fs0 _ _ z1 _ n1 n1 fs1 _ _ z2 _ n2 n2 fs2 _ _ _ n3 n3 xs3 _ _ _ n4 n4 xs4 w38 HT0_38.out (by omega) HSM0.out HT1_38.out (by omega) HSM1.out HT2_38.out (by omega) HSM2.out HTI3_38.out (by omega) (by unfold maxLen; omega) HTI4_38.out (by omega) (by unfold maxLen; omega)
  simp only [HVal.out] at hC_
  refine hC_.mono ?_
  clear hC_
  rintro e w39 ⟨Ua, Un, Uc, rfl, hq_, o_, b_⟩
  have b39 : Below w38.heap.size w38 w39 := b_
  have s39 : w38.heap.size ≤ w39.heap.size := b39.size
  have a00_39 : w39.cell? ⟨w.heap.size, 0, none⟩ = some (.int .i64 z0) := cell_b b39 a00_38
  have a01_39 : w39.cell? ⟨w.heap.size, 1, none⟩ = some (.slice a0 n0 c0) := cell_b b39 a01_38
  have a10_39 : w39.cell? ⟨w.heap.size + 1, 0, none⟩ = some (.int .i64 z1) := cell_b b39 a10_38
  have a11_39 : w39.cell? ⟨w.heap.size + 1, 1, none⟩ = some (.slice a1 n1 c1) := cell_b b39 a11_38
  have a20_39 : w39.cell? ⟨w.heap.size + 1 + 1, 0, none⟩ = some (.int .i64 z2) := cell_b b39 a20_38
  have a21_39 : w39.cell? ⟨w.heap.size + 1 + 1, 1, none⟩ = some (.slice a2 n2 c2) := cell_b b39 a21_38
  have x00_39 : w39.cell? ⟨w10.heap.size, 0, none⟩ = some (.int .i64 z0) := cell_b b39 x00_38
  have x01_39 : w39.cell? ⟨w10.heap.size, 1, none⟩ = some (.slice (some ⟨X0g, 0, none⟩) n0 n0) := cell_b b39 x01_38
  have x10_39 : w39.cell? ⟨w11.heap.size, 0, none⟩ = some (.int .i64 z1) := cell_b b39 x10_38
  have x11_39 : w39.cell? ⟨w11.heap.size, 1, none⟩ = some (.slice (some ⟨X1g, 0, none⟩) n1 n1) := cell_b b39 x11_38
  have x20_39 : w39.cell? ⟨w12.heap.size, 0, none⟩ = some (.int .i64 z2) := cell_b b39 x20_38
  have x21_39 : w39.cell? ⟨w12.heap.size, 1, none⟩ = some (.slice (some ⟨X2g, 0, none⟩) n2 n2) := cell_b b39 x21_38
  have HR_39 := Lib.hid (HR_38.out.kept (Kept.of_below b39 (by omega)))
  have HG_39 := Lib.hid (HG_38.out.kept (Kept.of_below b39 (by omega)))
  have HT0_39 := Lib.hid (HT0_38.out.kept (Kept.of_below b39 (by omega)))
  have HT1_39 := Lib.hid (HT1_38.out.kept (Kept.of_below b39 (by omega)))
  have HT2_39 := Lib.hid (HT2_38.out.kept (Kept.of_below b39 (by omega)))
  have HTI3_39 := Lib.hid (HTI3_38.out.kept (Kept.of_below b39 (by omega)))
  have HTI4_39 := Lib.hid (HTI4_38.out.kept (Kept.of_below b39 (by omega)))
  have B39 : Hid (Below w.heap.size w w39) := below_then B38.out b39
  clear a00_38 a01_38 a10_38 a11_38 a20_38 a21_38 x00_38 x01_38 x10_38 x11_38 x20_38 x21_38 HR_38 HG_38 HT0_38 HT1_38 HT2_38 HTI3_38 HTI4_38 b_
  obtain rfl : rn = Un := HRn.out.trans hq_.symm
  have HU_39 := Lib.hid o_.view
  clear o_ hq_
  go_wp2_with fail
  refine hK.out _ _ ?_ (fun hHeld => ?_)
  · exact ⟨a00_39, a01_39, a10_39, a11_39, a20_39, a21_39, x00_39, x01_39, x10_39, x11_39, x20_39, x21_39⟩
  clear hK K
  (try simp only [Act.put, List.setIfInBounds_toArray, List.set_cons_zero, List.set_cons_succ])
  refine wpAnyH_take (i := 11) (oi := ⟨_, _, _, _, _, _⟩) (v := ?_) rfl (by kernel_rfl) (by kernel_rfl) (by kernel_rfl) (fun _ _ _ h => h) (Or.inl ⟨rfl, ?_⟩) (by assumption) ?_
  rotate_left 1
  · intro w_ hSw; (try dsimp only at hSw); go_simp; (try with_reducible rfl)
  (try simp only [Act.put, List.setIfInBounds_toArray, List.set_cons_zero, List.set_cons_succ])
  refine wpAnyH_take (i := 12) (oi := ⟨_, _, _, _, _, _⟩) (v := ?_) rfl (by kernel_rfl) (by kernel_rfl) (by kernel_rfl) (fun _ _ _ h => h) (Or.inl ⟨rfl, ?_⟩) (by assumption) ?_
  rotate_left 1
  · intro w_ hSw; (try dsimp only at hSw); go_simp; (try with_reducible rfl)
  (try simp only [Act.put, List.setIfInBounds_toArray, List.set_cons_zero, List.set_cons_succ])
  refine wpAnyH_take (i := 13) (oi := ⟨_, _, _, _, _, _⟩) (v := ?_) rfl (by kernel_rfl) (by kernel_rfl) (by kernel_rfl) (fun _ _ _ h => h) (Or.inl ⟨rfl, ?_⟩) (by assumption) ?_
  rotate_left 1
  · intro w_ hSw; (try dsimp only at hSw); go_simp; (try with_reducible rfl)
  (try simp only [Act.put, List.setIfInBounds_toArray, List.set_cons_zero, List.set_cons_succ])
  refine wpAnyH_take (i := 14) (oi := ⟨_, _, _, _, _, _⟩) (v := ?_) rfl (by kernel_rfl) (by kernel_rfl) (by kernel_rfl) (fun _ _ _ h => h) (Or.inl ⟨rfl, ?_⟩) (by assumption) ?_
  rotate_left 1
  · intro w_ hSw; (try dsimp only at hSw); go_simp; (try with_reducible rfl)
  (try simp only [Act.put, List.setIfInBounds_toArray, List.set_cons_zero, List.set_cons_succ])
  refine wpAnyH_take (i := 15) (oi := ⟨_, _, _, _, _, _⟩) (v := ?_) rfl (by kernel_rfl) (by kernel_rfl) (by kernel_rfl) (fun _ _ _ h => h) (Or.inl ⟨rfl, ?_⟩) (by assumption) ?_
  rotate_left 1
  · intro w_ hSw; (try dsimp only at hSw); go_simp; (try with_reducible rfl)
  (try simp only [Act.put, List.setIfInBounds_toArray, List.set_cons_zero, List.set_cons_succ])
  refine wpAnyH_done (by kernel_rfl) ?_ _
  refine NoPanic.normal ?_
  clear HT0_39
  clear HT1_39
  clear HT2_39
  clear HTI3_39
  clear HTI4_39
  have hC_ := eqInts_view _ _ _ _ _ _ Uc Rc rn rs w39 HU_39.out HR_39.out (by unfold maxLen; omega)
  have HC_ := Lib.hid hC_
  clear hC_
  go_wp2_with fail
  refine HC_.out.mono ?_
  rintro e w40 ⟨rfl, q_⟩; have b_ := below_drawn (Below.refl w39.heap.size w39) q_; clear q_
  have b40 : Below w39.heap.size w39 w40 := b_
  have s40 : w39.heap.size ≤ w40.heap.size := b40.size
  have a00_40 : w40.cell? ⟨w.heap.size, 0, none⟩ = some (.int .i64 z0) := cell_b b40 a00_39
  have a01_40 : w40.cell? ⟨w.heap.size, 1, none⟩ = some (.slice a0 n0 c0) := cell_b b40 a01_39
  have a10_40 : w40.cell? ⟨w.heap.size + 1, 0, none⟩ = some (.int .i64 z1) := cell_b b40 a10_39
  have a11_40 : w40.cell? ⟨w.heap.size + 1, 1, none⟩ = some (.slice a1 n1 c1) := cell_b b40 a11_39
  have a20_40 : w40.cell? ⟨w.heap.size + 1 + 1, 0, none⟩ = some (.int .i64 z2) := cell_b b40 a20_39
  have a21_40 : w40.cell? ⟨w.heap.size + 1 + 1, 1, none⟩ = some (.slice a2 n2 c2) := cell_b b40 a21_39
  have x00_40 : w40.cell? ⟨w10.heap.size, 0, none⟩ = some (.int .i64 z0) := cell_b b40 x00_39
  have x01_40 : w40.cell? ⟨w10.heap.size, 1, none⟩ = some (.slice (some ⟨X0g, 0, none⟩) n0 n0) := cell_b b40 x01_39
  have x10_40 : w40.cell? ⟨w11.heap.size, 0, none⟩ = some (.int .i64 z1) := cell_b b40 x10_39
  have x11_40 : w40.cell? ⟨w11.heap.size, 1, none⟩ = some (.slice (some ⟨X1g, 0, none⟩) n1 n1) := cell_b b40 x11_39
  have x20_40 : w40.cell? ⟨w12.heap.size, 0, none⟩ = some (.int .i64 z2) := cell_b b40 x20_39
  have x21_40 : w40.cell? ⟨w12.heap.size, 1, none⟩ = some (.slice (some ⟨X2g, 0, none⟩) n2 n2) := cell_b b40 x21_39
  have HR_40 := Lib.hid (HR_39.out.kept (Kept.of_below b40 (by omega)))
  have HG_40 := Lib.hid (HG_39.out.kept (Kept.of_below b40 (by omega)))
  have HU_40 := Lib.hid (HU_39.out.kept (Kept.of_below b40 (by omega)))
  have B40 : Hid (Below w.heap.size w w40) := below_then B39.out b40
  clear a00_39 a01_39 a10_39 a11_39 a20_39 a21_39 x00_39 x01_39 x10_39 x11_39 x20_39 x21_39 HR_39 HG_39 HU_39 b_
  clear HC_
  have hC_ := heldInts_view _ _ Ga Gc rn 1 w40 (by omega) (by omega) HG_40.out
  have HC_ := Lib.hid hC_
  clear hC_
  go_wp2_with fail
  refine HC_.out.mono ?_
  rintro e w_ ⟨rfl, rfl⟩
  clear HC_
  go_wp2_with fail
  go_ret
  exact ⟨rfl, B40.out⟩

theorem lawComposeHoms (w : World) (z0 : Int) (a0 : Option Addr) (n0 c0 : Nat) (fs0 : List OpD) (wz0 : (Lit.int .i64 z0).wf = true) (hn0 : n0 ≤ maxLen) (ht0 : ∀ (j : Nat) (f : OpD), fs0[j]? = some f → f.2.length ≤ maxLen) (hv0 : OView w 0 w.heap.size a0 n0 fs0) (z1 : Int) (a1 : Option Addr) (n1 c1 : Nat) (fs1 : List OpD) (wz1 : (Lit.int .i64 z1).wf = true) (hn1 : n1 ≤ maxLen) (ht1 : ∀ (j : Nat) (f : OpD), fs1[j]? = some f → f.2.length ≤ maxLen) (hv1 : OView w 0 w.heap.size a1 n1 fs1) (z2 : Int) (a2 : Option Addr) (n2 c2 : Nat) (fs2 : List OpD) (wz2 : (Lit.int .i64 z2).wf = true) (hn2 : n2 ≤ maxLen) (ht2 : ∀ (j : Nat) (f : OpD), fs2[j]? = some f → f.2.length ≤ maxLen) (hv2 : OView w 0 w.heap.size a2 n2 fs2) (a3 : Option Addr) (n3 c3 : Nat) (xs3 : List Int) (hc3 : n3 ≤ c3) (hm3 : c3 ≤ maxLen) (hv3 : IView w 0 w.heap.size a3 n3 xs3) (a4 : Option Addr) (n4 c4 : Nat) (xs4 : List Int) (hc4 : n4 ≤ c4) (hm4 : c4 ≤ maxLen) (hv4 : IView w 0 w.heap.size a4 n4 xs4) :
    Calls Try.prog 6 #[.agg #[.int .i64 z0, .slice a0 n0 c0], .agg #[.int .i64 z1, .slice a1 n1 c1], .agg #[.int .i64 z2, .slice a2 n2 c2], .slice a3 n3 c3, .slice a4 n4 c4] w fun e w' => e = .returned (.bool true) ∧ Below w.heap.size w w' := by
  rcases Nat.lt_or_ge 1048576 n3 with hb3 | hb3
  · exact lawComposeHoms_big3 w z0 a0 n0 c0 fs0 wz0 hn0 ht0 hv0 z1 a1 n1 c1 fs1 wz1 hn1 ht1 hv1 z2 a2 n2 c2 fs2 wz2 hn2 ht2 hv2 a3 n3 c3 xs3 hc3 hm3 hv3 a4 n4 c4 xs4 hc4 hm4 hv4  hb3
  rcases Nat.lt_or_ge 1048576 n4 with hb4 | hb4
  · exact lawComposeHoms_big4 w z0 a0 n0 c0 fs0 wz0 hn0 ht0 hv0 z1 a1 n1 c1 fs1 wz1 hn1 ht1 hv1 z2 a2 n2 c2 fs2 wz2 hn2 ht2 hv2 a3 n3 c3 xs3 hc3 hm3 hv3 a4 n4 c4 xs4 hc4 hm4 hv4 hb3 hb4
  refine (Classical.em (((n0 + osum fs0 : Nat) : Int) ≤ 1048576)).elim (fun hfit0 => ?_) (fun hfit0 => lawComposeHoms_no0 w z0 a0 n0 c0 fs0 wz0 hn0 ht0 hv0 z1 a1 n1 c1 fs1 wz1 hn1 ht1 hv1 z2 a2 n2 c2 fs2 wz2 hn2 ht2 hv2 a3 n3 c3 xs3 hc3 hm3 hv3 a4 n4 c4 xs4 hc4 hm4 hv4 hb3 hb4  hfit0)
  refine (Classical.em (((n1 + osum fs1 : Nat) : Int) ≤ 1048576 - ((n0 + osum fs0 : Nat) : Int))).elim (fun hfit1 => ?_) (fun hfit1 => lawComposeHoms_no1 w z0 a0 n0 c0 fs0 wz0 hn0 ht0 hv0 z1 a1 n1 c1 fs1 wz1 hn1 ht1 hv1 z2 a2 n2 c2 fs2 wz2 hn2 ht2 hv2 a3 n3 c3 xs3 hc3 hm3 hv3 a4 n4 c4 xs4 hc4 hm4 hv4 hb3 hb4  hfit0 hfit1)
  refine (Classical.em (((n2 + osum fs2 : Nat) : Int) ≤ 1048576 - ((n0 + osum fs0 : Nat) : Int) - ((n1 + osum fs1 : Nat) : Int))).elim (fun hfit2 => ?_) (fun hfit2 => lawComposeHoms_no2 w z0 a0 n0 c0 fs0 wz0 hn0 ht0 hv0 z1 a1 n1 c1 fs1 wz1 hn1 ht1 hv1 z2 a2 n2 c2 fs2 wz2 hn2 ht2 hv2 a3 n3 c3 xs3 hc3 hm3 hv3 a4 n4 c4 xs4 hc4 hm4 hv4 hb3 hb4  hfit0 hfit1 hfit2)
  exact lawComposeHoms_fit w z0 a0 n0 c0 fs0 wz0 hn0 ht0 hv0 z1 a1 n1 c1 fs1 wz1 hn1 ht1 hv1 z2 a2 n2 c2 fs2 wz2 hn2 ht2 hv2 a3 n3 c3 xs3 hc3 hm3 hv3 a4 n4 c4 xs4 hc4 hm4 hv4 hb3 hb4  hfit0 hfit1 hfit2 (smallComposeHoms z0 fs0 z1 fs1 z2 fs2 xs3 xs4)

end Go.Proofs.Ytcioekhlhgkkiaa
