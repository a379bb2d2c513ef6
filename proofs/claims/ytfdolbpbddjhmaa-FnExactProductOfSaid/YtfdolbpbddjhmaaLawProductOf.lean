/-
  The walk of the law FnExactProductOf: ProductOf answers as its model, in memory of its own, and changes no argument. Conditions: the lengths are at most maxLen.
-/
import Derived.Test.YtfdolbpbddjhmaaStep
import Derived.Deep.DrawnRows
import Derived.Deep.RegionHeld3
import Derived.Test.YtfdolbpbddjhmaaHeldA
import Derived.Test.YtfdolbpbddjhmaaPdD
namespace Go.Proofs.Ytfdolbpbddjhmaa
open Go.RowKit
set_option linter.unusedVariables false
set_option linter.unusedSimpArgs false
attribute [local go_sem ↓] Go.wp_at_zero Go.wp_at_succ

set_option maxHeartbeats 400000 in
theorem lawProductOf_no0 (w : World) (z0 : Int) (a0 : Option Addr) (n0 c0 : Nat) (fs0 : List OpD) (wz0 : (Lit.int .i64 z0).wf = true) (hn0 : n0 ≤ maxLen) (ht0 : ∀ (j : Nat) (f : OpD), fs0[j]? = some f → f.2.length ≤ maxLen) (hv0 : OView w 0 w.heap.size a0 n0 fs0) (z1 : Int) (a1 : Option Addr) (n1 c1 : Nat) (fs1 : List OpD) (wz1 : (Lit.int .i64 z1).wf = true) (hn1 : n1 ≤ maxLen) (ht1 : ∀ (j : Nat) (f : OpD), fs1[j]? = some f → f.2.length ≤ maxLen) (hv1 : OView w 0 w.heap.size a1 n1 fs1) (hfit0 : ¬ ((n0 + osum fs0 : Nat) : Int) ≤ 1048576) :
    Calls Try.prog 3 #[.agg #[.int .i64 z0, .slice a0 n0 c0], .agg #[.int .i64 z1, .slice a1 n1 c1]] w fun e w' => e = .returned (.bool true) ∧ Below w.heap.size w w' := by
  have hB0 := (below_then (below_alloc w (.cells #[.int .i64 z0, .slice a0 n0 c0] 24)) (below_alloc (w.alloc (.cells #[.int .i64 z0, .slice a0 n0 c0] 24)) (.cells #[.int .i64 z1, .slice a1 n1 c1] 24)))
  have hsz0 := fun (W : World) (hW : Below w.heap.size w W) => szAlg_any w.heap.size z0 a0 c0 n0 fs0 (1048576) W (hv0.kept (Kept.of_below hW (Nat.le_refl _))) hW.size hn0 ht0 (by omega) (by omega)
  simp only [szI_no (show ¬ ((n0 + osum fs0 : Nat) : Int) ≤ 1048576 by omega)] at hsz0
  have HSz0 := Lib.hid hsz0
  clear hsz0
  have HB0 := Lib.hid hB0
  clear hB0 hv0 ht0 hn0 wz0 hv1 ht1 hn1 wz1 hfit0
  go_enter Try.func3, Try.ntmps3
  go_wp2_with fail
  refine (HSz0.out _ HB0.out).mono ?_
  rintro e v1 ⟨rfl, b1⟩
  have B1 := Lib.hid (below_then HB0.out b1)
  clear b1
  go_wp2_with fail
  go_ret
  exact ⟨rfl, B1.out⟩

set_option maxHeartbeats 400000 in
theorem lawProductOf_no1 (w : World) (z0 : Int) (a0 : Option Addr) (n0 c0 : Nat) (fs0 : List OpD) (wz0 : (Lit.int .i64 z0).wf = true) (hn0 : n0 ≤ maxLen) (ht0 : ∀ (j : Nat) (f : OpD), fs0[j]? = some f → f.2.length ≤ maxLen) (hv0 : OView w 0 w.heap.size a0 n0 fs0) (z1 : Int) (a1 : Option Addr) (n1 c1 : Nat) (fs1 : List OpD) (wz1 : (Lit.int .i64 z1).wf = true) (hn1 : n1 ≤ maxLen) (ht1 : ∀ (j : Nat) (f : OpD), fs1[j]? = some f → f.2.length ≤ maxLen) (hv1 : OView w 0 w.heap.size a1 n1 fs1) (hfit0 : ((n0 + osum fs0 : Nat) : Int) ≤ 1048576) (hfit1 : ¬ ((n1 + osum fs1 : Nat) : Int) ≤ 1048576 - ((n0 + osum fs0 : Nat) : Int)) :
    Calls Try.prog 3 #[.agg #[.int .i64 z0, .slice a0 n0 c0], .agg #[.int .i64 z1, .slice a1 n1 c1]] w fun e w' => e = .returned (.bool true) ∧ Below w.heap.size w w' := by
  have hB0 := (below_then (below_alloc w (.cells #[.int .i64 z0, .slice a0 n0 c0] 24)) (below_alloc (w.alloc (.cells #[.int .i64 z0, .slice a0 n0 c0] 24)) (.cells #[.int .i64 z1, .slice a1 n1 c1] 24)))
  have hsz0 := fun (W : World) (hW : Below w.heap.size w W) => szAlg_any w.heap.size z0 a0 c0 n0 fs0 (1048576) W (hv0.kept (Kept.of_below hW (Nat.le_refl _))) hW.size hn0 ht0 (by omega) (by omega)
  obtain ⟨l1, hl_1, hl_1a, hl_1b⟩ : ∃ l : Int, l = 1048576 - ((n0 + osum fs0 : Nat) : Int) ∧ 0 ≤ l ∧ l ≤ 1048576 := ⟨_, rfl, by omega, by omega⟩
  simp only [szI_yes (show ((n0 + osum fs0 : Nat) : Int) ≤ 1048576 by omega), ← hl_1] at hsz0
  have HSz0 := Lib.hid hsz0
  clear hsz0
  have hsz1 := fun (W : World) (hW : Below w.heap.size w W) => szAlg_any w.heap.size z1 a1 c1 n1 fs1 (l1) W (hv1.kept (Kept.of_below hW (Nat.le_refl _))) hW.size hn1 ht1 (by omega) (by omega)
  simp only [szI_no (show ¬ ((n1 + osum fs1 : Nat) : Int) ≤ l1 by omega)] at hsz1
  have HSz1 := Lib.hid hsz1
  clear hsz1
  have HB0 := Lib.hid hB0
  clear hB0 hv0 ht0 hn0 wz0 hv1 ht1 hn1 wz1 hl_1 hfit0 hfit1
  go_enter Try.func3, Try.ntmps3
  go_wp2_with fail
  refine (HSz0.out _ HB0.out).mono ?_
  rintro e v1 ⟨rfl, b1⟩
  have y10_1 : v1.cell? ⟨w.heap.size + 1, 0, none⟩ = some (.int .i64 z1) := cell_b b1 (by simp)
  have y11_1 : v1.cell? ⟨w.heap.size + 1, 1, none⟩ = some (.slice a1 n1 c1) := cell_b b1 (by simp)
  have B1 := Lib.hid (below_then HB0.out b1)
  clear b1
  go_wp2_with fail
  refine (HSz1.out _ B1.out).mono ?_
  rintro e v2 ⟨rfl, b1⟩
  have B2 := Lib.hid (below_then B1.out b1)
  clear b1
  go_wp2_with fail
  go_ret
  exact ⟨rfl, B2.out⟩

set_option maxRecDepth 100000 in
set_option maxHeartbeats 4000000 in
theorem lawProductOf_fit (w : World) (z0 : Int) (a0 : Option Addr) (n0 c0 : Nat) (fs0 : List OpD) (wz0 : (Lit.int .i64 z0).wf = true) (hn0 : n0 ≤ maxLen) (ht0 : ∀ (j : Nat) (f : OpD), fs0[j]? = some f → f.2.length ≤ maxLen) (hv0 : OView w 0 w.heap.size a0 n0 fs0) (z1 : Int) (a1 : Option Addr) (n1 c1 : Nat) (fs1 : List OpD) (wz1 : (Lit.int .i64 z1).wf = true) (hn1 : n1 ≤ maxLen) (ht1 : ∀ (j : Nat) (f : OpD), fs1[j]? = some f → f.2.length ≤ maxLen) (hv1 : OView w 0 w.heap.size a1 n1 fs1) (hfit0 : ((n0 + osum fs0 : Nat) : Int) ≤ 1048576) (hfit1 : ((n1 + osum fs1 : Nat) : Int) ≤ 1048576 - ((n0 + osum fs0 : Nat) : Int)) (hres : (valProductOf z0 fs0 z1 fs1).2.1.length + osum (valProductOf z0 fs0 z1 fs1).2.1 ≤ 4194304) :
    Calls Try.prog 3 #[.agg #[.int .i64 z0, .slice a0 n0 c0], .agg #[.int .i64 z1, .slice a1 n1 c1]] w fun e w' => e = .returned (.bool true) ∧ Below w.heap.size w w' := by
  obtain ⟨hn1_0, hn2_0, hn3_0, hs80, hsM0⟩ := small_of (left := 1048576) (show ((n0 + osum fs0 : Nat) : Int) ≤ 1048576 by omega) (Int.le_refl _)
  obtain ⟨hn1_1, hn2_1, hn3_1, hs81, hsM1⟩ := small_of (left := 1048576) (show ((n1 + osum fs1 : Nat) : Int) ≤ 1048576 by omega) (Int.le_refl _)
  have hB0 := (below_then (below_alloc w (.cells #[.int .i64 z0, .slice a0 n0 c0] 24)) (below_alloc (w.alloc (.cells #[.int .i64 z0, .slice a0 n0 c0] 24)) (.cells #[.int .i64 z1, .slice a1 n1 c1] 24)))
  have hsz0 := fun (W : World) (hW : Below w.heap.size w W) => szAlg_any w.heap.size z0 a0 c0 n0 fs0 (1048576) W (hv0.kept (Kept.of_below hW (Nat.le_refl _))) hW.size hn0 ht0 (by omega) (by omega)
  obtain ⟨l1, hl_1, hl_1a, hl_1b⟩ : ∃ l : Int, l = 1048576 - ((n0 + osum fs0 : Nat) : Int) ∧ 0 ≤ l ∧ l ≤ 1048576 := ⟨_, rfl, by omega, by omega⟩
  simp only [szI_yes (show ((n0 + osum fs0 : Nat) : Int) ≤ 1048576 by omega), ← hl_1] at hsz0
  have HSz0 := Lib.hid hsz0
  clear hsz0
  have hsz1 := fun (W : World) (hW : Below w.heap.size w W) => szAlg_any w.heap.size z1 a1 c1 n1 fs1 (l1) W (hv1.kept (Kept.of_below hW (Nat.le_refl _))) hW.size hn1 ht1 (by omega) (by omega)
  obtain ⟨l2, hl_2, hl_2a, hl_2b⟩ : ∃ l : Int, l = l1 - ((n1 + osum fs1 : Nat) : Int) ∧ 0 ≤ l ∧ l ≤ 1048576 := ⟨_, rfl, by omega, by omega⟩
  simp only [szI_yes (show ((n1 + osum fs1 : Nat) : Int) ≤ l1 by omega), ← hl_2] at hsz1
  have HSz1 := Lib.hid hsz1
  clear hsz1
  have HB0 := Lib.hid hB0
  have HV0 := Lib.hid hv0
  have hl0 := Lib.hid hv0.1
  have HW0 := Lib.hid wz0
  have HS80 := Lib.hid hs80
  have HSM0 := Lib.hid hsM0
  have HFit0 : Hid (((n0 + osum fs0 : Nat) : Int) ≤ 1048576) := (show ((n0 + osum fs0 : Nat) : Int) ≤ 1048576 by omega)
  have HV1 := Lib.hid hv1
  have hl1 := Lib.hid hv1.1
  have HW1 := Lib.hid wz1
  have HS81 := Lib.hid hs81
  have HSM1 := Lib.hid hsM1
  have HFit1 : Hid (((n1 + osum fs1 : Nat) : Int) ≤ 1048576) := (show ((n1 + osum fs1 : Nat) : Int) ≤ 1048576 by omega)
  obtain ⟨⟨rz, rs, ok⟩, hval⟩ : ∃ p, valProductOf z0 fs0 z1 fs1 = p := ⟨_, rfl⟩
  simp only [hval] at hres
  have HRes := Lib.hid hres
  have hrl : rs.length ≤ 4194304 := by omega
  obtain ⟨rn, hrn⟩ : ∃ rn, rn = rs.length := ⟨_, rfl⟩
  rw [← hrn] at hrl
  have HRn := Lib.hid hrn
  have HVal := Lib.hid hval
  clear hB0 hval hv0 ht0 hn0 wz0 hv1 ht1 hn1 wz1 hs80 hsM0 hn2_0 hs81 hsM1 hn2_1 hfit0 hfit1 hl_1 hl_2 hres hrn
  have hne_ok : (ok != ok) = false := by cases ok <;> rfl
  go_enter Try.func3, Try.ntmps3
  go_wp2_with fail
  refine (HSz0.out _ (below_then (below_alloc w (.cells #[.int .i64 z0, .slice a0 n0 c0] 24)) (below_alloc (w.alloc (.cells #[.int .i64 z0, .slice a0 n0 c0] 24)) (.cells #[.int .i64 z1, .slice a1 n1 c1] 24)))).mono ?_
  rintro e w1 ⟨rfl, b_⟩
  have b1 : Below w.heap.size w w1 := below_then (below_then (below_alloc w (.cells #[.int .i64 z0, .slice a0 n0 c0] 24)) (below_alloc (w.alloc (.cells #[.int .i64 z0, .slice a0 n0 c0] 24)) (.cells #[.int .i64 z1, .slice a1 n1 c1] 24))) b_
  have s1 : w.heap.size ≤ w1.heap.size := b1.size
  have a00_1 : w1.cell? ⟨w.heap.size, 0, none⟩ = some (.int .i64 z0) := cell_b b_ (by simp)
  have a01_1 : w1.cell? ⟨w.heap.size, 1, none⟩ = some (.slice a0 n0 c0) := cell_b b_ (by simp)
  have za0 : w.heap.size < w1.heap.size := (by have := b_.size; simp at this; omega)
  have a10_1 : w1.cell? ⟨w.heap.size + 1, 0, none⟩ = some (.int .i64 z1) := cell_b b_ (by simp)
  have a11_1 : w1.cell? ⟨w.heap.size + 1, 1, none⟩ = some (.slice a1 n1 c1) := cell_b b_ (by simp)
  have za1 : w.heap.size + 1 < w1.heap.size := (by have := b_.size; simp at this; omega)
  have B1 : Hid (Below w.heap.size w w1) := b1
  clear b_
  go_wp2_with fail
  refine (HSz1.out _ B1.out).mono ?_
  rintro e w2 ⟨rfl, b_⟩
  have b2 : Below w1.heap.size w1 w2 := b_
  have s2 : w1.heap.size ≤ w2.heap.size := b2.size
  have a00_2 : w2.cell? ⟨w.heap.size, 0, none⟩ = some (.int .i64 z0) := cell_b b2 a00_1
  have a01_2 : w2.cell? ⟨w.heap.size, 1, none⟩ = some (.slice a0 n0 c0) := cell_b b2 a01_1
  have a10_2 : w2.cell? ⟨w.heap.size + 1, 0, none⟩ = some (.int .i64 z1) := cell_b b2 a10_1
  have a11_2 : w2.cell? ⟨w.heap.size + 1, 1, none⟩ = some (.slice a1 n1 c1) := cell_b b2 a11_1
  have B2 : Hid (Below w.heap.size w w2) := below_then B1.out b2
  clear a00_1 a01_1 a10_1 a11_1 b_
  go_wp2_with fail
  refine wp_region_noPanic ?_
  refine wp_region_held_drew (S := fun W => W.cell? ⟨w.heap.size, 0, none⟩ = some (.int .i64 z0) ∧ W.cell? ⟨w.heap.size, 1, none⟩ = some (.slice a0 n0 c0) ∧ W.cell? ⟨w.heap.size + 1, 0, none⟩ = some (.int .i64 z1) ∧ W.cell? ⟨w.heap.size + 1, 1, none⟩ = some (.slice a1 n1 c1)) (by kernel_rfl) ?_ (fun hHeld => ?_)
  · exact ⟨a00_2, a01_2, a10_2, a11_2⟩
  refine wpAnyH_take (i := 0) (oi := ⟨_, _, _, _, _, _⟩) (v := ?_) rfl (by kernel_rfl) (by kernel_rfl) (by kernel_rfl) (fun _ _ _ h => h) (Or.inl ⟨rfl, ?_⟩) (by assumption) ?_
  rotate_left 1
  · intro w_ hSw; (try dsimp only at hSw); go_simp; (try with_reducible rfl)
  (try simp only [Act.put, List.setIfInBounds_toArray, List.set_cons_zero, List.set_cons_succ])
  refine wpAnyH_take (i := 2) (oi := ⟨_, _, _, _, _, _⟩) (v := ?_) rfl (by kernel_rfl) (by kernel_rfl) (by kernel_rfl) (fun _ _ _ h => h) (Or.inl ⟨rfl, ?_⟩) (by assumption) ?_
  rotate_left 1
  · intro w_ hSw; (try dsimp only at hSw); go_simp; (try with_reducible rfl)
  (try simp only [Act.put, List.setIfInBounds_toArray, List.set_cons_zero, List.set_cons_succ])
  refine wpAnyH_ready (rs := [1, 8]) (by kernel_rfl) (by simp) ?_
  refine AllReadyH.cons (o := ⟨_, _, _, _, _, _⟩) rfl (fun K hK => ?_) (AllReadyH.cons (o := ⟨_, _, _, _, _, _⟩) rfl (fun K hK => ?_) AllReadyH.nil)
  go_simp
  go_at_call 17
  have hC_ := toAlg_view w.heap.size z0 a0 c0 n0 fs0 w2.drew (HV0.out.kept (Kept.of_below (below_then B2.out (below_drew w2)) (Nat.le_refl _))) (below_then B2.out (below_drew w2)).size hn3_0 HS80.out
  refine hC_.mono ?_
  clear hC_
  rintro e w3 ⟨S0g, rfl, m_⟩; have b_ := m_.2
  have b3 : Below w2.heap.size w2 w3 := below_then (below_drew w2) b_
  have s3 : w2.heap.size ≤ w3.heap.size := b3.size
  have a00_3 : w3.cell? ⟨w.heap.size, 0, none⟩ = some (.int .i64 z0) := cell_b b3 a00_2
  have a01_3 : w3.cell? ⟨w.heap.size, 1, none⟩ = some (.slice a0 n0 c0) := cell_b b3 a01_2
  have a10_3 : w3.cell? ⟨w.heap.size + 1, 0, none⟩ = some (.int .i64 z1) := cell_b b3 a10_2
  have a11_3 : w3.cell? ⟨w.heap.size + 1, 1, none⟩ = some (.slice a1 n1 c1) := cell_b b3 a11_2
  have B3 : Hid (Below w.heap.size w w3) := below_then B2.out b3
  clear a00_2 a01_2 a10_2 a11_2 b_
  have m_ := m_.view hl0.out
  simp only [World.size_alloc, World.size_drew] at m_
  have HS0_3 := Lib.hid m_
  clear m_
  go_wp2_with fail
  refine hK.out _ _ ?_ (fun hHeld => ?_)
  · exact ⟨a00_3, a01_3, a10_3, a11_3⟩
  clear hK K
  (try simp only [Act.put, List.setIfInBounds_toArray, List.set_cons_zero, List.set_cons_succ])
  refine wpAnyH_ready (rs := [3, 8]) (by kernel_rfl) (by simp) ?_
  refine AllReadyH.cons (o := ⟨_, _, _, _, _, _⟩) rfl (fun K hK => ?_) (AllReadyH.cons (o := ⟨_, _, _, _, _, _⟩) rfl (fun K hK => ?_) AllReadyH.nil)
  go_simp
  go_at_call 17
  have hC_ := toAlg_view w.heap.size z1 a1 c1 n1 fs1 w3 (HV1.out.kept (Kept.of_below B3.out (Nat.le_refl _))) B3.out.size hn3_1 HS81.out
  refine hC_.mono ?_
  clear hC_
  rintro e w4 ⟨S1g, rfl, m_⟩; have b_ := m_.2
  have b4 : Below w3.heap.size w3 w4 := b_
  have s4 : w3.heap.size ≤ w4.heap.size := b4.size
  have a00_4 : w4.cell? ⟨w.heap.size, 0, none⟩ = some (.int .i64 z0) := cell_b b4 a00_3
  have a01_4 : w4.cell? ⟨w.heap.size, 1, none⟩ = some (.slice a0 n0 c0) := cell_b b4 a01_3
  have a10_4 : w4.cell? ⟨w.heap.size + 1, 0, none⟩ = some (.int .i64 z1) := cell_b b4 a10_3
  have a11_4 : w4.cell? ⟨w.heap.size + 1, 1, none⟩ = some (.slice a1 n1 c1) := cell_b b4 a11_3
  have HS0_4 := Lib.hid (HS0_3.out.kept (Kept.of_below b4 (by omega)))
  have B4 : Hid (Below w.heap.size w w4) := below_then B3.out b4
  clear a00_3 a01_3 a10_3 a11_3 HS0_3 b_
  have m_ := m_.view hl1.out
  have HS1_4 := Lib.hid m_
  clear m_
  go_wp2_with fail
  refine hK.out _ _ ?_ (fun hHeld => ?_)
  · exact ⟨a00_4, a01_4, a10_4, a11_4⟩
  clear hK K
  (try simp only [Act.put, List.setIfInBounds_toArray, List.set_cons_zero, List.set_cons_succ])
  refine wpAnyH_ready (rs := [4, 8]) (by kernel_rfl) (by simp) ?_
  refine AllReadyH.cons (o := ⟨_, _, _, _, _, _⟩) rfl (fun K hK => ?_) (AllReadyH.cons (o := ⟨_, _, _, _, _, _⟩) rfl (fun K hK => ?_) AllReadyH.nil)
  go_simp
  go_at_call 16
  have hC_ := specProductOf _ _ z0 _ n0 n0 fs0 _ _ z1 _ n1 n1 fs1 w4 HS0_4.out (by omega) HSM0.out HS1_4.out (by omega) HSM1.out
  simp only [HVal.out] at hC_
  refine hC_.mono ?_
  clear hC_
  rintro e w5 ⟨Ra, Rn, Rc, RG, RC, rfl, hq_, o_, b_⟩
  have b5 : Below w4.heap.size w4 w5 := b_
  have s5 : w4.heap.size ≤ w5.heap.size := b5.size
  have a00_5 : w5.cell? ⟨w.heap.size, 0, none⟩ = some (.int .i64 z0) := cell_b b5 a00_4
  have a01_5 : w5.cell? ⟨w.heap.size, 1, none⟩ = some (.slice a0 n0 c0) := cell_b b5 a01_4
  have a10_5 : w5.cell? ⟨w.heap.size + 1, 0, none⟩ = some (.int .i64 z1) := cell_b b5 a10_4
  have a11_5 : w5.cell? ⟨w.heap.size + 1, 1, none⟩ = some (.slice a1 n1 c1) := cell_b b5 a11_4
  have HS0_5 := Lib.hid (HS0_4.out.kept (Kept.of_below b5 (by omega)))
  have HS1_5 := Lib.hid (HS1_4.out.kept (Kept.of_below b5 (by omega)))
  have B5 : Hid (Below w.heap.size w w5) := below_then B4.out b5
  clear a00_4 a01_4 a10_4 a11_4 HS0_4 HS1_4 b_
  obtain rfl : rn = Rn := HRn.out.trans hq_.symm
  have h_ := o_.view
  rw [HRn.out, map_range_get, ← HRn.out] at h_
  have HR_5 := Lib.hid h_
  clear h_
  clear o_ hq_
  go_wp2_with fail
  refine hK.out _ _ ?_ (fun hHeld => ?_)
  · exact ⟨a00_5, a01_5, a10_5, a11_5⟩
  clear hK K
  (try simp only [Act.put, List.setIfInBounds_toArray, List.set_cons_zero, List.set_cons_succ])
  refine wpAnyH_take (i := 5) (oi := ⟨_, _, _, _, _, _⟩) (v := ?_) rfl (by kernel_rfl) (by kernel_rfl) (by kernel_rfl) (fun _ _ _ h => h) (Or.inl ⟨rfl, ?_⟩) (by assumption) ?_
  rotate_left 1
  · intro w_ hSw; (try dsimp only at hSw); go_simp; (try with_reducible rfl)
  (try simp only [Act.put, List.setIfInBounds_toArray, List.set_cons_zero, List.set_cons_succ])
  refine wpAnyH_take (i := 6) (oi := ⟨_, _, _, _, _, _⟩) (v := ?_) rfl (by kernel_rfl) (by kernel_rfl) (by kernel_rfl) (fun _ _ _ h => h) (Or.inl ⟨rfl, ?_⟩) (by assumption) ?_
  rotate_left 1
  · intro w_ hSw; (try dsimp only at hSw); go_simp; (try with_reducible rfl)
  (try simp only [Act.put, List.setIfInBounds_toArray, List.set_cons_zero, List.set_cons_succ])
  refine wpAnyH_take (i := 7) (oi := ⟨_, _, _, _, _, _⟩) (v := ?_) rfl (by kernel_rfl) (by kernel_rfl) (by kernel_rfl) (fun _ _ _ h => h) (Or.inl ⟨rfl, ?_⟩) (by assumption) ?_
  rotate_left 1
  · intro w_ hSw; (try dsimp only at hSw); go_simp; (try with_reducible rfl)
  (try simp only [Act.put, List.setIfInBounds_toArray, List.set_cons_zero, List.set_cons_succ])
  refine wpAnyH_ready (rs := [8]) (by kernel_rfl) (by simp) ?_
  refine AllReadyH.cons (o := ⟨_, _, _, _, _, _⟩) rfl (fun K hK => ?_) AllReadyH.nil
  go_simp
  have HRBp : Hid ((w5.alloc (.cells #[.int .i64 0, .slice none 0 0] 28)).heap[w5.heap.size]? = some (.cells #[.int .i64 0, .slice none 0 0] 28 (0, 0))) := heap_alloc_new w5 (.cells #[.int .i64 0, .slice none 0 0] 28)
  have a00_p : ((w5.alloc (.cells #[.int .i64 0, .slice none 0 0] 28))).cell? ⟨w.heap.size, 0, none⟩ = some (.int .i64 z0) := cell_b (below_alloc w5 (.cells #[.int .i64 0, .slice none 0 0] 28)) a00_5
  have a01_p : ((w5.alloc (.cells #[.int .i64 0, .slice none 0 0] 28))).cell? ⟨w.heap.size, 1, none⟩ = some (.slice a0 n0 c0) := cell_b (below_alloc w5 (.cells #[.int .i64 0, .slice none 0 0] 28)) a01_5
  have a10_p : ((w5.alloc (.cells #[.int .i64 0, .slice none 0 0] 28))).cell? ⟨w.heap.size + 1, 0, none⟩ = some (.int .i64 z1) := cell_b (below_alloc w5 (.cells #[.int .i64 0, .slice none 0 0] 28)) a10_5
  have a11_p : ((w5.alloc (.cells #[.int .i64 0, .slice none 0 0] 28))).cell? ⟨w.heap.size + 1, 1, none⟩ = some (.slice a1 n1 c1) := cell_b (below_alloc w5 (.cells #[.int .i64 0, .slice none 0 0] 28)) a11_5
  refine hK.out _ _ ?_ (fun hHeld => ?_)
  · exact ⟨a00_p, a01_p, a10_p, a11_p⟩
  clear hK K
  (try simp only [Act.put, List.setIfInBounds_toArray, List.set_cons_zero, List.set_cons_succ])
  clear a00_p a01_p a10_p a11_p
  refine wpAnyH_ready (rs := [9]) (by kernel_rfl) (by simp) ?_
  refine AllReadyH.cons (o := ⟨_, _, _, _, _, _⟩) rfl (fun K hK => ?_) AllReadyH.nil
  obtain ⟨wN, hwN⟩ : ∃ wN : World, wN = (w5.alloc (.cells #[.int .i64 0, .slice none 0 0] 28)) := ⟨_, rfl⟩
  have bN : Below w5.heap.size w5 wN := by rw [hwN]; exact (below_alloc w5 (.cells #[.int .i64 0, .slice none 0 0] 28))
  have hRB : wN.heap[w5.heap.size]? = some (.cells #[.int .i64 0, .slice none 0 0] 28 (0, 0)) := by rw [hwN]; exact HRBp.out
  try rw [← hwN]
  clear hwN HRBp
  obtain ⟨rb, hrb⟩ : ∃ rb : Nat, rb = w5.heap.size := ⟨_, rfl⟩
  rw [← hrb] at hRB
  rw [← hrb]
  obtain ⟨qb0, qb1, qbf⟩ := box_cells hRB
  have qbf0 := qbf 0
  have qbf1 := qbf 1
  have HRBn := Lib.hid hRB
  have HRBe := Lib.hid hrb
  have hrbl := (Array.getElem?_eq_some_iff.1 hRB).1
  have hrb2 : w2.heap.size ≤ rb := by omega
  clear hRB hrb qbf
  go_simp
  obtain ⟨w6, hwF⟩ : ∃ w_ : World, w_ = ((wN.setCell ⟨rb, 0, none⟩ (.int .i64 rz)).setCell ⟨rb, 1, none⟩ (.slice Ra rn Rc)) := ⟨_, rfl⟩
  rw [← hwF]
  have hfar : ∀ q, q ≠ rb → q < w5.heap.size → w6.heap[q]? = w5.heap[q]? := fun q h1 h2 => by rw [hwF, Below.heap_setCell _ _ _ _ (by show q ≠ rb; exact h1), Below.heap_setCell _ _ _ _ (by show q ≠ rb; exact h1)]; exact bN.block q h2
  have s6 : w5.heap.size ≤ w6.heap.size := by rw [hwF]; have := bN.size; simpa [World.setCell] using this
  have a00_6 : w6.cell? ⟨w.heap.size, 0, none⟩ = some (.int .i64 z0) := (World.cell?_of_block (a := ⟨w.heap.size, 0, none⟩) (hfar _ (by show _ ≠ rb; dsimp only; omega) (by dsimp only; omega))).trans a00_5
  have a01_6 : w6.cell? ⟨w.heap.size, 1, none⟩ = some (.slice a0 n0 c0) := (World.cell?_of_block (a := ⟨w.heap.size, 1, none⟩) (hfar _ (by show _ ≠ rb; dsimp only; omega) (by dsimp only; omega))).trans a01_5
  have a10_6 : w6.cell? ⟨w.heap.size + 1, 0, none⟩ = some (.int .i64 z1) := (World.cell?_of_block (a := ⟨w.heap.size + 1, 0, none⟩) (hfar _ (by show _ ≠ rb; dsimp only; omega) (by dsimp only; omega))).trans a10_5
  have a11_6 : w6.cell? ⟨w.heap.size + 1, 1, none⟩ = some (.slice a1 n1 c1) := (World.cell?_of_block (a := ⟨w.heap.size + 1, 1, none⟩) (hfar _ (by show _ ≠ rb; dsimp only; omega) (by dsimp only; omega))).trans a11_5
  have HbF := Lib.hid (box_set01 (u := .int .i64 rz) (v := .slice Ra rn Rc) HRBn.out)
  rw [← hwF] at HbF
  obtain ⟨rb0_6, rb1_6, _⟩ := box_cells HbF.out
  have zrb : rb < w6.heap.size := (Array.getElem?_eq_some_iff.1 HbF.out).1
  have HR_6 := Lib.hid (HR_5.out.kept (fun q h1 h2 => hfar q (by have := HRBe.out; omega) (by omega)))
  have B6 : Hid (Below w.heap.size w w6) := by rw [hwF]; exact ((B5.out.trans (bN.mono B5.out.size)).setCell (by show w.heap.size ≤ rb; omega) _).setCell (by show w.heap.size ≤ rb; omega) _
  have e_sl : w6 = w6 := rfl
  refine hK.out _ _ ?_ (fun hHeld => ?_)
  · exact ⟨a00_6, a01_6, a10_6, a11_6⟩
  clear hK K
  (try simp only [Act.put, List.setIfInBounds_toArray, List.set_cons_zero, List.set_cons_succ])
  clear a00_5 a01_5 a10_5 a11_5 HS0_5 HS1_5 HR_5 hwF hfar HbF qb0 qb1 qbf0 qbf1 HRBn HRBe bN e_sl hrbl
  refine wpAnyH_take (i := 10) (oi := ⟨_, _, _, _, _, _⟩) (v := ?_) rfl (by kernel_rfl) (by kernel_rfl) (by kernel_rfl) (fun _ _ _ h => h) (Or.inl ⟨rfl, ?_⟩) (by assumption) ?_
  rotate_left 1
  · intro w_ hSw; (try dsimp only at hSw); go_simp; (try with_reducible rfl)
  (try simp only [Act.put, List.setIfInBounds_toArray, List.set_cons_zero, List.set_cons_succ])
  refine wpAnyH_done (by kernel_rfl) ?_ _
  refine NoPanic.normal ?_
  rotate_left 1
  go_simp
  have HRBp : Hid ((w4.alloc (.cells #[.int .i64 0, .slice none 0 0] 28)).heap[w4.heap.size]? = some (.cells #[.int .i64 0, .slice none 0 0] 28 (0, 0))) := heap_alloc_new w4 (.cells #[.int .i64 0, .slice none 0 0] 28)
  have a00_p : ((w4.alloc (.cells #[.int .i64 0, .slice none 0 0] 28))).cell? ⟨w.heap.size, 0, none⟩ = some (.int .i64 z0) := cell_b (below_alloc w4 (.cells #[.int .i64 0, .slice none 0 0] 28)) a00_4
  have a01_p : ((w4.alloc (.cells #[.int .i64 0, .slice none 0 0] 28))).cell? ⟨w.heap.size, 1, none⟩ = some (.slice a0 n0 c0) := cell_b (below_alloc w4 (.cells #[.int .i64 0, .slice none 0 0] 28)) a01_4
  have a10_p : ((w4.alloc (.cells #[.int .i64 0, .slice none 0 0] 28))).cell? ⟨w.heap.size + 1, 0, none⟩ = some (.int .i64 z1) := cell_b (below_alloc w4 (.cells #[.int .i64 0, .slice none 0 0] 28)) a10_4
  have a11_p : ((w4.alloc (.cells #[.int .i64 0, .slice none 0 0] 28))).cell? ⟨w.heap.size + 1, 1, none⟩ = some (.slice a1 n1 c1) := cell_b (below_alloc w4 (.cells #[.int .i64 0, .slice none 0 0] 28)) a11_4
  refine hK.out _ _ ?_ (fun hHeld => ?_)
  · exact ⟨a00_p, a01_p, a10_p, a11_p⟩
  clear hK K
  (try simp only [Act.put, List.setIfInBounds_toArray, List.set_cons_zero, List.set_cons_succ])
  clear a00_p a01_p a10_p a11_p
  refine wpAnyH_ready (rs := [4]) (by kernel_rfl) (by simp) ?_
  refine AllReadyH.cons (o := ⟨_, _, _, _, _, _⟩) rfl (fun K hK => ?_) AllReadyH.nil
  go_simp
  go_at_call 16
  have hC_ := specProductOf _ _ z0 _ n0 n0 fs0 _ _ z1 _ n1 n1 fs1 (w4.alloc (.cells #[.int .i64 0, .slice none 0 0] 28)) (HS0_4.out.kept (Kept.of_below (below_alloc w4 (.cells #[.int .i64 0, .slice none 0 0] 28)) (by omega))) (Nat.le_trans (by omega) (below_alloc w4 (.cells #[.int .i64 0, .slice none 0 0] 28)).size) HSM0.out (HS1_4.out.kept (Kept.of_below (below_alloc w4 (.cells #[.int .i64 0, .slice none 0 0] 28)) (by omega))) (Nat.le_trans (by omega) (below_alloc w4 (.cells #[.int .i64 0, .slice none 0 0] 28)).size) HSM1.out
  simp only [HVal.out] at hC_
  refine hC_.mono ?_
  clear hC_
  rintro e w5 ⟨Ra, Rn, Rc, RG, RC, rfl, hq_, o_, b_⟩
  have b5 : Below w4.heap.size w4 w5 := below_then (below_alloc w4 (.cells #[.int .i64 0, .slice none 0 0] 28)) b_
  have s5 : w4.heap.size ≤ w5.heap.size := b5.size
  have a00_5 : w5.cell? ⟨w.heap.size, 0, none⟩ = some (.int .i64 z0) := cell_b b5 a00_4
  have a01_5 : w5.cell? ⟨w.heap.size, 1, none⟩ = some (.slice a0 n0 c0) := cell_b b5 a01_4
  have a10_5 : w5.cell? ⟨w.heap.size + 1, 0, none⟩ = some (.int .i64 z1) := cell_b b5 a10_4
  have a11_5 : w5.cell? ⟨w.heap.size + 1, 1, none⟩ = some (.slice a1 n1 c1) := cell_b b5 a11_4
  have HS0_5 := Lib.hid (HS0_4.out.kept (Kept.of_below b5 (by omega)))
  have HS1_5 := Lib.hid (HS1_4.out.kept (Kept.of_below b5 (by omega)))
  have zqb : w4.heap.size < w5.heap.size := (by have := b_.size; simp at this; omega)
  have HRB_5 := Lib.hid ((b_.block _ (by simp)).trans HRBp.out)
  clear HRBp
  have B5 : Hid (Below w.heap.size w w5) := below_then B4.out b5
  clear a00_4 a01_4 a10_4 a11_4 HS0_4 HS1_4 b_
  obtain rfl : rn = Rn := HRn.out.trans hq_.symm
  simp only [World.size_alloc, World.size_drew] at o_
  have h_ := o_.view
  rw [HRn.out, map_range_get, ← HRn.out] at h_
  have HR_5 := Lib.hid h_
  clear h_
  clear o_ hq_
  go_wp2_with fail
  refine hK.out _ _ ?_ (fun hHeld => ?_)
  · exact ⟨a00_5, a01_5, a10_5, a11_5⟩
  clear hK K
  (try simp only [Act.put, List.setIfInBounds_toArray, List.set_cons_zero, List.set_cons_succ])
  refine wpAnyH_take (i := 5) (oi := ⟨_, _, _, _, _, _⟩) (v := ?_) rfl (by kernel_rfl) (by kernel_rfl) (by kernel_rfl) (fun _ _ _ h => h) (Or.inl ⟨rfl, ?_⟩) (by assumption) ?_
  rotate_left 1
  · intro w_ hSw; (try dsimp only at hSw); go_simp; (try with_reducible rfl)
  (try simp only [Act.put, List.setIfInBounds_toArray, List.set_cons_zero, List.set_cons_succ])
  refine wpAnyH_take (i := 6) (oi := ⟨_, _, _, _, _, _⟩) (v := ?_) rfl (by kernel_rfl) (by kernel_rfl) (by kernel_rfl) (fun _ _ _ h => h) (Or.inl ⟨rfl, ?_⟩) (by assumption) ?_
  rotate_left 1
  · intro w_ hSw; (try dsimp only at hSw); go_simp; (try with_reducible rfl)
  (try simp only [Act.put, List.setIfInBounds_toArray, List.set_cons_zero, List.set_cons_succ])
  refine wpAnyH_take (i := 7) (oi := ⟨_, _, _, _, _, _⟩) (v := ?_) rfl (by kernel_rfl) (by kernel_rfl) (by kernel_rfl) (fun _ _ _ h => h) (Or.inl ⟨rfl, ?_⟩) (by assumption) ?_
  rotate_left 1
  · intro w_ hSw; (try dsimp only at hSw); go_simp; (try with_reducible rfl)
  (try simp only [Act.put, List.setIfInBounds_toArray, List.set_cons_zero, List.set_cons_succ])
  refine wpAnyH_ready (rs := [9]) (by kernel_rfl) (by simp) ?_
  refine AllReadyH.cons (o := ⟨_, _, _, _, _, _⟩) rfl (fun K hK => ?_) AllReadyH.nil
  obtain ⟨wN, hwN⟩ : ∃ wN : World, wN = w5 := ⟨_, rfl⟩
  have bN : Below w5.heap.size w5 wN := by rw [hwN]; exact Below.refl _ _
  have hRB : wN.heap[w4.heap.size]? = some (.cells #[.int .i64 0, .slice none 0 0] 28 (0, 0)) := by rw [hwN]; exact HRB_5.out
  rw [← hwN]
  clear hwN HRB_5
  obtain ⟨rb, hrb⟩ : ∃ rb : Nat, rb = w4.heap.size := ⟨_, rfl⟩
  rw [← hrb] at hRB
  rw [← hrb]
  obtain ⟨qb0, qb1, qbf⟩ := box_cells hRB
  have qbf0 := qbf 0
  have qbf1 := qbf 1
  have HRBn := Lib.hid hRB
  have HRBe := Lib.hid hrb
  have hrbl := (Array.getElem?_eq_some_iff.1 hRB).1
  have hrb2 : w2.heap.size ≤ rb := by omega
  clear hRB hrb qbf
  go_simp
  obtain ⟨w6, hwF⟩ : ∃ w_ : World, w_ = ((wN.setCell ⟨rb, 0, none⟩ (.int .i64 rz)).setCell ⟨rb, 1, none⟩ (.slice Ra rn Rc)) := ⟨_, rfl⟩
  rw [← hwF]
  have hfar : ∀ q, q ≠ rb → q < w5.heap.size → w6.heap[q]? = w5.heap[q]? := fun q h1 h2 => by rw [hwF, Below.heap_setCell _ _ _ _ (by show q ≠ rb; exact h1), Below.heap_setCell _ _ _ _ (by show q ≠ rb; exact h1)]; exact bN.block q h2
  have s6 : w5.heap.size ≤ w6.heap.size := by rw [hwF]; have := bN.size; simpa [World.setCell] using this
  have a00_6 : w6.cell? ⟨w.heap.size, 0, none⟩ = some (.int .i64 z0) := (World.cell?_of_block (a := ⟨w.heap.size, 0, none⟩) (hfar _ (by show _ ≠ rb; dsimp only; omega) (by dsimp only; omega))).trans a00_5
  have a01_6 : w6.cell? ⟨w.heap.size, 1, none⟩ = some (.slice a0 n0 c0) := (World.cell?_of_block (a := ⟨w.heap.size, 1, none⟩) (hfar _ (by show _ ≠ rb; dsimp only; omega) (by dsimp only; omega))).trans a01_5
  have a10_6 : w6.cell? ⟨w.heap.size + 1, 0, none⟩ = some (.int .i64 z1) := (World.cell?_of_block (a := ⟨w.heap.size + 1, 0, none⟩) (hfar _ (by show _ ≠ rb; dsimp only; omega) (by dsimp only; omega))).trans a10_5
  have a11_6 : w6.cell? ⟨w.heap.size + 1, 1, none⟩ = some (.slice a1 n1 c1) := (World.cell?_of_block (a := ⟨w.heap.size + 1, 1, none⟩) (hfar _ (by show _ ≠ rb; dsimp only; omega) (by dsimp only; omega))).trans a11_5
  have HbF := Lib.hid (box_set01 (u := .int .i64 rz) (v := .slice Ra rn Rc) HRBn.out)
  rw [← hwF] at HbF
  obtain ⟨rb0_6, rb1_6, _⟩ := box_cells HbF.out
  have zrb : rb < w6.heap.size := (Array.getElem?_eq_some_iff.1 HbF.out).1
  have HR_6 := Lib.hid (HR_5.out.kept (fun q h1 h2 => hfar q (by have := HRBe.out; omega) (by omega)))
  have B6 : Hid (Below w.heap.size w w6) := by rw [hwF]; exact ((B5.out.trans (bN.mono B5.out.size)).setCell (by show w.heap.size ≤ rb; omega) _).setCell (by show w.heap.size ≤ rb; omega) _
  have e_sl : w6 = w6 := rfl
  refine hK.out _ _ ?_ (fun hHeld => ?_)
  · exact ⟨a00_6, a01_6, a10_6, a11_6⟩
  clear hK K
  (try simp only [Act.put, List.setIfInBounds_toArray, List.set_cons_zero, List.set_cons_succ])
  clear a00_5 a01_5 a10_5 a11_5 HS0_5 HS1_5 HR_5 hwF hfar HbF qb0 qb1 qbf0 qbf1 HRBn HRBe bN e_sl hrbl
  refine wpAnyH_take (i := 10) (oi := ⟨_, _, _, _, _, _⟩) (v := ?_) rfl (by kernel_rfl) (by kernel_rfl) (by kernel_rfl) (fun _ _ _ h => h) (Or.inl ⟨rfl, ?_⟩) (by assumption) ?_
  rotate_left 1
  · intro w_ hSw; (try dsimp only at hSw); go_simp; (try with_reducible rfl)
  (try simp only [Act.put, List.setIfInBounds_toArray, List.set_cons_zero, List.set_cons_succ])
  refine wpAnyH_done (by kernel_rfl) ?_ _
  refine NoPanic.normal ?_
  rotate_left 1
  go_simp
  have HRBp : Hid ((w3.alloc (.cells #[.int .i64 0, .slice none 0 0] 28)).heap[w3.heap.size]? = some (.cells #[.int .i64 0, .slice none 0 0] 28 (0, 0))) := heap_alloc_new w3 (.cells #[.int .i64 0, .slice none 0 0] 28)
  have a00_p : ((w3.alloc (.cells #[.int .i64 0, .slice none 0 0] 28))).cell? ⟨w.heap.size, 0, none⟩ = some (.int .i64 z0) := cell_b (below_alloc w3 (.cells #[.int .i64 0, .slice none 0 0] 28)) a00_3
  have a01_p : ((w3.alloc (.cells #[.int .i64 0, .slice none 0 0] 28))).cell? ⟨w.heap.size, 1, none⟩ = some (.slice a0 n0 c0) := cell_b (below_alloc w3 (.cells #[.int .i64 0, .slice none 0 0] 28)) a01_3
  have a10_p : ((w3.alloc (.cells #[.int .i64 0, .slice none 0 0] 28))).cell? ⟨w.heap.size + 1, 0, none⟩ = some (.int .i64 z1) := cell_b (below_alloc w3 (.cells #[.int .i64 0, .slice none 0 0] 28)) a10_3
  have a11_p : ((w3.alloc (.cells #[.int .i64 0, .slice none 0 0] 28))).cell? ⟨w.heap.size + 1, 1, none⟩ = some (.slice a1 n1 c1) := cell_b (below_alloc w3 (.cells #[.int .i64 0, .slice none 0 0] 28)) a11_3
  refine hK.out _ _ ?_ (fun hHeld => ?_)
  · exact ⟨a00_p, a01_p, a10_p, a11_p⟩
  clear hK K
  (try simp only [Act.put, List.setIfInBounds_toArray, List.set_cons_zero, List.set_cons_succ])
  clear a00_p a01_p a10_p a11_p
  refine wpAnyH_ready (rs := [3]) (by kernel_rfl) (by simp) ?_
  refine AllReadyH.cons (o := ⟨_, _, _, _, _, _⟩) rfl (fun K hK => ?_) AllReadyH.nil
  go_simp
  have a00_p : ((w3.alloc (.cells #[.int .i64 0, .slice none 0 0] 28))).cell? ⟨w.heap.size, 0, none⟩ = some (.int .i64 z0) := cell_b (below_alloc w3 (.cells #[.int .i64 0, .slice none 0 0] 28)) a00_3
  have a01_p : ((w3.alloc (.cells #[.int .i64 0, .slice none 0 0] 28))).cell? ⟨w.heap.size, 1, none⟩ = some (.slice a0 n0 c0) := cell_b (below_alloc w3 (.cells #[.int .i64 0, .slice none 0 0] 28)) a01_3
  have a10_p : ((w3.alloc (.cells #[.int .i64 0, .slice none 0 0] 28))).cell? ⟨w.heap.size + 1, 0, none⟩ = some (.int .i64 z1) := cell_b (below_alloc w3 (.cells #[.int .i64 0, .slice none 0 0] 28)) a10_3
  have a11_p : ((w3.alloc (.cells #[.int .i64 0, .slice none 0 0] 28))).cell? ⟨w.heap.size + 1, 1, none⟩ = some (.slice a1 n1 c1) := cell_b (below_alloc w3 (.cells #[.int .i64 0, .slice none 0 0] 28)) a11_3
  go_at_call 17
  have hC_ := toAlg_view w.heap.size z1 a1 c1 n1 fs1 (w3.alloc (.cells #[.int .i64 0, .slice none 0 0] 28)) (HV1.out.kept (Kept.of_below (below_then B3.out (below_alloc w3 (.cells #[.int .i64 0, .slice none 0 0] 28))) (Nat.le_refl _))) (below_then B3.out (below_alloc w3 (.cells #[.int .i64 0, .slice none 0 0] 28))).size hn3_1 HS81.out
  refine hC_.mono ?_
  clear hC_
  rintro e w4 ⟨S1g, rfl, m_⟩; have b_ := m_.2
  have b4 : Below w3.heap.size w3 w4 := below_then (below_alloc w3 (.cells #[.int .i64 0, .slice none 0 0] 28)) b_
  have s4 : w3.heap.size ≤ w4.heap.size := b4.size
  have a00_4 : w4.cell? ⟨w.heap.size, 0, none⟩ = some (.int .i64 z0) := cell_b b4 a00_3
  have a01_4 : w4.cell? ⟨w.heap.size, 1, none⟩ = some (.slice a0 n0 c0) := cell_b b4 a01_3
  have a10_4 : w4.cell? ⟨w.heap.size + 1, 0, none⟩ = some (.int .i64 z1) := cell_b b4 a10_3
  have a11_4 : w4.cell? ⟨w.heap.size + 1, 1, none⟩ = some (.slice a1 n1 c1) := cell_b b4 a11_3
  have HS0_4 := Lib.hid (HS0_3.out.kept (Kept.of_below b4 (by omega)))
  have zqb : w3.heap.size < w4.heap.size := (by have := b_.size; simp at this; omega)
  have HRB_4 := Lib.hid ((b_.block _ (by simp)).trans HRBp.out)
  clear HRBp
  have B4 : Hid (Below w.heap.size w w4) := below_then B3.out b4
  clear a00_3 a01_3 a10_3 a11_3 HS0_3 b_
  clear a00_p a01_p a10_p a11_p
  have m_ := m_.view hl1.out
  simp only [World.size_alloc, World.size_drew] at m_
  have HS1_4 := Lib.hid m_
  clear m_
  go_wp2_with fail
  refine hK.out _ _ ?_ (fun hHeld => ?_)
  · exact ⟨a00_4, a01_4, a10_4, a11_4⟩
  clear hK K
  (try simp only [Act.put, List.setIfInBounds_toArray, List.set_cons_zero, List.set_cons_succ])
  refine wpAnyH_ready (rs := [4]) (by kernel_rfl) (by simp) ?_
  refine AllReadyH.cons (o := ⟨_, _, _, _, _, _⟩) rfl (fun K hK => ?_) AllReadyH.nil
  go_simp
  go_at_call 16
  have hC_ := specProductOf _ _ z0 _ n0 n0 fs0 _ _ z1 _ n1 n1 fs1 w4 HS0_4.out (by omega) HSM0.out HS1_4.out (by omega) HSM1.out
  simp only [HVal.out] at hC_
  refine hC_.mono ?_
  clear hC_
  rintro e w5 ⟨Ra, Rn, Rc, RG, RC, rfl, hq_, o_, b_⟩
  have b5 : Below w4.heap.size w4 w5 := b_
  have s5 : w4.heap.size ≤ w5.heap.size := b5.size
  have a00_5 : w5.cell? ⟨w.heap.size, 0, none⟩ = some (.int .i64 z0) := cell_b b5 a00_4
  have a01_5 : w5.cell? ⟨w.heap.size, 1, none⟩ = some (.slice a0 n0 c0) := cell_b b5 a01_4
  have a10_5 : w5.cell? ⟨w.heap.size + 1, 0, none⟩ = some (.int .i64 z1) := cell_b b5 a10_4
  have a11_5 : w5.cell? ⟨w.heap.size + 1, 1, none⟩ = some (.slice a1 n1 c1) := cell_b b5 a11_4
  have HS0_5 := Lib.hid (HS0_4.out.kept (Kept.of_below b5 (by omega)))
  have HS1_5 := Lib.hid (HS1_4.out.kept (Kept.of_below b5 (by omega)))
  have HRB_5 := Lib.hid ((b5.block _ (Array.getElem?_eq_some_iff.1 HRB_4.out).1).trans HRB_4.out)
  clear HRB_4
  have B5 : Hid (Below w.heap.size w w5) := below_then B4.out b5
  clear a00_4 a01_4 a10_4 a11_4 HS0_4 HS1_4 b_
  obtain rfl : rn = Rn := HRn.out.trans hq_.symm
  have h_ := o_.view
  rw [HRn.out, map_range_get, ← HRn.out] at h_
  have HR_5 := Lib.hid h_
  clear h_
  clear o_ hq_
  go_wp2_with fail
  refine hK.out _ _ ?_ (fun hHeld => ?_)
  · exact ⟨a00_5, a01_5, a10_5, a11_5⟩
  clear hK K
  (try simp only [Act.put, List.setIfInBounds_toArray, List.set_cons_zero, List.set_cons_succ])
  refine wpAnyH_take (i := 5) (oi := ⟨_, _, _, _, _, _⟩) (v := ?_) rfl (by kernel_rfl) (by kernel_rfl) (by kernel_rfl) (fun _ _ _ h => h) (Or.inl ⟨rfl, ?_⟩) (by assumption) ?_
  rotate_left 1
  · intro w_ hSw; (try dsimp only at hSw); go_simp; (try with_reducible rfl)
  (try simp only [Act.put, List.setIfInBounds_toArray, List.set_cons_zero, List.set_cons_succ])
  refine wpAnyH_take (i := 6) (oi := ⟨_, _, _, _, _, _⟩) (v := ?_) rfl (by kernel_rfl) (by kernel_rfl) (by kernel_rfl) (fun _ _ _ h => h) (Or.inl ⟨rfl, ?_⟩) (by assumption) ?_
  rotate_left 1
  · intro w_ hSw; (try dsimp only at hSw); go_simp; (try with_reducible rfl)
  (try simp only [Act.put, List.setIfInBounds_toArray, List.set_cons_zero, List.set_cons_succ])
  refine wpAnyH_take (i := 7) (oi := ⟨_, _, _, _, _, _⟩) (v := ?_) rfl (by kernel_rfl) (by kernel_rfl) (by kernel_rfl) (fun _ _ _ h => h) (Or.inl ⟨rfl, ?_⟩) (by assumption) ?_
  rotate_left 1
  · intro w_ hSw; (try dsimp only at hSw); go_simp; (try with_reducible rfl)
  (try simp only [Act.put, List.setIfInBounds_toArray, List.set_cons_zero, List.set_cons_succ])
  refine wpAnyH_ready (rs := [9]) (by kernel_rfl) (by simp) ?_
  refine AllReadyH.cons (o := ⟨_, _, _, _, _, _⟩) rfl (fun K hK => ?_) AllReadyH.nil
  obtain ⟨wN, hwN⟩ : ∃ wN : World, wN = w5 := ⟨_, rfl⟩
  have bN : Below w5.heap.size w5 wN := by rw [hwN]; exact Below.refl _ _
  have hRB : wN.heap[w3.heap.size]? = some (.cells #[.int .i64 0, .slice none 0 0] 28 (0, 0)) := by rw [hwN]; exact HRB_5.out
  rw [← hwN]
  clear hwN HRB_5
  obtain ⟨rb, hrb⟩ : ∃ rb : Nat, rb = w3.heap.size := ⟨_, rfl⟩
  rw [← hrb] at hRB
  rw [← hrb]
  obtain ⟨qb0, qb1, qbf⟩ := box_cells hRB
  have qbf0 := qbf 0
  have qbf1 := qbf 1
  have HRBn := Lib.hid hRB
  have HRBe := Lib.hid hrb
  have hrbl := (Array.getElem?_eq_some_iff.1 hRB).1
  have hrb2 : w2.heap.size ≤ rb := by omega
  clear hRB hrb qbf
  go_simp
  obtain ⟨w6, hwF⟩ : ∃ w_ : World, w_ = ((wN.setCell ⟨rb, 0, none⟩ (.int .i64 rz)).setCell ⟨rb, 1, none⟩ (.slice Ra rn Rc)) := ⟨_, rfl⟩
  rw [← hwF]
  have hfar : ∀ q, q ≠ rb → q < w5.heap.size → w6.heap[q]? = w5.heap[q]? := fun q h1 h2 => by rw [hwF, Below.heap_setCell _ _ _ _ (by show q ≠ rb; exact h1), Below.heap_setCell _ _ _ _ (by show q ≠ rb; exact h1)]; exact bN.block q h2
  have s6 : w5.heap.size ≤ w6.heap.size := by rw [hwF]; have := bN.size; simpa [World.setCell] using this
  have a00_6 : w6.cell? ⟨w.heap.size, 0, none⟩ = some (.int .i64 z0) := (World.cell?_of_block (a := ⟨w.heap.size, 0, none⟩) (hfar _ (by show _ ≠ rb; dsimp only; omega) (by dsimp only; omega))).trans a00_5
  have a01_6 : w6.cell? ⟨w.heap.size, 1, none⟩ = some (.slice a0 n0 c0) := (World.cell?_of_block (a := ⟨w.heap.size, 1, none⟩) (hfar _ (by show _ ≠ rb; dsimp only; omega) (by dsimp only; omega))).trans a01_5
  have a10_6 : w6.cell? ⟨w.heap.size + 1, 0, none⟩ = some (.int .i64 z1) := (World.cell?_of_block (a := ⟨w.heap.size + 1, 0, none⟩) (hfar _ (by show _ ≠ rb; dsimp only; omega) (by dsimp only; omega))).trans a10_5
  have a11_6 : w6.cell? ⟨w.heap.size + 1, 1, none⟩ = some (.slice a1 n1 c1) := (World.cell?_of_block (a := ⟨w.heap.size + 1, 1, none⟩) (hfar _ (by show _ ≠ rb; dsimp only; omega) (by dsimp only; omega))).trans a11_5
  have HbF := Lib.hid (box_set01 (u := .int .i64 rz) (v := .slice Ra rn Rc) HRBn.out)
  rw [← hwF] at HbF
  obtain ⟨rb0_6, rb1_6, _⟩ := box_cells HbF.out
  have zrb : rb < w6.heap.size := (Array.getElem?_eq_some_iff.1 HbF.out).1
  have HR_6 := Lib.hid (HR_5.out.kept (fun q h1 h2 => hfar q (by have := HRBe.out; omega) (by omega)))
  have B6 : Hid (Below w.heap.size w w6) := by rw [hwF]; exact ((B5.out.trans (bN.mono B5.out.size)).setCell (by show w.heap.size ≤ rb; omega) _).setCell (by show w.heap.size ≤ rb; omega) _
  have e_sl : w6 = w6 := rfl
  refine hK.out _ _ ?_ (fun hHeld => ?_)
  · exact ⟨a00_6, a01_6, a10_6, a11_6⟩
  clear hK K
  (try simp only [Act.put, List.setIfInBounds_toArray, List.set_cons_zero, List.set_cons_succ])
  clear a00_5 a01_5 a10_5 a11_5 HS0_5 HS1_5 HR_5 hwF hfar HbF qb0 qb1 qbf0 qbf1 HRBn HRBe bN e_sl hrbl
  refine wpAnyH_take (i := 10) (oi := ⟨_, _, _, _, _, _⟩) (v := ?_) rfl (by kernel_rfl) (by kernel_rfl) (by kernel_rfl) (fun _ _ _ h => h) (Or.inl ⟨rfl, ?_⟩) (by assumption) ?_
  rotate_left 1
  · intro w_ hSw; (try dsimp only at hSw); go_simp; (try with_reducible rfl)
  (try simp only [Act.put, List.setIfInBounds_toArray, List.set_cons_zero, List.set_cons_succ])
  refine wpAnyH_done (by kernel_rfl) ?_ _
  refine NoPanic.normal ?_
  rotate_left 1
  go_simp
  have HRBp : Hid ((w2.drew.alloc (.cells #[.int .i64 0, .slice none 0 0] 28)).heap[w2.heap.size]? = some (.cells #[.int .i64 0, .slice none 0 0] 28 (0, 0))) := heap_alloc_new w2.drew (.cells #[.int .i64 0, .slice none 0 0] 28)
  have a00_p : ((w2.drew.alloc (.cells #[.int .i64 0, .slice none 0 0] 28))).cell? ⟨w.heap.size, 0, none⟩ = some (.int .i64 z0) := cell_b (below_then (below_drew w2) (below_alloc w2.drew (.cells #[.int .i64 0, .slice none 0 0] 28))) a00_2
  have a01_p : ((w2.drew.alloc (.cells #[.int .i64 0, .slice none 0 0] 28))).cell? ⟨w.heap.size, 1, none⟩ = some (.slice a0 n0 c0) := cell_b (below_then (below_drew w2) (below_alloc w2.drew (.cells #[.int .i64 0, .slice none 0 0] 28))) a01_2
  have a10_p : ((w2.drew.alloc (.cells #[.int .i64 0, .slice none 0 0] 28))).cell? ⟨w.heap.size + 1, 0, none⟩ = some (.int .i64 z1) := cell_b (below_then (below_drew w2) (below_alloc w2.drew (.cells #[.int .i64 0, .slice none 0 0] 28))) a10_2
  have a11_p : ((w2.drew.alloc (.cells #[.int .i64 0, .slice none 0 0] 28))).cell? ⟨w.heap.size + 1, 1, none⟩ = some (.slice a1 n1 c1) := cell_b (below_then (below_drew w2) (below_alloc w2.drew (.cells #[.int .i64 0, .slice none 0 0] 28))) a11_2
  refine hK.out _ _ ?_ (fun hHeld => ?_)
  · exact ⟨a00_p, a01_p, a10_p, a11_p⟩
  clear hK K
  (try simp only [Act.put, List.setIfInBounds_toArray, List.set_cons_zero, List.set_cons_succ])
  clear a00_p a01_p a10_p a11_p
  refine wpAnyH_ready (rs := [1]) (by kernel_rfl) (by simp) ?_
  refine AllReadyH.cons (o := ⟨_, _, _, _, _, _⟩) rfl (fun K hK => ?_) AllReadyH.nil
  go_simp
  have a00_p : ((w2.drew.alloc (.cells #[.int .i64 0, .slice none 0 0] 28))).cell? ⟨w.heap.size, 0, none⟩ = some (.int .i64 z0) := cell_b (below_then (below_drew w2) (below_alloc w2.drew (.cells #[.int .i64 0, .slice none 0 0] 28))) a00_2
  have a01_p : ((w2.drew.alloc (.cells #[.int .i64 0, .slice none 0 0] 28))).cell? ⟨w.heap.size, 1, none⟩ = some (.slice a0 n0 c0) := cell_b (below_then (below_drew w2) (below_alloc w2.drew (.cells #[.int .i64 0, .slice none 0 0] 28))) a01_2
  have a10_p : ((w2.drew.alloc (.cells #[.int .i64 0, .slice none 0 0] 28))).cell? ⟨w.heap.size + 1, 0, none⟩ = some (.int .i64 z1) := cell_b (below_then (below_drew w2) (below_alloc w2.drew (.cells #[.int .i64 0, .slice none 0 0] 28))) a10_2
  have a11_p : ((w2.drew.alloc (.cells #[.int .i64 0, .slice none 0 0] 28))).cell? ⟨w.heap.size + 1, 1, none⟩ = some (.slice a1 n1 c1) := cell_b (below_then (below_drew w2) (below_alloc w2.drew (.cells #[.int .i64 0, .slice none 0 0] 28))) a11_2
  go_at_call 17
  have hC_ := toAlg_view w.heap.size z0 a0 c0 n0 fs0 (w2.drew.alloc (.cells #[.int .i64 0, .slice none 0 0] 28)) (HV0.out.kept (Kept.of_below (below_then B2.out (below_then (below_drew w2) (below_alloc w2.drew (.cells #[.int .i64 0, .slice none 0 0] 28)))) (Nat.le_refl _))) (below_then B2.out (below_then (below_drew w2) (below_alloc w2.drew (.cells #[.int .i64 0, .slice none 0 0] 28)))).size hn3_0 HS80.out
  refine hC_.mono ?_
  clear hC_
  rintro e w3 ⟨S0g, rfl, m_⟩; have b_ := m_.2
  have b3 : Below w2.heap.size w2 w3 := below_then (below_then (below_drew w2) (below_alloc w2.drew (.cells #[.int .i64 0, .slice none 0 0] 28))) b_
  have s3 : w2.heap.size ≤ w3.heap.size := b3.size
  have a00_3 : w3.cell? ⟨w.heap.size, 0, none⟩ = some (.int .i64 z0) := cell_b b3 a00_2
  have a01_3 : w3.cell? ⟨w.heap.size, 1, none⟩ = some (.slice a0 n0 c0) := cell_b b3 a01_2
  have a10_3 : w3.cell? ⟨w.heap.size + 1, 0, none⟩ = some (.int .i64 z1) := cell_b b3 a10_2
  have a11_3 : w3.cell? ⟨w.heap.size + 1, 1, none⟩ = some (.slice a1 n1 c1) := cell_b b3 a11_2
  have zqb : w2.heap.size < w3.heap.size := (by have := b_.size; simp at this; omega)
  have HRB_3 := Lib.hid ((b_.block _ (by simp)).trans HRBp.out)
  clear HRBp
  have B3 : Hid (Below w.heap.size w w3) := below_then B2.out b3
  clear a00_2 a01_2 a10_2 a11_2 b_
  clear a00_p a01_p a10_p a11_p
  have m_ := m_.view hl0.out
  simp only [World.size_alloc, World.size_drew] at m_
  have HS0_3 := Lib.hid m_
  clear m_
  go_wp2_with fail
  refine hK.out _ _ ?_ (fun hHeld => ?_)
  · exact ⟨a00_3, a01_3, a10_3, a11_3⟩
  clear hK K
  (try simp only [Act.put, List.setIfInBounds_toArray, List.set_cons_zero, List.set_cons_succ])
  refine wpAnyH_ready (rs := [3]) (by kernel_rfl) (by simp) ?_
  refine AllReadyH.cons (o := ⟨_, _, _, _, _, _⟩) rfl (fun K hK => ?_) AllReadyH.nil
  go_simp
  go_at_call 17
  have hC_ := toAlg_view w.heap.size z1 a1 c1 n1 fs1 w3 (HV1.out.kept (Kept.of_below B3.out (Nat.le_refl _))) B3.out.size hn3_1 HS81.out
  refine hC_.mono ?_
  clear hC_
  rintro e w4 ⟨S1g, rfl, m_⟩; have b_ := m_.2
  have b4 : Below w3.heap.size w3 w4 := b_
  have s4 : w3.heap.size ≤ w4.heap.size := b4.size
  have a00_4 : w4.cell? ⟨w.heap.size, 0, none⟩ = some (.int .i64 z0) := cell_b b4 a00_3
  have a01_4 : w4.cell? ⟨w.heap.size, 1, none⟩ = some (.slice a0 n0 c0) := cell_b b4 a01_3
  have a10_4 : w4.cell? ⟨w.heap.size + 1, 0, none⟩ = some (.int .i64 z1) := cell_b b4 a10_3
  have a11_4 : w4.cell? ⟨w.heap.size + 1, 1, none⟩ = some (.slice a1 n1 c1) := cell_b b4 a11_3
  have HS0_4 := Lib.hid (HS0_3.out.kept (Kept.of_below b4 (by omega)))
  have HRB_4 := Lib.hid ((b4.block _ (Array.getElem?_eq_some_iff.1 HRB_3.out).1).trans HRB_3.out)
  clear HRB_3
  have B4 : Hid (Below w.heap.size w w4) := below_then B3.out b4
  clear a00_3 a01_3 a10_3 a11_3 HS0_3 b_
  have m_ := m_.view hl1.out
  have HS1_4 := Lib.hid m_
  clear m_
  go_wp2_with fail
  refine hK.out _ _ ?_ (fun hHeld => ?_)
  · exact ⟨a00_4, a01_4, a10_4, a11_4⟩
  clear hK K
  (try simp only [Act.put, List.setIfInBounds_toArray, List.set_cons_zero, List.set_cons_succ])
  refine wpAnyH_ready (rs := [4]) (by kernel_rfl) (by simp) ?_
  refine AllReadyH.cons (o := ⟨_, _, _, _, _, _⟩) rfl (fun K hK => ?_) AllReadyH.nil
  go_simp
  go_at_call 16
  have hC_ := specProductOf _ _ z0 _ n0 n0 fs0 _ _ z1 _ n1 n1 fs1 w4 HS0_4.out (by omega) HSM0.out HS1_4.out (by omega) HSM1.out
  simp only [HVal.out] at hC_
  refine hC_.mono ?_
  clear hC_
  rintro e w5 ⟨Ra, Rn, Rc, RG, RC, rfl, hq_, o_, b_⟩
  have b5 : Below w4.heap.size w4 w5 := b_
  have s5 : w4.heap.size ≤ w5.heap.size := b5.size
  have a00_5 : w5.cell? ⟨w.heap.size, 0, none⟩ = some (.int .i64 z0) := cell_b b5 a00_4
  have a01_5 : w5.cell? ⟨w.heap.size, 1, none⟩ = some (.slice a0 n0 c0) := cell_b b5 a01_4
  have a10_5 : w5.cell? ⟨w.heap.size + 1, 0, none⟩ = some (.int .i64 z1) := cell_b b5 a10_4
  have a11_5 : w5.cell? ⟨w.heap.size + 1, 1, none⟩ = some (.slice a1 n1 c1) := cell_b b5 a11_4
  have HS0_5 := Lib.hid (HS0_4.out.kept (Kept.of_below b5 (by omega)))
  have HS1_5 := Lib.hid (HS1_4.out.kept (Kept.of_below b5 (by omega)))
  have HRB_5 := Lib.hid ((b5.block _ (Array.getElem?_eq_some_iff.1 HRB_4.out).1).trans HRB_4.out)
  clear HRB_4
  have B5 : Hid (Below w.heap.size w w5) := below_then B4.out b5
  clear a00_4 a01_4 a10_4 a11_4 HS0_4 HS1_4 b_
  obtain rfl : rn = Rn := HRn.out.trans hq_.symm
  have h_ := o_.view
  rw [HRn.out, map_range_get, ← HRn.out] at h_
  have HR_5 := Lib.hid h_
  clear h_
  clear o_ hq_
  go_wp2_with fail
  refine hK.out _ _ ?_ (fun hHeld => ?_)
  · exact ⟨a00_5, a01_5, a10_5, a11_5⟩
  clear hK K
  (try simp only [Act.put, List.setIfInBounds_toArray, List.set_cons_zero, List.set_cons_succ])
  refine wpAnyH_take (i := 5) (oi := ⟨_, _, _, _, _, _⟩) (v := ?_) rfl (by kernel_rfl) (by kernel_rfl) (by kernel_rfl) (fun _ _ _ h => h) (Or.inl ⟨rfl, ?_⟩) (by assumption) ?_
  rotate_left 1
  · intro w_ hSw; (try dsimp only at hSw); go_simp; (try with_reducible rfl)
  (try simp only [Act.put, List.setIfInBounds_toArray, List.set_cons_zero, List.set_cons_succ])
  refine wpAnyH_take (i := 6) (oi := ⟨_, _, _, _, _, _⟩) (v := ?_) rfl (by kernel_rfl) (by kernel_rfl) (by kernel_rfl) (fun _ _ _ h => h) (Or.inl ⟨rfl, ?_⟩) (by assumption) ?_
  rotate_left 1
  · intro w_ hSw; (try dsimp only at hSw); go_simp; (try with_reducible rfl)
  (try simp only [Act.put, List.setIfInBounds_toArray, List.set_cons_zero, List.set_cons_succ])
  refine wpAnyH_take (i := 7) (oi := ⟨_, _, _, _, _, _⟩) (v := ?_) rfl (by kernel_rfl) (by kernel_rfl) (by kernel_rfl) (fun _ _ _ h => h) (Or.inl ⟨rfl, ?_⟩) (by assumption) ?_
  rotate_left 1
  · intro w_ hSw; (try dsimp only at hSw); go_simp; (try with_reducible rfl)
  (try simp only [Act.put, List.setIfInBounds_toArray, List.set_cons_zero, List.set_cons_succ])
  refine wpAnyH_ready (rs := [9]) (by kernel_rfl) (by simp) ?_
  refine AllReadyH.cons (o := ⟨_, _, _, _, _, _⟩) rfl (fun K hK => ?_) AllReadyH.nil
  obtain ⟨wN, hwN⟩ : ∃ wN : World, wN = w5 := ⟨_, rfl⟩
  have bN : Below w5.heap.size w5 wN := by rw [hwN]; exact Below.refl _ _
  have hRB : wN.heap[w2.heap.size]? = some (.cells #[.int .i64 0, .slice none 0 0] 28 (0, 0)) := by rw [hwN]; exact HRB_5.out
  rw [← hwN]
  clear hwN HRB_5
  obtain ⟨rb, hrb⟩ : ∃ rb : Nat, rb = w2.heap.size := ⟨_, rfl⟩
  rw [← hrb] at hRB
  rw [← hrb]
  obtain ⟨qb0, qb1, qbf⟩ := box_cells hRB
  have qbf0 := qbf 0
  have qbf1 := qbf 1
  have HRBn := Lib.hid hRB
  have HRBe := Lib.hid hrb
  have hrbl := (Array.getElem?_eq_some_iff.1 hRB).1
  have hrb2 : w2.heap.size ≤ rb := by omega
  clear hRB hrb qbf
  go_simp
  obtain ⟨w6, hwF⟩ : ∃ w_ : World, w_ = ((wN.setCell ⟨rb, 0, none⟩ (.int .i64 rz)).setCell ⟨rb, 1, none⟩ (.slice Ra rn Rc)) := ⟨_, rfl⟩
  rw [← hwF]
  have hfar : ∀ q, q ≠ rb → q < w5.heap.size → w6.heap[q]? = w5.heap[q]? := fun q h1 h2 => by rw [hwF, Below.heap_setCell _ _ _ _ (by show q ≠ rb; exact h1), Below.heap_setCell _ _ _ _ (by show q ≠ rb; exact h1)]; exact bN.block q h2
  have s6 : w5.heap.size ≤ w6.heap.size := by rw [hwF]; have := bN.size; simpa [World.setCell] using this
  have a00_6 : w6.cell? ⟨w.heap.size, 0, none⟩ = some (.int .i64 z0) := (World.cell?_of_block (a := ⟨w.heap.size, 0, none⟩) (hfar _ (by show _ ≠ rb; dsimp only; omega) (by dsimp only; omega))).trans a00_5
  have a01_6 : w6.cell? ⟨w.heap.size, 1, none⟩ = some (.slice a0 n0 c0) := (World.cell?_of_block (a := ⟨w.heap.size, 1, none⟩) (hfar _ (by show _ ≠ rb; dsimp only; omega) (by dsimp only; omega))).trans a01_5
  have a10_6 : w6.cell? ⟨w.heap.size + 1, 0, none⟩ = some (.int .i64 z1) := (World.cell?_of_block (a := ⟨w.heap.size + 1, 0, none⟩) (hfar _ (by show _ ≠ rb; dsimp only; omega) (by dsimp only; omega))).trans a10_5
  have a11_6 : w6.cell? ⟨w.heap.size + 1, 1, none⟩ = some (.slice a1 n1 c1) := (World.cell?_of_block (a := ⟨w.heap.size + 1, 1, none⟩) (hfar _ (by show _ ≠ rb; dsimp only; omega) (by dsimp only; omega))).trans a11_5
  have HbF := Lib.hid (box_set01 (u := .int .i64 rz) (v := .slice Ra rn Rc) HRBn.out)
  rw [← hwF] at HbF
  obtain ⟨rb0_6, rb1_6, _⟩ := box_cells HbF.out
  have zrb : rb < w6.heap.size := (Array.getElem?_eq_some_iff.1 HbF.out).1
  have HR_6 := Lib.hid (HR_5.out.kept (fun q h1 h2 => hfar q (by have := HRBe.out; omega) (by omega)))
  have B6 : Hid (Below w.heap.size w w6) := by rw [hwF]; exact ((B5.out.trans (bN.mono B5.out.size)).setCell (by show w.heap.size ≤ rb; omega) _).setCell (by show w.heap.size ≤ rb; omega) _
  have e_sl : w6 = w6 := rfl
  refine hK.out _ _ ?_ (fun hHeld => ?_)
  · exact ⟨a00_6, a01_6, a10_6, a11_6⟩
  clear hK K
  (try simp only [Act.put, List.setIfInBounds_toArray, List.set_cons_zero, List.set_cons_succ])
  clear a00_5 a01_5 a10_5 a11_5 HS0_5 HS1_5 HR_5 hwF hfar HbF qb0 qb1 qbf0 qbf1 HRBn HRBe bN e_sl hrbl
  refine wpAnyH_take (i := 10) (oi := ⟨_, _, _, _, _, _⟩) (v := ?_) rfl (by kernel_rfl) (by kernel_rfl) (by kernel_rfl) (fun _ _ _ h => h) (Or.inl ⟨rfl, ?_⟩) (by assumption) ?_
  rotate_left 1
  · intro w_ hSw; (try dsimp only at hSw); go_simp; (try with_reducible rfl)
  (try simp only [Act.put, List.setIfInBounds_toArray, List.set_cons_zero, List.set_cons_succ])
  refine wpAnyH_done (by kernel_rfl) ?_ _
  refine NoPanic.normal ?_
  rotate_left 1
  all_goals
    have hC_ := toAlg_view w.heap.size z0 a0 c0 n0 fs0 w6 (HV0.out.kept (Kept.of_below B6.out (Nat.le_refl _))) B6.out.size hn3_0 HS80.out
    have HC_ := Lib.hid hC_
    clear hC_
    go_wp2_with fail
    refine HC_.out.mono ?_
    rintro e w7 ⟨X0g, rfl, m_⟩; have b_ := m_.2
    have b7 : Below w6.heap.size w6 w7 := b_
    have s7 : w6.heap.size ≤ w7.heap.size := b7.size
    have a00_7 : w7.cell? ⟨w.heap.size, 0, none⟩ = some (.int .i64 z0) := cell_b b7 a00_6
    have a01_7 : w7.cell? ⟨w.heap.size, 1, none⟩ = some (.slice a0 n0 c0) := cell_b b7 a01_6
    have a10_7 : w7.cell? ⟨w.heap.size + 1, 0, none⟩ = some (.int .i64 z1) := cell_b b7 a10_6
    have a11_7 : w7.cell? ⟨w.heap.size + 1, 1, none⟩ = some (.slice a1 n1 c1) := cell_b b7 a11_6
    have rb0_7 : w7.cell? ⟨rb, 0, none⟩ = some (.int .i64 rz) := cell_b b7 rb0_6
    have rb1_7 : w7.cell? ⟨rb, 1, none⟩ = some (.slice Ra rn Rc) := cell_b b7 rb1_6
    have HR_7 := Lib.hid (HR_6.out.kept (Kept.of_below b7 (by omega)))
    have B7 : Hid (Below w.heap.size w w7) := below_then B6.out b7
    clear a00_6 a01_6 a10_6 a11_6 rb0_6 rb1_6 HR_6 b_
    clear HC_
    obtain ⟨⟨X0G, X0C, m_⟩, _⟩ := m_
    have HX0_7 := Lib.hid m_
    clear m_
    have a00_p : ((w7.alloc (.cells #[.int .i64 z0, .slice (some ⟨X0g, 0, none⟩) n0 n0] 28))).cell? ⟨w.heap.size, 0, none⟩ = some (.int .i64 z0) := cell_b (below_alloc w7 (.cells #[.int .i64 z0, .slice (some ⟨X0g, 0, none⟩) n0 n0] 28)) a00_7
    have a01_p : ((w7.alloc (.cells #[.int .i64 z0, .slice (some ⟨X0g, 0, none⟩) n0 n0] 28))).cell? ⟨w.heap.size, 1, none⟩ = some (.slice a0 n0 c0) := cell_b (below_alloc w7 (.cells #[.int .i64 z0, .slice (some ⟨X0g, 0, none⟩) n0 n0] 28)) a01_7
    have a10_p : ((w7.alloc (.cells #[.int .i64 z0, .slice (some ⟨X0g, 0, none⟩) n0 n0] 28))).cell? ⟨w.heap.size + 1, 0, none⟩ = some (.int .i64 z1) := cell_b (below_alloc w7 (.cells #[.int .i64 z0, .slice (some ⟨X0g, 0, none⟩) n0 n0] 28)) a10_7
    have a11_p : ((w7.alloc (.cells #[.int .i64 z0, .slice (some ⟨X0g, 0, none⟩) n0 n0] 28))).cell? ⟨w.heap.size + 1, 1, none⟩ = some (.slice a1 n1 c1) := cell_b (below_alloc w7 (.cells #[.int .i64 z0, .slice (some ⟨X0g, 0, none⟩) n0 n0] 28)) a11_7
    have rb0_p : ((w7.alloc (.cells #[.int .i64 z0, .slice (some ⟨X0g, 0, none⟩) n0 n0] 28))).cell? ⟨rb, 0, none⟩ = some (.int .i64 rz) := cell_b (below_alloc w7 (.cells #[.int .i64 z0, .slice (some ⟨X0g, 0, none⟩) n0 n0] 28)) rb0_7
    have rb1_p : ((w7.alloc (.cells #[.int .i64 z0, .slice (some ⟨X0g, 0, none⟩) n0 n0] 28))).cell? ⟨rb, 1, none⟩ = some (.slice Ra rn Rc) := cell_b (below_alloc w7 (.cells #[.int .i64 z0, .slice (some ⟨X0g, 0, none⟩) n0 n0] 28)) rb1_7
    have hC_ := toAlg_view w.heap.size z1 a1 c1 n1 fs1 (w7.alloc (.cells #[.int .i64 z0, .slice (some ⟨X0g, 0, none⟩) n0 n0] 28)) (HV1.out.kept (Kept.of_below (below_then B7.out (below_alloc w7 (.cells #[.int .i64 z0, .slice (some ⟨X0g, 0, none⟩) n0 n0] 28))) (Nat.le_refl _))) (below_then B7.out (below_alloc w7 (.cells #[.int .i64 z0, .slice (some ⟨X0g, 0, none⟩) n0 n0] 28))).size hn3_1 HS81.out
    have HC_ := Lib.hid hC_
    clear hC_
    go_wp2_with fail
    refine HC_.out.mono ?_
    rintro e w8 ⟨X1g, rfl, m_⟩; have b_ := m_.2
    have b8 : Below w7.heap.size w7 w8 := below_then (below_alloc w7 (.cells #[.int .i64 z0, .slice (some ⟨X0g, 0, none⟩) n0 n0] 28)) b_
    have s8 : w7.heap.size ≤ w8.heap.size := b8.size
    have a00_8 : w8.cell? ⟨w.heap.size, 0, none⟩ = some (.int .i64 z0) := cell_b b8 a00_7
    have a01_8 : w8.cell? ⟨w.heap.size, 1, none⟩ = some (.slice a0 n0 c0) := cell_b b8 a01_7
    have a10_8 : w8.cell? ⟨w.heap.size + 1, 0, none⟩ = some (.int .i64 z1) := cell_b b8 a10_7
    have a11_8 : w8.cell? ⟨w.heap.size + 1, 1, none⟩ = some (.slice a1 n1 c1) := cell_b b8 a11_7
    have rb0_8 : w8.cell? ⟨rb, 0, none⟩ = some (.int .i64 rz) := cell_b b8 rb0_7
    have rb1_8 : w8.cell? ⟨rb, 1, none⟩ = some (.slice Ra rn Rc) := cell_b b8 rb1_7
    have HR_8 := Lib.hid (HR_7.out.kept (Kept.of_below b8 (by omega)))
    have HX0_8 := Lib.hid (HX0_7.out.kept (Kept.of_below b8 (by omega)))
    have x00_8 : w8.cell? ⟨w7.heap.size, 0, none⟩ = some (.int .i64 z0) := cell_b b_ (by simp)
    have x01_8 : w8.cell? ⟨w7.heap.size, 1, none⟩ = some (.slice (some ⟨X0g, 0, none⟩) n0 n0) := cell_b b_ (by simp)
    have zx0 : w7.heap.size < w8.heap.size := (by have := b_.size; simp at this; omega)
    have B8 : Hid (Below w.heap.size w w8) := below_then B7.out b8
    clear a00_7 a01_7 a10_7 a11_7 rb0_7 rb1_7 HR_7 HX0_7 b_
    clear a00_p a01_p a10_p a11_p rb0_p rb1_p
    clear HC_
    obtain ⟨⟨X1G, X1C, m_⟩, _⟩ := m_
    simp only [World.size_alloc, World.size_drew] at m_
    have HX1_8 := Lib.hid m_
    clear m_
    have h_ := HX0_8.out.view
    rw [← hl0.out, map_range_get, hl0.out] at h_
    have HXV0_ := Lib.hid h_
    clear h_
    have h_ := HX1_8.out.view
    rw [← hl1.out, map_range_get, hl1.out] at h_
    have HXV1_ := Lib.hid h_
    clear h_
    have a00_p : ((w8.alloc (.cells #[.int .i64 z1, .slice (some ⟨X1g, 0, none⟩) n1 n1] 28))).cell? ⟨w.heap.size, 0, none⟩ = some (.int .i64 z0) := cell_b (below_alloc w8 (.cells #[.int .i64 z1, .slice (some ⟨X1g, 0, none⟩) n1 n1] 28)) a00_8
    have a01_p : ((w8.alloc (.cells #[.int .i64 z1, .slice (some ⟨X1g, 0, none⟩) n1 n1] 28))).cell? ⟨w.heap.size, 1, none⟩ = some (.slice a0 n0 c0) := cell_b (below_alloc w8 (.cells #[.int .i64 z1, .slice (some ⟨X1g, 0, none⟩) n1 n1] 28)) a01_8
    have a10_p : ((w8.alloc (.cells #[.int .i64 z1, .slice (some ⟨X1g, 0, none⟩) n1 n1] 28))).cell? ⟨w.heap.size + 1, 0, none⟩ = some (.int .i64 z1) := cell_b (below_alloc w8 (.cells #[.int .i64 z1, .slice (some ⟨X1g, 0, none⟩) n1 n1] 28)) a10_8
    have a11_p : ((w8.alloc (.cells #[.int .i64 z1, .slice (some ⟨X1g, 0, none⟩) n1 n1] 28))).cell? ⟨w.heap.size + 1, 1, none⟩ = some (.slice a1 n1 c1) := cell_b (below_alloc w8 (.cells #[.int .i64 z1, .slice (some ⟨X1g, 0, none⟩) n1 n1] 28)) a11_8
    have rb0_p : ((w8.alloc (.cells #[.int .i64 z1, .slice (some ⟨X1g, 0, none⟩) n1 n1] 28))).cell? ⟨rb, 0, none⟩ = some (.int .i64 rz) := cell_b (below_alloc w8 (.cells #[.int .i64 z1, .slice (some ⟨X1g, 0, none⟩) n1 n1] 28)) rb0_8
    have rb1_p : ((w8.alloc (.cells #[.int .i64 z1, .slice (some ⟨X1g, 0, none⟩) n1 n1] 28))).cell? ⟨rb, 1, none⟩ = some (.slice Ra rn Rc) := cell_b (below_alloc w8 (.cells #[.int .i64 z1, .slice (some ⟨X1g, 0, none⟩) n1 n1] 28)) rb1_8
    have x00_p : ((w8.alloc (.cells #[.int .i64 z1, .slice (some ⟨X1g, 0, none⟩) n1 n1] 28))).cell? ⟨w7.heap.size, 0, none⟩ = some (.int .i64 z0) := cell_b (below_alloc w8 (.cells #[.int .i64 z1, .slice (some ⟨X1g, 0, none⟩) n1 n1] 28)) x00_8
    have x01_p : ((w8.alloc (.cells #[.int .i64 z1, .slice (some ⟨X1g, 0, none⟩) n1 n1] 28))).cell? ⟨w7.heap.size, 1, none⟩ = some (.slice (some ⟨X0g, 0, none⟩) n0 n0) := cell_b (below_alloc w8 (.cells #[.int .i64 z1, .slice (some ⟨X1g, 0, none⟩) n1 n1] 28)) x01_8
    have hC_ := implProductOf _ _ z0 _ n0 n0 fs0 _ _ z1 _ n1 n1 fs1 (w8.alloc (.cells #[.int .i64 z1, .slice (some ⟨X1g, 0, none⟩) n1 n1] 28)) (HXV0_.out.kept (Kept.of_below (below_alloc w8 (.cells #[.int .i64 z1, .slice (some ⟨X1g, 0, none⟩) n1 n1] 28)) (by omega))) (Nat.le_trans (by omega) (below_alloc w8 (.cells #[.int .i64 z1, .slice (some ⟨X1g, 0, none⟩) n1 n1] 28)).size) HSM0.out (HXV1_.out.kept (Kept.of_below (below_alloc w8 (.cells #[.int .i64 z1, .slice (some ⟨X1g, 0, none⟩) n1 n1] 28)) (by omega))) (Nat.le_trans (by omega) (below_alloc w8 (.cells #[.int .i64 z1, .slice (some ⟨X1g, 0, none⟩) n1 n1] 28)).size) HSM1.out
    simp only [HVal.out] at hC_
    have HC_ := Lib.hid hC_
    clear hC_
    go_wp2_with fail
    refine HC_.out.mono ?_
    rintro e w9 ⟨Ga, Gn, Gc, GG, GC, rfl, hq_, o_, b_⟩
    have b9 : Below w8.heap.size w8 w9 := below_then (below_alloc w8 (.cells #[.int .i64 z1, .slice (some ⟨X1g, 0, none⟩) n1 n1] 28)) b_
    have s9 : w8.heap.size ≤ w9.heap.size := b9.size
    have a00_9 : w9.cell? ⟨w.heap.size, 0, none⟩ = some (.int .i64 z0) := cell_b b9 a00_8
    have a01_9 : w9.cell? ⟨w.heap.size, 1, none⟩ = some (.slice a0 n0 c0) := cell_b b9 a01_8
    have a10_9 : w9.cell? ⟨w.heap.size + 1, 0, none⟩ = some (.int .i64 z1) := cell_b b9 a10_8
    have a11_9 : w9.cell? ⟨w.heap.size + 1, 1, none⟩ = some (.slice a1 n1 c1) := cell_b b9 a11_8
    have rb0_9 : w9.cell? ⟨rb, 0, none⟩ = some (.int .i64 rz) := cell_b b9 rb0_8
    have rb1_9 : w9.cell? ⟨rb, 1, none⟩ = some (.slice Ra rn Rc) := cell_b b9 rb1_8
    have x00_9 : w9.cell? ⟨w7.heap.size, 0, none⟩ = some (.int .i64 z0) := cell_b b9 x00_8
    have x01_9 : w9.cell? ⟨w7.heap.size, 1, none⟩ = some (.slice (some ⟨X0g, 0, none⟩) n0 n0) := cell_b b9 x01_8
    have HR_9 := Lib.hid (HR_8.out.kept (Kept.of_below b9 (by omega)))
    have HX0_9 := Lib.hid (HX0_8.out.kept (Kept.of_below b9 (by omega)))
    have HX1_9 := Lib.hid (HX1_8.out.kept (Kept.of_below b9 (by omega)))
    have x10_9 : w9.cell? ⟨w8.heap.size, 0, none⟩ = some (.int .i64 z1) := cell_b b_ (by simp)
    have x11_9 : w9.cell? ⟨w8.heap.size, 1, none⟩ = some (.slice (some ⟨X1g, 0, none⟩) n1 n1) := cell_b b_ (by simp)
    have zx1 : w8.heap.size < w9.heap.size := (by have := b_.size; simp at this; omega)
    have B9 : Hid (Below w.heap.size w w9) := below_then B8.out b9
    clear a00_8 a01_8 a10_8 a11_8 rb0_8 rb1_8 x00_8 x01_8 HR_8 HX0_8 HX1_8 b_
    clear a00_p a01_p a10_p a11_p rb0_p rb1_p x00_p x01_p
    clear HC_
    obtain rfl : rn = Gn := HRn.out.trans hq_.symm
    simp only [World.size_alloc, World.size_drew] at o_
    have HG_9 := Lib.hid o_
    clear o_ hq_
    have a00_p : ((w9.alloc (.cells #[.int .i64 rz, .slice Ga rn Gc] 28))).cell? ⟨w.heap.size, 0, none⟩ = some (.int .i64 z0) := cell_b (below_alloc w9 (.cells #[.int .i64 rz, .slice Ga rn Gc] 28)) a00_9
    have a01_p : ((w9.alloc (.cells #[.int .i64 rz, .slice Ga rn Gc] 28))).cell? ⟨w.heap.size, 1, none⟩ = some (.slice a0 n0 c0) := cell_b (below_alloc w9 (.cells #[.int .i64 rz, .slice Ga rn Gc] 28)) a01_9
    have a10_p : ((w9.alloc (.cells #[.int .i64 rz, .slice Ga rn Gc] 28))).cell? ⟨w.heap.size + 1, 0, none⟩ = some (.int .i64 z1) := cell_b (below_alloc w9 (.cells #[.int .i64 rz, .slice Ga rn Gc] 28)) a10_9
    have a11_p : ((w9.alloc (.cells #[.int .i64 rz, .slice Ga rn Gc] 28))).cell? ⟨w.heap.size + 1, 1, none⟩ = some (.slice a1 n1 c1) := cell_b (below_alloc w9 (.cells #[.int .i64 rz, .slice Ga rn Gc] 28)) a11_9
    have rb0_p : ((w9.alloc (.cells #[.int .i64 rz, .slice Ga rn Gc] 28))).cell? ⟨rb, 0, none⟩ = some (.int .i64 rz) := cell_b (below_alloc w9 (.cells #[.int .i64 rz, .slice Ga rn Gc] 28)) rb0_9
    have rb1_p : ((w9.alloc (.cells #[.int .i64 rz, .slice Ga rn Gc] 28))).cell? ⟨rb, 1, none⟩ = some (.slice Ra rn Rc) := cell_b (below_alloc w9 (.cells #[.int .i64 rz, .slice Ga rn Gc] 28)) rb1_9
    have x00_p : ((w9.alloc (.cells #[.int .i64 rz, .slice Ga rn Gc] 28))).cell? ⟨w7.heap.size, 0, none⟩ = some (.int .i64 z0) := cell_b (below_alloc w9 (.cells #[.int .i64 rz, .slice Ga rn Gc] 28)) x00_9
    have x01_p : ((w9.alloc (.cells #[.int .i64 rz, .slice Ga rn Gc] 28))).cell? ⟨w7.heap.size, 1, none⟩ = some (.slice (some ⟨X0g, 0, none⟩) n0 n0) := cell_b (below_alloc w9 (.cells #[.int .i64 rz, .slice Ga rn Gc] 28)) x01_9
    have x10_p : ((w9.alloc (.cells #[.int .i64 rz, .slice Ga rn Gc] 28))).cell? ⟨w8.heap.size, 0, none⟩ = some (.int .i64 z1) := cell_b (below_alloc w9 (.cells #[.int .i64 rz, .slice Ga rn Gc] 28)) x10_9
    have x11_p : ((w9.alloc (.cells #[.int .i64 rz, .slice Ga rn Gc] 28))).cell? ⟨w8.heap.size, 1, none⟩ = some (.slice (some ⟨X1g, 0, none⟩) n1 n1) := cell_b (below_alloc w9 (.cells #[.int .i64 rz, .slice Ga rn Gc] 28)) x11_9
    clear HXV0_ HXV1_
    have HRM : Hid (∀ (j : Nat) (f : OpD), rs[j]? = some f → f.2.length ≤ maxLen) := fun j f hf => by have := osum_get hf; have := HRes.out; unfold maxLen; omega
    have h_ := HG_9.out.view
    rw [HRn.out, map_range_get, ← HRn.out] at h_
    have HGV_ := Lib.hid h_
    clear h_
    have hC_ := eqAlg_view _ _ _ _ rz _ _ Gc Rc rn rs (w9.alloc (.cells #[.int .i64 rz, .slice Ga rn Gc] 28)) (HGV_.out.kept (Kept.of_below (below_alloc w9 (.cells #[.int .i64 rz, .slice Ga rn Gc] 28)) (by omega))) (HR_9.out.kept (Kept.of_below (below_alloc w9 (.cells #[.int .i64 rz, .slice Ga rn Gc] 28)) (by omega))) (by unfold maxLen; omega) HRM.out (Nat.le_trans (by omega) (below_alloc w9 (.cells #[.int .i64 rz, .slice Ga rn Gc] 28)).size) (Nat.le_trans (by omega) (below_alloc w9 (.cells #[.int .i64 rz, .slice Ga rn Gc] 28)).size)
    have HC_ := Lib.hid hC_
    clear hC_
    go_wp2_with fail
    refine HC_.out.mono ?_
    rintro e w10 ⟨rfl, b_⟩
    have b10 : Below w9.heap.size w9 w10 := below_then (below_alloc w9 (.cells #[.int .i64 rz, .slice Ga rn Gc] 28)) b_
    have s10 : w9.heap.size ≤ w10.heap.size := b10.size
    have a00_10 : w10.cell? ⟨w.heap.size, 0, none⟩ = some (.int .i64 z0) := cell_b b10 a00_9
    have a01_10 : w10.cell? ⟨w.heap.size, 1, none⟩ = some (.slice a0 n0 c0) := cell_b b10 a01_9
    have a10_10 : w10.cell? ⟨w.heap.size + 1, 0, none⟩ = some (.int .i64 z1) := cell_b b10 a10_9
    have a11_10 : w10.cell? ⟨w.heap.size + 1, 1, none⟩ = some (.slice a1 n1 c1) := cell_b b10 a11_9
    have rb0_10 : w10.cell? ⟨rb, 0, none⟩ = some (.int .i64 rz) := cell_b b10 rb0_9
    have rb1_10 : w10.cell? ⟨rb, 1, none⟩ = some (.slice Ra rn Rc) := cell_b b10 rb1_9
    have x00_10 : w10.cell? ⟨w7.heap.size, 0, none⟩ = some (.int .i64 z0) := cell_b b10 x00_9
    have x01_10 : w10.cell? ⟨w7.heap.size, 1, none⟩ = some (.slice (some ⟨X0g, 0, none⟩) n0 n0) := cell_b b10 x01_9
    have x10_10 : w10.cell? ⟨w8.heap.size, 0, none⟩ = some (.int .i64 z1) := cell_b b10 x10_9
    have x11_10 : w10.cell? ⟨w8.heap.size, 1, none⟩ = some (.slice (some ⟨X1g, 0, none⟩) n1 n1) := cell_b b10 x11_9
    have HR_10 := Lib.hid (HR_9.out.kept (Kept.of_below b10 (by omega)))
    have HX0_10 := Lib.hid (HX0_9.out.kept (Kept.of_below b10 (by omega)))
    have HX1_10 := Lib.hid (HX1_9.out.kept (Kept.of_below b10 (by omega)))
    have HG_10 := Lib.hid (HG_9.out.kept (Kept.of_below b10 (by omega)))
    have gb0_10 : w10.cell? ⟨w9.heap.size, 0, none⟩ = some (.int .i64 rz) := cell_b b_ (by simp)
    have gb1_10 : w10.cell? ⟨w9.heap.size, 1, none⟩ = some (.slice Ga rn Gc) := cell_b b_ (by simp)
    have zgb : w9.heap.size < w10.heap.size := (by have := b_.size; simp at this; omega)
    have B10 : Hid (Below w.heap.size w w10) := below_then B9.out b10
    clear a00_9 a01_9 a10_9 a11_9 rb0_9 rb1_9 x00_9 x01_9 x10_9 x11_9 HR_9 HX0_9 HX1_9 HG_9 b_
    clear a00_p a01_p a10_p a11_p rb0_p rb1_p x00_p x01_p x10_p x11_p
    clear HC_
    clear HGV_
    go_wp2_with fail
    refine wp_region_noPanic ?_
    refine wp_region_held_drew (S := fun W => W.cell? ⟨w.heap.size, 0, none⟩ = some (.int .i64 z0) ∧ W.cell? ⟨w.heap.size, 1, none⟩ = some (.slice a0 n0 c0) ∧ W.cell? ⟨w.heap.size + 1, 0, none⟩ = some (.int .i64 z1) ∧ W.cell? ⟨w.heap.size + 1, 1, none⟩ = some (.slice a1 n1 c1) ∧ W.cell? ⟨rb, 0, none⟩ = some (.int .i64 rz) ∧ W.cell? ⟨rb, 1, none⟩ = some (.slice Ra rn Rc) ∧ W.cell? ⟨w7.heap.size, 0, none⟩ = some (.int .i64 z0) ∧ W.cell? ⟨w7.heap.size, 1, none⟩ = some (.slice (some ⟨X0g, 0, none⟩) n0 n0) ∧ W.cell? ⟨w8.heap.size, 0, none⟩ = some (.int .i64 z1) ∧ W.cell? ⟨w8.heap.size, 1, none⟩ = some (.slice (some ⟨X1g, 0, none⟩) n1 n1) ∧ W.cell? ⟨w9.heap.size, 0, none⟩ = some (.int .i64 rz) ∧ W.cell? ⟨w9.heap.size, 1, none⟩ = some (.slice Ga rn Gc)) (by kernel_rfl) ?_ (fun hHeld => ?_)
    · exact ⟨a00_10, a01_10, a10_10, a11_10, rb0_10, rb1_10, x00_10, x01_10, x10_10, x11_10, gb0_10, gb1_10⟩
    refine wpAnyH_take (i := 0) (oi := ⟨_, _, _, _, _, _⟩) (v := ?_) rfl (by kernel_rfl) (by kernel_rfl) (by kernel_rfl) (fun _ _ _ h => h) (Or.inl ⟨rfl, ?_⟩) (by assumption) ?_
    rotate_left 1
    · intro w_ hSw; (try dsimp only at hSw); go_simp; (try with_reducible rfl)
    (try simp only [Act.put, List.setIfInBounds_toArray, List.set_cons_zero, List.set_cons_succ])
    refine wpAnyH_take (i := 1) (oi := ⟨_, _, _, _, _, _⟩) (v := ?_) rfl (by kernel_rfl) (by kernel_rfl) (by kernel_rfl) (fun _ _ _ h => h) (Or.inl ⟨rfl, ?_⟩) (by assumption) ?_
    rotate_left 1
    · intro w_ hSw; (try dsimp only at hSw); go_simp; (try with_reducible rfl)
    (try simp only [Act.put, List.setIfInBounds_toArray, List.set_cons_zero, List.set_cons_succ])
    refine wpAnyH_ready (rs := [2]) (by kernel_rfl) (by simp) ?_
    refine AllReadyH.cons (o := ⟨_, _, _, _, _, _⟩) rfl (fun K hK => ?_) AllReadyH.nil
    go_simp
    go_at_call 17
    have hC_ := toAlg_view w.heap.size z0 a0 c0 n0 fs0 w10.drew (HV0.out.kept (Kept.of_below (below_then B10.out (below_drew w10)) (Nat.le_refl _))) (below_then B10.out (below_drew w10)).size hn3_0 HS80.out
    refine hC_.mono ?_
    clear hC_
    rintro e w11 ⟨Y0g, rfl, m_⟩; have b_ := m_.2
    have b11 : Below w10.heap.size w10 w11 := below_then (below_drew w10) b_
    have s11 : w10.heap.size ≤ w11.heap.size := b11.size
    have a00_11 : w11.cell? ⟨w.heap.size, 0, none⟩ = some (.int .i64 z0) := cell_b b11 a00_10
    have a01_11 : w11.cell? ⟨w.heap.size, 1, none⟩ = some (.slice a0 n0 c0) := cell_b b11 a01_10
    have a10_11 : w11.cell? ⟨w.heap.size + 1, 0, none⟩ = some (.int .i64 z1) := cell_b b11 a10_10
    have a11_11 : w11.cell? ⟨w.heap.size + 1, 1, none⟩ = some (.slice a1 n1 c1) := cell_b b11 a11_10
    have rb0_11 : w11.cell? ⟨rb, 0, none⟩ = some (.int .i64 rz) := cell_b b11 rb0_10
    have rb1_11 : w11.cell? ⟨rb, 1, none⟩ = some (.slice Ra rn Rc) := cell_b b11 rb1_10
    have x00_11 : w11.cell? ⟨w7.heap.size, 0, none⟩ = some (.int .i64 z0) := cell_b b11 x00_10
    have x01_11 : w11.cell? ⟨w7.heap.size, 1, none⟩ = some (.slice (some ⟨X0g, 0, none⟩) n0 n0) := cell_b b11 x01_10
    have x10_11 : w11.cell? ⟨w8.heap.size, 0, none⟩ = some (.int .i64 z1) := cell_b b11 x10_10
    have x11_11 : w11.cell? ⟨w8.heap.size, 1, none⟩ = some (.slice (some ⟨X1g, 0, none⟩) n1 n1) := cell_b b11 x11_10
    have gb0_11 : w11.cell? ⟨w9.heap.size, 0, none⟩ = some (.int .i64 rz) := cell_b b11 gb0_10
    have gb1_11 : w11.cell? ⟨w9.heap.size, 1, none⟩ = some (.slice Ga rn Gc) := cell_b b11 gb1_10
    have HR_11 := Lib.hid (HR_10.out.kept (Kept.of_below b11 (by omega)))
    have HX0_11 := Lib.hid (HX0_10.out.kept (Kept.of_below b11 (by omega)))
    have HX1_11 := Lib.hid (HX1_10.out.kept (Kept.of_below b11 (by omega)))
    have HG_11 := Lib.hid (HG_10.out.kept (Kept.of_below b11 (by omega)))
    have B11 : Hid (Below w.heap.size w w11) := below_then B10.out b11
    clear a00_10 a01_10 a10_10 a11_10 rb0_10 rb1_10 x00_10 x01_10 x10_10 x11_10 gb0_10 gb1_10 HR_10 HX0_10 HX1_10 HG_10 b_
    have m_ := m_.view hl0.out
    simp only [World.size_alloc, World.size_drew] at m_
    have HY0_11 := Lib.hid m_
    clear m_
    go_wp2_with fail
    refine hK.out _ _ ?_ (fun hHeld => ?_)
    · exact ⟨a00_11, a01_11, a10_11, a11_11, rb0_11, rb1_11, x00_11, x01_11, x10_11, x11_11, gb0_11, gb1_11⟩
    clear hK K
    (try simp only [Act.put, List.setIfInBounds_toArray, List.set_cons_zero, List.set_cons_succ])
    refine wpAnyH_ready (rs := [3]) (by kernel_rfl) (by simp) ?_
    refine AllReadyH.cons (o := ⟨_, _, _, _, _, _⟩) rfl (fun K hK => ?_) AllReadyH.nil
    go_simp
    have h_ := HX0_11.out.view
    rw [← hl0.out, map_range_get, hl0.out] at h_
    have XV_ := Lib.hid h_
    clear h_
    go_at_call 19
    have hC_ := eqAlg_view _ _ _ _ z0 _ _ n0 n0 n0 fs0 w11 XV_.out HY0_11.out (by unfold maxLen; omega) HSM0.out (by omega) (by omega)
    refine hC_.mono ?_
    clear hC_
    rintro e w12 ⟨rfl, b_⟩; clear XV_
    have b12 : Below w11.heap.size w11 w12 := b_
    have s12 : w11.heap.size ≤ w12.heap.size := b12.size
    have a00_12 : w12.cell? ⟨w.heap.size, 0, none⟩ = some (.int .i64 z0) := cell_b b12 a00_11
    have a01_12 : w12.cell? ⟨w.heap.size, 1, none⟩ = some (.slice a0 n0 c0) := cell_b b12 a01_11
    have a10_12 : w12.cell? ⟨w.heap.size + 1, 0, none⟩ = some (.int .i64 z1) := cell_b b12 a10_11
    have a11_12 : w12.cell? ⟨w.heap.size + 1, 1, none⟩ = some (.slice a1 n1 c1) := cell_b b12 a11_11
    have rb0_12 : w12.cell? ⟨rb, 0, none⟩ = some (.int .i64 rz) := cell_b b12 rb0_11
    have rb1_12 : w12.cell? ⟨rb, 1, none⟩ = some (.slice Ra rn Rc) := cell_b b12 rb1_11
    have x00_12 : w12.cell? ⟨w7.heap.size, 0, none⟩ = some (.int .i64 z0) := cell_b b12 x00_11
    have x01_12 : w12.cell? ⟨w7.heap.size, 1, none⟩ = some (.slice (some ⟨X0g, 0, none⟩) n0 n0) := cell_b b12 x01_11
    have x10_12 : w12.cell? ⟨w8.heap.size, 0, none⟩ = some (.int .i64 z1) := cell_b b12 x10_11
    have x11_12 : w12.cell? ⟨w8.heap.size, 1, none⟩ = some (.slice (some ⟨X1g, 0, none⟩) n1 n1) := cell_b b12 x11_11
    have gb0_12 : w12.cell? ⟨w9.heap.size, 0, none⟩ = some (.int .i64 rz) := cell_b b12 gb0_11
    have gb1_12 : w12.cell? ⟨w9.heap.size, 1, none⟩ = some (.slice Ga rn Gc) := cell_b b12 gb1_11
    have HR_12 := Lib.hid (HR_11.out.kept (Kept.of_below b12 (by omega)))
    have HX0_12 := Lib.hid (HX0_11.out.kept (Kept.of_below b12 (by omega)))
    have HX1_12 := Lib.hid (HX1_11.out.kept (Kept.of_below b12 (by omega)))
    have HG_12 := Lib.hid (HG_11.out.kept (Kept.of_below b12 (by omega)))
    have HY0_12 := Lib.hid (HY0_11.out.kept (Kept.of_below b12 (by omega)))
    have B12 : Hid (Below w.heap.size w w12) := below_then B11.out b12
    clear a00_11 a01_11 a10_11 a11_11 rb0_11 rb1_11 x00_11 x01_11 x10_11 x11_11 gb0_11 gb1_11 HR_11 HX0_11 HX1_11 HG_11 HY0_11 b_
    go_wp2_with fail
    refine hK.out _ _ ?_ (fun hHeld => ?_)
    · exact ⟨a00_12, a01_12, a10_12, a11_12, rb0_12, rb1_12, x00_12, x01_12, x10_12, x11_12, gb0_12, gb1_12⟩
    clear hK K
    (try simp only [Act.put, List.setIfInBounds_toArray, List.set_cons_zero, List.set_cons_succ])
    refine wpAnyH_take (i := 4) (oi := ⟨_, _, _, _, _, _⟩) (v := ?_) rfl (by kernel_rfl) (by kernel_rfl) (by kernel_rfl) (fun _ _ _ h => h) (Or.inl ⟨rfl, ?_⟩) (by assumption) ?_
    rotate_left 1
    · intro w_ hSw; (try dsimp only at hSw); go_simp; (try with_reducible rfl)
    (try simp only [Act.put, List.setIfInBounds_toArray, List.set_cons_zero, List.set_cons_succ])
    refine wpAnyH_done (by kernel_rfl) ?_ _
    refine NoPanic.normal ?_
    clear HY0_12
    go_wp2_with fail
    refine wp_region_noPanic ?_
    refine wp_region_held_drew (S := fun W => W.cell? ⟨w.heap.size, 0, none⟩ = some (.int .i64 z0) ∧ W.cell? ⟨w.heap.size, 1, none⟩ = some (.slice a0 n0 c0) ∧ W.cell? ⟨w.heap.size + 1, 0, none⟩ = some (.int .i64 z1) ∧ W.cell? ⟨w.heap.size + 1, 1, none⟩ = some (.slice a1 n1 c1) ∧ W.cell? ⟨rb, 0, none⟩ = some (.int .i64 rz) ∧ W.cell? ⟨rb, 1, none⟩ = some (.slice Ra rn Rc) ∧ W.cell? ⟨w7.heap.size, 0, none⟩ = some (.int .i64 z0) ∧ W.cell? ⟨w7.heap.size, 1, none⟩ = some (.slice (some ⟨X0g, 0, none⟩) n0 n0) ∧ W.cell? ⟨w8.heap.size, 0, none⟩ = some (.int .i64 z1) ∧ W.cell? ⟨w8.heap.size, 1, none⟩ = some (.slice (some ⟨X1g, 0, none⟩) n1 n1) ∧ W.cell? ⟨w9.heap.size, 0, none⟩ = some (.int .i64 rz) ∧ W.cell? ⟨w9.heap.size, 1, none⟩ = some (.slice Ga rn Gc)) (by kernel_rfl) ?_ (fun hHeld => ?_)
    · exact ⟨a00_12, a01_12, a10_12, a11_12, rb0_12, rb1_12, x00_12, x01_12, x10_12, x11_12, gb0_12, gb1_12⟩
    refine wpAnyH_take (i := 0) (oi := ⟨_, _, _, _, _, _⟩) (v := ?_) rfl (by kernel_rfl) (by kernel_rfl) (by kernel_rfl) (fun _ _ _ h => h) (Or.inl ⟨rfl, ?_⟩) (by assumption) ?_
    rotate_left 1
    · intro w_ hSw; (try dsimp only at hSw); go_simp; (try with_reducible rfl)
    (try simp only [Act.put, List.setIfInBounds_toArray, List.set_cons_zero, List.set_cons_succ])
    refine wpAnyH_take (i := 1) (oi := ⟨_, _, _, _, _, _⟩) (v := ?_) rfl (by kernel_rfl) (by kernel_rfl) (by kernel_rfl) (fun _ _ _ h => h) (Or.inl ⟨rfl, ?_⟩) (by assumption) ?_
    rotate_left 1
    · intro w_ hSw; (try dsimp only at hSw); go_simp; (try with_reducible rfl)
    (try simp only [Act.put, List.setIfInBounds_toArray, List.set_cons_zero, List.set_cons_succ])
    refine wpAnyH_ready (rs := [2]) (by kernel_rfl) (by simp) ?_
    refine AllReadyH.cons (o := ⟨_, _, _, _, _, _⟩) rfl (fun K hK => ?_) AllReadyH.nil
    go_simp
    go_at_call 17
    have hC_ := toAlg_view w.heap.size z1 a1 c1 n1 fs1 w12.drew (HV1.out.kept (Kept.of_below (below_then B12.out (below_drew w12)) (Nat.le_refl _))) (below_then B12.out (below_drew w12)).size hn3_1 HS81.out
    refine hC_.mono ?_
    clear hC_
    rintro e w13 ⟨Y1g, rfl, m_⟩; have b_ := m_.2
    have b13 : Below w12.heap.size w12 w13 := below_then (below_drew w12) b_
    have s13 : w12.heap.size ≤ w13.heap.size := b13.size
    have a00_13 : w13.cell? ⟨w.heap.size, 0, none⟩ = some (.int .i64 z0) := cell_b b13 a00_12
    have a01_13 : w13.cell? ⟨w.heap.size, 1, none⟩ = some (.slice a0 n0 c0) := cell_b b13 a01_12
    have a10_13 : w13.cell? ⟨w.heap.size + 1, 0, none⟩ = some (.int .i64 z1) := cell_b b13 a10_12
    have a11_13 : w13.cell? ⟨w.heap.size + 1, 1, none⟩ = some (.slice a1 n1 c1) := cell_b b13 a11_12
    have rb0_13 : w13.cell? ⟨rb, 0, none⟩ = some (.int .i64 rz) := cell_b b13 rb0_12
    have rb1_13 : w13.cell? ⟨rb, 1, none⟩ = some (.slice Ra rn Rc) := cell_b b13 rb1_12
    have x00_13 : w13.cell? ⟨w7.heap.size, 0, none⟩ = some (.int .i64 z0) := cell_b b13 x00_12
    have x01_13 : w13.cell? ⟨w7.heap.size, 1, none⟩ = some (.slice (some ⟨X0g, 0, none⟩) n0 n0) := cell_b b13 x01_12
    have x10_13 : w13.cell? ⟨w8.heap.size, 0, none⟩ = some (.int .i64 z1) := cell_b b13 x10_12
    have x11_13 : w13.cell? ⟨w8.heap.size, 1, none⟩ = some (.slice (some ⟨X1g, 0, none⟩) n1 n1) := cell_b b13 x11_12
    have gb0_13 : w13.cell? ⟨w9.heap.size, 0, none⟩ = some (.int .i64 rz) := cell_b b13 gb0_12
    have gb1_13 : w13.cell? ⟨w9.heap.size, 1, none⟩ = some (.slice Ga rn Gc) := cell_b b13 gb1_12
    have HR_13 := Lib.hid (HR_12.out.kept (Kept.of_below b13 (by omega)))
    have HX0_13 := Lib.hid (HX0_12.out.kept (Kept.of_below b13 (by omega)))
    have HX1_13 := Lib.hid (HX1_12.out.kept (Kept.of_below b13 (by omega)))
    have HG_13 := Lib.hid (HG_12.out.kept (Kept.of_below b13 (by omega)))
    have B13 : Hid (Below w.heap.size w w13) := below_then B12.out b13
    clear a00_12 a01_12 a10_12 a11_12 rb0_12 rb1_12 x00_12 x01_12 x10_12 x11_12 gb0_12 gb1_12 HR_12 HX0_12 HX1_12 HG_12 b_
    have m_ := m_.view hl1.out
    simp only [World.size_alloc, World.size_drew] at m_
    have HY1_13 := Lib.hid m_
    clear m_
    go_wp2_with fail
    refine hK.out _ _ ?_ (fun hHeld => ?_)
    · exact ⟨a00_13, a01_13, a10_13, a11_13, rb0_13, rb1_13, x00_13, x01_13, x10_13, x11_13, gb0_13, gb1_13⟩
    clear hK K
    (try simp only [Act.put, List.setIfInBounds_toArray, List.set_cons_zero, List.set_cons_succ])
    refine wpAnyH_ready (rs := [3]) (by kernel_rfl) (by simp) ?_
    refine AllReadyH.cons (o := ⟨_, _, _, _, _, _⟩) rfl (fun K hK => ?_) AllReadyH.nil
    go_simp
    have h_ := HX1_13.out.view
    rw [← hl1.out, map_range_get, hl1.out] at h_
    have XV_ := Lib.hid h_
    clear h_
    go_at_call 19
    have hC_ := eqAlg_view _ _ _ _ z1 _ _ n1 n1 n1 fs1 w13 XV_.out HY1_13.out (by unfold maxLen; omega) HSM1.out (by omega) (by omega)
    refine hC_.mono ?_
    clear hC_
    rintro e w14 ⟨rfl, b_⟩; clear XV_
    have b14 : Below w13.heap.size w13 w14 := b_
    have s14 : w13.heap.size ≤ w14.heap.size := b14.size
    have a00_14 : w14.cell? ⟨w.heap.size, 0, none⟩ = some (.int .i64 z0) := cell_b b14 a00_13
    have a01_14 : w14.cell? ⟨w.heap.size, 1, none⟩ = some (.slice a0 n0 c0) := cell_b b14 a01_13
    have a10_14 : w14.cell? ⟨w.heap.size + 1, 0, none⟩ = some (.int .i64 z1) := cell_b b14 a10_13
    have a11_14 : w14.cell? ⟨w.heap.size + 1, 1, none⟩ = some (.slice a1 n1 c1) := cell_b b14 a11_13
    have rb0_14 : w14.cell? ⟨rb, 0, none⟩ = some (.int .i64 rz) := cell_b b14 rb0_13
    have rb1_14 : w14.cell? ⟨rb, 1, none⟩ = some (.slice Ra rn Rc) := cell_b b14 rb1_13
    have x00_14 : w14.cell? ⟨w7.heap.size, 0, none⟩ = some (.int .i64 z0) := cell_b b14 x00_13
    have x01_14 : w14.cell? ⟨w7.heap.size, 1, none⟩ = some (.slice (some ⟨X0g, 0, none⟩) n0 n0) := cell_b b14 x01_13
    have x10_14 : w14.cell? ⟨w8.heap.size, 0, none⟩ = some (.int .i64 z1) := cell_b b14 x10_13
    have x11_14 : w14.cell? ⟨w8.heap.size, 1, none⟩ = some (.slice (some ⟨X1g, 0, none⟩) n1 n1) := cell_b b14 x11_13
    have gb0_14 : w14.cell? ⟨w9.heap.size, 0, none⟩ = some (.int .i64 rz) := cell_b b14 gb0_13
    have gb1_14 : w14.cell? ⟨w9.heap.size, 1, none⟩ = some (.slice Ga rn Gc) := cell_b b14 gb1_13
    have HR_14 := Lib.hid (HR_13.out.kept (Kept.of_below b14 (by omega)))
    have HX0_14 := Lib.hid (HX0_13.out.kept (Kept.of_below b14 (by omega)))
    have HX1_14 := Lib.hid (HX1_13.out.kept (Kept.of_below b14 (by omega)))
    have HG_14 := Lib.hid (HG_13.out.kept (Kept.of_below b14 (by omega)))
    have HY1_14 := Lib.hid (HY1_13.out.kept (Kept.of_below b14 (by omega)))
    have B14 : Hid (Below w.heap.size w w14) := below_then B13.out b14
    clear a00_13 a01_13 a10_13 a11_13 rb0_13 rb1_13 x00_13 x01_13 x10_13 x11_13 gb0_13 gb1_13 HR_13 HX0_13 HX1_13 HG_13 HY1_13 b_
    go_wp2_with fail
    refine hK.out _ _ ?_ (fun hHeld => ?_)
    · exact ⟨a00_14, a01_14, a10_14, a11_14, rb0_14, rb1_14, x00_14, x01_14, x10_14, x11_14, gb0_14, gb1_14⟩
    clear hK K
    (try simp only [Act.put, List.setIfInBounds_toArray, List.set_cons_zero, List.set_cons_succ])
    refine wpAnyH_take (i := 4) (oi := ⟨_, _, _, _, _, _⟩) (v := ?_) rfl (by kernel_rfl) (by kernel_rfl) (by kernel_rfl) (fun _ _ _ h => h) (Or.inl ⟨rfl, ?_⟩) (by assumption) ?_
    rotate_left 1
    · intro w_ hSw; (try dsimp only at hSw); go_simp; (try with_reducible rfl)
    (try simp only [Act.put, List.setIfInBounds_toArray, List.set_cons_zero, List.set_cons_succ])
    refine wpAnyH_done (by kernel_rfl) ?_ _
    refine NoPanic.normal ?_
    clear HY1_14
    have HPre0 : Hid (preLen (fun j => fs0.getD j (0, [])) n0 = n0 + osum fs0) := by have h_ := preLen_fs fs0; rw [hl0.out] at h_; exact h_
    have hfit_ := HFit0.out
    obtain ⟨kx0, hkx, hkx00, hkx10⟩ : ∃ kx : Int, kx = 1 + (preLen (fun j => fs0.getD j (0, [])) n0 : Int) ∧ 0 ≤ kx ∧ kx ≤ 1048577 := ⟨_, rfl, by omega, by rw [HPre0.out]; omega⟩
    have HKX0 := Lib.hid hkx
    clear hkx hfit_
    have hC_ := markAlg_own _ _ n0 n0 z0 _ X0G X0C (fun j => fs0.getD j (0, [])) 1 w14 (by omega) (by rw [← HKX0.out]; omega) HX0_14.out (by omega)
    rw [← HKX0.out] at hC_
    have HC_ := Lib.hid hC_
    clear hC_
    go_wp2_with fail
    refine HC_.out.mono ?_
    rintro e w15 ⟨rfl, o_, b_⟩; clear o_
    have s15 : w14.heap.size ≤ w15.heap.size := b_.size
    have a00_15 : w15.cell? ⟨w.heap.size, 0, none⟩ = some (.int .i64 z0) := cell_o b_ a00_14 (by dsimp only; omega)
    have a01_15 : w15.cell? ⟨w.heap.size, 1, none⟩ = some (.slice a0 n0 c0) := cell_o b_ a01_14 (by dsimp only; omega)
    have a10_15 : w15.cell? ⟨w.heap.size + 1, 0, none⟩ = some (.int .i64 z1) := cell_o b_ a10_14 (by dsimp only; omega)
    have a11_15 : w15.cell? ⟨w.heap.size + 1, 1, none⟩ = some (.slice a1 n1 c1) := cell_o b_ a11_14 (by dsimp only; omega)
    have rb0_15 : w15.cell? ⟨rb, 0, none⟩ = some (.int .i64 rz) := cell_o b_ rb0_14 (by dsimp only; omega)
    have rb1_15 : w15.cell? ⟨rb, 1, none⟩ = some (.slice Ra rn Rc) := cell_o b_ rb1_14 (by dsimp only; omega)
    have x00_15 : w15.cell? ⟨w7.heap.size, 0, none⟩ = some (.int .i64 z0) := cell_o b_ x00_14 (by dsimp only; omega)
    have x01_15 : w15.cell? ⟨w7.heap.size, 1, none⟩ = some (.slice (some ⟨X0g, 0, none⟩) n0 n0) := cell_o b_ x01_14 (by dsimp only; omega)
    have x10_15 : w15.cell? ⟨w8.heap.size, 0, none⟩ = some (.int .i64 z1) := cell_o b_ x10_14 (by dsimp only; omega)
    have x11_15 : w15.cell? ⟨w8.heap.size, 1, none⟩ = some (.slice (some ⟨X1g, 0, none⟩) n1 n1) := cell_o b_ x11_14 (by dsimp only; omega)
    have gb0_15 : w15.cell? ⟨w9.heap.size, 0, none⟩ = some (.int .i64 rz) := cell_o b_ gb0_14 (by dsimp only; omega)
    have gb1_15 : w15.cell? ⟨w9.heap.size, 1, none⟩ = some (.slice Ga rn Gc) := cell_o b_ gb1_14 (by dsimp only; omega)
    have HR_15 := Lib.hid (HR_14.out.kept (kept_only b_ (by omega) (by omega)))
    have HX1_15 := Lib.hid (HX1_14.out.kept (kept_only b_ (by omega) (by omega)))
    have HG_15 := Lib.hid (HG_14.out.kept (kept_only b_ (by omega) (by omega)))
    have B15 : Hid (Below w.heap.size w w15) := below_only B14.out b_ (by omega) (by omega)
    clear a00_14 a01_14 a10_14 a11_14 rb0_14 rb1_14 x00_14 x01_14 x10_14 x11_14 gb0_14 gb1_14 HR_14 HX1_14 HG_14 HX0_14 b_
    clear HC_
    have HPre1 : Hid (preLen (fun j => fs1.getD j (0, [])) n1 = n1 + osum fs1) := by have h_ := preLen_fs fs1; rw [hl1.out] at h_; exact h_
    have hfit_ := HFit1.out
    obtain ⟨kx1, hkx, hkx01, hkx11⟩ : ∃ kx : Int, kx = kx0 + (preLen (fun j => fs1.getD j (0, [])) n1 : Int) ∧ 0 ≤ kx ∧ kx ≤ 2097153 := ⟨_, rfl, by omega, by rw [HPre1.out]; omega⟩
    have HKX1 := Lib.hid hkx
    clear hkx hfit_
    have hC_ := markAlg_own _ _ n1 n1 z1 _ X1G X1C (fun j => fs1.getD j (0, [])) (kx0) w15 (by omega) (by rw [← HKX1.out]; omega) HX1_15.out (by omega)
    rw [← HKX1.out] at hC_
    have HC_ := Lib.hid hC_
    clear hC_
    go_wp2_with fail
    refine HC_.out.mono ?_
    rintro e w16 ⟨rfl, o_, b_⟩; clear o_
    have s16 : w15.heap.size ≤ w16.heap.size := b_.size
    have a00_16 : w16.cell? ⟨w.heap.size, 0, none⟩ = some (.int .i64 z0) := cell_o b_ a00_15 (by dsimp only; omega)
    have a01_16 : w16.cell? ⟨w.heap.size, 1, none⟩ = some (.slice a0 n0 c0) := cell_o b_ a01_15 (by dsimp only; omega)
    have a10_16 : w16.cell? ⟨w.heap.size + 1, 0, none⟩ = some (.int .i64 z1) := cell_o b_ a10_15 (by dsimp only; omega)
    have a11_16 : w16.cell? ⟨w.heap.size + 1, 1, none⟩ = some (.slice a1 n1 c1) := cell_o b_ a11_15 (by dsimp only; omega)
    have rb0_16 : w16.cell? ⟨rb, 0, none⟩ = some (.int .i64 rz) := cell_o b_ rb0_15 (by dsimp only; omega)
    have rb1_16 : w16.cell? ⟨rb, 1, none⟩ = some (.slice Ra rn Rc) := cell_o b_ rb1_15 (by dsimp only; omega)
    have x00_16 : w16.cell? ⟨w7.heap.size, 0, none⟩ = some (.int .i64 z0) := cell_o b_ x00_15 (by dsimp only; omega)
    have x01_16 : w16.cell? ⟨w7.heap.size, 1, none⟩ = some (.slice (some ⟨X0g, 0, none⟩) n0 n0) := cell_o b_ x01_15 (by dsimp only; omega)
    have x10_16 : w16.cell? ⟨w8.heap.size, 0, none⟩ = some (.int .i64 z1) := cell_o b_ x10_15 (by dsimp only; omega)
    have x11_16 : w16.cell? ⟨w8.heap.size, 1, none⟩ = some (.slice (some ⟨X1g, 0, none⟩) n1 n1) := cell_o b_ x11_15 (by dsimp only; omega)
    have gb0_16 : w16.cell? ⟨w9.heap.size, 0, none⟩ = some (.int .i64 rz) := cell_o b_ gb0_15 (by dsimp only; omega)
    have gb1_16 : w16.cell? ⟨w9.heap.size, 1, none⟩ = some (.slice Ga rn Gc) := cell_o b_ gb1_15 (by dsimp only; omega)
    have HR_16 := Lib.hid (HR_15.out.kept (kept_only b_ (by omega) (by omega)))
    have HG_16 := Lib.hid (HG_15.out.kept (kept_only b_ (by omega) (by omega)))
    have B16 : Hid (Below w.heap.size w w16) := below_only B15.out b_ (by omega) (by omega)
    clear a00_15 a01_15 a10_15 a11_15 rb0_15 rb1_15 x00_15 x01_15 x10_15 x11_15 gb0_15 gb1_15 HR_15 HG_15 HX1_15 b_
    clear HC_
    have h_ := HG_16.out.view
    rw [HRn.out, map_range_get, ← HRn.out] at h_
    have HGV_ := Lib.hid h_
    clear h_
    have hC_ := eqAlg_view _ _ _ _ rz _ _ Gc Rc rn rs w16 HGV_.out HR_16.out (by unfold maxLen; omega) HRM.out (by omega) (by omega)
    have HC_ := Lib.hid hC_
    clear hC_
    go_wp2_with fail
    refine HC_.out.mono ?_
    rintro e w17 ⟨rfl, b_⟩
    have b17 : Below w16.heap.size w16 w17 := b_
    have s17 : w16.heap.size ≤ w17.heap.size := b17.size
    have a00_17 : w17.cell? ⟨w.heap.size, 0, none⟩ = some (.int .i64 z0) := cell_b b17 a00_16
    have a01_17 : w17.cell? ⟨w.heap.size, 1, none⟩ = some (.slice a0 n0 c0) := cell_b b17 a01_16
    have a10_17 : w17.cell? ⟨w.heap.size + 1, 0, none⟩ = some (.int .i64 z1) := cell_b b17 a10_16
    have a11_17 : w17.cell? ⟨w.heap.size + 1, 1, none⟩ = some (.slice a1 n1 c1) := cell_b b17 a11_16
    have rb0_17 : w17.cell? ⟨rb, 0, none⟩ = some (.int .i64 rz) := cell_b b17 rb0_16
    have rb1_17 : w17.cell? ⟨rb, 1, none⟩ = some (.slice Ra rn Rc) := cell_b b17 rb1_16
    have x00_17 : w17.cell? ⟨w7.heap.size, 0, none⟩ = some (.int .i64 z0) := cell_b b17 x00_16
    have x01_17 : w17.cell? ⟨w7.heap.size, 1, none⟩ = some (.slice (some ⟨X0g, 0, none⟩) n0 n0) := cell_b b17 x01_16
    have x10_17 : w17.cell? ⟨w8.heap.size, 0, none⟩ = some (.int .i64 z1) := cell_b b17 x10_16
    have x11_17 : w17.cell? ⟨w8.heap.size, 1, none⟩ = some (.slice (some ⟨X1g, 0, none⟩) n1 n1) := cell_b b17 x11_16
    have gb0_17 : w17.cell? ⟨w9.heap.size, 0, none⟩ = some (.int .i64 rz) := cell_b b17 gb0_16
    have gb1_17 : w17.cell? ⟨w9.heap.size, 1, none⟩ = some (.slice Ga rn Gc) := cell_b b17 gb1_16
    have HR_17 := Lib.hid (HR_16.out.kept (Kept.of_below b17 (by omega)))
    have HG_17 := Lib.hid (HG_16.out.kept (Kept.of_below b17 (by omega)))
    have B17 : Hid (Below w.heap.size w w17) := below_then B16.out b17
    clear a00_16 a01_16 a10_16 a11_16 rb0_16 rb1_16 x00_16 x01_16 x10_16 x11_16 gb0_16 gb1_16 HR_16 HG_16 b_
    clear HC_
    clear HGV_
    have HPreR : Hid (preLen (fun j => rs.getD j (0, [])) rn = rn + osum rs) := by have h_ := preLen_fs rs; rw [← HRn.out] at h_; exact h_
    have hres_ := HRes.out
    rw [← HRn.out] at hres_
    obtain ⟨kg, hkg, hkg0, hkg1⟩ : ∃ kg : Int, kg = 1 + (preLen (fun j => rs.getD j (0, [])) rn : Int) ∧ 0 ≤ kg ∧ kg ≤ 4194305 := ⟨_, rfl, by omega, by rw [HPreR.out]; omega⟩
    have HKG := Lib.hid hkg
    clear hkg hres_
    have hC_ := markAlg_own _ _ rn Gc rz Ga GG GC (fun j => rs.getD j (0, [])) 1 w17 (by omega) (by rw [← HKG.out]; omega) HG_17.out (by omega)
    rw [← HKG.out] at hC_
    have HC_ := Lib.hid hC_
    clear hC_
    go_wp2_with fail
    refine HC_.out.mono ?_
    rintro e w18 ⟨rfl, o_, b_⟩
    have s18 : w17.heap.size ≤ w18.heap.size := b_.size
    have a00_18 : w18.cell? ⟨w.heap.size, 0, none⟩ = some (.int .i64 z0) := cell_o b_ a00_17 (by dsimp only; omega)
    have a01_18 : w18.cell? ⟨w.heap.size, 1, none⟩ = some (.slice a0 n0 c0) := cell_o b_ a01_17 (by dsimp only; omega)
    have a10_18 : w18.cell? ⟨w.heap.size + 1, 0, none⟩ = some (.int .i64 z1) := cell_o b_ a10_17 (by dsimp only; omega)
    have a11_18 : w18.cell? ⟨w.heap.size + 1, 1, none⟩ = some (.slice a1 n1 c1) := cell_o b_ a11_17 (by dsimp only; omega)
    have rb0_18 : w18.cell? ⟨rb, 0, none⟩ = some (.int .i64 rz) := cell_o b_ rb0_17 (by dsimp only; omega)
    have rb1_18 : w18.cell? ⟨rb, 1, none⟩ = some (.slice Ra rn Rc) := cell_o b_ rb1_17 (by dsimp only; omega)
    have x00_18 : w18.cell? ⟨w7.heap.size, 0, none⟩ = some (.int .i64 z0) := cell_o b_ x00_17 (by dsimp only; omega)
    have x01_18 : w18.cell? ⟨w7.heap.size, 1, none⟩ = some (.slice (some ⟨X0g, 0, none⟩) n0 n0) := cell_o b_ x01_17 (by dsimp only; omega)
    have x10_18 : w18.cell? ⟨w8.heap.size, 0, none⟩ = some (.int .i64 z1) := cell_o b_ x10_17 (by dsimp only; omega)
    have x11_18 : w18.cell? ⟨w8.heap.size, 1, none⟩ = some (.slice (some ⟨X1g, 0, none⟩) n1 n1) := cell_o b_ x11_17 (by dsimp only; omega)
    have gb0_18 : w18.cell? ⟨w9.heap.size, 0, none⟩ = some (.int .i64 rz) := cell_o b_ gb0_17 (by dsimp only; omega)
    have gb1_18 : w18.cell? ⟨w9.heap.size, 1, none⟩ = some (.slice Ga rn Gc) := cell_o b_ gb1_17 (by dsimp only; omega)
    have HR_18 := Lib.hid (HR_17.out.kept (kept_only b_ (by omega) (by omega)))
    have B18 : Hid (Below w.heap.size w w18) := below_only B17.out b_ (by omega) (by omega)
    clear a00_17 a01_17 a10_17 a11_17 rb0_17 rb1_17 x00_17 x01_17 x10_17 x11_17 gb0_17 gb1_17 HR_17 HG_17 b_
    clear HC_
    have HG_18 := Lib.hid o_.view
    clear o_
    have hC_ := heldAlg_view _ _ rn Gc rz Ga (fun j => rs.getD j (0, [])) 1 w18 (by omega) (by rw [← HKG.out]; omega) HG_18.out (by omega)
    rw [← HKG.out] at hC_
    have HC_ := Lib.hid hC_
    clear hC_
    go_wp2_with fail
    refine HC_.out.mono ?_
    rintro e w19 ⟨rfl, b_⟩
    have b19 : Below w18.heap.size w18 w19 := b_
    have s19 : w18.heap.size ≤ w19.heap.size := b19.size
    have a00_19 : w19.cell? ⟨w.heap.size, 0, none⟩ = some (.int .i64 z0) := cell_b b19 a00_18
    have a01_19 : w19.cell? ⟨w.heap.size, 1, none⟩ = some (.slice a0 n0 c0) := cell_b b19 a01_18
    have a10_19 : w19.cell? ⟨w.heap.size + 1, 0, none⟩ = some (.int .i64 z1) := cell_b b19 a10_18
    have a11_19 : w19.cell? ⟨w.heap.size + 1, 1, none⟩ = some (.slice a1 n1 c1) := cell_b b19 a11_18
    have rb0_19 : w19.cell? ⟨rb, 0, none⟩ = some (.int .i64 rz) := cell_b b19 rb0_18
    have rb1_19 : w19.cell? ⟨rb, 1, none⟩ = some (.slice Ra rn Rc) := cell_b b19 rb1_18
    have x00_19 : w19.cell? ⟨w7.heap.size, 0, none⟩ = some (.int .i64 z0) := cell_b b19 x00_18
    have x01_19 : w19.cell? ⟨w7.heap.size, 1, none⟩ = some (.slice (some ⟨X0g, 0, none⟩) n0 n0) := cell_b b19 x01_18
    have x10_19 : w19.cell? ⟨w8.heap.size, 0, none⟩ = some (.int .i64 z1) := cell_b b19 x10_18
    have x11_19 : w19.cell? ⟨w8.heap.size, 1, none⟩ = some (.slice (some ⟨X1g, 0, none⟩) n1 n1) := cell_b b19 x11_18
    have gb0_19 : w19.cell? ⟨w9.heap.size, 0, none⟩ = some (.int .i64 rz) := cell_b b19 gb0_18
    have gb1_19 : w19.cell? ⟨w9.heap.size, 1, none⟩ = some (.slice Ga rn Gc) := cell_b b19 gb1_18
    have HR_19 := Lib.hid (HR_18.out.kept (Kept.of_below b19 (by omega)))
    have HG_19 := Lib.hid (HG_18.out.kept (Kept.of_below b19 (by omega)))
    have B19 : Hid (Below w.heap.size w w19) := below_then B18.out b19
    clear a00_18 a01_18 a10_18 a11_18 rb0_18 rb1_18 x00_18 x01_18 x10_18 x11_18 gb0_18 gb1_18 HR_18 HG_18 b_
    clear HC_
    go_wp2_with fail
    refine wp_region_noPanic ?_
    refine wp_region_held_drew (S := fun W => W.cell? ⟨w.heap.size, 0, none⟩ = some (.int .i64 z0) ∧ W.cell? ⟨w.heap.size, 1, none⟩ = some (.slice a0 n0 c0) ∧ W.cell? ⟨w.heap.size + 1, 0, none⟩ = some (.int .i64 z1) ∧ W.cell? ⟨w.heap.size + 1, 1, none⟩ = some (.slice a1 n1 c1) ∧ W.cell? ⟨rb, 0, none⟩ = some (.int .i64 rz) ∧ W.cell? ⟨rb, 1, none⟩ = some (.slice Ra rn Rc) ∧ W.cell? ⟨w7.heap.size, 0, none⟩ = some (.int .i64 z0) ∧ W.cell? ⟨w7.heap.size, 1, none⟩ = some (.slice (some ⟨X0g, 0, none⟩) n0 n0) ∧ W.cell? ⟨w8.heap.size, 0, none⟩ = some (.int .i64 z1) ∧ W.cell? ⟨w8.heap.size, 1, none⟩ = some (.slice (some ⟨X1g, 0, none⟩) n1 n1) ∧ W.cell? ⟨w9.heap.size, 0, none⟩ = some (.int .i64 rz) ∧ W.cell? ⟨w9.heap.size, 1, none⟩ = some (.slice Ga rn Gc)) (by kernel_rfl) ?_ (fun hHeld => ?_)
    · exact ⟨a00_19, a01_19, a10_19, a11_19, rb0_19, rb1_19, x00_19, x01_19, x10_19, x11_19, gb0_19, gb1_19⟩
    refine wpAnyH_take (i := 0) (oi := ⟨_, _, _, _, _, _⟩) (v := ?_) rfl (by kernel_rfl) (by kernel_rfl) (by kernel_rfl) (fun _ _ _ h => h) (Or.inl ⟨rfl, ?_⟩) (by assumption) ?_
    rotate_left 1
    · intro w_ hSw; (try dsimp only at hSw); go_simp; (try with_reducible rfl)
    (try simp only [Act.put, List.setIfInBounds_toArray, List.set_cons_zero, List.set_cons_succ])
    refine wpAnyH_take (i := 2) (oi := ⟨_, _, _, _, _, _⟩) (v := ?_) rfl (by kernel_rfl) (by kernel_rfl) (by kernel_rfl) (fun _ _ _ h => h) (Or.inl ⟨rfl, ?_⟩) (by assumption) ?_
    rotate_left 1
    · intro w_ hSw; (try dsimp only at hSw); go_simp; (try with_reducible rfl)
    (try simp only [Act.put, List.setIfInBounds_toArray, List.set_cons_zero, List.set_cons_succ])
    refine wpAnyH_ready (rs := [1, 8]) (by kernel_rfl) (by simp) ?_
    refine AllReadyH.cons (o := ⟨_, _, _, _, _, _⟩) rfl (fun K hK => ?_) (AllReadyH.cons (o := ⟨_, _, _, _, _, _⟩) rfl (fun K hK => ?_) AllReadyH.nil)
    go_simp
    go_at_call 17
    have hC_ := toAlg_view w.heap.size z0 a0 c0 n0 fs0 w19.drew (HV0.out.kept (Kept.of_below (below_then B19.out (below_drew w19)) (Nat.le_refl _))) (below_then B19.out (below_drew w19)).size hn3_0 HS80.out
    refine hC_.mono ?_
    clear hC_
    rintro e w20 ⟨T0g, rfl, m_⟩; have b_ := m_.2
    have b20 : Below w19.heap.size w19 w20 := below_then (below_drew w19) b_
    have s20 : w19.heap.size ≤ w20.heap.size := b20.size
    have a00_20 : w20.cell? ⟨w.heap.size, 0, none⟩ = some (.int .i64 z0) := cell_b b20 a00_19
    have a01_20 : w20.cell? ⟨w.heap.size, 1, none⟩ = some (.slice a0 n0 c0) := cell_b b20 a01_19
    have a10_20 : w20.cell? ⟨w.heap.size + 1, 0, none⟩ = some (.int .i64 z1) := cell_b b20 a10_19
    have a11_20 : w20.cell? ⟨w.heap.size + 1, 1, none⟩ = some (.slice a1 n1 c1) := cell_b b20 a11_19
    have rb0_20 : w20.cell? ⟨rb, 0, none⟩ = some (.int .i64 rz) := cell_b b20 rb0_19
    have rb1_20 : w20.cell? ⟨rb, 1, none⟩ = some (.slice Ra rn Rc) := cell_b b20 rb1_19
    have x00_20 : w20.cell? ⟨w7.heap.size, 0, none⟩ = some (.int .i64 z0) := cell_b b20 x00_19
    have x01_20 : w20.cell? ⟨w7.heap.size, 1, none⟩ = some (.slice (some ⟨X0g, 0, none⟩) n0 n0) := cell_b b20 x01_19
    have x10_20 : w20.cell? ⟨w8.heap.size, 0, none⟩ = some (.int .i64 z1) := cell_b b20 x10_19
    have x11_20 : w20.cell? ⟨w8.heap.size, 1, none⟩ = some (.slice (some ⟨X1g, 0, none⟩) n1 n1) := cell_b b20 x11_19
    have gb0_20 : w20.cell? ⟨w9.heap.size, 0, none⟩ = some (.int .i64 rz) := cell_b b20 gb0_19
    have gb1_20 : w20.cell? ⟨w9.heap.size, 1, none⟩ = some (.slice Ga rn Gc) := cell_b b20 gb1_19
    have HR_20 := Lib.hid (HR_19.out.kept (Kept.of_below b20 (by omega)))
    have HG_20 := Lib.hid (HG_19.out.kept (Kept.of_below b20 (by omega)))
    have B20 : Hid (Below w.heap.size w w20) := below_then B19.out b20
    clear a00_19 a01_19 a10_19 a11_19 rb0_19 rb1_19 x00_19 x01_19 x10_19 x11_19 gb0_19 gb1_19 HR_19 HG_19 b_
    have m_ := m_.view hl0.out
    simp only [World.size_alloc, World.size_drew] at m_
    have HT0_20 := Lib.hid m_
    clear m_
    go_wp2_with fail
    refine hK.out _ _ ?_ (fun hHeld => ?_)
    · exact ⟨a00_20, a01_20, a10_20, a11_20, rb0_20, rb1_20, x00_20, x01_20, x10_20, x11_20, gb0_20, gb1_20⟩
    clear hK K
    (try simp only [Act.put, List.setIfInBounds_toArray, List.set_cons_zero, List.set_cons_succ])
    refine wpAnyH_ready (rs := [3, 8]) (by kernel_rfl) (by simp) ?_
    refine AllReadyH.cons (o := ⟨_, _, _, _, _, _⟩) rfl (fun K hK => ?_) (AllReadyH.cons (o := ⟨_, _, _, _, _, _⟩) rfl (fun K hK => ?_) AllReadyH.nil)
    go_simp
    go_at_call 17
    have hC_ := toAlg_view w.heap.size z1 a1 c1 n1 fs1 w20 (HV1.out.kept (Kept.of_below B20.out (Nat.le_refl _))) B20.out.size hn3_1 HS81.out
    refine hC_.mono ?_
    clear hC_
    rintro e w21 ⟨T1g, rfl, m_⟩; have b_ := m_.2
    have b21 : Below w20.heap.size w20 w21 := b_
    have s21 : w20.heap.size ≤ w21.heap.size := b21.size
    have a00_21 : w21.cell? ⟨w.heap.size, 0, none⟩ = some (.int .i64 z0) := cell_b b21 a00_20
    have a01_21 : w21.cell? ⟨w.heap.size, 1, none⟩ = some (.slice a0 n0 c0) := cell_b b21 a01_20
    have a10_21 : w21.cell? ⟨w.heap.size + 1, 0, none⟩ = some (.int .i64 z1) := cell_b b21 a10_20
    have a11_21 : w21.cell? ⟨w.heap.size + 1, 1, none⟩ = some (.slice a1 n1 c1) := cell_b b21 a11_20
    have rb0_21 : w21.cell? ⟨rb, 0, none⟩ = some (.int .i64 rz) := cell_b b21 rb0_20
    have rb1_21 : w21.cell? ⟨rb, 1, none⟩ = some (.slice Ra rn Rc) := cell_b b21 rb1_20
    have x00_21 : w21.cell? ⟨w7.heap.size, 0, none⟩ = some (.int .i64 z0) := cell_b b21 x00_20
    have x01_21 : w21.cell? ⟨w7.heap.size, 1, none⟩ = some (.slice (some ⟨X0g, 0, none⟩) n0 n0) := cell_b b21 x01_20
    have x10_21 : w21.cell? ⟨w8.heap.size, 0, none⟩ = some (.int .i64 z1) := cell_b b21 x10_20
    have x11_21 : w21.cell? ⟨w8.heap.size, 1, none⟩ = some (.slice (some ⟨X1g, 0, none⟩) n1 n1) := cell_b b21 x11_20
    have gb0_21 : w21.cell? ⟨w9.heap.size, 0, none⟩ = some (.int .i64 rz) := cell_b b21 gb0_20
    have gb1_21 : w21.cell? ⟨w9.heap.size, 1, none⟩ = some (.slice Ga rn Gc) := cell_b b21 gb1_20
    have HR_21 := Lib.hid (HR_20.out.kept (Kept.of_below b21 (by omega)))
    have HG_21 := Lib.hid (HG_20.out.kept (Kept.of_below b21 (by omega)))
    have HT0_21 := Lib.hid (HT0_20.out.kept (Kept.of_below b21 (by omega)))
    have B21 : Hid (Below w.heap.size w w21) := below_then B20.out b21
    clear a00_20 a01_20 a10_20 a11_20 rb0_20 rb1_20 x00_20 x01_20 x10_20 x11_20 gb0_20 gb1_20 HR_20 HG_20 HT0_20 b_
    have m_ := m_.view hl1.out
    have HT1_21 := Lib.hid m_
    clear m_
    go_wp2_with fail
    refine hK.out _ _ ?_ (fun hHeld => ?_)
    · exact ⟨a00_21, a01_21, a10_21, a11_21, rb0_21, rb1_21, x00_21, x01_21, x10_21, x11_21, gb0_21, gb1_21⟩
    clear hK K
    (try simp only [Act.put, List.setIfInBounds_toArray, List.set_cons_zero, List.set_cons_succ])
    refine wpAnyH_ready (rs := [4, 8]) (by kernel_rfl) (by simp) ?_
    refine AllReadyH.cons (o := ⟨_, _, _, _, _, _⟩) rfl (fun K hK => ?_) (AllReadyH.cons (o := ⟨_, _, _, _, _, _⟩) rfl (fun K hK => ?_) AllReadyH.nil)
    go_simp
    go_at_call 18
    have hC_ := implProductOf _ _ z0 _ n0 n0 fs0 _ _ z1 _ n1 n1 fs1 w21 HT0_21.out (by omega) HSM0.out HT1_21.out (by omega) HSM1.out
    simp only [HVal.out] at hC_
    refine hC_.mono ?_
    clear hC_
    rintro e w22 ⟨Ua, Un, Uc, UG, UC, rfl, hq_, o_, b_⟩
    have b22 : Below w21.heap.size w21 w22 := b_
    have s22 : w21.heap.size ≤ w22.heap.size := b22.size
    have a00_22 : w22.cell? ⟨w.heap.size, 0, none⟩ = some (.int .i64 z0) := cell_b b22 a00_21
    have a01_22 : w22.cell? ⟨w.heap.size, 1, none⟩ = some (.slice a0 n0 c0) := cell_b b22 a01_21
    have a10_22 : w22.cell? ⟨w.heap.size + 1, 0, none⟩ = some (.int .i64 z1) := cell_b b22 a10_21
    have a11_22 : w22.cell? ⟨w.heap.size + 1, 1, none⟩ = some (.slice a1 n1 c1) := cell_b b22 a11_21
    have rb0_22 : w22.cell? ⟨rb, 0, none⟩ = some (.int .i64 rz) := cell_b b22 rb0_21
    have rb1_22 : w22.cell? ⟨rb, 1, none⟩ = some (.slice Ra rn Rc) := cell_b b22 rb1_21
    have x00_22 : w22.cell? ⟨w7.heap.size, 0, none⟩ = some (.int .i64 z0) := cell_b b22 x00_21
    have x01_22 : w22.cell? ⟨w7.heap.size, 1, none⟩ = some (.slice (some ⟨X0g, 0, none⟩) n0 n0) := cell_b b22 x01_21
    have x10_22 : w22.cell? ⟨w8.heap.size, 0, none⟩ = some (.int .i64 z1) := cell_b b22 x10_21
    have x11_22 : w22.cell? ⟨w8.heap.size, 1, none⟩ = some (.slice (some ⟨X1g, 0, none⟩) n1 n1) := cell_b b22 x11_21
    have gb0_22 : w22.cell? ⟨w9.heap.size, 0, none⟩ = some (.int .i64 rz) := cell_b b22 gb0_21
    have gb1_22 : w22.cell? ⟨w9.heap.size, 1, none⟩ = some (.slice Ga rn Gc) := cell_b b22 gb1_21
    have HR_22 := Lib.hid (HR_21.out.kept (Kept.of_below b22 (by omega)))
    have HG_22 := Lib.hid (HG_21.out.kept (Kept.of_below b22 (by omega)))
    have HT0_22 := Lib.hid (HT0_21.out.kept (Kept.of_below b22 (by omega)))
    have HT1_22 := Lib.hid (HT1_21.out.kept (Kept.of_below b22 (by omega)))
    have B22 : Hid (Below w.heap.size w w22) := below_then B21.out b22
    clear a00_21 a01_21 a10_21 a11_21 rb0_21 rb1_21 x00_21 x01_21 x10_21 x11_21 gb0_21 gb1_21 HR_21 HG_21 HT0_21 HT1_21 b_
    obtain rfl : rn = Un := HRn.out.trans hq_.symm
    have h_ := o_.view
    rw [HRn.out, map_range_get, ← HRn.out] at h_
    have HU_22 := Lib.hid h_
    clear h_
    clear o_ hq_
    go_wp2_with fail
    refine hK.out _ _ ?_ (fun hHeld => ?_)
    · exact ⟨a00_22, a01_22, a10_22, a11_22, rb0_22, rb1_22, x00_22, x01_22, x10_22, x11_22, gb0_22, gb1_22⟩
    clear hK K
    (try simp only [Act.put, List.setIfInBounds_toArray, List.set_cons_zero, List.set_cons_succ])
    refine wpAnyH_take (i := 5) (oi := ⟨_, _, _, _, _, _⟩) (v := ?_) rfl (by kernel_rfl) (by kernel_rfl) (by kernel_rfl) (fun _ _ _ h => h) (Or.inl ⟨rfl, ?_⟩) (by assumption) ?_
    rotate_left 1
    · intro w_ hSw; (try dsimp only at hSw); go_simp; (try with_reducible rfl)
    (try simp only [Act.put, List.setIfInBounds_toArray, List.set_cons_zero, List.set_cons_succ])
    refine wpAnyH_take (i := 6) (oi := ⟨_, _, _, _, _, _⟩) (v := ?_) rfl (by kernel_rfl) (by kernel_rfl) (by kernel_rfl) (fun _ _ _ h => h) (Or.inl ⟨rfl, ?_⟩) (by assumption) ?_
    rotate_left 1
    · intro w_ hSw; (try dsimp only at hSw); go_simp; (try with_reducible rfl)
    (try simp only [Act.put, List.setIfInBounds_toArray, List.set_cons_zero, List.set_cons_succ])
    refine wpAnyH_take (i := 7) (oi := ⟨_, _, _, _, _, _⟩) (v := ?_) rfl (by kernel_rfl) (by kernel_rfl) (by kernel_rfl) (fun _ _ _ h => h) (Or.inl ⟨rfl, ?_⟩) (by assumption) ?_
    rotate_left 1
    · intro w_ hSw; (try dsimp only at hSw); go_simp; (try with_reducible rfl)
    (try simp only [Act.put, List.setIfInBounds_toArray, List.set_cons_zero, List.set_cons_succ])
    refine wpAnyH_ready (rs := [8]) (by kernel_rfl) (by simp) ?_
    refine AllReadyH.cons (o := ⟨_, _, _, _, _, _⟩) rfl (fun K hK => ?_) AllReadyH.nil
    go_simp
    have HRBp : Hid ((w22.alloc (.cells #[.int .i64 0, .slice none 0 0] 28)).heap[w22.heap.size]? = some (.cells #[.int .i64 0, .slice none 0 0] 28 (0, 0))) := heap_alloc_new w22 (.cells #[.int .i64 0, .slice none 0 0] 28)
    have a00_p : ((w22.alloc (.cells #[.int .i64 0, .slice none 0 0] 28))).cell? ⟨w.heap.size, 0, none⟩ = some (.int .i64 z0) := cell_b (below_alloc w22 (.cells #[.int .i64 0, .slice none 0 0] 28)) a00_22
    have a01_p : ((w22.alloc (.cells #[.int .i64 0, .slice none 0 0] 28))).cell? ⟨w.heap.size, 1, none⟩ = some (.slice a0 n0 c0) := cell_b (below_alloc w22 (.cells #[.int .i64 0, .slice none 0 0] 28)) a01_22
    have a10_p : ((w22.alloc (.cells #[.int .i64 0, .slice none 0 0] 28))).cell? ⟨w.heap.size + 1, 0, none⟩ = some (.int .i64 z1) := cell_b (below_alloc w22 (.cells #[.int .i64 0, .slice none 0 0] 28)) a10_22
    have a11_p : ((w22.alloc (.cells #[.int .i64 0, .slice none 0 0] 28))).cell? ⟨w.heap.size + 1, 1, none⟩ = some (.slice a1 n1 c1) := cell_b (below_alloc w22 (.cells #[.int .i64 0, .slice none 0 0] 28)) a11_22
    have rb0_p : ((w22.alloc (.cells #[.int .i64 0, .slice none 0 0] 28))).cell? ⟨rb, 0, none⟩ = some (.int .i64 rz) := cell_b (below_alloc w22 (.cells #[.int .i64 0, .slice none 0 0] 28)) rb0_22
    have rb1_p : ((w22.alloc (.cells #[.int .i64 0, .slice none 0 0] 28))).cell? ⟨rb, 1, none⟩ = some (.slice Ra rn Rc) := cell_b (below_alloc w22 (.cells #[.int .i64 0, .slice none 0 0] 28)) rb1_22
    have x00_p : ((w22.alloc (.cells #[.int .i64 0, .slice none 0 0] 28))).cell? ⟨w7.heap.size, 0, none⟩ = some (.int .i64 z0) := cell_b (below_alloc w22 (.cells #[.int .i64 0, .slice none 0 0] 28)) x00_22
    have x01_p : ((w22.alloc (.cells #[.int .i64 0, .slice none 0 0] 28))).cell? ⟨w7.heap.size, 1, none⟩ = some (.slice (some ⟨X0g, 0, none⟩) n0 n0) := cell_b (below_alloc w22 (.cells #[.int .i64 0, .slice none 0 0] 28)) x01_22
    have x10_p : ((w22.alloc (.cells #[.int .i64 0, .slice none 0 0] 28))).cell? ⟨w8.heap.size, 0, none⟩ = some (.int .i64 z1) := cell_b (below_alloc w22 (.cells #[.int .i64 0, .slice none 0 0] 28)) x10_22
    have x11_p : ((w22.alloc (.cells #[.int .i64 0, .slice none 0 0] 28))).cell? ⟨w8.heap.size, 1, none⟩ = some (.slice (some ⟨X1g, 0, none⟩) n1 n1) := cell_b (below_alloc w22 (.cells #[.int .i64 0, .slice none 0 0] 28)) x11_22
    have gb0_p : ((w22.alloc (.cells #[.int .i64 0, .slice none 0 0] 28))).cell? ⟨w9.heap.size, 0, none⟩ = some (.int .i64 rz) := cell_b (below_alloc w22 (.cells #[.int .i64 0, .slice none 0 0] 28)) gb0_22
    have gb1_p : ((w22.alloc (.cells #[.int .i64 0, .slice none 0 0] 28))).cell? ⟨w9.heap.size, 1, none⟩ = some (.slice Ga rn Gc) := cell_b (below_alloc w22 (.cells #[.int .i64 0, .slice none 0 0] 28)) gb1_22
    refine hK.out _ _ ?_ (fun hHeld => ?_)
    · exact ⟨a00_p, a01_p, a10_p, a11_p, rb0_p, rb1_p, x00_p, x01_p, x10_p, x11_p, gb0_p, gb1_p⟩
    clear hK K
    (try simp only [Act.put, List.setIfInBounds_toArray, List.set_cons_zero, List.set_cons_succ])
    clear a00_p a01_p a10_p a11_p rb0_p rb1_p x00_p x01_p x10_p x11_p gb0_p gb1_p
    refine wpAnyH_ready (rs := [9]) (by kernel_rfl) (by simp) ?_
    refine AllReadyH.cons (o := ⟨_, _, _, _, _, _⟩) rfl (fun K hK => ?_) AllReadyH.nil
    obtain ⟨wN, hwN⟩ : ∃ wN : World, wN = (w22.alloc (.cells #[.int .i64 0, .slice none 0 0] 28)) := ⟨_, rfl⟩
    have bN : Below w22.heap.size w22 wN := by rw [hwN]; exact (below_alloc w22 (.cells #[.int .i64 0, .slice none 0 0] 28))
    have hRB : wN.heap[w22.heap.size]? = some (.cells #[.int .i64 0, .slice none 0 0] 28 (0, 0)) := by rw [hwN]; exact HRBp.out
    try rw [← hwN]
    clear hwN HRBp
    obtain ⟨ub, hrb⟩ : ∃ ub : Nat, ub = w22.heap.size := ⟨_, rfl⟩
    rw [← hrb] at hRB
    rw [← hrb]
    obtain ⟨qb0, qb1, qbf⟩ := box_cells hRB
    have qbf0 := qbf 0
    have qbf1 := qbf 1
    have HRBn := Lib.hid hRB
    have HRBe := Lib.hid hrb
    have hrbl := (Array.getElem?_eq_some_iff.1 hRB).1
    have hrb2 : w19.heap.size ≤ ub := by omega
    clear hRB hrb qbf
    go_simp
    obtain ⟨w23, hwF⟩ : ∃ w_ : World, w_ = ((wN.setCell ⟨ub, 0, none⟩ (.int .i64 rz)).setCell ⟨ub, 1, none⟩ (.slice Ua rn Uc)) := ⟨_, rfl⟩
    rw [← hwF]
    have hfar : ∀ q, q ≠ ub → q < w22.heap.size → w23.heap[q]? = w22.heap[q]? := fun q h1 h2 => by rw [hwF, Below.heap_setCell _ _ _ _ (by show q ≠ ub; exact h1), Below.heap_setCell _ _ _ _ (by show q ≠ ub; exact h1)]; exact bN.block q h2
    have s23 : w22.heap.size ≤ w23.heap.size := by rw [hwF]; have := bN.size; simpa [World.setCell] using this
    have a00_23 : w23.cell? ⟨w.heap.size, 0, none⟩ = some (.int .i64 z0) := (World.cell?_of_block (a := ⟨w.heap.size, 0, none⟩) (hfar _ (by show _ ≠ ub; dsimp only; omega) (by dsimp only; omega))).trans a00_22
    have a01_23 : w23.cell? ⟨w.heap.size, 1, none⟩ = some (.slice a0 n0 c0) := (World.cell?_of_block (a := ⟨w.heap.size, 1, none⟩) (hfar _ (by show _ ≠ ub; dsimp only; omega) (by dsimp only; omega))).trans a01_22
    have a10_23 : w23.cell? ⟨w.heap.size + 1, 0, none⟩ = some (.int .i64 z1) := (World.cell?_of_block (a := ⟨w.heap.size + 1, 0, none⟩) (hfar _ (by show _ ≠ ub; dsimp only; omega) (by dsimp only; omega))).trans a10_22
    have a11_23 : w23.cell? ⟨w.heap.size + 1, 1, none⟩ = some (.slice a1 n1 c1) := (World.cell?_of_block (a := ⟨w.heap.size + 1, 1, none⟩) (hfar _ (by show _ ≠ ub; dsimp only; omega) (by dsimp only; omega))).trans a11_22
    have rb0_23 : w23.cell? ⟨rb, 0, none⟩ = some (.int .i64 rz) := (World.cell?_of_block (a := ⟨rb, 0, none⟩) (hfar _ (by show _ ≠ ub; dsimp only; omega) (by dsimp only; omega))).trans rb0_22
    have rb1_23 : w23.cell? ⟨rb, 1, none⟩ = some (.slice Ra rn Rc) := (World.cell?_of_block (a := ⟨rb, 1, none⟩) (hfar _ (by show _ ≠ ub; dsimp only; omega) (by dsimp only; omega))).trans rb1_22
    have x00_23 : w23.cell? ⟨w7.heap.size, 0, none⟩ = some (.int .i64 z0) := (World.cell?_of_block (a := ⟨w7.heap.size, 0, none⟩) (hfar _ (by show _ ≠ ub; dsimp only; omega) (by dsimp only; omega))).trans x00_22
    have x01_23 : w23.cell? ⟨w7.heap.size, 1, none⟩ = some (.slice (some ⟨X0g, 0, none⟩) n0 n0) := (World.cell?_of_block (a := ⟨w7.heap.size, 1, none⟩) (hfar _ (by show _ ≠ ub; dsimp only; omega) (by dsimp only; omega))).trans x01_22
    have x10_23 : w23.cell? ⟨w8.heap.size, 0, none⟩ = some (.int .i64 z1) := (World.cell?_of_block (a := ⟨w8.heap.size, 0, none⟩) (hfar _ (by show _ ≠ ub; dsimp only; omega) (by dsimp only; omega))).trans x10_22
    have x11_23 : w23.cell? ⟨w8.heap.size, 1, none⟩ = some (.slice (some ⟨X1g, 0, none⟩) n1 n1) := (World.cell?_of_block (a := ⟨w8.heap.size, 1, none⟩) (hfar _ (by show _ ≠ ub; dsimp only; omega) (by dsimp only; omega))).trans x11_22
    have gb0_23 : w23.cell? ⟨w9.heap.size, 0, none⟩ = some (.int .i64 rz) := (World.cell?_of_block (a := ⟨w9.heap.size, 0, none⟩) (hfar _ (by show _ ≠ ub; dsimp only; omega) (by dsimp only; omega))).trans gb0_22
    have gb1_23 : w23.cell? ⟨w9.heap.size, 1, none⟩ = some (.slice Ga rn Gc) := (World.cell?_of_block (a := ⟨w9.heap.size, 1, none⟩) (hfar _ (by show _ ≠ ub; dsimp only; omega) (by dsimp only; omega))).trans gb1_22
    have HbF := Lib.hid (box_set01 (u := .int .i64 rz) (v := .slice Ua rn Uc) HRBn.out)
    rw [← hwF] at HbF
    obtain ⟨ub0_23, ub1_23, _⟩ := box_cells HbF.out
    have zub : ub < w23.heap.size := (Array.getElem?_eq_some_iff.1 HbF.out).1
    have HR_23 := Lib.hid (HR_22.out.kept (fun q h1 h2 => hfar q (by have := HRBe.out; omega) (by omega)))
    have HG_23 := Lib.hid (HG_22.out.kept (fun q h1 h2 => hfar q (by have := HRBe.out; omega) (by omega)))
    have HU_23 := Lib.hid (HU_22.out.kept (fun q h1 h2 => hfar q (by have := HRBe.out; omega) (by omega)))
    have B23 : Hid (Below w.heap.size w w23) := by rw [hwF]; exact ((B22.out.trans (bN.mono B22.out.size)).setCell (by show w.heap.size ≤ ub; omega) _).setCell (by show w.heap.size ≤ ub; omega) _
    have e_sl : w23 = w23 := rfl
    refine hK.out _ _ ?_ (fun hHeld => ?_)
    · exact ⟨a00_23, a01_23, a10_23, a11_23, rb0_23, rb1_23, x00_23, x01_23, x10_23, x11_23, gb0_23, gb1_23⟩
    clear hK K
    (try simp only [Act.put, List.setIfInBounds_toArray, List.set_cons_zero, List.set_cons_succ])
    clear a00_22 a01_22 a10_22 a11_22 rb0_22 rb1_22 x00_22 x01_22 x10_22 x11_22 gb0_22 gb1_22 HR_22 HG_22 HT0_22 HT1_22 HU_22 hwF hfar HbF qb0 qb1 qbf0 qbf1 HRBn HRBe bN e_sl hrbl
    refine wpAnyH_take (i := 10) (oi := ⟨_, _, _, _, _, _⟩) (v := ?_) rfl (by kernel_rfl) (by kernel_rfl) (by kernel_rfl) (fun _ _ _ h => h) (Or.inl ⟨rfl, ?_⟩) (by assumption) ?_
    rotate_left 1
    · intro w_ hSw; (try dsimp only at hSw); go_simp; (try with_reducible rfl)
    (try simp only [Act.put, List.setIfInBounds_toArray, List.set_cons_zero, List.set_cons_succ])
    refine wpAnyH_done (by kernel_rfl) ?_ _
    refine NoPanic.normal ?_
    rotate_left 1
    go_simp
    have HRBp : Hid ((w21.alloc (.cells #[.int .i64 0, .slice none 0 0] 28)).heap[w21.heap.size]? = some (.cells #[.int .i64 0, .slice none 0 0] 28 (0, 0))) := heap_alloc_new w21 (.cells #[.int .i64 0, .slice none 0 0] 28)
    have a00_p : ((w21.alloc (.cells #[.int .i64 0, .slice none 0 0] 28))).cell? ⟨w.heap.size, 0, none⟩ = some (.int .i64 z0) := cell_b (below_alloc w21 (.cells #[.int .i64 0, .slice none 0 0] 28)) a00_21
    have a01_p : ((w21.alloc (.cells #[.int .i64 0, .slice none 0 0] 28))).cell? ⟨w.heap.size, 1, none⟩ = some (.slice a0 n0 c0) := cell_b (below_alloc w21 (.cells #[.int .i64 0, .slice none 0 0] 28)) a01_21
    have a10_p : ((w21.alloc (.cells #[.int .i64 0, .slice none 0 0] 28))).cell? ⟨w.heap.size + 1, 0, none⟩ = some (.int .i64 z1) := cell_b (below_alloc w21 (.cells #[.int .i64 0, .slice none 0 0] 28)) a10_21
    have a11_p : ((w21.alloc (.cells #[.int .i64 0, .slice none 0 0] 28))).cell? ⟨w.heap.size + 1, 1, none⟩ = some (.slice a1 n1 c1) := cell_b (below_alloc w21 (.cells #[.int .i64 0, .slice none 0 0] 28)) a11_21
    have rb0_p : ((w21.alloc (.cells #[.int .i64 0, .slice none 0 0] 28))).cell? ⟨rb, 0, none⟩ = some (.int .i64 rz) := cell_b (below_alloc w21 (.cells #[.int .i64 0, .slice none 0 0] 28)) rb0_21
    have rb1_p : ((w21.alloc (.cells #[.int .i64 0, .slice none 0 0] 28))).cell? ⟨rb, 1, none⟩ = some (.slice Ra rn Rc) := cell_b (below_alloc w21 (.cells #[.int .i64 0, .slice none 0 0] 28)) rb1_21
    have x00_p : ((w21.alloc (.cells #[.int .i64 0, .slice none 0 0] 28))).cell? ⟨w7.heap.size, 0, none⟩ = some (.int .i64 z0) := cell_b (below_alloc w21 (.cells #[.int .i64 0, .slice none 0 0] 28)) x00_21
    have x01_p : ((w21.alloc (.cells #[.int .i64 0, .slice none 0 0] 28))).cell? ⟨w7.heap.size, 1, none⟩ = some (.slice (some ⟨X0g, 0, none⟩) n0 n0) := cell_b (below_alloc w21 (.cells #[.int .i64 0, .slice none 0 0] 28)) x01_21
    have x10_p : ((w21.alloc (.cells #[.int .i64 0, .slice none 0 0] 28))).cell? ⟨w8.heap.size, 0, none⟩ = some (.int .i64 z1) := cell_b (below_alloc w21 (.cells #[.int .i64 0, .slice none 0 0] 28)) x10_21
    have x11_p : ((w21.alloc (.cells #[.int .i64 0, .slice none 0 0] 28))).cell? ⟨w8.heap.size, 1, none⟩ = some (.slice (some ⟨X1g, 0, none⟩) n1 n1) := cell_b (below_alloc w21 (.cells #[.int .i64 0, .slice none 0 0] 28)) x11_21
    have gb0_p : ((w21.alloc (.cells #[.int .i64 0, .slice none 0 0] 28))).cell? ⟨w9.heap.size, 0, none⟩ = some (.int .i64 rz) := cell_b (below_alloc w21 (.cells #[.int .i64 0, .slice none 0 0] 28)) gb0_21
    have gb1_p : ((w21.alloc (.cells #[.int .i64 0, .slice none 0 0] 28))).cell? ⟨w9.heap.size, 1, none⟩ = some (.slice Ga rn Gc) := cell_b (below_alloc w21 (.cells #[.int .i64 0, .slice none 0 0] 28)) gb1_21
    refine hK.out _ _ ?_ (fun hHeld => ?_)
    · exact ⟨a00_p, a01_p, a10_p, a11_p, rb0_p, rb1_p, x00_p, x01_p, x10_p, x11_p, gb0_p, gb1_p⟩
    clear hK K
    (try simp only [Act.put, List.setIfInBounds_toArray, List.set_cons_zero, List.set_cons_succ])
    clear a00_p a01_p a10_p a11_p rb0_p rb1_p x00_p x01_p x10_p x11_p gb0_p gb1_p
    refine wpAnyH_ready (rs := [4]) (by kernel_rfl) (by simp) ?_
    refine AllReadyH.cons (o := ⟨_, _, _, _, _, _⟩) rfl (fun K hK => ?_) AllReadyH.nil
    go_simp
    go_at_call 18
    have hC_ := implProductOf _ _ z0 _ n0 n0 fs0 _ _ z1 _ n1 n1 fs1 (w21.alloc (.cells #[.int .i64 0, .slice none 0 0] 28)) (HT0_21.out.kept (Kept.of_below (below_alloc w21 (.cells #[.int .i64 0, .slice none 0 0] 28)) (by omega))) (Nat.le_trans (by omega) (below_alloc w21 (.cells #[.int .i64 0, .slice none 0 0] 28)).size) HSM0.out (HT1_21.out.kept (Kept.of_below (below_alloc w21 (.cells #[.int .i64 0, .slice none 0 0] 28)) (by omega))) (Nat.le_trans (by omega) (below_alloc w21 (.cells #[.int .i64 0, .slice none 0 0] 28)).size) HSM1.out
    simp only [HVal.out] at hC_
    refine hC_.mono ?_
    clear hC_
    rintro e w22 ⟨Ua, Un, Uc, UG, UC, rfl, hq_, o_, b_⟩
    have b22 : Below w21.heap.size w21 w22 := below_then (below_alloc w21 (.cells #[.int .i64 0, .slice none 0 0] 28)) b_
    have s22 : w21.heap.size ≤ w22.heap.size := b22.size
    have a00_22 : w22.cell? ⟨w.heap.size, 0, none⟩ = some (.int .i64 z0) := cell_b b22 a00_21
    have a01_22 : w22.cell? ⟨w.heap.size, 1, none⟩ = some (.slice a0 n0 c0) := cell_b b22 a01_21
    have a10_22 : w22.cell? ⟨w.heap.size + 1, 0, none⟩ = some (.int .i64 z1) := cell_b b22 a10_21
    have a11_22 : w22.cell? ⟨w.heap.size + 1, 1, none⟩ = some (.slice a1 n1 c1) := cell_b b22 a11_21
    have rb0_22 : w22.cell? ⟨rb, 0, none⟩ = some (.int .i64 rz) := cell_b b22 rb0_21
    have rb1_22 : w22.cell? ⟨rb, 1, none⟩ = some (.slice Ra rn Rc) := cell_b b22 rb1_21
    have x00_22 : w22.cell? ⟨w7.heap.size, 0, none⟩ = some (.int .i64 z0) := cell_b b22 x00_21
    have x01_22 : w22.cell? ⟨w7.heap.size, 1, none⟩ = some (.slice (some ⟨X0g, 0, none⟩) n0 n0) := cell_b b22 x01_21
    have x10_22 : w22.cell? ⟨w8.heap.size, 0, none⟩ = some (.int .i64 z1) := cell_b b22 x10_21
    have x11_22 : w22.cell? ⟨w8.heap.size, 1, none⟩ = some (.slice (some ⟨X1g, 0, none⟩) n1 n1) := cell_b b22 x11_21
    have gb0_22 : w22.cell? ⟨w9.heap.size, 0, none⟩ = some (.int .i64 rz) := cell_b b22 gb0_21
    have gb1_22 : w22.cell? ⟨w9.heap.size, 1, none⟩ = some (.slice Ga rn Gc) := cell_b b22 gb1_21
    have HR_22 := Lib.hid (HR_21.out.kept (Kept.of_below b22 (by omega)))
    have HG_22 := Lib.hid (HG_21.out.kept (Kept.of_below b22 (by omega)))
    have HT0_22 := Lib.hid (HT0_21.out.kept (Kept.of_below b22 (by omega)))
    have HT1_22 := Lib.hid (HT1_21.out.kept (Kept.of_below b22 (by omega)))
    have zqb : w21.heap.size < w22.heap.size := (by have := b_.size; simp at this; omega)
    have HRB_22 := Lib.hid ((b_.block _ (by simp)).trans HRBp.out)
    clear HRBp
    have B22 : Hid (Below w.heap.size w w22) := below_then B21.out b22
    clear a00_21 a01_21 a10_21 a11_21 rb0_21 rb1_21 x00_21 x01_21 x10_21 x11_21 gb0_21 gb1_21 HR_21 HG_21 HT0_21 HT1_21 b_
    obtain rfl : rn = Un := HRn.out.trans hq_.symm
    simp only [World.size_alloc, World.size_drew] at o_
    have h_ := o_.view
    rw [HRn.out, map_range_get, ← HRn.out] at h_
    have HU_22 := Lib.hid h_
    clear h_
    clear o_ hq_
    go_wp2_with fail
    refine hK.out _ _ ?_ (fun hHeld => ?_)
    · exact ⟨a00_22, a01_22, a10_22, a11_22, rb0_22, rb1_22, x00_22, x01_22, x10_22, x11_22, gb0_22, gb1_22⟩
    clear hK K
    (try simp only [Act.put, List.setIfInBounds_toArray, List.set_cons_zero, List.set_cons_succ])
    refine wpAnyH_take (i := 5) (oi := ⟨_, _, _, _, _, _⟩) (v := ?_) rfl (by kernel_rfl) (by kernel_rfl) (by kernel_rfl) (fun _ _ _ h => h) (Or.inl ⟨rfl, ?_⟩) (by assumption) ?_
    rotate_left 1
    · intro w_ hSw; (try dsimp only at hSw); go_simp; (try with_reducible rfl)
    (try simp only [Act.put, List.setIfInBounds_toArray, List.set_cons_zero, List.set_cons_succ])
    refine wpAnyH_take (i := 6) (oi := ⟨_, _, _, _, _, _⟩) (v := ?_) rfl (by kernel_rfl) (by kernel_rfl) (by kernel_rfl) (fun _ _ _ h => h) (Or.inl ⟨rfl, ?_⟩) (by assumption) ?_
    rotate_left 1
    · intro w_ hSw; (try dsimp only at hSw); go_simp; (try with_reducible rfl)
    (try simp only [Act.put, List.setIfInBounds_toArray, List.set_cons_zero, List.set_cons_succ])
    refine wpAnyH_take (i := 7) (oi := ⟨_, _, _, _, _, _⟩) (v := ?_) rfl (by kernel_rfl) (by kernel_rfl) (by kernel_rfl) (fun _ _ _ h => h) (Or.inl ⟨rfl, ?_⟩) (by assumption) ?_
    rotate_left 1
    · intro w_ hSw; (try dsimp only at hSw); go_simp; (try with_reducible rfl)
    (try simp only [Act.put, List.setIfInBounds_toArray, List.set_cons_zero, List.set_cons_succ])
    refine wpAnyH_ready (rs := [9]) (by kernel_rfl) (by simp) ?_
    refine AllReadyH.cons (o := ⟨_, _, _, _, _, _⟩) rfl (fun K hK => ?_) AllReadyH.nil
    obtain ⟨wN, hwN⟩ : ∃ wN : World, wN = w22 := ⟨_, rfl⟩
    have bN : Below w22.heap.size w22 wN := by rw [hwN]; exact Below.refl _ _
    have hRB : wN.heap[w21.heap.size]? = some (.cells #[.int .i64 0, .slice none 0 0] 28 (0, 0)) := by rw [hwN]; exact HRB_22.out
    rw [← hwN]
    clear hwN HRB_22
    obtain ⟨ub, hrb⟩ : ∃ ub : Nat, ub = w21.heap.size := ⟨_, rfl⟩
    rw [← hrb] at hRB
    rw [← hrb]
    obtain ⟨qb0, qb1, qbf⟩ := box_cells hRB
    have qbf0 := qbf 0
    have qbf1 := qbf 1
    have HRBn := Lib.hid hRB
    have HRBe := Lib.hid hrb
    have hrbl := (Array.getElem?_eq_some_iff.1 hRB).1
    have hrb2 : w19.heap.size ≤ ub := by omega
    clear hRB hrb qbf
    go_simp
    obtain ⟨w23, hwF⟩ : ∃ w_ : World, w_ = ((wN.setCell ⟨ub, 0, none⟩ (.int .i64 rz)).setCell ⟨ub, 1, none⟩ (.slice Ua rn Uc)) := ⟨_, rfl⟩
    rw [← hwF]
    have hfar : ∀ q, q ≠ ub → q < w22.heap.size → w23.heap[q]? = w22.heap[q]? := fun q h1 h2 => by rw [hwF, Below.heap_setCell _ _ _ _ (by show q ≠ ub; exact h1), Below.heap_setCell _ _ _ _ (by show q ≠ ub; exact h1)]; exact bN.block q h2
    have s23 : w22.heap.size ≤ w23.heap.size := by rw [hwF]; have := bN.size; simpa [World.setCell] using this
    have a00_23 : w23.cell? ⟨w.heap.size, 0, none⟩ = some (.int .i64 z0) := (World.cell?_of_block (a := ⟨w.heap.size, 0, none⟩) (hfar _ (by show _ ≠ ub; dsimp only; omega) (by dsimp only; omega))).trans a00_22
    have a01_23 : w23.cell? ⟨w.heap.size, 1, none⟩ = some (.slice a0 n0 c0) := (World.cell?_of_block (a := ⟨w.heap.size, 1, none⟩) (hfar _ (by show _ ≠ ub; dsimp only; omega) (by dsimp only; omega))).trans a01_22
    have a10_23 : w23.cell? ⟨w.heap.size + 1, 0, none⟩ = some (.int .i64 z1) := (World.cell?_of_block (a := ⟨w.heap.size + 1, 0, none⟩) (hfar _ (by show _ ≠ ub; dsimp only; omega) (by dsimp only; omega))).trans a10_22
    have a11_23 : w23.cell? ⟨w.heap.size + 1, 1, none⟩ = some (.slice a1 n1 c1) := (World.cell?_of_block (a := ⟨w.heap.size + 1, 1, none⟩) (hfar _ (by show _ ≠ ub; dsimp only; omega) (by dsimp only; omega))).trans a11_22
    have rb0_23 : w23.cell? ⟨rb, 0, none⟩ = some (.int .i64 rz) := (World.cell?_of_block (a := ⟨rb, 0, none⟩) (hfar _ (by show _ ≠ ub; dsimp only; omega) (by dsimp only; omega))).trans rb0_22
    have rb1_23 : w23.cell? ⟨rb, 1, none⟩ = some (.slice Ra rn Rc) := (World.cell?_of_block (a := ⟨rb, 1, none⟩) (hfar _ (by show _ ≠ ub; dsimp only; omega) (by dsimp only; omega))).trans rb1_22
    have x00_23 : w23.cell? ⟨w7.heap.size, 0, none⟩ = some (.int .i64 z0) := (World.cell?_of_block (a := ⟨w7.heap.size, 0, none⟩) (hfar _ (by show _ ≠ ub; dsimp only; omega) (by dsimp only; omega))).trans x00_22
    have x01_23 : w23.cell? ⟨w7.heap.size, 1, none⟩ = some (.slice (some ⟨X0g, 0, none⟩) n0 n0) := (World.cell?_of_block (a := ⟨w7.heap.size, 1, none⟩) (hfar _ (by show _ ≠ ub; dsimp only; omega) (by dsimp only; omega))).trans x01_22
    have x10_23 : w23.cell? ⟨w8.heap.size, 0, none⟩ = some (.int .i64 z1) := (World.cell?_of_block (a := ⟨w8.heap.size, 0, none⟩) (hfar _ (by show _ ≠ ub; dsimp only; omega) (by dsimp only; omega))).trans x10_22
    have x11_23 : w23.cell? ⟨w8.heap.size, 1, none⟩ = some (.slice (some ⟨X1g, 0, none⟩) n1 n1) := (World.cell?_of_block (a := ⟨w8.heap.size, 1, none⟩) (hfar _ (by show _ ≠ ub; dsimp only; omega) (by dsimp only; omega))).trans x11_22
    have gb0_23 : w23.cell? ⟨w9.heap.size, 0, none⟩ = some (.int .i64 rz) := (World.cell?_of_block (a := ⟨w9.heap.size, 0, none⟩) (hfar _ (by show _ ≠ ub; dsimp only; omega) (by dsimp only; omega))).trans gb0_22
    have gb1_23 : w23.cell? ⟨w9.heap.size, 1, none⟩ = some (.slice Ga rn Gc) := (World.cell?_of_block (a := ⟨w9.heap.size, 1, none⟩) (hfar _ (by show _ ≠ ub; dsimp only; omega) (by dsimp only; omega))).trans gb1_22
    have HbF := Lib.hid (box_set01 (u := .int .i64 rz) (v := .slice Ua rn Uc) HRBn.out)
    rw [← hwF] at HbF
    obtain ⟨ub0_23, ub1_23, _⟩ := box_cells HbF.out
    have zub : ub < w23.heap.size := (Array.getElem?_eq_some_iff.1 HbF.out).1
    have HR_23 := Lib.hid (HR_22.out.kept (fun q h1 h2 => hfar q (by have := HRBe.out; omega) (by omega)))
    have HG_23 := Lib.hid (HG_22.out.kept (fun q h1 h2 => hfar q (by have := HRBe.out; omega) (by omega)))
    have HU_23 := Lib.hid (HU_22.out.kept (fun q h1 h2 => hfar q (by have := HRBe.out; omega) (by omega)))
    have B23 : Hid (Below w.heap.size w w23) := by rw [hwF]; exact ((B22.out.trans (bN.mono B22.out.size)).setCell (by show w.heap.size ≤ ub; omega) _).setCell (by show w.heap.size ≤ ub; omega) _
    have e_sl : w23 = w23 := rfl
    refine hK.out _ _ ?_ (fun hHeld => ?_)
    · exact ⟨a00_23, a01_23, a10_23, a11_23, rb0_23, rb1_23, x00_23, x01_23, x10_23, x11_23, gb0_23, gb1_23⟩
    clear hK K
    (try simp only [Act.put, List.setIfInBounds_toArray, List.set_cons_zero, List.set_cons_succ])
    clear a00_22 a01_22 a10_22 a11_22 rb0_22 rb1_22 x00_22 x01_22 x10_22 x11_22 gb0_22 gb1_22 HR_22 HG_22 HT0_22 HT1_22 HU_22 hwF hfar HbF qb0 qb1 qbf0 qbf1 HRBn HRBe bN e_sl hrbl
    refine wpAnyH_take (i := 10) (oi := ⟨_, _, _, _, _, _⟩) (v := ?_) rfl (by kernel_rfl) (by kernel_rfl) (by kernel_rfl) (fun _ _ _ h => h) (Or.inl ⟨rfl, ?_⟩) (by assumption) ?_
    rotate_left 1
    · intro w_ hSw; (try dsimp only at hSw); go_simp; (try with_reducible rfl)
    (try simp only [Act.put, List.setIfInBounds_toArray, List.set_cons_zero, List.set_cons_succ])
    refine wpAnyH_done (by kernel_rfl) ?_ _
    refine NoPanic.normal ?_
    rotate_left 1
    go_simp
    have HRBp : Hid ((w20.alloc (.cells #[.int .i64 0, .slice none 0 0] 28)).heap[w20.heap.size]? = some (.cells #[.int .i64 0, .slice none 0 0] 28 (0, 0))) := heap_alloc_new w20 (.cells #[.int .i64 0, .slice none 0 0] 28)
    have a00_p : ((w20.alloc (.cells #[.int .i64 0, .slice none 0 0] 28))).cell? ⟨w.heap.size, 0, none⟩ = some (.int .i64 z0) := cell_b (below_alloc w20 (.cells #[.int .i64 0, .slice none 0 0] 28)) a00_20
    have a01_p : ((w20.alloc (.cells #[.int .i64 0, .slice none 0 0] 28))).cell? ⟨w.heap.size, 1, none⟩ = some (.slice a0 n0 c0) := cell_b (below_alloc w20 (.cells #[.int .i64 0, .slice none 0 0] 28)) a01_20
    have a10_p : ((w20.alloc (.cells #[.int .i64 0, .slice none 0 0] 28))).cell? ⟨w.heap.size + 1, 0, none⟩ = some (.int .i64 z1) := cell_b (below_alloc w20 (.cells #[.int .i64 0, .slice none 0 0] 28)) a10_20
    have a11_p : ((w20.alloc (.cells #[.int .i64 0, .slice none 0 0] 28))).cell? ⟨w.heap.size + 1, 1, none⟩ = some (.slice a1 n1 c1) := cell_b (below_alloc w20 (.cells #[.int .i64 0, .slice none 0 0] 28)) a11_20
    have rb0_p : ((w20.alloc (.cells #[.int .i64 0, .slice none 0 0] 28))).cell? ⟨rb, 0, none⟩ = some (.int .i64 rz) := cell_b (below_alloc w20 (.cells #[.int .i64 0, .slice none 0 0] 28)) rb0_20
    have rb1_p : ((w20.alloc (.cells #[.int .i64 0, .slice none 0 0] 28))).cell? ⟨rb, 1, none⟩ = some (.slice Ra rn Rc) := cell_b (below_alloc w20 (.cells #[.int .i64 0, .slice none 0 0] 28)) rb1_20
    have x00_p : ((w20.alloc (.cells #[.int .i64 0, .slice none 0 0] 28))).cell? ⟨w7.heap.size, 0, none⟩ = some (.int .i64 z0) := cell_b (below_alloc w20 (.cells #[.int .i64 0, .slice none 0 0] 28)) x00_20
    have x01_p : ((w20.alloc (.cells #[.int .i64 0, .slice none 0 0] 28))).cell? ⟨w7.heap.size, 1, none⟩ = some (.slice (some ⟨X0g, 0, none⟩) n0 n0) := cell_b (below_alloc w20 (.cells #[.int .i64 0, .slice none 0 0] 28)) x01_20
    have x10_p : ((w20.alloc (.cells #[.int .i64 0, .slice none 0 0] 28))).cell? ⟨w8.heap.size, 0, none⟩ = some (.int .i64 z1) := cell_b (below_alloc w20 (.cells #[.int .i64 0, .slice none 0 0] 28)) x10_20
    have x11_p : ((w20.alloc (.cells #[.int .i64 0, .slice none 0 0] 28))).cell? ⟨w8.heap.size, 1, none⟩ = some (.slice (some ⟨X1g, 0, none⟩) n1 n1) := cell_b (below_alloc w20 (.cells #[.int .i64 0, .slice none 0 0] 28)) x11_20
    have gb0_p : ((w20.alloc (.cells #[.int .i64 0, .slice none 0 0] 28))).cell? ⟨w9.heap.size, 0, none⟩ = some (.int .i64 rz) := cell_b (below_alloc w20 (.cells #[.int .i64 0, .slice none 0 0] 28)) gb0_20
    have gb1_p : ((w20.alloc (.cells #[.int .i64 0, .slice none 0 0] 28))).cell? ⟨w9.heap.size, 1, none⟩ = some (.slice Ga rn Gc) := cell_b (below_alloc w20 (.cells #[.int .i64 0, .slice none 0 0] 28)) gb1_20
    refine hK.out _ _ ?_ (fun hHeld => ?_)
    · exact ⟨a00_p, a01_p, a10_p, a11_p, rb0_p, rb1_p, x00_p, x01_p, x10_p, x11_p, gb0_p, gb1_p⟩
    clear hK K
    (try simp only [Act.put, List.setIfInBounds_toArray, List.set_cons_zero, List.set_cons_succ])
    clear a00_p a01_p a10_p a11_p rb0_p rb1_p x00_p x01_p x10_p x11_p gb0_p gb1_p
    refine wpAnyH_ready (rs := [3]) (by kernel_rfl) (by simp) ?_
    refine AllReadyH.cons (o := ⟨_, _, _, _, _, _⟩) rfl (fun K hK => ?_) AllReadyH.nil
    go_simp
    have a00_p : ((w20.alloc (.cells #[.int .i64 0, .slice none 0 0] 28))).cell? ⟨w.heap.size, 0, none⟩ = some (.int .i64 z0) := cell_b (below_alloc w20 (.cells #[.int .i64 0, .slice none 0 0] 28)) a00_20
    have a01_p : ((w20.alloc (.cells #[.int .i64 0, .slice none 0 0] 28))).cell? ⟨w.heap.size, 1, none⟩ = some (.slice a0 n0 c0) := cell_b (below_alloc w20 (.cells #[.int .i64 0, .slice none 0 0] 28)) a01_20
    have a10_p : ((w20.alloc (.cells #[.int .i64 0, .slice none 0 0] 28))).cell? ⟨w.heap.size + 1, 0, none⟩ = some (.int .i64 z1) := cell_b (below_alloc w20 (.cells #[.int .i64 0, .slice none 0 0] 28)) a10_20
    have a11_p : ((w20.alloc (.cells #[.int .i64 0, .slice none 0 0] 28))).cell? ⟨w.heap.size + 1, 1, none⟩ = some (.slice a1 n1 c1) := cell_b (below_alloc w20 (.cells #[.int .i64 0, .slice none 0 0] 28)) a11_20
    have rb0_p : ((w20.alloc (.cells #[.int .i64 0, .slice none 0 0] 28))).cell? ⟨rb, 0, none⟩ = some (.int .i64 rz) := cell_b (below_alloc w20 (.cells #[.int .i64 0, .slice none 0 0] 28)) rb0_20
    have rb1_p : ((w20.alloc (.cells #[.int .i64 0, .slice none 0 0] 28))).cell? ⟨rb, 1, none⟩ = some (.slice Ra rn Rc) := cell_b (below_alloc w20 (.cells #[.int .i64 0, .slice none 0 0] 28)) rb1_20
    have x00_p : ((w20.alloc (.cells #[.int .i64 0, .slice none 0 0] 28))).cell? ⟨w7.heap.size, 0, none⟩ = some (.int .i64 z0) := cell_b (below_alloc w20 (.cells #[.int .i64 0, .slice none 0 0] 28)) x00_20
    have x01_p : ((w20.alloc (.cells #[.int .i64 0, .slice none 0 0] 28))).cell? ⟨w7.heap.size, 1, none⟩ = some (.slice (some ⟨X0g, 0, none⟩) n0 n0) := cell_b (below_alloc w20 (.cells #[.int .i64 0, .slice none 0 0] 28)) x01_20
    have x10_p : ((w20.alloc (.cells #[.int .i64 0, .slice none 0 0] 28))).cell? ⟨w8.heap.size, 0, none⟩ = some (.int .i64 z1) := cell_b (below_alloc w20 (.cells #[.int .i64 0, .slice none 0 0] 28)) x10_20
    have x11_p : ((w20.alloc (.cells #[.int .i64 0, .slice none 0 0] 28))).cell? ⟨w8.heap.size, 1, none⟩ = some (.slice (some ⟨X1g, 0, none⟩) n1 n1) := cell_b (below_alloc w20 (.cells #[.int .i64 0, .slice none 0 0] 28)) x11_20
    have gb0_p : ((w20.alloc (.cells #[.int .i64 0, .slice none 0 0] 28))).cell? ⟨w9.heap.size, 0, none⟩ = some (.int .i64 rz) := cell_b (below_alloc w20 (.cells #[.int .i64 0, .slice none 0 0] 28)) gb0_20
    have gb1_p : ((w20.alloc (.cells #[.int .i64 0, .slice none 0 0] 28))).cell? ⟨w9.heap.size, 1, none⟩ = some (.slice Ga rn Gc) := cell_b (below_alloc w20 (.cells #[.int .i64 0, .slice none 0 0] 28)) gb1_20
    go_at_call 17
    have hC_ := toAlg_view w.heap.size z1 a1 c1 n1 fs1 (w20.alloc (.cells #[.int .i64 0, .slice none 0 0] 28)) (HV1.out.kept (Kept.of_below (below_then B20.out (below_alloc w20 (.cells #[.int .i64 0, .slice none 0 0] 28))) (Nat.le_refl _))) (below_then B20.out (below_alloc w20 (.cells #[.int .i64 0, .slice none 0 0] 28))).size hn3_1 HS81.out
    refine hC_.mono ?_
    clear hC_
    rintro e w21 ⟨T1g, rfl, m_⟩; have b_ := m_.2
    have b21 : Below w20.heap.size w20 w21 := below_then (below_alloc w20 (.cells #[.int .i64 0, .slice none 0 0] 28)) b_
    have s21 : w20.heap.size ≤ w21.heap.size := b21.size
    have a00_21 : w21.cell? ⟨w.heap.size, 0, none⟩ = some (.int .i64 z0) := cell_b b21 a00_20
    have a01_21 : w21.cell? ⟨w.heap.size, 1, none⟩ = some (.slice a0 n0 c0) := cell_b b21 a01_20
    have a10_21 : w21.cell? ⟨w.heap.size + 1, 0, none⟩ = some (.int .i64 z1) := cell_b b21 a10_20
    have a11_21 : w21.cell? ⟨w.heap.size + 1, 1, none⟩ = some (.slice a1 n1 c1) := cell_b b21 a11_20
    have rb0_21 : w21.cell? ⟨rb, 0, none⟩ = some (.int .i64 rz) := cell_b b21 rb0_20
    have rb1_21 : w21.cell? ⟨rb, 1, none⟩ = some (.slice Ra rn Rc) := cell_b b21 rb1_20
    have x00_21 : w21.cell? ⟨w7.heap.size, 0, none⟩ = some (.int .i64 z0) := cell_b b21 x00_20
    have x01_21 : w21.cell? ⟨w7.heap.size, 1, none⟩ = some (.slice (some ⟨X0g, 0, none⟩) n0 n0) := cell_b b21 x01_20
    have x10_21 : w21.cell? ⟨w8.heap.size, 0, none⟩ = some (.int .i64 z1) := cell_b b21 x10_20
    have x11_21 : w21.cell? ⟨w8.heap.size, 1, none⟩ = some (.slice (some ⟨X1g, 0, none⟩) n1 n1) := cell_b b21 x11_20
    have gb0_21 : w21.cell? ⟨w9.heap.size, 0, none⟩ = some (.int .i64 rz) := cell_b b21 gb0_20
    have gb1_21 : w21.cell? ⟨w9.heap.size, 1, none⟩ = some (.slice Ga rn Gc) := cell_b b21 gb1_20
    have HR_21 := Lib.hid (HR_20.out.kept (Kept.of_below b21 (by omega)))
    have HG_21 := Lib.hid (HG_20.out.kept (Kept.of_below b21 (by omega)))
    have HT0_21 := Lib.hid (HT0_20.out.kept (Kept.of_below b21 (by omega)))
    have zqb : w20.heap.size < w21.heap.size := (by have := b_.size; simp at this; omega)
    have HRB_21 := Lib.hid ((b_.block _ (by simp)).trans HRBp.out)
    clear HRBp
    have B21 : Hid (Below w.heap.size w w21) := below_then B20.out b21
    clear a00_20 a01_20 a10_20 a11_20 rb0_20 rb1_20 x00_20 x01_20 x10_20 x11_20 gb0_20 gb1_20 HR_20 HG_20 HT0_20 b_
    clear a00_p a01_p a10_p a11_p rb0_p rb1_p x00_p x01_p x10_p x11_p gb0_p gb1_p
    have m_ := m_.view hl1.out
    simp only [World.size_alloc, World.size_drew] at m_
    have HT1_21 := Lib.hid m_
    clear m_
    go_wp2_with fail
    refine hK.out _ _ ?_ (fun hHeld => ?_)
    · exact ⟨a00_21, a01_21, a10_21, a11_21, rb0_21, rb1_21, x00_21, x01_21, x10_21, x11_21, gb0_21, gb1_21⟩
    clear hK K
    (try simp only [Act.put, List.setIfInBounds_toArray, List.set_cons_zero, List.set_cons_succ])
    refine wpAnyH_ready (rs := [4]) (by kernel_rfl) (by simp) ?_
    refine AllReadyH.cons (o := ⟨_, _, _, _, _, _⟩) rfl (fun K hK => ?_) AllReadyH.nil
    go_simp
    go_at_call 18
    have hC_ := implProductOf _ _ z0 _ n0 n0 fs0 _ _ z1 _ n1 n1 fs1 w21 HT0_21.out (by omega) HSM0.out HT1_21.out (by omega) HSM1.out
    simp only [HVal.out] at hC_
    refine hC_.mono ?_
    clear hC_
    rintro e w22 ⟨Ua, Un, Uc, UG, UC, rfl, hq_, o_, b_⟩
    have b22 : Below w21.heap.size w21 w22 := b_
    have s22 : w21.heap.size ≤ w22.heap.size := b22.size
    have a00_22 : w22.cell? ⟨w.heap.size, 0, none⟩ = some (.int .i64 z0) := cell_b b22 a00_21
    have a01_22 : w22.cell? ⟨w.heap.size, 1, none⟩ = some (.slice a0 n0 c0) := cell_b b22 a01_21
    have a10_22 : w22.cell? ⟨w.heap.size + 1, 0, none⟩ = some (.int .i64 z1) := cell_b b22 a10_21
    have a11_22 : w22.cell? ⟨w.heap.size + 1, 1, none⟩ = some (.slice a1 n1 c1) := cell_b b22 a11_21
    have rb0_22 : w22.cell? ⟨rb, 0, none⟩ = some (.int .i64 rz) := cell_b b22 rb0_21
    have rb1_22 : w22.cell? ⟨rb, 1, none⟩ = some (.slice Ra rn Rc) := cell_b b22 rb1_21
    have x00_22 : w22.cell? ⟨w7.heap.size, 0, none⟩ = some (.int .i64 z0) := cell_b b22 x00_21
    have x01_22 : w22.cell? ⟨w7.heap.size, 1, none⟩ = some (.slice (some ⟨X0g, 0, none⟩) n0 n0) := cell_b b22 x01_21
    have x10_22 : w22.cell? ⟨w8.heap.size, 0, none⟩ = some (.int .i64 z1) := cell_b b22 x10_21
    have x11_22 : w22.cell? ⟨w8.heap.size, 1, none⟩ = some (.slice (some ⟨X1g, 0, none⟩) n1 n1) := cell_b b22 x11_21
    have gb0_22 : w22.cell? ⟨w9.heap.size, 0, none⟩ = some (.int .i64 rz) := cell_b b22 gb0_21
    have gb1_22 : w22.cell? ⟨w9.heap.size, 1, none⟩ = some (.slice Ga rn Gc) := cell_b b22 gb1_21
    have HR_22 := Lib.hid (HR_21.out.kept (Kept.of_below b22 (by omega)))
    have HG_22 := Lib.hid (HG_21.out.kept (Kept.of_below b22 (by omega)))
    have HT0_22 := Lib.hid (HT0_21.out.kept (Kept.of_below b22 (by omega)))
    have HT1_22 := Lib.hid (HT1_21.out.kept (Kept.of_below b22 (by omega)))
    have HRB_22 := Lib.hid ((b22.block _ (Array.getElem?_eq_some_iff.1 HRB_21.out).1).trans HRB_21.out)
    clear HRB_21
    have B22 : Hid (Below w.heap.size w w22) := below_then B21.out b22
    clear a00_21 a01_21 a10_21 a11_21 rb0_21 rb1_21 x00_21 x01_21 x10_21 x11_21 gb0_21 gb1_21 HR_21 HG_21 HT0_21 HT1_21 b_
    obtain rfl : rn = Un := HRn.out.trans hq_.symm
    have h_ := o_.view
    rw [HRn.out, map_range_get, ← HRn.out] at h_
    have HU_22 := Lib.hid h_
    clear h_
    clear o_ hq_
    go_wp2_with fail
    refine hK.out _ _ ?_ (fun hHeld => ?_)
    · exact ⟨a00_22, a01_22, a10_22, a11_22, rb0_22, rb1_22, x00_22, x01_22, x10_22, x11_22, gb0_22, gb1_22⟩
    clear hK K
    (try simp only [Act.put, List.setIfInBounds_toArray, List.set_cons_zero, List.set_cons_succ])
    refine wpAnyH_take (i := 5) (oi := ⟨_, _, _, _, _, _⟩) (v := ?_) rfl (by kernel_rfl) (by kernel_rfl) (by kernel_rfl) (fun _ _ _ h => h) (Or.inl ⟨rfl, ?_⟩) (by assumption) ?_
    rotate_left 1
    · intro w_ hSw; (try dsimp only at hSw); go_simp; (try with_reducible rfl)
    (try simp only [Act.put, List.setIfInBounds_toArray, List.set_cons_zero, List.set_cons_succ])
    refine wpAnyH_take (i := 6) (oi := ⟨_, _, _, _, _, _⟩) (v := ?_) rfl (by kernel_rfl) (by kernel_rfl) (by kernel_rfl) (fun _ _ _ h => h) (Or.inl ⟨rfl, ?_⟩) (by assumption) ?_
    rotate_left 1
    · intro w_ hSw; (try dsimp only at hSw); go_simp; (try with_reducible rfl)
    (try simp only [Act.put, List.setIfInBounds_toArray, List.set_cons_zero, List.set_cons_succ])
    refine wpAnyH_take (i := 7) (oi := ⟨_, _, _, _, _, _⟩) (v := ?_) rfl (by kernel_rfl) (by kernel_rfl) (by kernel_rfl) (fun _ _ _ h => h) (Or.inl ⟨rfl, ?_⟩) (by assumption) ?_
    rotate_left 1
    · intro w_ hSw; (try dsimp only at hSw); go_simp; (try with_reducible rfl)
    (try simp only [Act.put, List.setIfInBounds_toArray, List.set_cons_zero, List.set_cons_succ])
    refine wpAnyH_ready (rs := [9]) (by kernel_rfl) (by simp) ?_
    refine AllReadyH.cons (o := ⟨_, _, _, _, _, _⟩) rfl (fun K hK => ?_) AllReadyH.nil
    obtain ⟨wN, hwN⟩ : ∃ wN : World, wN = w22 := ⟨_, rfl⟩
    have bN : Below w22.heap.size w22 wN := by rw [hwN]; exact Below.refl _ _
    have hRB : wN.heap[w20.heap.size]? = some (.cells #[.int .i64 0, .slice none 0 0] 28 (0, 0)) := by rw [hwN]; exact HRB_22.out
    rw [← hwN]
    clear hwN HRB_22
    obtain ⟨ub, hrb⟩ : ∃ ub : Nat, ub = w20.heap.size := ⟨_, rfl⟩
    rw [← hrb] at hRB
    rw [← hrb]
    obtain ⟨qb0, qb1, qbf⟩ := box_cells hRB
    have qbf0 := qbf 0
    have qbf1 := qbf 1
    have HRBn := Lib.hid hRB
    have HRBe := Lib.hid hrb
    have hrbl := (Array.getElem?_eq_some_iff.1 hRB).1
    have hrb2 : w19.heap.size ≤ ub := by omega
    clear hRB hrb qbf
    go_simp
    obtain ⟨w23, hwF⟩ : ∃ w_ : World, w_ = ((wN.setCell ⟨ub, 0, none⟩ (.int .i64 rz)).setCell ⟨ub, 1, none⟩ (.slice Ua rn Uc)) := ⟨_, rfl⟩
    rw [← hwF]
    have hfar : ∀ q, q ≠ ub → q < w22.heap.size → w23.heap[q]? = w22.heap[q]? := fun q h1 h2 => by rw [hwF, Below.heap_setCell _ _ _ _ (by show q ≠ ub; exact h1), Below.heap_setCell _ _ _ _ (by show q ≠ ub; exact h1)]; exact bN.block q h2
    have s23 : w22.heap.size ≤ w23.heap.size := by rw [hwF]; have := bN.size; simpa [World.setCell] using this
    have a00_23 : w23.cell? ⟨w.heap.size, 0, none⟩ = some (.int .i64 z0) := (World.cell?_of_block (a := ⟨w.heap.size, 0, none⟩) (hfar _ (by show _ ≠ ub; dsimp only; omega) (by dsimp only; omega))).trans a00_22
    have a01_23 : w23.cell? ⟨w.heap.size, 1, none⟩ = some (.slice a0 n0 c0) := (World.cell?_of_block (a := ⟨w.heap.size, 1, none⟩) (hfar _ (by show _ ≠ ub; dsimp only; omega) (by dsimp only; omega))).trans a01_22
    have a10_23 : w23.cell? ⟨w.heap.size + 1, 0, none⟩ = some (.int .i64 z1) := (World.cell?_of_block (a := ⟨w.heap.size + 1, 0, none⟩) (hfar _ (by show _ ≠ ub; dsimp only; omega) (by dsimp only; omega))).trans a10_22
    have a11_23 : w23.cell? ⟨w.heap.size + 1, 1, none⟩ = some (.slice a1 n1 c1) := (World.cell?_of_block (a := ⟨w.heap.size + 1, 1, none⟩) (hfar _ (by show _ ≠ ub; dsimp only; omega) (by dsimp only; omega))).trans a11_22
    have rb0_23 : w23.cell? ⟨rb, 0, none⟩ = some (.int .i64 rz) := (World.cell?_of_block (a := ⟨rb, 0, none⟩) (hfar _ (by show _ ≠ ub; dsimp only; omega) (by dsimp only; omega))).trans rb0_22
    have rb1_23 : w23.cell? ⟨rb, 1, none⟩ = some (.slice Ra rn Rc) := (World.cell?_of_block (a := ⟨rb, 1, none⟩) (hfar _ (by show _ ≠ ub; dsimp only; omega) (by dsimp only; omega))).trans rb1_22
    have x00_23 : w23.cell? ⟨w7.heap.size, 0, none⟩ = some (.int .i64 z0) := (World.cell?_of_block (a := ⟨w7.heap.size, 0, none⟩) (hfar _ (by show _ ≠ ub; dsimp only; omega) (by dsimp only; omega))).trans x00_22
    have x01_23 : w23.cell? ⟨w7.heap.size, 1, none⟩ = some (.slice (some ⟨X0g, 0, none⟩) n0 n0) := (World.cell?_of_block (a := ⟨w7.heap.size, 1, none⟩) (hfar _ (by show _ ≠ ub; dsimp only; omega) (by dsimp only; omega))).trans x01_22
    have x10_23 : w23.cell? ⟨w8.heap.size, 0, none⟩ = some (.int .i64 z1) := (World.cell?_of_block (a := ⟨w8.heap.size, 0, none⟩) (hfar _ (by show _ ≠ ub; dsimp only; omega) (by dsimp only; omega))).trans x10_22
    have x11_23 : w23.cell? ⟨w8.heap.size, 1, none⟩ = some (.slice (some ⟨X1g, 0, none⟩) n1 n1) := (World.cell?_of_block (a := ⟨w8.heap.size, 1, none⟩) (hfar _ (by show _ ≠ ub; dsimp only; omega) (by dsimp only; omega))).trans x11_22
    have gb0_23 : w23.cell? ⟨w9.heap.size, 0, none⟩ = some (.int .i64 rz) := (World.cell?_of_block (a := ⟨w9.heap.size, 0, none⟩) (hfar _ (by show _ ≠ ub; dsimp only; omega) (by dsimp only; omega))).trans gb0_22
    have gb1_23 : w23.cell? ⟨w9.heap.size, 1, none⟩ = some (.slice Ga rn Gc) := (World.cell?_of_block (a := ⟨w9.heap.size, 1, none⟩) (hfar _ (by show _ ≠ ub; dsimp only; omega) (by dsimp only; omega))).trans gb1_22
    have HbF := Lib.hid (box_set01 (u := .int .i64 rz) (v := .slice Ua rn Uc) HRBn.out)
    rw [← hwF] at HbF
    obtain ⟨ub0_23, ub1_23, _⟩ := box_cells HbF.out
    have zub : ub < w23.heap.size := (Array.getElem?_eq_some_iff.1 HbF.out).1
    have HR_23 := Lib.hid (HR_22.out.kept (fun q h1 h2 => hfar q (by have := HRBe.out; omega) (by omega)))
    have HG_23 := Lib.hid (HG_22.out.kept (fun q h1 h2 => hfar q (by have := HRBe.out; omega) (by omega)))
    have HU_23 := Lib.hid (HU_22.out.kept (fun q h1 h2 => hfar q (by have := HRBe.out; omega) (by omega)))
    have B23 : Hid (Below w.heap.size w w23) := by rw [hwF]; exact ((B22.out.trans (bN.mono B22.out.size)).setCell (by show w.heap.size ≤ ub; omega) _).setCell (by show w.heap.size ≤ ub; omega) _
    have e_sl : w23 = w23 := rfl
    refine hK.out _ _ ?_ (fun hHeld => ?_)
    · exact ⟨a00_23, a01_23, a10_23, a11_23, rb0_23, rb1_23, x00_23, x01_23, x10_23, x11_23, gb0_23, gb1_23⟩
    clear hK K
    (try simp only [Act.put, List.setIfInBounds_toArray, List.set_cons_zero, List.set_cons_succ])
    clear a00_22 a01_22 a10_22 a11_22 rb0_22 rb1_22 x00_22 x01_22 x10_22 x11_22 gb0_22 gb1_22 HR_22 HG_22 HT0_22 HT1_22 HU_22 hwF hfar HbF qb0 qb1 qbf0 qbf1 HRBn HRBe bN e_sl hrbl
    refine wpAnyH_take (i := 10) (oi := ⟨_, _, _, _, _, _⟩) (v := ?_) rfl (by kernel_rfl) (by kernel_rfl) (by kernel_rfl) (fun _ _ _ h => h) (Or.inl ⟨rfl, ?_⟩) (by assumption) ?_
    rotate_left 1
    · intro w_ hSw; (try dsimp only at hSw); go_simp; (try with_reducible rfl)
    (try simp only [Act.put, List.setIfInBounds_toArray, List.set_cons_zero, List.set_cons_succ])
    refine wpAnyH_done (by kernel_rfl) ?_ _
    refine NoPanic.normal ?_
    rotate_left 1
    go_simp
    have HRBp : Hid ((w19.drew.alloc (.cells #[.int .i64 0, .slice none 0 0] 28)).heap[w19.heap.size]? = some (.cells #[.int .i64 0, .slice none 0 0] 28 (0, 0))) := heap_alloc_new w19.drew (.cells #[.int .i64 0, .slice none 0 0] 28)
    have a00_p : ((w19.drew.alloc (.cells #[.int .i64 0, .slice none 0 0] 28))).cell? ⟨w.heap.size, 0, none⟩ = some (.int .i64 z0) := cell_b (below_then (below_drew w19) (below_alloc w19.drew (.cells #[.int .i64 0, .slice none 0 0] 28))) a00_19
    have a01_p : ((w19.drew.alloc (.cells #[.int .i64 0, .slice none 0 0] 28))).cell? ⟨w.heap.size, 1, none⟩ = some (.slice a0 n0 c0) := cell_b (below_then (below_drew w19) (below_alloc w19.drew (.cells #[.int .i64 0, .slice none 0 0] 28))) a01_19
    have a10_p : ((w19.drew.alloc (.cells #[.int .i64 0, .slice none 0 0] 28))).cell? ⟨w.heap.size + 1, 0, none⟩ = some (.int .i64 z1) := cell_b (below_then (below_drew w19) (below_alloc w19.drew (.cells #[.int .i64 0, .slice none 0 0] 28))) a10_19
    have a11_p : ((w19.drew.alloc (.cells #[.int .i64 0, .slice none 0 0] 28))).cell? ⟨w.heap.size + 1, 1, none⟩ = some (.slice a1 n1 c1) := cell_b (below_then (below_drew w19) (below_alloc w19.drew (.cells #[.int .i64 0, .slice none 0 0] 28))) a11_19
    have rb0_p : ((w19.drew.alloc (.cells #[.int .i64 0, .slice none 0 0] 28))).cell? ⟨rb, 0, none⟩ = some (.int .i64 rz) := cell_b (below_then (below_drew w19) (below_alloc w19.drew (.cells #[.int .i64 0, .slice none 0 0] 28))) rb0_19
    have rb1_p : ((w19.drew.alloc (.cells #[.int .i64 0, .slice none 0 0] 28))).cell? ⟨rb, 1, none⟩ = some (.slice Ra rn Rc) := cell_b (below_then (below_drew w19) (below_alloc w19.drew (.cells #[.int .i64 0, .slice none 0 0] 28))) rb1_19
    have x00_p : ((w19.drew.alloc (.cells #[.int .i64 0, .slice none 0 0] 28))).cell? ⟨w7.heap.size, 0, none⟩ = some (.int .i64 z0) := cell_b (below_then (below_drew w19) (below_alloc w19.drew (.cells #[.int .i64 0, .slice none 0 0] 28))) x00_19
    have x01_p : ((w19.drew.alloc (.cells #[.int .i64 0, .slice none 0 0] 28))).cell? ⟨w7.heap.size, 1, none⟩ = some (.slice (some ⟨X0g, 0, none⟩) n0 n0) := cell_b (below_then (below_drew w19) (below_alloc w19.drew (.cells #[.int .i64 0, .slice none 0 0] 28))) x01_19
    have x10_p : ((w19.drew.alloc (.cells #[.int .i64 0, .slice none 0 0] 28))).cell? ⟨w8.heap.size, 0, none⟩ = some (.int .i64 z1) := cell_b (below_then (below_drew w19) (below_alloc w19.drew (.cells #[.int .i64 0, .slice none 0 0] 28))) x10_19
    have x11_p : ((w19.drew.alloc (.cells #[.int .i64 0, .slice none 0 0] 28))).cell? ⟨w8.heap.size, 1, none⟩ = some (.slice (some ⟨X1g, 0, none⟩) n1 n1) := cell_b (below_then (below_drew w19) (below_alloc w19.drew (.cells #[.int .i64 0, .slice none 0 0] 28))) x11_19
    have gb0_p : ((w19.drew.alloc (.cells #[.int .i64 0, .slice none 0 0] 28))).cell? ⟨w9.heap.size, 0, none⟩ = some (.int .i64 rz) := cell_b (below_then (below_drew w19) (below_alloc w19.drew (.cells #[.int .i64 0, .slice none 0 0] 28))) gb0_19
    have gb1_p : ((w19.drew.alloc (.cells #[.int .i64 0, .slice none 0 0] 28))).cell? ⟨w9.heap.size, 1, none⟩ = some (.slice Ga rn Gc) := cell_b (below_then (below_drew w19) (below_alloc w19.drew (.cells #[.int .i64 0, .slice none 0 0] 28))) gb1_19
    refine hK.out _ _ ?_ (fun hHeld => ?_)
    · exact ⟨a00_p, a01_p, a10_p, a11_p, rb0_p, rb1_p, x00_p, x01_p, x10_p, x11_p, gb0_p, gb1_p⟩
    clear hK K
    (try simp only [Act.put, List.setIfInBounds_toArray, List.set_cons_zero, List.set_cons_succ])
    clear a00_p a01_p a10_p a11_p rb0_p rb1_p x00_p x01_p x10_p x11_p gb0_p gb1_p
    refine wpAnyH_ready (rs := [1]) (by kernel_rfl) (by simp) ?_
    refine AllReadyH.cons (o := ⟨_, _, _, _, _, _⟩) rfl (fun K hK => ?_) AllReadyH.nil
    go_simp
    have a00_p : ((w19.drew.alloc (.cells #[.int .i64 0, .slice none 0 0] 28))).cell? ⟨w.heap.size, 0, none⟩ = some (.int .i64 z0) := cell_b (below_then (below_drew w19) (below_alloc w19.drew (.cells #[.int .i64 0, .slice none 0 0] 28))) a00_19
    have a01_p : ((w19.drew.alloc (.cells #[.int .i64 0, .slice none 0 0] 28))).cell? ⟨w.heap.size, 1, none⟩ = some (.slice a0 n0 c0) := cell_b (below_then (below_drew w19) (below_alloc w19.drew (.cells #[.int .i64 0, .slice none 0 0] 28))) a01_19
    have a10_p : ((w19.drew.alloc (.cells #[.int .i64 0, .slice none 0 0] 28))).cell? ⟨w.heap.size + 1, 0, none⟩ = some (.int .i64 z1) := cell_b (below_then (below_drew w19) (below_alloc w19.drew (.cells #[.int .i64 0, .slice none 0 0] 28))) a10_19
    have a11_p : ((w19.drew.alloc (.cells #[.int .i64 0, .slice none 0 0] 28))).cell? ⟨w.heap.size + 1, 1, none⟩ = some (.slice a1 n1 c1) := cell_b (below_then (below_drew w19) (below_alloc w19.drew (.cells #[.int .i64 0, .slice none 0 0] 28))) a11_19
    have rb0_p : ((w19.drew.alloc (.cells #[.int .i64 0, .slice none 0 0] 28))).cell? ⟨rb, 0, none⟩ = some (.int .i64 rz) := cell_b (below_then (below_drew w19) (below_alloc w19.drew (.cells #[.int .i64 0, .slice none 0 0] 28))) rb0_19
    have rb1_p : ((w19.drew.alloc (.cells #[.int .i64 0, .slice none 0 0] 28))).cell? ⟨rb, 1, none⟩ = some (.slice Ra rn Rc) := cell_b (below_then (below_drew w19) (below_alloc w19.drew (.cells #[.int .i64 0, .slice none 0 0] 28))) rb1_19
    have x00_p : ((w19.drew.alloc (.cells #[.int .i64 0, .slice none 0 0] 28))).cell? ⟨w7.heap.size, 0, none⟩ = some (.int .i64 z0) := cell_b (below_then (below_drew w19) (below_alloc w19.drew (.cells #[.int .i64 0, .slice none 0 0] 28))) x00_19
    have x01_p : ((w19.drew.alloc (.cells #[.int .i64 0, .slice none 0 0] 28))).cell? ⟨w7.heap.size, 1, none⟩ = some (.slice (some ⟨X0g, 0, none⟩) n0 n0) := cell_b (below_then (below_drew w19) (below_alloc w19.drew (.cells #[.int .i64 0, .slice none 0 0] 28))) x01_19
    have x10_p : ((w19.drew.alloc (.cells #[.int .i64 0, .slice none 0 0] 28))).cell? ⟨w8.heap.size, 0, none⟩ = some (.int .i64 z1) := cell_b (below_then (below_drew w19) (below_alloc w19.drew (.cells #[.int .i64 0, .slice none 0 0] 28))) x10_19
    have x11_p : ((w19.drew.alloc (.cells #[.int .i64 0, .slice none 0 0] 28))).cell? ⟨w8.heap.size, 1, none⟩ = some (.slice (some ⟨X1g, 0, none⟩) n1 n1) := cell_b (below_then (below_drew w19) (below_alloc w19.drew (.cells #[.int .i64 0, .slice none 0 0] 28))) x11_19
    have gb0_p : ((w19.drew.alloc (.cells #[.int .i64 0, .slice none 0 0] 28))).cell? ⟨w9.heap.size, 0, none⟩ = some (.int .i64 rz) := cell_b (below_then (below_drew w19) (below_alloc w19.drew (.cells #[.int .i64 0, .slice none 0 0] 28))) gb0_19
    have gb1_p : ((w19.drew.alloc (.cells #[.int .i64 0, .slice none 0 0] 28))).cell? ⟨w9.heap.size, 1, none⟩ = some (.slice Ga rn Gc) := cell_b (below_then (below_drew w19) (below_alloc w19.drew (.cells #[.int .i64 0, .slice none 0 0] 28))) gb1_19
    go_at_call 17
    have hC_ := toAlg_view w.heap.size z0 a0 c0 n0 fs0 (w19.drew.alloc (.cells #[.int .i64 0, .slice none 0 0] 28)) (HV0.out.kept (Kept.of_below (below_then B19.out (below_then (below_drew w19) (below_alloc w19.drew (.cells #[.int .i64 0, .slice none 0 0] 28)))) (Nat.le_refl _))) (below_then B19.out (below_then (below_drew w19) (below_alloc w19.drew (.cells #[.int .i64 0, .slice none 0 0] 28)))).size hn3_0 HS80.out
    refine hC_.mono ?_
    clear hC_
    rintro e w20 ⟨T0g, rfl, m_⟩; have b_ := m_.2
    have b20 : Below w19.heap.size w19 w20 := below_then (below_then (below_drew w19) (below_alloc w19.drew (.cells #[.int .i64 0, .slice none 0 0] 28))) b_
    have s20 : w19.heap.size ≤ w20.heap.size := b20.size
    have a00_20 : w20.cell? ⟨w.heap.size, 0, none⟩ = some (.int .i64 z0) := cell_b b20 a00_19
    have a01_20 : w20.cell? ⟨w.heap.size, 1, none⟩ = some (.slice a0 n0 c0) := cell_b b20 a01_19
    have a10_20 : w20.cell? ⟨w.heap.size + 1, 0, none⟩ = some (.int .i64 z1) := cell_b b20 a10_19
    have a11_20 : w20.cell? ⟨w.heap.size + 1, 1, none⟩ = some (.slice a1 n1 c1) := cell_b b20 a11_19
    have rb0_20 : w20.cell? ⟨rb, 0, none⟩ = some (.int .i64 rz) := cell_b b20 rb0_19
    have rb1_20 : w20.cell? ⟨rb, 1, none⟩ = some (.slice Ra rn Rc) := cell_b b20 rb1_19
    have x00_20 : w20.cell? ⟨w7.heap.size, 0, none⟩ = some (.int .i64 z0) := cell_b b20 x00_19
    have x01_20 : w20.cell? ⟨w7.heap.size, 1, none⟩ = some (.slice (some ⟨X0g, 0, none⟩) n0 n0) := cell_b b20 x01_19
    have x10_20 : w20.cell? ⟨w8.heap.size, 0, none⟩ = some (.int .i64 z1) := cell_b b20 x10_19
    have x11_20 : w20.cell? ⟨w8.heap.size, 1, none⟩ = some (.slice (some ⟨X1g, 0, none⟩) n1 n1) := cell_b b20 x11_19
    have gb0_20 : w20.cell? ⟨w9.heap.size, 0, none⟩ = some (.int .i64 rz) := cell_b b20 gb0_19
    have gb1_20 : w20.cell? ⟨w9.heap.size, 1, none⟩ = some (.slice Ga rn Gc) := cell_b b20 gb1_19
    have HR_20 := Lib.hid (HR_19.out.kept (Kept.of_below b20 (by omega)))
    have HG_20 := Lib.hid (HG_19.out.kept (Kept.of_below b20 (by omega)))
    have zqb : w19.heap.size < w20.heap.size := (by have := b_.size; simp at this; omega)
    have HRB_20 := Lib.hid ((b_.block _ (by simp)).trans HRBp.out)
    clear HRBp
    have B20 : Hid (Below w.heap.size w w20) := below_then B19.out b20
    clear a00_19 a01_19 a10_19 a11_19 rb0_19 rb1_19 x00_19 x01_19 x10_19 x11_19 gb0_19 gb1_19 HR_19 HG_19 b_
    clear a00_p a01_p a10_p a11_p rb0_p rb1_p x00_p x01_p x10_p x11_p gb0_p gb1_p
    have m_ := m_.view hl0.out
    simp only [World.size_alloc, World.size_drew] at m_
    have HT0_20 := Lib.hid m_
    clear m_
    go_wp2_with fail
    refine hK.out _ _ ?_ (fun hHeld => ?_)
    · exact ⟨a00_20, a01_20, a10_20, a11_20, rb0_20, rb1_20, x00_20, x01_20, x10_20, x11_20, gb0_20, gb1_20⟩
    clear hK K
    (try simp only [Act.put, List.setIfInBounds_toArray, List.set_cons_zero, List.set_cons_succ])
    refine wpAnyH_ready (rs := [3]) (by kernel_rfl) (by simp) ?_
    refine AllReadyH.cons (o := ⟨_, _, _, _, _, _⟩) rfl (fun K hK => ?_) AllReadyH.nil
    go_simp
    go_at_call 17
    have hC_ := toAlg_view w.heap.size z1 a1 c1 n1 fs1 w20 (HV1.out.kept (Kept.of_below B20.out (Nat.le_refl _))) B20.out.size hn3_1 HS81.out
    refine hC_.mono ?_
    clear hC_
    rintro e w21 ⟨T1g, rfl, m_⟩; have b_ := m_.2
    have b21 : Below w20.heap.size w20 w21 := b_
    have s21 : w20.heap.size ≤ w21.heap.size := b21.size
    have a00_21 : w21.cell? ⟨w.heap.size, 0, none⟩ = some (.int .i64 z0) := cell_b b21 a00_20
    have a01_21 : w21.cell? ⟨w.heap.size, 1, none⟩ = some (.slice a0 n0 c0) := cell_b b21 a01_20
    have a10_21 : w21.cell? ⟨w.heap.size + 1, 0, none⟩ = some (.int .i64 z1) := cell_b b21 a10_20
    have a11_21 : w21.cell? ⟨w.heap.size + 1, 1, none⟩ = some (.slice a1 n1 c1) := cell_b b21 a11_20
    have rb0_21 : w21.cell? ⟨rb, 0, none⟩ = some (.int .i64 rz) := cell_b b21 rb0_20
    have rb1_21 : w21.cell? ⟨rb, 1, none⟩ = some (.slice Ra rn Rc) := cell_b b21 rb1_20
    have x00_21 : w21.cell? ⟨w7.heap.size, 0, none⟩ = some (.int .i64 z0) := cell_b b21 x00_20
    have x01_21 : w21.cell? ⟨w7.heap.size, 1, none⟩ = some (.slice (some ⟨X0g, 0, none⟩) n0 n0) := cell_b b21 x01_20
    have x10_21 : w21.cell? ⟨w8.heap.size, 0, none⟩ = some (.int .i64 z1) := cell_b b21 x10_20
    have x11_21 : w21.cell? ⟨w8.heap.size, 1, none⟩ = some (.slice (some ⟨X1g, 0, none⟩) n1 n1) := cell_b b21 x11_20
    have gb0_21 : w21.cell? ⟨w9.heap.size, 0, none⟩ = some (.int .i64 rz) := cell_b b21 gb0_20
    have gb1_21 : w21.cell? ⟨w9.heap.size, 1, none⟩ = some (.slice Ga rn Gc) := cell_b b21 gb1_20
    have HR_21 := Lib.hid (HR_20.out.kept (Kept.of_below b21 (by omega)))
    have HG_21 := Lib.hid (HG_20.out.kept (Kept.of_below b21 (by omega)))
    have HT0_21 := Lib.hid (HT0_20.out.kept (Kept.of_below b21 (by omega)))
    have HRB_21 := Lib.hid ((b21.block _ (Array.getElem?_eq_some_iff.1 HRB_20.out).1).trans HRB_20.out)
    clear HRB_20
    have B21 : Hid (Below w.heap.size w w21) := below_then B20.out b21
    clear a00_20 a01_20 a10_20 a11_20 rb0_20 rb1_20 x00_20 x01_20 x10_20 x11_20 gb0_20 gb1_20 HR_20 HG_20 HT0_20 b_
    have m_ := m_.view hl1.out
    have HT1_21 := Lib.hid m_
    clear m_
    go_wp2_with fail
    refine hK.out _ _ ?_ (fun hHeld => ?_)
    · exact ⟨a00_21, a01_21, a10_21, a11_21, rb0_21, rb1_21, x00_21, x01_21, x10_21, x11_21, gb0_21, gb1_21⟩
    clear hK K
    (try simp only [Act.put, List.setIfInBounds_toArray, List.set_cons_zero, List.set_cons_succ])
    refine wpAnyH_ready (rs := [4]) (by kernel_rfl) (by simp) ?_
    refine AllReadyH.cons (o := ⟨_, _, _, _, _, _⟩) rfl (fun K hK => ?_) AllReadyH.nil
    go_simp
    go_at_call 18
    have hC_ := implProductOf _ _ z0 _ n0 n0 fs0 _ _ z1 _ n1 n1 fs1 w21 HT0_21.out (by omega) HSM0.out HT1_21.out (by omega) HSM1.out
    simp only [HVal.out] at hC_
    refine hC_.mono ?_
    clear hC_
    rintro e w22 ⟨Ua, Un, Uc, UG, UC, rfl, hq_, o_, b_⟩
    have b22 : Below w21.heap.size w21 w22 := b_
    have s22 : w21.heap.size ≤ w22.heap.size := b22.size
    have a00_22 : w22.cell? ⟨w.heap.size, 0, none⟩ = some (.int .i64 z0) := cell_b b22 a00_21
    have a01_22 : w22.cell? ⟨w.heap.size, 1, none⟩ = some (.slice a0 n0 c0) := cell_b b22 a01_21
    have a10_22 : w22.cell? ⟨w.heap.size + 1, 0, none⟩ = some (.int .i64 z1) := cell_b b22 a10_21
    have a11_22 : w22.cell? ⟨w.heap.size + 1, 1, none⟩ = some (.slice a1 n1 c1) := cell_b b22 a11_21
    have rb0_22 : w22.cell? ⟨rb, 0, none⟩ = some (.int .i64 rz) := cell_b b22 rb0_21
    have rb1_22 : w22.cell? ⟨rb, 1, none⟩ = some (.slice Ra rn Rc) := cell_b b22 rb1_21
    have x00_22 : w22.cell? ⟨w7.heap.size, 0, none⟩ = some (.int .i64 z0) := cell_b b22 x00_21
    have x01_22 : w22.cell? ⟨w7.heap.size, 1, none⟩ = some (.slice (some ⟨X0g, 0, none⟩) n0 n0) := cell_b b22 x01_21
    have x10_22 : w22.cell? ⟨w8.heap.size, 0, none⟩ = some (.int .i64 z1) := cell_b b22 x10_21
    have x11_22 : w22.cell? ⟨w8.heap.size, 1, none⟩ = some (.slice (some ⟨X1g, 0, none⟩) n1 n1) := cell_b b22 x11_21
    have gb0_22 : w22.cell? ⟨w9.heap.size, 0, none⟩ = some (.int .i64 rz) := cell_b b22 gb0_21
    have gb1_22 : w22.cell? ⟨w9.heap.size, 1, none⟩ = some (.slice Ga rn Gc) := cell_b b22 gb1_21
    have HR_22 := Lib.hid (HR_21.out.kept (Kept.of_below b22 (by omega)))
    have HG_22 := Lib.hid (HG_21.out.kept (Kept.of_below b22 (by omega)))
    have HT0_22 := Lib.hid (HT0_21.out.kept (Kept.of_below b22 (by omega)))
    have HT1_22 := Lib.hid (HT1_21.out.kept (Kept.of_below b22 (by omega)))
    have HRB_22 := Lib.hid ((b22.block _ (Array.getElem?_eq_some_iff.1 HRB_21.out).1).trans HRB_21.out)
    clear HRB_21
    have B22 : Hid (Below w.heap.size w w22) := below_then B21.out b22
    clear a00_21 a01_21 a10_21 a11_21 rb0_21 rb1_21 x00_21 x01_21 x10_21 x11_21 gb0_21 gb1_21 HR_21 HG_21 HT0_21 HT1_21 b_
    obtain rfl : rn = Un := HRn.out.trans hq_.symm
    have h_ := o_.view
    rw [HRn.out, map_range_get, ← HRn.out] at h_
    have HU_22 := Lib.hid h_
    clear h_
    clear o_ hq_
    go_wp2_with fail
    refine hK.out _ _ ?_ (fun hHeld => ?_)
    · exact ⟨a00_22, a01_22, a10_22, a11_22, rb0_22, rb1_22, x00_22, x01_22, x10_22, x11_22, gb0_22, gb1_22⟩
    clear hK K
    (try simp only [Act.put, List.setIfInBounds_toArray, List.set_cons_zero, List.set_cons_succ])
    refine wpAnyH_take (i := 5) (oi := ⟨_, _, _, _, _, _⟩) (v := ?_) rfl (by kernel_rfl) (by kernel_rfl) (by kernel_rfl) (fun _ _ _ h => h) (Or.inl ⟨rfl, ?_⟩) (by assumption) ?_
    rotate_left 1
    · intro w_ hSw; (try dsimp only at hSw); go_simp; (try with_reducible rfl)
    (try simp only [Act.put, List.setIfInBounds_toArray, List.set_cons_zero, List.set_cons_succ])
    refine wpAnyH_take (i := 6) (oi := ⟨_, _, _, _, _, _⟩) (v := ?_) rfl (by kernel_rfl) (by kernel_rfl) (by kernel_rfl) (fun _ _ _ h => h) (Or.inl ⟨rfl, ?_⟩) (by assumption) ?_
    rotate_left 1
    · intro w_ hSw; (try dsimp only at hSw); go_simp; (try with_reducible rfl)
    (try simp only [Act.put, List.setIfInBounds_toArray, List.set_cons_zero, List.set_cons_succ])
    refine wpAnyH_take (i := 7) (oi := ⟨_, _, _, _, _, _⟩) (v := ?_) rfl (by kernel_rfl) (by kernel_rfl) (by kernel_rfl) (fun _ _ _ h => h) (Or.inl ⟨rfl, ?_⟩) (by assumption) ?_
    rotate_left 1
    · intro w_ hSw; (try dsimp only at hSw); go_simp; (try with_reducible rfl)
    (try simp only [Act.put, List.setIfInBounds_toArray, List.set_cons_zero, List.set_cons_succ])
    refine wpAnyH_ready (rs := [9]) (by kernel_rfl) (by simp) ?_
    refine AllReadyH.cons (o := ⟨_, _, _, _, _, _⟩) rfl (fun K hK => ?_) AllReadyH.nil
    obtain ⟨wN, hwN⟩ : ∃ wN : World, wN = w22 := ⟨_, rfl⟩
    have bN : Below w22.heap.size w22 wN := by rw [hwN]; exact Below.refl _ _
    have hRB : wN.heap[w19.heap.size]? = some (.cells #[.int .i64 0, .slice none 0 0] 28 (0, 0)) := by rw [hwN]; exact HRB_22.out
    rw [← hwN]
    clear hwN HRB_22
    obtain ⟨ub, hrb⟩ : ∃ ub : Nat, ub = w19.heap.size := ⟨_, rfl⟩
    rw [← hrb] at hRB
    rw [← hrb]
    obtain ⟨qb0, qb1, qbf⟩ := box_cells hRB
    have qbf0 := qbf 0
    have qbf1 := qbf 1
    have HRBn := Lib.hid hRB
    have HRBe := Lib.hid hrb
    have hrbl := (Array.getElem?_eq_some_iff.1 hRB).1
    have hrb2 : w19.heap.size ≤ ub := by omega
    clear hRB hrb qbf
    go_simp
    obtain ⟨w23, hwF⟩ : ∃ w_ : World, w_ = ((wN.setCell ⟨ub, 0, none⟩ (.int .i64 rz)).setCell ⟨ub, 1, none⟩ (.slice Ua rn Uc)) := ⟨_, rfl⟩
    rw [← hwF]
    have hfar : ∀ q, q ≠ ub → q < w22.heap.size → w23.heap[q]? = w22.heap[q]? := fun q h1 h2 => by rw [hwF, Below.heap_setCell _ _ _ _ (by show q ≠ ub; exact h1), Below.heap_setCell _ _ _ _ (by show q ≠ ub; exact h1)]; exact bN.block q h2
    have s23 : w22.heap.size ≤ w23.heap.size := by rw [hwF]; have := bN.size; simpa [World.setCell] using this
    have a00_23 : w23.cell? ⟨w.heap.size, 0, none⟩ = some (.int .i64 z0) := (World.cell?_of_block (a := ⟨w.heap.size, 0, none⟩) (hfar _ (by show _ ≠ ub; dsimp only; omega) (by dsimp only; omega))).trans a00_22
    have a01_23 : w23.cell? ⟨w.heap.size, 1, none⟩ = some (.slice a0 n0 c0) := (World.cell?_of_block (a := ⟨w.heap.size, 1, none⟩) (hfar _ (by show _ ≠ ub; dsimp only; omega) (by dsimp only; omega))).trans a01_22
    have a10_23 : w23.cell? ⟨w.heap.size + 1, 0, none⟩ = some (.int .i64 z1) := (World.cell?_of_block (a := ⟨w.heap.size + 1, 0, none⟩) (hfar _ (by show _ ≠ ub; dsimp only; omega) (by dsimp only; omega))).trans a10_22
    have a11_23 : w23.cell? ⟨w.heap.size + 1, 1, none⟩ = some (.slice a1 n1 c1) := (World.cell?_of_block (a := ⟨w.heap.size + 1, 1, none⟩) (hfar _ (by show _ ≠ ub; dsimp only; omega) (by dsimp only; omega))).trans a11_22
    have rb0_23 : w23.cell? ⟨rb, 0, none⟩ = some (.int .i64 rz) := (World.cell?_of_block (a := ⟨rb, 0, none⟩) (hfar _ (by show _ ≠ ub; dsimp only; omega) (by dsimp only; omega))).trans rb0_22
    have rb1_23 : w23.cell? ⟨rb, 1, none⟩ = some (.slice Ra rn Rc) := (World.cell?_of_block (a := ⟨rb, 1, none⟩) (hfar _ (by show _ ≠ ub; dsimp only; omega) (by dsimp only; omega))).trans rb1_22
    have x00_23 : w23.cell? ⟨w7.heap.size, 0, none⟩ = some (.int .i64 z0) := (World.cell?_of_block (a := ⟨w7.heap.size, 0, none⟩) (hfar _ (by show _ ≠ ub; dsimp only; omega) (by dsimp only; omega))).trans x00_22
    have x01_23 : w23.cell? ⟨w7.heap.size, 1, none⟩ = some (.slice (some ⟨X0g, 0, none⟩) n0 n0) := (World.cell?_of_block (a := ⟨w7.heap.size, 1, none⟩) (hfar _ (by show _ ≠ ub; dsimp only; omega) (by dsimp only; omega))).trans x01_22
    have x10_23 : w23.cell? ⟨w8.heap.size, 0, none⟩ = some (.int .i64 z1) := (World.cell?_of_block (a := ⟨w8.heap.size, 0, none⟩) (hfar _ (by show _ ≠ ub; dsimp only; omega) (by dsimp only; omega))).trans x10_22
    have x11_23 : w23.cell? ⟨w8.heap.size, 1, none⟩ = some (.slice (some ⟨X1g, 0, none⟩) n1 n1) := (World.cell?_of_block (a := ⟨w8.heap.size, 1, none⟩) (hfar _ (by show _ ≠ ub; dsimp only; omega) (by dsimp only; omega))).trans x11_22
    have gb0_23 : w23.cell? ⟨w9.heap.size, 0, none⟩ = some (.int .i64 rz) := (World.cell?_of_block (a := ⟨w9.heap.size, 0, none⟩) (hfar _ (by show _ ≠ ub; dsimp only; omega) (by dsimp only; omega))).trans gb0_22
    have gb1_23 : w23.cell? ⟨w9.heap.size, 1, none⟩ = some (.slice Ga rn Gc) := (World.cell?_of_block (a := ⟨w9.heap.size, 1, none⟩) (hfar _ (by show _ ≠ ub; dsimp only; omega) (by dsimp only; omega))).trans gb1_22
    have HbF := Lib.hid (box_set01 (u := .int .i64 rz) (v := .slice Ua rn Uc) HRBn.out)
    rw [← hwF] at HbF
    obtain ⟨ub0_23, ub1_23, _⟩ := box_cells HbF.out
    have zub : ub < w23.heap.size := (Array.getElem?_eq_some_iff.1 HbF.out).1
    have HR_23 := Lib.hid (HR_22.out.kept (fun q h1 h2 => hfar q (by have := HRBe.out; omega) (by omega)))
    have HG_23 := Lib.hid (HG_22.out.kept (fun q h1 h2 => hfar q (by have := HRBe.out; omega) (by omega)))
    have HU_23 := Lib.hid (HU_22.out.kept (fun q h1 h2 => hfar q (by have := HRBe.out; omega) (by omega)))
    have B23 : Hid (Below w.heap.size w w23) := by rw [hwF]; exact ((B22.out.trans (bN.mono B22.out.size)).setCell (by show w.heap.size ≤ ub; omega) _).setCell (by show w.heap.size ≤ ub; omega) _
    have e_sl : w23 = w23 := rfl
    refine hK.out _ _ ?_ (fun hHeld => ?_)
    · exact ⟨a00_23, a01_23, a10_23, a11_23, rb0_23, rb1_23, x00_23, x01_23, x10_23, x11_23, gb0_23, gb1_23⟩
    clear hK K
    (try simp only [Act.put, List.setIfInBounds_toArray, List.set_cons_zero, List.set_cons_succ])
    clear a00_22 a01_22 a10_22 a11_22 rb0_22 rb1_22 x00_22 x01_22 x10_22 x11_22 gb0_22 gb1_22 HR_22 HG_22 HT0_22 HT1_22 HU_22 hwF hfar HbF qb0 qb1 qbf0 qbf1 HRBn HRBe bN e_sl hrbl
    refine wpAnyH_take (i := 10) (oi := ⟨_, _, _, _, _, _⟩) (v := ?_) rfl (by kernel_rfl) (by kernel_rfl) (by kernel_rfl) (fun _ _ _ h => h) (Or.inl ⟨rfl, ?_⟩) (by assumption) ?_
    rotate_left 1
    · intro w_ hSw; (try dsimp only at hSw); go_simp; (try with_reducible rfl)
    (try simp only [Act.put, List.setIfInBounds_toArray, List.set_cons_zero, List.set_cons_succ])
    refine wpAnyH_done (by kernel_rfl) ?_ _
    refine NoPanic.normal ?_
    rotate_left 1
    all_goals
      have hC_ := eqAlg_view _ _ _ _ rz _ _ Uc Rc rn rs w23 HU_23.out HR_23.out (by unfold maxLen; omega) HRM.out (by omega) (by omega)
      have HC_ := Lib.hid hC_
      clear hC_
      go_wp2_with fail
      refine HC_.out.mono ?_
      rintro e w24 ⟨rfl, b_⟩
      have b24 : Below w23.heap.size w23 w24 := b_
      have s24 : w23.heap.size ≤ w24.heap.size := b24.size
      have a00_24 : w24.cell? ⟨w.heap.size, 0, none⟩ = some (.int .i64 z0) := cell_b b24 a00_23
      have a01_24 : w24.cell? ⟨w.heap.size, 1, none⟩ = some (.slice a0 n0 c0) := cell_b b24 a01_23
      have a10_24 : w24.cell? ⟨w.heap.size + 1, 0, none⟩ = some (.int .i64 z1) := cell_b b24 a10_23
      have a11_24 : w24.cell? ⟨w.heap.size + 1, 1, none⟩ = some (.slice a1 n1 c1) := cell_b b24 a11_23
      have rb0_24 : w24.cell? ⟨rb, 0, none⟩ = some (.int .i64 rz) := cell_b b24 rb0_23
      have rb1_24 : w24.cell? ⟨rb, 1, none⟩ = some (.slice Ra rn Rc) := cell_b b24 rb1_23
      have x00_24 : w24.cell? ⟨w7.heap.size, 0, none⟩ = some (.int .i64 z0) := cell_b b24 x00_23
      have x01_24 : w24.cell? ⟨w7.heap.size, 1, none⟩ = some (.slice (some ⟨X0g, 0, none⟩) n0 n0) := cell_b b24 x01_23
      have x10_24 : w24.cell? ⟨w8.heap.size, 0, none⟩ = some (.int .i64 z1) := cell_b b24 x10_23
      have x11_24 : w24.cell? ⟨w8.heap.size, 1, none⟩ = some (.slice (some ⟨X1g, 0, none⟩) n1 n1) := cell_b b24 x11_23
      have gb0_24 : w24.cell? ⟨w9.heap.size, 0, none⟩ = some (.int .i64 rz) := cell_b b24 gb0_23
      have gb1_24 : w24.cell? ⟨w9.heap.size, 1, none⟩ = some (.slice Ga rn Gc) := cell_b b24 gb1_23
      have ub0_24 : w24.cell? ⟨ub, 0, none⟩ = some (.int .i64 rz) := cell_b b24 ub0_23
      have ub1_24 : w24.cell? ⟨ub, 1, none⟩ = some (.slice Ua rn Uc) := cell_b b24 ub1_23
      have HR_24 := Lib.hid (HR_23.out.kept (Kept.of_below b24 (by omega)))
      have HG_24 := Lib.hid (HG_23.out.kept (Kept.of_below b24 (by omega)))
      have HU_24 := Lib.hid (HU_23.out.kept (Kept.of_below b24 (by omega)))
      have B24 : Hid (Below w.heap.size w w24) := below_then B23.out b24
      clear a00_23 a01_23 a10_23 a11_23 rb0_23 rb1_23 x00_23 x01_23 x10_23 x11_23 gb0_23 gb1_23 ub0_23 ub1_23 HR_23 HG_23 HU_23 b_
      clear HC_
      have hC_ := heldAlg_view _ _ rn Gc rz Ga (fun j => rs.getD j (0, [])) 1 w24 (by omega) (by rw [← HKG.out]; omega) HG_24.out (by omega)
      rw [← HKG.out] at hC_
      have HC_ := Lib.hid hC_
      clear hC_
      go_wp2_with fail
      refine HC_.out.mono ?_
      rintro e w25 ⟨rfl, b_⟩
      have b25 : Below w24.heap.size w24 w25 := b_
      have s25 : w24.heap.size ≤ w25.heap.size := b25.size
      have a00_25 : w25.cell? ⟨w.heap.size, 0, none⟩ = some (.int .i64 z0) := cell_b b25 a00_24
      have a01_25 : w25.cell? ⟨w.heap.size, 1, none⟩ = some (.slice a0 n0 c0) := cell_b b25 a01_24
      have a10_25 : w25.cell? ⟨w.heap.size + 1, 0, none⟩ = some (.int .i64 z1) := cell_b b25 a10_24
      have a11_25 : w25.cell? ⟨w.heap.size + 1, 1, none⟩ = some (.slice a1 n1 c1) := cell_b b25 a11_24
      have rb0_25 : w25.cell? ⟨rb, 0, none⟩ = some (.int .i64 rz) := cell_b b25 rb0_24
      have rb1_25 : w25.cell? ⟨rb, 1, none⟩ = some (.slice Ra rn Rc) := cell_b b25 rb1_24
      have x00_25 : w25.cell? ⟨w7.heap.size, 0, none⟩ = some (.int .i64 z0) := cell_b b25 x00_24
      have x01_25 : w25.cell? ⟨w7.heap.size, 1, none⟩ = some (.slice (some ⟨X0g, 0, none⟩) n0 n0) := cell_b b25 x01_24
      have x10_25 : w25.cell? ⟨w8.heap.size, 0, none⟩ = some (.int .i64 z1) := cell_b b25 x10_24
      have x11_25 : w25.cell? ⟨w8.heap.size, 1, none⟩ = some (.slice (some ⟨X1g, 0, none⟩) n1 n1) := cell_b b25 x11_24
      have gb0_25 : w25.cell? ⟨w9.heap.size, 0, none⟩ = some (.int .i64 rz) := cell_b b25 gb0_24
      have gb1_25 : w25.cell? ⟨w9.heap.size, 1, none⟩ = some (.slice Ga rn Gc) := cell_b b25 gb1_24
      have ub0_25 : w25.cell? ⟨ub, 0, none⟩ = some (.int .i64 rz) := cell_b b25 ub0_24
      have ub1_25 : w25.cell? ⟨ub, 1, none⟩ = some (.slice Ua rn Uc) := cell_b b25 ub1_24
      have HR_25 := Lib.hid (HR_24.out.kept (Kept.of_below b25 (by omega)))
      have HG_25 := Lib.hid (HG_24.out.kept (Kept.of_below b25 (by omega)))
      have HU_25 := Lib.hid (HU_24.out.kept (Kept.of_below b25 (by omega)))
      have B25 : Hid (Below w.heap.size w w25) := below_then B24.out b25
      clear a00_24 a01_24 a10_24 a11_24 rb0_24 rb1_24 x00_24 x01_24 x10_24 x11_24 gb0_24 gb1_24 ub0_24 ub1_24 HR_24 HG_24 HU_24 b_
      clear HC_
      go_wp2_with fail
      go_ret
      exact ⟨rfl, B25.out⟩

theorem lawProductOf (w : World) (z0 : Int) (a0 : Option Addr) (n0 c0 : Nat) (fs0 : List OpD) (wz0 : (Lit.int .i64 z0).wf = true) (hn0 : n0 ≤ maxLen) (ht0 : ∀ (j : Nat) (f : OpD), fs0[j]? = some f → f.2.length ≤ maxLen) (hv0 : OView w 0 w.heap.size a0 n0 fs0) (z1 : Int) (a1 : Option Addr) (n1 c1 : Nat) (fs1 : List OpD) (wz1 : (Lit.int .i64 z1).wf = true) (hn1 : n1 ≤ maxLen) (ht1 : ∀ (j : Nat) (f : OpD), fs1[j]? = some f → f.2.length ≤ maxLen) (hv1 : OView w 0 w.heap.size a1 n1 fs1) :
    Calls Try.prog 3 #[.agg #[.int .i64 z0, .slice a0 n0 c0], .agg #[.int .i64 z1, .slice a1 n1 c1]] w fun e w' => e = .returned (.bool true) ∧ Below w.heap.size w w' := by
  refine (Classical.em (((n0 + osum fs0 : Nat) : Int) ≤ 1048576)).elim (fun hfit0 => ?_) (fun hfit0 => lawProductOf_no0 w z0 a0 n0 c0 fs0 wz0 hn0 ht0 hv0 z1 a1 n1 c1 fs1 wz1 hn1 ht1 hv1   hfit0)
  refine (Classical.em (((n1 + osum fs1 : Nat) : Int) ≤ 1048576 - ((n0 + osum fs0 : Nat) : Int))).elim (fun hfit1 => ?_) (fun hfit1 => lawProductOf_no1 w z0 a0 n0 c0 fs0 wz0 hn0 ht0 hv0 z1 a1 n1 c1 fs1 wz1 hn1 ht1 hv1   hfit0 hfit1)
  exact lawProductOf_fit w z0 a0 n0 c0 fs0 wz0 hn0 ht0 hv0 z1 a1 n1 c1 fs1 wz1 hn1 ht1 hv1   hfit0 hfit1 (smallProductOf z0 fs0 z1 fs1)

end Go.Proofs.Ytfdolbpbddjhmaa
