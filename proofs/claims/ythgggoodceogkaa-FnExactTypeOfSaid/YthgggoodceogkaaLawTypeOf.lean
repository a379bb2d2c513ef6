/-
  The walk of the law FnExactTypeOf: for every algebra the law FnExactTypeOf returns true (TypeOf answers as its model, in memory of its own, and changes no argument) and the argument reads as before. Conditions: the lengths are at most maxLen.
-/
import Derived.Test.YthgggoodceogkaaStep
import Derived.Test.YthgggoodceogkaaType
import Derived.Test.YthgggoodceogkaaTypeI
namespace Go.Proofs.Ythgggoodceogkaa
open Go.RowKit
set_option linter.unusedVariables false
set_option linter.unusedSimpArgs false

set_option maxHeartbeats 400000 in
theorem lawTypeOf_no (w : World) (z0 : Int) (a0 : Option Addr) (n0 c0 : Nat) (fs0 : List OpD) (wz0 : (Lit.int .i64 z0).wf = true) (hn0 : n0 ≤ maxLen) (ht0 : ∀ (j : Nat) (f : OpD), fs0[j]? = some f → f.2.length ≤ maxLen) (hv0 : OView w 0 w.heap.size a0 n0 fs0) (hfit : ¬ ((n0 + osum fs0 : Nat) : Int) ≤ 1048576) :
    Calls Try.prog 4 #[.agg #[.int .i64 z0, .slice a0 n0 c0]] w fun e w' => e = .returned (.bool true) ∧ Below w.heap.size w w' := by
  have hB0 := below_alloc w (.cells #[.int .i64 z0, .slice a0 n0 c0] 24)
  have hsz := szAlg_any w.heap.size z0 a0 c0 n0 fs0 1048576 _ (hv0.kept (Kept.of_below hB0 (Nat.le_refl _))) hB0.size hn0 ht0 (by omega) (by omega)
  rw [szI_no hfit] at hsz
  have HSz := Lib.hid hsz
  have HB0 := Lib.hid hB0
  clear hv0 hB0 hsz ht0 hfit hn0 wz0 
  go_enter Try.func4, Try.ntmps4
  go_wp2_with fail
  refine HSz.out.mono ?_
  rintro e w1 ⟨rfl, b1⟩
  have B1 := Lib.hid (below_then HB0.out b1)
  clear b1
  go_wp2_with fail
  go_ret
  exact ⟨rfl, B1.out⟩

set_option maxRecDepth 100000 in
set_option maxHeartbeats 4000000 in
theorem lawTypeOf_fit (w : World) (z0 : Int) (a0 : Option Addr) (n0 c0 : Nat) (fs0 : List OpD) (wz0 : (Lit.int .i64 z0).wf = true) (hn0 : n0 ≤ maxLen) (ht0 : ∀ (j : Nat) (f : OpD), fs0[j]? = some f → f.2.length ≤ maxLen) (hv0 : OView w 0 w.heap.size a0 n0 fs0) (hfit : ((n0 + osum fs0 : Nat) : Int) ≤ 1048576) (hres : (valTypeOf z0 fs0).1.length ≤ 4194304) :
    Calls Try.prog 4 #[.agg #[.int .i64 z0, .slice a0 n0 c0]] w fun e w' => e = .returned (.bool true) ∧ Below w.heap.size w w' := by
  have hB0 := below_alloc w (.cells #[.int .i64 z0, .slice a0 n0 c0] 24)
  have hsz := szAlg_any w.heap.size z0 a0 c0 n0 fs0 1048576 _ (hv0.kept (Kept.of_below hB0 (Nat.le_refl _))) hB0.size hn0 ht0 (by omega) (by omega)
  have HV0 := Lib.hid hv0
  have HB0 := Lib.hid hB0
  have hl0 := Lib.hid hv0.1
  have HW0 := Lib.hid wz0
  rw [szI_yes hfit] at hsz
  obtain ⟨hn1_, hn2_, hn3_, hs8, hsM⟩ := small_of hfit (Int.le_refl _)
  obtain ⟨l, hl_0, hl_1⟩ : ∃ l : Int, l = 1048576 - ((n0 + osum fs0 : Nat) : Int) ∧ 0 ≤ l := ⟨_, rfl, by omega⟩
  rw [← hl_0] at hsz
  have HFit := Lib.hid hfit
  have HSz := Lib.hid hsz
  have HS8 := Lib.hid hs8
  have HSM := Lib.hid hsM
  obtain ⟨⟨rs, ok⟩, hval⟩ : ∃ p, valTypeOf z0 fs0 = p := ⟨_, rfl⟩
  simp only [hval] at hres
  have HRes := Lib.hid hres
  have hrl : rs.length ≤ 4194304 := hres
  obtain ⟨rn, hrn⟩ : ∃ rn, rn = rs.length := ⟨_, rfl⟩
  rw [← hrn] at hrl
  have HRn := Lib.hid hrn
  have HVal := Lib.hid hval
  clear hv0 hB0 hsz hs8 hsM ht0 hl_0 hfit hn0 hn2_ wz0 hval hres hrn
  have hne_ok : (ok != ok) = false := by cases ok <;> rfl
  go_enter Try.func4, Try.ntmps4
  go_wp2_with fail
  refine HSz.out.mono ?_
  rintro e w1 ⟨rfl, b_⟩
  have b1 : Below w.heap.size w w1 := below_then (below_alloc w (.cells #[.int .i64 z0, .slice a0 n0 c0] 24)) b_
  have s1 : w.heap.size ≤ w1.heap.size := b1.size
  have a0_1 : w1.cell? ⟨w.heap.size, 0, none⟩ = some (.int .i64 z0) := cell_b b_ (by simp)
  have a1_1 : w1.cell? ⟨w.heap.size, 1, none⟩ = some (.slice a0 n0 c0) := cell_b b_ (by simp)
  have za : w.heap.size < w1.heap.size := by have := b_.size; simp at this; omega
  have B1 : Hid (Below w.heap.size w w1) := b1
  clear b_
  have hC_ := toAlg_view w.heap.size z0 a0 c0 n0 fs0 w1 (HV0.out.kept (Kept.of_below B1.out (Nat.le_refl _))) B1.out.size hn3_ HS8.out
  have HC_ := Lib.hid hC_
  clear hC_
  go_wp2_with fail
  refine HC_.out.mono ?_
  rintro e w2 ⟨Sg, rfl, m_⟩; have b_ := m_.2
  have b2 : Below w1.heap.size w1 w2 := b_
  have s2 : w1.heap.size ≤ w2.heap.size := b2.size
  have a0_2 : w2.cell? ⟨w.heap.size, 0, none⟩ = some (.int .i64 z0) := cell_b b2 a0_1
  have a1_2 : w2.cell? ⟨w.heap.size, 1, none⟩ = some (.slice a0 n0 c0) := cell_b b2 a1_1
  have B2 : Hid (Below w.heap.size w w2) := below_then B1.out b2
  clear a0_1 a1_1 b_
  clear HC_
  have m_ := m_.view hl0.out
  have HS_2 := Lib.hid m_
  clear m_
  have hC_ := specTypeOf _ _ z0 _ n0 n0 fs0 w2 HS_2.out (by omega) HSM.out
  simp only [HVal.out] at hC_
  have HC_ := Lib.hid hC_
  clear hC_
  go_wp2_with fail
  refine HC_.out.mono ?_
  rintro e w3 ⟨Ra, Rn, Rc, rfl, hq_, o_, b_⟩
  have b3 : Below w2.heap.size w2 w3 := b_
  have s3 : w2.heap.size ≤ w3.heap.size := b3.size
  have a0_3 : w3.cell? ⟨w.heap.size, 0, none⟩ = some (.int .i64 z0) := cell_b b3 a0_2
  have a1_3 : w3.cell? ⟨w.heap.size, 1, none⟩ = some (.slice a0 n0 c0) := cell_b b3 a1_2
  have HS_3 := Lib.hid (HS_2.out.kept (Kept.of_below b3 (by omega)))
  have B3 : Hid (Below w.heap.size w w3) := below_then B2.out b3
  clear a0_2 a1_2 HS_2 b_
  clear HC_
  obtain rfl : rn = Rn := HRn.out.trans hq_.symm
  have HR_3 := Lib.hid o_.view
  clear o_ hq_
  clear HS_3
  have hC_ := toAlg_view w.heap.size z0 a0 c0 n0 fs0 w3 (HV0.out.kept (Kept.of_below B3.out (Nat.le_refl _))) B3.out.size hn3_ HS8.out
  have HC_ := Lib.hid hC_
  clear hC_
  go_wp2_with fail
  refine HC_.out.mono ?_
  rintro e w4 ⟨Xg, rfl, m_⟩; have b_ := m_.2
  have b4 : Below w3.heap.size w3 w4 := b_
  have s4 : w3.heap.size ≤ w4.heap.size := b4.size
  have a0_4 : w4.cell? ⟨w.heap.size, 0, none⟩ = some (.int .i64 z0) := cell_b b4 a0_3
  have a1_4 : w4.cell? ⟨w.heap.size, 1, none⟩ = some (.slice a0 n0 c0) := cell_b b4 a1_3
  have HR_4 := Lib.hid (HR_3.out.kept (Kept.of_below b4 (by omega)))
  have B4 : Hid (Below w.heap.size w w4) := below_then B3.out b4
  clear a0_3 a1_3 HR_3 b_
  clear HC_
  obtain ⟨⟨XG, XC, m_⟩, _⟩ := m_
  have HX_4 := Lib.hid m_
  clear m_
  have h_ := HX_4.out.view
  rw [← hl0.out, map_range_get, hl0.out] at h_
  have HXV_ := Lib.hid h_
  clear h_
  have hC_ := implTypeOf _ _ z0 _ n0 n0 fs0 (w4.alloc (.cells #[.int .i64 z0, .slice (some ⟨Xg, 0, none⟩) n0 n0] 29)) (HXV_.out.kept (Kept.of_below (below_alloc w4 (.cells #[.int .i64 z0, .slice (some ⟨Xg, 0, none⟩) n0 n0] 29)) (by omega))) (Nat.le_trans (by omega) (below_alloc w4 (.cells #[.int .i64 z0, .slice (some ⟨Xg, 0, none⟩) n0 n0] 29)).size) HSM.out
  simp only [HVal.out] at hC_
  have HC_ := Lib.hid hC_
  clear hC_
  go_wp2_with fail
  refine HC_.out.mono ?_
  rintro e w5 ⟨Ga, Gn, Gc, rfl, hq_, o_, b_⟩
  have b5 : Below w4.heap.size w4 w5 := below_then (below_alloc w4 (.cells #[.int .i64 z0, .slice (some ⟨Xg, 0, none⟩) n0 n0] 29)) b_
  have s5 : w4.heap.size ≤ w5.heap.size := b5.size
  have a0_5 : w5.cell? ⟨w.heap.size, 0, none⟩ = some (.int .i64 z0) := cell_b b5 a0_4
  have a1_5 : w5.cell? ⟨w.heap.size, 1, none⟩ = some (.slice a0 n0 c0) := cell_b b5 a1_4
  have HR_5 := Lib.hid (HR_4.out.kept (Kept.of_below b5 (by omega)))
  have HX_5 := Lib.hid (HX_4.out.kept (Kept.of_below b5 (by omega)))
  have x0_5 : w5.cell? ⟨w4.heap.size, 0, none⟩ = some (.int .i64 z0) := cell_b b_ (by simp)
  have x1_5 : w5.cell? ⟨w4.heap.size, 1, none⟩ = some (.slice (some ⟨Xg, 0, none⟩) n0 n0) := cell_b b_ (by simp)
  have zx : w4.heap.size < w5.heap.size := by have := b_.size; simp at this; omega
  have B5 : Hid (Below w.heap.size w w5) := below_then B4.out b5
  clear a0_4 a1_4 HR_4 HX_4 b_
  clear HC_
  obtain rfl : rn = Gn := HRn.out.trans hq_.symm
  simp only [World.size_alloc] at o_
  have HG_5 := Lib.hid o_
  clear o_ hq_
  clear HXV_
  have HGV_ := Lib.hid HG_5.out.view
  have hC_ := eqInts_view _ _ _ _ _ _ Gc Rc rn rs w5 HGV_.out HR_5.out (by unfold maxLen; omega)
  have HC_ := Lib.hid hC_
  clear hC_
  go_wp2_with fail
  refine HC_.out.mono ?_
  rintro e w6 ⟨rfl, q_⟩; have b_ := below_drawn (Below.refl w5.heap.size w5) q_; clear q_
  have b6 : Below w5.heap.size w5 w6 := b_
  have s6 : w5.heap.size ≤ w6.heap.size := b6.size
  have a0_6 : w6.cell? ⟨w.heap.size, 0, none⟩ = some (.int .i64 z0) := cell_b b6 a0_5
  have a1_6 : w6.cell? ⟨w.heap.size, 1, none⟩ = some (.slice a0 n0 c0) := cell_b b6 a1_5
  have x0_6 : w6.cell? ⟨w4.heap.size, 0, none⟩ = some (.int .i64 z0) := cell_b b6 x0_5
  have x1_6 : w6.cell? ⟨w4.heap.size, 1, none⟩ = some (.slice (some ⟨Xg, 0, none⟩) n0 n0) := cell_b b6 x1_5
  have HR_6 := Lib.hid (HR_5.out.kept (Kept.of_below b6 (by omega)))
  have HX_6 := Lib.hid (HX_5.out.kept (Kept.of_below b6 (by omega)))
  have HG_6 := Lib.hid (HG_5.out.kept (Kept.of_below b6 (by omega)))
  have B6 : Hid (Below w.heap.size w w6) := below_then B5.out b6
  clear a0_5 a1_5 x0_5 x1_5 HR_5 HX_5 HG_5 b_
  clear HC_
  clear HGV_
  have HT_ := Lib.hid (fun (W : World) (hW : Below w6.heap.size w6 W) => toAlg_view w.heap.size z0 a0 c0 n0 fs0 W (HV0.out.kept (Kept.of_below (below_then B6.out hW) (Nat.le_refl _))) (below_then B6.out hW).size hn3_ HS8.out)
  have h_ := HX_6.out.view
  rw [← hl0.out, map_range_get, hl0.out] at h_
  have HXV_ := Lib.hid h_
  clear h_
  go_wp2_with fail
  go_region_with ((first | (go_at_call 16; refine (HT_.out _ ?_).mono ?_; exact below_drew _; rintro e w7 ⟨Yg, rfl, m_⟩; have b7 : Below w6.heap.size w6 w7 := below_then (below_drew _) m_.2; have s7 := b7.size; have V_ := Lib.hid (m_.view hl0.out); have XV_ := Lib.hid (HXV_.out.kept (Kept.of_below b7 (by omega))); have a0_7 : w7.cell? ⟨w.heap.size, 0, none⟩ = some (.int .i64 z0) := cell_b b7 a0_6; have a1_7 : w7.cell? ⟨w.heap.size, 1, none⟩ = some (.slice a0 n0 c0) := cell_b b7 a1_6; have x0_7 : w7.cell? ⟨w4.heap.size, 0, none⟩ = some (.int .i64 z0) := cell_b b7 x0_6; have x1_7 : w7.cell? ⟨w4.heap.size, 1, none⟩ = some (.slice (some ⟨Xg, 0, none⟩) n0 n0) := cell_b b7 x1_6; have HR_7 := Lib.hid (HR_6.out.kept (Kept.of_below b7 (by omega))); have HX_7 := Lib.hid (HX_6.out.kept (Kept.of_below b7 (by omega))); have HG_7 := Lib.hid (HG_6.out.kept (Kept.of_below b7 (by omega))); have B7 := Lib.hid (below_then B6.out b7); clear m_) | (go_at_call 18; refine (eqAlg_view _ _ _ _ z0 _ _ _ _ n0 fs0 _ XV_.out V_.out (by unfold maxLen; omega) HSM.out (by omega) (Nat.le_refl _)).mono ?_; rintro e w8 ⟨rfl, b8⟩; have s8 := b8.size; have a0_8 : w8.cell? ⟨w.heap.size, 0, none⟩ = some (.int .i64 z0) := cell_b b8 a0_7; have a1_8 : w8.cell? ⟨w.heap.size, 1, none⟩ = some (.slice a0 n0 c0) := cell_b b8 a1_7; have x0_8 : w8.cell? ⟨w4.heap.size, 0, none⟩ = some (.int .i64 z0) := cell_b b8 x0_7; have x1_8 : w8.cell? ⟨w4.heap.size, 1, none⟩ = some (.slice (some ⟨Xg, 0, none⟩) n0 n0) := cell_b b8 x1_7; have HR_8 := Lib.hid (HR_7.out.kept (Kept.of_below b8 (by omega))); have HX_8 := Lib.hid (HX_7.out.kept (Kept.of_below b8 (by omega))); have HG_8 := Lib.hid (HG_7.out.kept (Kept.of_below b8 (by omega))); have B8 := Lib.hid (below_then B7.out b8); clear V_ XV_)))
  all_goals
    clear HXV_ HT_ a0_6 a0_7 a1_6 a1_7 x0_6 x0_7 x1_6 x1_7 HR_6 HR_7 HX_6 HX_7 HG_6 HG_7
    have HPre : Hid (preLen (fun j => fs0.getD j (0, [])) n0 = n0 + osum fs0) := by have h_ := preLen_fs fs0; rw [hl0.out] at h_; exact h_
    have hfit_ := HFit.out
    obtain ⟨kx, hkx, hkx0, hkx1⟩ : ∃ kx : Int, kx = 1 + (preLen (fun j => fs0.getD j (0, [])) n0 : Int) ∧ 0 ≤ kx ∧ kx ≤ 1048577 := ⟨_, rfl, by omega, by rw [HPre.out]; omega⟩
    have HKX := Lib.hid hkx
    clear hkx hfit_
    have hC_ := markAlg_own _ _ n0 n0 z0 _ XG XC (fun j => fs0.getD j (0, [])) 1 w8 (by omega) (by rw [← HKX.out]; omega) HX_8.out (by omega)
    rw [← HKX.out] at hC_
    have HC_ := Lib.hid hC_
    clear hC_
    go_wp2_with fail
    refine HC_.out.mono ?_
    rintro e w9 ⟨rfl, o_, b_⟩; clear o_
    have s9 : w8.heap.size ≤ w9.heap.size := b_.size
    have a0_9 : w9.cell? ⟨w.heap.size, 0, none⟩ = some (.int .i64 z0) := cell_o b_ a0_8 (by dsimp only; omega)
    have a1_9 : w9.cell? ⟨w.heap.size, 1, none⟩ = some (.slice a0 n0 c0) := cell_o b_ a1_8 (by dsimp only; omega)
    have x0_9 : w9.cell? ⟨w4.heap.size, 0, none⟩ = some (.int .i64 z0) := cell_o b_ x0_8 (by dsimp only; omega)
    have x1_9 : w9.cell? ⟨w4.heap.size, 1, none⟩ = some (.slice (some ⟨Xg, 0, none⟩) n0 n0) := cell_o b_ x1_8 (by dsimp only; omega)
    have HR_9 := Lib.hid (HR_8.out.kept (kept_only b_ (by omega) (by omega)))
    have HG_9 := Lib.hid (HG_8.out.kept (kept_only b_ (by omega) (by omega)))
    have B9 : Hid (Below w.heap.size w w9) := below_only B8.out b_ (by omega) (by omega)
    clear a0_8 a1_8 x0_8 x1_8 HR_8 HG_8 HX_8 b_
    clear HC_
    have HGV_ := Lib.hid HG_9.out.view
    have hC_ := eqInts_view _ _ _ _ _ _ Gc Rc rn rs w9 HGV_.out HR_9.out (by unfold maxLen; omega)
    have HC_ := Lib.hid hC_
    clear hC_
    go_wp2_with fail
    refine HC_.out.mono ?_
    rintro e w10 ⟨rfl, q_⟩; have b_ := below_drawn (Below.refl w9.heap.size w9) q_; clear q_
    have b10 : Below w9.heap.size w9 w10 := b_
    have s10 : w9.heap.size ≤ w10.heap.size := b10.size
    have a0_10 : w10.cell? ⟨w.heap.size, 0, none⟩ = some (.int .i64 z0) := cell_b b10 a0_9
    have a1_10 : w10.cell? ⟨w.heap.size, 1, none⟩ = some (.slice a0 n0 c0) := cell_b b10 a1_9
    have x0_10 : w10.cell? ⟨w4.heap.size, 0, none⟩ = some (.int .i64 z0) := cell_b b10 x0_9
    have x1_10 : w10.cell? ⟨w4.heap.size, 1, none⟩ = some (.slice (some ⟨Xg, 0, none⟩) n0 n0) := cell_b b10 x1_9
    have HR_10 := Lib.hid (HR_9.out.kept (Kept.of_below b10 (by omega)))
    have HG_10 := Lib.hid (HG_9.out.kept (Kept.of_below b10 (by omega)))
    have B10 : Hid (Below w.heap.size w w10) := below_then B9.out b10
    clear a0_9 a1_9 x0_9 x1_9 HR_9 HG_9 b_
    clear HC_
    clear HGV_
    have hC_ := markInts_own _ _ rn Gc 1 Ga rs w10 (by omega) (by omega) HG_10.out
    have HC_ := Lib.hid hC_
    clear hC_
    go_wp2_with fail
    refine HC_.out.mono ?_
    rintro e w11 ⟨rfl, o_, b_⟩
    have s11 : w10.heap.size ≤ w11.heap.size := b_.size
    have a0_11 : w11.cell? ⟨w.heap.size, 0, none⟩ = some (.int .i64 z0) := cell_o b_ a0_10 (by dsimp only; omega)
    have a1_11 : w11.cell? ⟨w.heap.size, 1, none⟩ = some (.slice a0 n0 c0) := cell_o b_ a1_10 (by dsimp only; omega)
    have x0_11 : w11.cell? ⟨w4.heap.size, 0, none⟩ = some (.int .i64 z0) := cell_o b_ x0_10 (by dsimp only; omega)
    have x1_11 : w11.cell? ⟨w4.heap.size, 1, none⟩ = some (.slice (some ⟨Xg, 0, none⟩) n0 n0) := cell_o b_ x1_10 (by dsimp only; omega)
    have HR_11 := Lib.hid (HR_10.out.kept (kept_only b_ (by omega) (by omega)))
    have B11 : Hid (Below w.heap.size w w11) := below_only B10.out b_ (by omega) (by omega)
    clear a0_10 a1_10 x0_10 x1_10 HR_10 HG_10 b_
    clear HC_
    have HG_11 := Lib.hid o_.view
    clear o_
    have hC_ := heldInts_view _ _ Ga Gc rn 1 w11 (by omega) (by omega) HG_11.out
    have HC_ := Lib.hid hC_
    clear hC_
    go_wp2_with fail
    refine HC_.out.mono ?_
    rintro e w_ ⟨rfl, rfl⟩
    clear HC_
    have hC_ := toAlg_view w.heap.size z0 a0 c0 n0 fs0 w11 (HV0.out.kept (Kept.of_below B11.out (Nat.le_refl _))) B11.out.size hn3_ HS8.out
    have HC_ := Lib.hid hC_
    clear hC_
    go_wp2_with fail
    refine HC_.out.mono ?_
    rintro e w12 ⟨Tg, rfl, m_⟩; have b_ := m_.2
    have b12 : Below w11.heap.size w11 w12 := b_
    have s12 : w11.heap.size ≤ w12.heap.size := b12.size
    have a0_12 : w12.cell? ⟨w.heap.size, 0, none⟩ = some (.int .i64 z0) := cell_b b12 a0_11
    have a1_12 : w12.cell? ⟨w.heap.size, 1, none⟩ = some (.slice a0 n0 c0) := cell_b b12 a1_11
    have x0_12 : w12.cell? ⟨w4.heap.size, 0, none⟩ = some (.int .i64 z0) := cell_b b12 x0_11
    have x1_12 : w12.cell? ⟨w4.heap.size, 1, none⟩ = some (.slice (some ⟨Xg, 0, none⟩) n0 n0) := cell_b b12 x1_11
    have HR_12 := Lib.hid (HR_11.out.kept (Kept.of_below b12 (by omega)))
    have HG_12 := Lib.hid (HG_11.out.kept (Kept.of_below b12 (by omega)))
    have B12 : Hid (Below w.heap.size w w12) := below_then B11.out b12
    clear a0_11 a1_11 x0_11 x1_11 HR_11 HG_11 b_
    clear HC_
    have m_ := m_.view hl0.out
    have HT_12 := Lib.hid m_
    clear m_
    have hC_ := implTypeOf _ _ z0 _ n0 n0 fs0 w12 HT_12.out (by omega) HSM.out
    simp only [HVal.out] at hC_
    have HC_ := Lib.hid hC_
    clear hC_
    go_wp2_with fail
    refine HC_.out.mono ?_
    rintro e w13 ⟨Ua, Un, Uc, rfl, hq_, o_, b_⟩
    have b13 : Below w12.heap.size w12 w13 := b_
    have s13 : w12.heap.size ≤ w13.heap.size := b13.size
    have a0_13 : w13.cell? ⟨w.heap.size, 0, none⟩ = some (.int .i64 z0) := cell_b b13 a0_12
    have a1_13 : w13.cell? ⟨w.heap.size, 1, none⟩ = some (.slice a0 n0 c0) := cell_b b13 a1_12
    have x0_13 : w13.cell? ⟨w4.heap.size, 0, none⟩ = some (.int .i64 z0) := cell_b b13 x0_12
    have x1_13 : w13.cell? ⟨w4.heap.size, 1, none⟩ = some (.slice (some ⟨Xg, 0, none⟩) n0 n0) := cell_b b13 x1_12
    have HR_13 := Lib.hid (HR_12.out.kept (Kept.of_below b13 (by omega)))
    have HG_13 := Lib.hid (HG_12.out.kept (Kept.of_below b13 (by omega)))
    have HT_13 := Lib.hid (HT_12.out.kept (Kept.of_below b13 (by omega)))
    have B13 : Hid (Below w.heap.size w w13) := below_then B12.out b13
    clear a0_12 a1_12 x0_12 x1_12 HR_12 HG_12 HT_12 b_
    clear HC_
    obtain rfl : rn = Un := HRn.out.trans hq_.symm
    have HU_13 := Lib.hid o_.view
    clear o_ hq_
    clear HT_13
    have hC_ := eqInts_view _ _ _ _ _ _ Uc Rc rn rs w13 HU_13.out HR_13.out (by unfold maxLen; omega)
    have HC_ := Lib.hid hC_
    clear hC_
    go_wp2_with fail
    refine HC_.out.mono ?_
    rintro e w14 ⟨rfl, q_⟩; have b_ := below_drawn (Below.refl w13.heap.size w13) q_; clear q_
    have b14 : Below w13.heap.size w13 w14 := b_
    have s14 : w13.heap.size ≤ w14.heap.size := b14.size
    have a0_14 : w14.cell? ⟨w.heap.size, 0, none⟩ = some (.int .i64 z0) := cell_b b14 a0_13
    have a1_14 : w14.cell? ⟨w.heap.size, 1, none⟩ = some (.slice a0 n0 c0) := cell_b b14 a1_13
    have x0_14 : w14.cell? ⟨w4.heap.size, 0, none⟩ = some (.int .i64 z0) := cell_b b14 x0_13
    have x1_14 : w14.cell? ⟨w4.heap.size, 1, none⟩ = some (.slice (some ⟨Xg, 0, none⟩) n0 n0) := cell_b b14 x1_13
    have HR_14 := Lib.hid (HR_13.out.kept (Kept.of_below b14 (by omega)))
    have HG_14 := Lib.hid (HG_13.out.kept (Kept.of_below b14 (by omega)))
    have HU_14 := Lib.hid (HU_13.out.kept (Kept.of_below b14 (by omega)))
    have B14 : Hid (Below w.heap.size w w14) := below_then B13.out b14
    clear a0_13 a1_13 x0_13 x1_13 HR_13 HG_13 HU_13 b_
    clear HC_
    have hC_ := heldInts_view _ _ Ga Gc rn 1 w14 (by omega) (by omega) HG_14.out
    have HC_ := Lib.hid hC_
    clear hC_
    go_wp2_with fail
    refine HC_.out.mono ?_
    rintro e w_ ⟨rfl, rfl⟩
    clear HC_
    go_wp2_with fail
    go_ret
    exact ⟨rfl, B14.out⟩

theorem lawTypeOf (w : World) (z0 : Int) (a0 : Option Addr) (n0 c0 : Nat) (fs0 : List OpD) (wz0 : (Lit.int .i64 z0).wf = true) (hn0 : n0 ≤ maxLen) (ht0 : ∀ (j : Nat) (f : OpD), fs0[j]? = some f → f.2.length ≤ maxLen) (hv0 : OView w 0 w.heap.size a0 n0 fs0) :
    Calls Try.prog 4 #[.agg #[.int .i64 z0, .slice a0 n0 c0]] w fun e w' => e = .returned (.bool true) ∧ Below w.heap.size w w' := by
  by_cases hfit : ((n0 + osum fs0 : Nat) : Int) ≤ 1048576
  · exact lawTypeOf_fit w z0 a0 n0 c0 fs0 wz0 hn0 ht0 hv0  hfit (smallTypeOf z0 fs0)
  · exact lawTypeOf_no w z0 a0 n0 c0 fs0 wz0 hn0 ht0 hv0  hfit

end Go.Proofs.Ythgggoodceogkaa
