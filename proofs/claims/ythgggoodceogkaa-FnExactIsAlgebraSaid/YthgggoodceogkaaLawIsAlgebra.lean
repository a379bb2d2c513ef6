/-
  The walk of the law FnExactIsAlgebra: it returns true for every algebra, and leaves what lay there as it was. Conditions: the lengths are at most maxLen.
-/
import Derived.Test.YthgggoodceogkaaIsAlg
import Derived.Test.YthgggoodceogkaaStep
import Derived.Test.YthgggoodceogkaaTo
import Derived.Test.YthgggoodceogkaaEq
import Derived.Deep.RegionWith
namespace Go.Proofs.Ythgggoodceogkaa
open Go.RowKit
set_option linter.unusedVariables false


set_option maxHeartbeats 1000000 in
theorem lawIsAlgebra (w : World) (z : Int) (ao : Option Addr) (n c : Nat) (fs : List OpD) (_ : (Lit.int .i64 z).wf = true) (hn : n ≤ maxLen) (ht : ∀ (j : Nat) (f : OpD), fs[j]? = some f → f.2.length ≤ maxLen) (hv : OView w 0 w.heap.size ao n fs) :
    Calls Try.prog 3 #[.agg #[.int .i64 z, .slice ao n c]] w fun e w' => e = .returned (.bool true) ∧ Below w.heap.size w w' := by
  have hB0 := (Below.refl w.heap.size w).alloc (Nat.le_refl _) (.cells #[.int .i64 z, .slice ao n c] 24)
  have hsz := szAlg_any w.heap.size z ao c n fs 1048576 _ (hv.kept (Kept.of_below hB0 (Nat.le_refl _))) hB0.size hn ht (by omega) (by omega)
  have HV := Lib.hid hv
  have HB0 := Lib.hid hB0
  have hl := Lib.hid hv.1
  by_cases hfit : ((n + osum fs : Nat) : Int) ≤ 1048576
  · rw [szI_yes hfit] at hsz
    obtain ⟨hn1, hn2, hn3, hs8, hsM⟩ := small_of hfit (Int.le_refl _)
    obtain ⟨l, hl0, hl1⟩ : ∃ l : Int, l = 1048576 - ((n + osum fs : Nat) : Int) ∧ 0 ≤ l := ⟨_, rfl, by omega⟩
    rw [← hl0] at hsz
    have HSz := Lib.hid hsz
    have HS8 := Lib.hid hs8
    have HSM := Lib.hid hsM
    clear hv hB0 hsz hs8 hsM ht hl0 hfit hn hn2
    go_enter Try.func3, Try.ntmps3
    go_wp2_with fail
    refine HSz.out.mono ?_
    rintro e w1 ⟨rfl, b1⟩
    have c10 : w1.cell? ⟨w.heap.size, 0, none⟩ = some (.int .i64 z) := (b1.cell (p := ⟨w.heap.size, 0, none⟩) (by simp)).trans (by simp)
    have c11 : w1.cell? ⟨w.heap.size, 1, none⟩ = some (.slice ao n c) := (b1.cell (p := ⟨w.heap.size, 1, none⟩) (by simp)).trans (by simp)
    have z1 : w.heap.size < w1.heap.size := by have := b1.size; simp at this; omega
    have B1 := Lib.hid (HB0.out.trans (b1.mono HB0.out.size))
    clear b1
    go_wp2_with fail
    refine (toAlg_view w.heap.size z ao c n fs _ (HV.out.kept (Kept.of_below B1.out (Nat.le_refl _))) B1.out.size hn3 HS8.out).mono ?_
    rintro e w2 ⟨g1, rfl, m2⟩
    have v2 := Lib.hid (m2.view hl.out)
    have c20 : w2.cell? ⟨w.heap.size, 0, none⟩ = some (.int .i64 z) := (m2.2.cell (p := ⟨w.heap.size, 0, none⟩) z1).trans c10
    have c21 : w2.cell? ⟨w.heap.size, 1, none⟩ = some (.slice ao n c) := (m2.2.cell (p := ⟨w.heap.size, 1, none⟩) z1).trans c11
    have z2 : w.heap.size < w2.heap.size := by have := m2.2.size; omega
    have B2 := Lib.hid (B1.out.trans (m2.2.mono B1.out.size))
    clear m2 c10 c11 z1
    go_wp2_with fail
    refine (specIsAlg_any _ _ z _ n n fs _ v2.out (Nat.le_refl _) HSM.out).mono ?_
    rintro e w3 ⟨rfl, b3⟩
    have c30 : w3.cell? ⟨w.heap.size, 0, none⟩ = some (.int .i64 z) := (b3.cell (p := ⟨w.heap.size, 0, none⟩) z2).trans c20
    have c31 : w3.cell? ⟨w.heap.size, 1, none⟩ = some (.slice ao n c) := (b3.cell (p := ⟨w.heap.size, 1, none⟩) z2).trans c21
    have z3 : w.heap.size < w3.heap.size := by have := b3.size; omega
    have B3 := Lib.hid (B2.out.trans (b3.mono B2.out.size))
    obtain ⟨ok, hok⟩ : ∃ ok, algOkB z fs = ok := ⟨_, rfl⟩
    rw [hok]
    have HOk := Lib.hid hok
    clear b3 c20 c21 z2 v2 hok
    go_wp2_with fail
    refine (toAlg_view w.heap.size z ao c n fs _ (HV.out.kept (Kept.of_below B3.out (Nat.le_refl _))) B3.out.size hn3 HS8.out).mono ?_
    rintro e w4 ⟨g2, rfl, m4⟩
    have v4 := Lib.hid (m4.view hl.out)
    have c40 : w4.cell? ⟨w.heap.size, 0, none⟩ = some (.int .i64 z) := (m4.2.cell (p := ⟨w.heap.size, 0, none⟩) z3).trans c30
    have c41 : w4.cell? ⟨w.heap.size, 1, none⟩ = some (.slice ao n c) := (m4.2.cell (p := ⟨w.heap.size, 1, none⟩) z3).trans c31
    have z4 : w.heap.size < w4.heap.size := by have := m4.2.size; omega
    have B4 := Lib.hid (B3.out.trans (m4.2.mono B3.out.size))
    have bx := (Below.refl w4.heap.size w4).alloc (Nat.le_refl _) (.cells #[.int .i64 z, .slice (some ⟨g2, 0, none⟩) n n] 29)
    have hI := isAlg_any _ _ z _ n n fs _ (v4.out.kept (Kept.of_below bx (Nat.le_refl _))) bx.size HSM.out
    rw [HOk.out] at hI
    have HI := Lib.hid hI
    have BX := Lib.hid bx
    clear m4 c30 c31 z3 hI bx
    go_wp2_with fail
    refine HI.out.mono ?_
    rintro e w5 ⟨rfl, b5⟩
    have c50 : w5.cell? ⟨w.heap.size, 0, none⟩ = some (.int .i64 z) := ((BX.out.trans (b5.mono BX.out.size)).cell (p := ⟨w.heap.size, 0, none⟩) z4).trans c40
    have c51 : w5.cell? ⟨w.heap.size, 1, none⟩ = some (.slice ao n c) := ((BX.out.trans (b5.mono BX.out.size)).cell (p := ⟨w.heap.size, 1, none⟩) z4).trans c41
    have d50 : w5.cell? ⟨w4.heap.size, 0, none⟩ = some (.int .i64 z) := (b5.cell (p := ⟨w4.heap.size, 0, none⟩) (by simp)).trans (by simp)
    have d51 : w5.cell? ⟨w4.heap.size, 1, none⟩ = some (.slice (some ⟨g2, 0, none⟩) n n) := (b5.cell (p := ⟨w4.heap.size, 1, none⟩) (by simp)).trans (by simp)
    have z5 : w4.heap.size < w5.heap.size := by have := b5.size; simp at this; omega
    have B5 := Lib.hid (B4.out.trans ((BX.out.trans (b5.mono BX.out.size)).mono B4.out.size))
    have v5 := Lib.hid (v4.out.kept (Kept.of_below (BX.out.trans (b5.mono BX.out.size)) (Nat.le_refl _)))
    clear b5 c40 c41 v4 BX B4 HI
    have HT := Lib.hid (fun (W : World) (hW : Below w5.heap.size w5 W) => toAlg_view w.heap.size z ao c n fs W ((HV.out.kept (Kept.of_below B5.out (Nat.le_refl _))).kept (Kept.of_below hW B5.out.size)) (Nat.le_trans B5.out.size hW.size) hn3 HS8.out)
    have hne : (ok != ok) = false := by cases ok <;> rfl
    have heq : (ok == ok) = true := by cases ok <;> rfl
    go_wp2_with fail
    go_region_with ((first | (go_at_call 16; refine (HT.out _ ?_).mono ?_; exact ((Below.refl _ _).drew); rintro e w6 ⟨g3, rfl, m6⟩; have V6 := Lib.hid (m6.view hl.out); have X6 : Hid (OView w6 w3.heap.size w4.heap.size (some ⟨g2, 0, none⟩) n fs) := v5.out.kept (fun k h1 h2 => m6.2.block k (by show k < w5.heap.size; omega)); have d60 : w6.cell? ⟨w4.heap.size, 0, none⟩ = some (.int .i64 z) := (m6.2.cell (p := ⟨w4.heap.size, 0, none⟩) z5).trans d50; have d61 : w6.cell? ⟨w4.heap.size, 1, none⟩ = some (.slice (some ⟨g2, 0, none⟩) n n) := (m6.2.cell (p := ⟨w4.heap.size, 1, none⟩) z5).trans d51; have z6 : w4.heap.size ≤ w6.heap.size := Nat.le_trans (Nat.le_of_lt z5) m6.2.size; have B6 := Lib.hid (B5.out.drew.trans (m6.2.mono B5.out.size)); clear m6) | (go_at_call 18; refine (eqAlg_view _ _ _ _ z _ _ _ _ n fs _ X6.out V6.out (by unfold maxLen; omega) HSM.out z6 (Nat.le_refl _)).mono ?_; rintro e w7 ⟨rfl, b7⟩; have B7 := Lib.hid (B6.out.trans (b7.mono B6.out.size)); clear b7)))
    all_goals
      go_wp2_with fail
      go_ret
      exact ⟨rfl, B7.out⟩
  · rw [szI_no hfit] at hsz
    have HSz := Lib.hid hsz
    clear hv hB0 hsz ht hfit hn
    go_enter Try.func3, Try.ntmps3
    go_wp2_with fail
    refine HSz.out.mono ?_
    rintro e w1 ⟨rfl, b1⟩
    have B1 := Lib.hid (HB0.out.trans (b1.mono HB0.out.size))
    clear b1
    go_wp2_with fail
    go_ret
    exact ⟨rfl, B1.out⟩

end Go.Proofs.Ythgggoodceogkaa
