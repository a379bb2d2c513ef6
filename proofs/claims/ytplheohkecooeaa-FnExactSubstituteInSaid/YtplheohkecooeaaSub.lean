/-
  Contracts: both SubtermAt. Conditions: the bounds that each theorem names.
-/
import Derived.Test.YtplheohkecooeaaSubP
import Derived.Test.YtplheohkecooeaaOwnN
import Derived.Test.YtplheohkecooeaaClone
namespace Go.Proofs.Ytplheohkecooeaa
open Go.RowKit
set_option linter.unusedVariables false
set_option linter.unusedSimpArgs false

theorem val_sub_no {z : Int} {fs : List OpD} {xs : List Int} {at_ : Int} (h : isTermB z fs xs = false) : valSubtermAt z fs xs at_ = ([], false) := by simp [valSubtermAt, h]
theorem val_sub_out {z : Int} {fs : List OpD} {xs : List Int} {at_ : Int} (h : ¬ (0 ≤ at_ ∧ at_ < (xs.length : Int))) : valSubtermAt z fs xs at_ = ([], false) := by
  unfold valSubtermAt
  rw [decide_eq_false h]; simp
theorem val_sub_yes {z : Int} {fs : List OpD} {xs : List Int} {k : Nat} (h : isTermB z fs xs = true) (hk : k < xs.length) : valSubtermAt z fs xs (k : Int) = (subA fs xs k, true) := by
  unfold valSubtermAt
  rw [h, decide_eq_true (by omega : 0 ≤ (k : Int) ∧ (k : Int) < (xs.length : Int))]
  simp

set_option maxHeartbeats 1000000 in
theorem implSubtermAt (lo hi : Nat) (z : Int) (ao : Option Addr) (c n : Nat) (fs : List OpD) (lo2 hi2 : Nat) (bo : Option Addr) (d m : Nat) (xs : List Int) (at_ : Int) (w : World) (hv : OView w lo hi ao n fs) (hhi : hi ≤ w.heap.size) (hs : ∀ (j : Nat) (f : OpD), fs[j]? = some f → f.2.length ≤ maxLen)
    (hx : IView w lo2 hi2 bo m xs) (hhi2 : hi2 ≤ w.heap.size) (hmd : m ≤ d) (hm : d ≤ maxLen) (hq : ∀ x, x ∈ xs → (Lit.int .i64 x).wf = true) (hat : (Lit.int .i64 at_).wf = true) :
    Calls Try.prog 28 #[.agg #[.int .i64 z, .slice ao n c], .slice bo m d, .int .i64 at_] w fun e w' => ResL w w' (valSubtermAt z fs xs at_).1 (valSubtermAt z fs xs at_).2 e := by
  have hB0 := below_alloc w (.cells #[.int .i64 z, .slice ao n c] 30)
  have hB := below_then hB0 (below_alloc _ (.cells #[.slice bo m d] 25))
  have HB := Lib.hid hB
  have hcall := areT_one lo hi lo2 hi2 z ao bo c n d m fs xs w _ hB hv hhi hs hx hhi2 hmd hm hq (w.heap.size + 1) (by simp) (by simp) 1
  obtain ⟨r, hr⟩ : ∃ r, isTermB z fs xs = r := ⟨_, rfl⟩
  rw [hr] at hcall
  have HC := Lib.hid hcall
  have hl := hx.1
  unfold ResL
  cases r with
  | false =>
    rw [val_sub_no hr]
    clear hB0 hB hv hs hx hq hcall hr hl
    go_enter Try.func28, Try.ntmps28
    go_wp2_with fail
    refine HC.out.mono ?_
    rintro e w1 ⟨rfl, b1⟩
    have HB1 := Lib.hid (HB.out.trans (b1.mono HB.out.size))
    clear b1
    go_wp2_with fail
    go_ret2
    exact ⟨none, 0, 0, rfl, rfl, ⟨World.ownsRow_nil _ _ _ _, fun k h => by simp [Value.ownBlock] at h⟩, HB1.out⟩
  | true =>
    obtain ⟨hok, h60, hend⟩ := isTermB_of hr
    by_cases hin : 0 ≤ at_ ∧ at_ < (xs.length : Int)
    · obtain ⟨k, rfl⟩ : ∃ k : Nat, at_ = (k : Int) := ⟨at_.toNat, by omega⟩
      have hk : k < xs.length := by omega
      obtain ⟨e, he, he1, he2⟩ := term_sub hok hend hk
      rw [val_sub_yes hr hk]
      have HV := Lib.hid hv
      have HX := Lib.hid hx
      have HQ := Lib.hid hq
      have HOk := Lib.hid hok
      have HEn := Lib.hid he
      have HL := Lib.hid hl
      have hkm : (k : Int) < (m : Int) := by omega
      have h60' : m ≤ 60 := by omega
      clear hB0 hB hv hs hx hq hcall hr hok hend he hl hin hat
      go_enter Try.func28, Try.ntmps28
      go_wp2_with fail
      refine HC.out.mono ?_
      rintro e w1 ⟨rfl, b1⟩
      have HB1 := Lib.hid (HB.out.trans (b1.mono HB.out.size))
      have cz : w1.cell? ⟨w.heap.size, 0, none⟩ = some (.int .i64 z) := cell_b b1 (by simp)
      have ca : w1.cell? ⟨w.heap.size, 1, none⟩ = some (.slice ao n c) := cell_b b1 (by simp)
      have hcall := subIn_any lo hi lo2 hi2 z ao bo c n d m fs xs k _ w1 (HV.out.kept (Kept.of_below HB1.out hhi)) (Nat.le_trans hhi HB1.out.size) HOk.out (HX.out.kept (Kept.of_below HB1.out hhi2)) (Nat.le_trans hhi2 HB1.out.size) h60' hmd hm HQ.out HEn.out
      have HC2 := Lib.hid hcall
      clear b1 hcall
      go_wp2_with fail
      refine HC2.out.mono ?_
      rintro e' w2 ⟨a2, m2, c2, rfl, hm2, hm0, hmc2, hcm2, hv2, b2⟩
      have HB2 := Lib.hid (HB1.out.trans (b2.mono HB1.out.size))
      have hm3 : m2 ≤ 1048576 := by rw [hm2]; unfold subA; rw [List.length_drop, List.length_take]; have := HL.out; omega
      have HC3 := Lib.hid (clone_ints lo2 hi2 a2 m2 c2 (subA fs xs k) w2 hv2 hm0 hm3)
      have HM2 := Lib.hid hm2
      clear b2 hv2 hm2 cz ca
      go_wp2_with fail
      refine HC3.out.mono ?_
      rintro e' w3 ⟨g3, d3, rfl, ho3, b3⟩
      have HB3 := Lib.hid (HB2.out.trans (b3.mono HB2.out.size))
      have HO3 := Lib.hid (ownsRow_base ho3 HB2.out.size)
      clear b3 ho3
      go_wp2_with fail
      go_ret2
      exact ⟨_, m2, d3, rfl, HM2.out, OwnsInts.of_row HO3.out, HB3.out⟩
    · rw [val_sub_out hin]
      have hin' : at_ < 0 ∨ (m : Int) ≤ at_ := by omega
      have hatb := wf_bd hat
      clear hB0 hB hv hs hx hq hcall hr hl hok hend hin hat
      rcases hin' with h0 | h0
      · go_enter Try.func28, Try.ntmps28
        go_wp2_with fail
        refine HC.out.mono ?_
        rintro e w1 ⟨rfl, b1⟩
        have HB1 := Lib.hid (HB.out.trans (b1.mono HB.out.size))
        clear b1
        go_wp2_with fail
        go_ret2
        exact ⟨none, 0, 0, rfl, rfl, ⟨World.ownsRow_nil _ _ _ _, fun k h => by simp [Value.ownBlock] at h⟩, HB1.out⟩
      · have h1 : ¬ at_ < 0 := by omega
        go_enter Try.func28, Try.ntmps28
        go_wp2_with fail
        refine HC.out.mono ?_
        rintro e w1 ⟨rfl, b1⟩
        have HB1 := Lib.hid (HB.out.trans (b1.mono HB.out.size))
        clear b1
        go_wp2_with fail
        go_ret2
        exact ⟨none, 0, 0, rfl, rfl, ⟨World.ownsRow_nil _ _ _ _, fun k h => by simp [Value.ownBlock] at h⟩, HB1.out⟩

set_option maxHeartbeats 1000000 in
theorem specSubtermAt (lo hi : Nat) (z : Int) (ao : Option Addr) (c n : Nat) (fs : List OpD) (lo2 hi2 : Nat) (bo : Option Addr) (d m : Nat) (xs : List Int) (at_ : Int) (w : World) (hv : OView w lo hi ao n fs) (hhi : hi ≤ w.heap.size) (hs : ∀ (j : Nat) (f : OpD), fs[j]? = some f → f.2.length ≤ maxLen)
    (hx : IView w lo2 hi2 bo m xs) (hhi2 : hi2 ≤ w.heap.size) (hmd : m ≤ d) (hm : d ≤ maxLen) (hq : ∀ x, x ∈ xs → (Lit.int .i64 x).wf = true) (hat : (Lit.int .i64 at_).wf = true) :
    Calls Try.prog 27 #[.agg #[.int .i64 z, .slice ao n c], .slice bo m d, .int .i64 at_] w fun e w' => ResL w w' (valSubtermAt z fs xs at_).1 (valSubtermAt z fs xs at_).2 e := by
  have hB := below_alloc w (.cells #[.int .i64 z, .slice ao n c] 30)
  have HB := Lib.hid hB
  have hcall := l3Takes_any lo hi lo2 hi2 z ao bo c n d m fs xs _ (hv.kept (Kept.of_below hB hhi)) (Nat.le_trans hhi hB.size) hs (hx.kept (Kept.of_below hB hhi2)) (Nat.le_trans hhi2 hB.size) (Nat.le_trans hmd hm)
  obtain ⟨r, hr⟩ : ∃ r, isTermB z fs xs = r := ⟨_, rfl⟩
  rw [hr] at hcall
  have HC := Lib.hid hcall
  have hl := hx.1
  unfold ResL
  cases r with
  | false =>
    rw [val_sub_no hr]
    clear hB hv hs hx hq hcall hr hl
    go_enter Try.func27, Try.ntmps27
    go_wp2_with fail
    refine HC.out.mono ?_
    rintro e w1 ⟨rfl, b1⟩
    have HB1 := Lib.hid (HB.out.trans (b1.mono HB.out.size))
    clear b1
    go_wp2_with fail
    go_ret2
    exact ⟨_, 0, 0, rfl, rfl, own_nil_res HB1.out, HB1.out.alloc HB1.out.size _⟩
  | true =>
    obtain ⟨hok, h60, hend⟩ := isTermB_of hr
    have hm1 : 0 < m := by have := term_pos hend; omega
    have hI0 := fun w => in_any at_ 0 ((m : Int) - 1) w
    by_cases hin : 0 ≤ at_ ∧ at_ < (xs.length : Int)
    · obtain ⟨k, rfl⟩ : ∃ k : Nat, at_ = (k : Int) := ⟨at_.toNat, by omega⟩
      have hk : k < xs.length := by omega
      obtain ⟨e, he, he1, he2⟩ := term_sub hok hend hk
      rw [val_sub_yes hr hk]
      rw [inB_yes (by omega) (by omega)] at hI0
      have hI := Lib.hid hI0
      clear hI0
      have HV := Lib.hid hv
      have HX := Lib.hid hx
      have HOk := Lib.hid hok
      have HEn := Lib.hid he
      have HL := Lib.hid hl
      have hkm : (k : Int) < (m : Int) := by omega
      have h60' : m ≤ 60 := by omega
      clear hB hv hs hx hq hcall hr hok hend he hl hin hat
      go_enter Try.func27, Try.ntmps27
      go_wp2_with fail
      refine HC.out.mono ?_
      rintro e' w1 ⟨rfl, b1⟩
      have HB1 := Lib.hid (HB.out.trans (b1.mono HB.out.size))
      have cz : w1.cell? ⟨w.heap.size, 0, none⟩ = some (.int .i64 z) := cell_b b1 (by simp)
      have ca : w1.cell? ⟨w.heap.size, 1, none⟩ = some (.slice ao n c) := cell_b b1 (by simp)
      have hcall := l3End_any lo hi lo2 hi2 z ao bo c n d m fs xs k w1 (HV.out.kept (Kept.of_below HB1.out hhi)) (Nat.le_trans hhi HB1.out.size) HOk.out (HX.out.kept (Kept.of_below HB1.out hhi2)) (Nat.le_trans hhi2 HB1.out.size) h60' (by omega)
      rw [HEn.out] at hcall
      have HC2 := Lib.hid hcall
      clear b1 hcall
      go_wp2_with fail
      refine (hI.out _).mono ?_
      rintro e' w2 ⟨rfl, rfl⟩
      go_wp2_with fail
      refine HC2.out.mono ?_
      rintro e' w2 ⟨rfl, b2⟩
      have HB2 := Lib.hid (HB1.out.trans (b2.mono HB1.out.size))
      obtain ⟨b, o, rfl, _, _, _⟩ := HX.out.at_ (by omega)
      have hp := (HX.out.kept (Kept.of_below HB2.out hhi2)).part he1 (by have := HL.out; omega)
      rw [show (xs.take e).drop k = subA fs xs k by unfold subA; rw [HEn.out]; rfl] at hp
      have HC3 := Lib.hid (own_ints lo2 hi2 _ (e - k) (d - k) (subA fs xs k) w2 hp (by omega) (by have := HL.out; omega))
      have HLn : Hid (e - k = (subA fs xs k).length) := hp.1.symm
      have hke : (k : Int) ≤ (e : Int) := by omega
      have hed : (e : Int) ≤ (d : Int) := by have := HL.out; omega
      clear b2 hp cz ca
      unfold endI
      go_wp2_with fail
      refine HC3.out.mono ?_
      rintro e' w3 ⟨g3, d3, rfl, ho3, b3⟩
      have HB3 := Lib.hid (HB2.out.trans (b3.mono HB2.out.size))
      have HO3 := Lib.hid (ownsRow_base ho3 HB2.out.size)
      clear b3 ho3
      go_wp2_with fail
      go_ret2
      exact ⟨_, e - k, d3, rfl, HLn.out, OwnsInts.of_row HO3.out, HB3.out⟩
    · rw [val_sub_out hin]
      rw [inB_no (by omega)] at hI0
      have hI := Lib.hid hI0
      clear hI0
      have hatb := wf_bd hat
      have h60' : m ≤ 60 := by omega
      clear hB hv hs hx hq hcall hr hl hok hend hin hat
      go_enter Try.func27, Try.ntmps27
      go_wp2_with fail
      refine HC.out.mono ?_
      rintro e w1 ⟨rfl, b1⟩
      have HB1 := Lib.hid (HB.out.trans (b1.mono HB.out.size))
      clear b1
      go_wp2_with fail
      refine (hI.out _).mono ?_
      rintro e' w2 ⟨rfl, rfl⟩
      go_wp2_with fail
      go_ret2
      exact ⟨_, 0, 0, rfl, rfl, own_nil_res HB1.out, HB1.out.alloc HB1.out.size _⟩

end Go.Proofs.Ytplheohkecooeaa
