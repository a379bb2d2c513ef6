/-
  Contracts: spec.l3Vars, impl.varsIn and both VarsOf. Conditions: the bounds that each theorem names.
-/
import Derived.Test.YtplheohkecooeaaSub
import Derived.Test.YtplheohkecooeaaPut3
import Derived.Test.YtplheohkecooeaaNormM
import Derived.RangeFuncBox
namespace Go.Proofs.Ytplheohkecooeaa
open Go.RowKit
set_option linter.unusedVariables false
set_option linter.unusedSimpArgs false
attribute [local go_sem ↓] Go.wp_at_zero Go.wp_at_succ

set_option maxHeartbeats 1000000 in
theorem l3Vars_any (lo hi : Nat) (ao : Option Addr) (c n : Nat) (xs : List Int) (w : World) (hx : IView w lo hi ao n xs) (hhi : hi ≤ w.heap.size) (hn : n ≤ 1048576) :
    Calls Try.prog 66 #[.slice ao n c] w fun e w' => ∃ g m d, e = .returned (.slice (some ⟨g, 0, none⟩) m d) ∧ m = (varsF xs).length ∧ w'.ownsRow w.heap.size 3 1 (.slice (some ⟨g, 0, none⟩) m d) m ((varsF xs).map (Value.int .i64)) ∧ Below w.heap.size w w' := by
  have HO := Lib.hid (own_nil_lit w (base := w.heap.size) (Nat.le_refl _))
  have HB := Lib.hid (below_alloc w (.cells #[] 3))
  have HX := Lib.hid hx
  clear hx
  go_enter Try.func66, Try.ntmps66
  go_wp2
  go_loopw [3, 4] (fun v i wr => ∃ (k bo t d : Nat), k ≤ n ∧ i = .int .i64 (k : Int) ∧ v = .slice (some ⟨bo, 0, none⟩) t d ∧ t ≤ k ∧ Hid (wr.ownsRow w.heap.size 3 1 (.slice (some ⟨bo, 0, none⟩) t d) t ((varsF (xs.take k)).map (Value.int .i64))) ∧ Hid (Below w.heap.size w wr)) (fun _ i _ => n - (intOf i).toNat)
  case atStart => exact ⟨0, w.heap.size, 0, 0, Nat.zero_le _, rfl, rfl, Nat.le_refl _, HO, HB⟩
  case round =>
    obtain ⟨k, bo, t, d, hk, rfl, rfl, htk, HR, HBr⟩ := hrel
    by_cases hlt : k < n
    · obtain ⟨b, o, rfl, _, _, hc⟩ := HX.out.at_ (by omega)
      obtain ⟨x, hx⟩ := get_of_lt HX.out.1 hlt
      have cx : wr.cell? ⟨b, o + k, none⟩ = some (.int .i64 x) := cell_b HBr.out (hc k x hx)
      have HXk := Lib.hid hx
      have hkm : (k : Int) < (n : Int) := by omega
      clear hc hx
      by_cases h0 : 0 ≤ x
      · have HP := Lib.hid (put_any w.heap.size bo t d (varsF (xs.take k)) x wr HR.out (by omega))
        have HLn : Hid ((varsF (xs.take (k + 1))).length ≤ k + 1) := by
          have := varsF_le (xs.take (k + 1)); rw [List.length_take] at this; unfold Hid; omega
        go_wp2_with fail
        refine HP.out.mono ?_
        rintro e w2 ⟨g2, m2, d2, rfl, hm2, ho2, b2⟩
        have HB2 := Lib.hid (HBr.out.trans (b2.mono HBr.out.size))
        have ht2 : m2 ≤ k + 1 := by have h_ := HLn.out; rw [varsF_var HXk.out h0] at h_; omega
        have HO2 : Hid (w2.ownsRow w.heap.size 3 1 (.slice (some ⟨g2, 0, none⟩) m2 d2) m2 ((varsF (xs.take (k + 1))).map (Value.int .i64))) := by
          unfold Hid; rw [varsF_var HXk.out h0]; exact ho2
        clear b2 ho2 hm2 cx
        go_wp2_with fail
        go_roundw
        case rel => exact ⟨k + 1, g2, m2, d2, by omega, by go_num, rfl, ht2, HO2, HB2⟩
        case measure => simp [intOf]; omega
      · have HO2 : Hid (wr.ownsRow w.heap.size 3 1 (.slice (some ⟨bo, 0, none⟩) t d) t ((varsF (xs.take (k + 1))).map (Value.int .i64))) := by
          unfold Hid; rw [varsF_op HXk.out (by omega)]; exact HR.out
        have hx0 : x < 0 := by omega
        go_wp2_with fail
        go_roundw
        case rel => exact ⟨k + 1, bo, t, d, by omega, by go_num, rfl, by omega, HO2, HBr⟩
        case measure => simp [intOf]; omega
    · go_wp2
      go_ret
      have hR := HR.out
      rw [List.take_of_length_le (by have := HX.out.1; omega)] at hR
      exact ⟨bo, t, d, rfl, by have := hR.1; simp at this; exact this.symm, hR, HBr.out⟩

theorem val_vars_no {z : Int} {fs : List OpD} {xs : List Int} (h : isTermB z fs xs = false) : valVarsOf z fs xs = ([], false) := by simp [valVarsOf, h]
theorem val_vars_yes {z : Int} {fs : List OpD} {xs : List Int} (h : isTermB z fs xs = true) : valVarsOf z fs xs = (varsL xs, true) := by simp [valVarsOf, h]

set_option maxHeartbeats 1000000 in
theorem specVarsOf (lo hi : Nat) (z : Int) (ao : Option Addr) (c n : Nat) (fs : List OpD) (lo2 hi2 : Nat) (bo : Option Addr) (d m : Nat) (xs : List Int) (w : World) (hv : OView w lo hi ao n fs) (hhi : hi ≤ w.heap.size) (hs : ∀ (j : Nat) (f : OpD), fs[j]? = some f → f.2.length ≤ maxLen)
    (hx : IView w lo2 hi2 bo m xs) (hhi2 : hi2 ≤ w.heap.size) (hmd : m ≤ d) (hm : d ≤ maxLen) (hq : ∀ x, x ∈ xs → (Lit.int .i64 x).wf = true) :
    Calls Try.prog 22 #[.agg #[.int .i64 z, .slice ao n c], .slice bo m d] w fun e w' => ResL w w' (valVarsOf z fs xs).1 (valVarsOf z fs xs).2 e := by
  have hB := below_alloc w (.cells #[.int .i64 z, .slice ao n c] 30)
  have HB := Lib.hid hB
  have hcall := l3Takes_any lo hi lo2 hi2 z ao bo c n d m fs xs _ (hv.kept (Kept.of_below hB hhi)) (Nat.le_trans hhi hB.size) hs (hx.kept (Kept.of_below hB hhi2)) (Nat.le_trans hhi2 hB.size) (Nat.le_trans hmd hm)
  obtain ⟨r, hr⟩ : ∃ r, isTermB z fs xs = r := ⟨_, rfl⟩
  rw [hr] at hcall
  have HC := Lib.hid hcall
  unfold ResL
  cases r with
  | false =>
    rw [val_vars_no hr]
    clear hB hv hs hx hq hcall hr
    go_enter Try.func22, Try.ntmps22
    go_wp2_with fail
    refine HC.out.mono ?_
    rintro e w1 ⟨rfl, b1⟩
    have HB1 := Lib.hid (HB.out.trans (b1.mono HB.out.size))
    clear b1
    go_wp2_with fail
    go_ret2
    exact ⟨_, 0, 0, rfl, rfl, own_nil_res HB1.out, HB1.out.alloc HB1.out.size _⟩
  | true =>
    obtain ⟨hok, h60, hend⟩ := isTermB_of hr
    rw [val_vars_yes hr]
    have hvl := varsF_eq (xs := xs) fun x hxx => by
      obtain ⟨j, hj⟩ := List.getElem?_of_mem hxx
      exact (term_lt hok hend hj).1
    have HX := Lib.hid hx
    have HVl := Lib.hid hvl
    have h60' : m ≤ 1048576 := by have := hx.1; omega
    clear hB hv hs hx hq hcall hr hok hend h60 hvl
    go_enter Try.func22, Try.ntmps22
    go_wp2_with fail
    refine HC.out.mono ?_
    rintro e' w1 ⟨rfl, b1⟩
    have HB1 := Lib.hid (HB.out.trans (b1.mono HB.out.size))
    have hcall := l3Vars_any lo2 hi2 bo d m xs w1 (HX.out.kept (Kept.of_below HB1.out hhi2)) (Nat.le_trans hhi2 HB1.out.size) h60'
    rw [HVl.out] at hcall
    have HC2 := Lib.hid hcall
    clear b1 hcall
    go_wp2_with fail
    refine HC2.out.mono ?_
    rintro e' w2 ⟨g2, m2, d2, rfl, hm2, ho2, b2⟩
    have HB2 := Lib.hid (HB1.out.trans (b2.mono HB1.out.size))
    have HO2 := Lib.hid (ownsRow_base ho2 HB1.out.size)
    have HM2 := Lib.hid hm2
    clear b2 ho2 hm2
    go_wp2_with fail
    go_ret2
    exact ⟨_, m2, d2, rfl, HM2.out, OwnsInts.of_row HO2.out, HB2.out⟩

end Go.Proofs.Ytplheohkecooeaa
