/-
  Contracts: spec.l1Same and slices.Equal at lists of integers, and spec.l1Has. Conditions: the bounds that each theorem names.
-/
import Derived.Test.YtcmjkfcgekmomaaIsAlg
import Derived.Test.YtcmjkfcgekmomaaHasL
namespace Go.Proofs.Ytcmjkfcgekmomaa
open Go.RowKit
set_option linter.unusedVariables false
set_option linter.unusedSimpArgs false

set_option maxHeartbeats 1000000 in
theorem l1Same_any (lo hi lo2 hi2 : Nat) (ao bo : Option Addr) (c n d m : Nat) (xs ys : List Int) (w : World) (hx : IView w lo hi ao n xs) (hy : IView w lo2 hi2 bo m ys) (hn : n ≤ maxLen) (hm : m ≤ maxLen) :
    Calls Try.prog 100 #[.slice ao n c, .slice bo m d] w fun e w' => e = .returned (.bool (decide (xs = ys))) ∧ ∃ q, w' = w.drewN q := by
  unfold maxLen at hn hm
  have HX := Lib.hid hx
  have HY := Lib.hid hy
  have hxl := hx.1
  have hyl := hy.1
  by_cases hnm : n = m
  · subst hnm
    obtain ⟨r, hr⟩ : ∃ r, decide (xs = ys) = r := ⟨_, rfl⟩
    have HR := Lib.hid hr
    rw [hr]
    clear hx hy hr
    go_enter Try.func100, Try.ntmps100
    go_wp2
    go_loopw [5] (fun i wr => ∃ (k q : Nat), k ≤ n ∧ i = .int .i64 (k : Int) ∧ Hid (xs.take k = ys.take k) ∧ wr = w.drewN q) (fun i _ => n - (intOf i).toNat)
    case atStart => exact ⟨0, 0, Nat.zero_le _, rfl, rfl, rfl⟩
    case round =>
      obtain ⟨k, q, hk, rfl, HK, rfl⟩ := hrel
      by_cases hlt : k < n
      · obtain ⟨b, o, rfl, _, _, hc⟩ := HX.out.at_ (by omega)
        obtain ⟨b2, o2, rfl, _, _, hc2⟩ := HY.out.at_ (by omega)
        obtain ⟨x, hx⟩ := get_of_lt HX.out.1 hlt
        obtain ⟨y, hy⟩ := get_of_lt HY.out.1 hlt
        have cx := hc k x hx
        have cy := hc2 k y hy
        have hkn : (k : Int) < (n : Int) := by omega
        have HXk := Lib.hid hx
        have HYk := Lib.hid hy
        clear hc hc2 hx hy
        by_cases hxy : x = y
        · subst hxy
          have HN : Hid (xs.take (k + 1) = ys.take (k + 1)) := by
            unfold Hid; rw [List.take_add_one, List.take_add_one, HXk.out, HYk.out, HK.out]
          go_wp2
          go_quiet (fail)
          go_wp2
          go_roundw
          case rel => exact ⟨k + 1, _, by omega, by go_num, HN, rfl⟩
          case measure => simp [intOf]; omega
        · have hne : (x != y) = true := by simp [hxy]
          have HF : Hid (r = false) := by
            unfold Hid
            rw [← HR.out]
            refine decide_eq_false fun h_ => hxy ?_
            have h1_ := HXk.out
            rw [h_, HYk.out] at h1_
            injection h1_ with h1_; exact h1_.symm
          clear hxy
          go_wp2
          go_quiet (fail)
          go_wp2
          go_ret
          exact ⟨ret_bool HF.out.symm, q + nq, by rw [World.drewN_drewN]⟩
      · have HT : Hid (r = true) := by
          unfold Hid
          rw [← HR.out]
          refine decide_eq_true ?_
          have h1_ := HK.out
          rw [List.take_of_length_le (by omega), List.take_of_length_le (by omega)] at h1_
          exact h1_
        go_wp2
        go_ret
        exact ⟨ret_bool HT.out.symm, _, rfl⟩
  · have HF : Hid (decide (xs = ys) = false) := by
      unfold Hid
      refine decide_eq_false fun h_ => hnm ?_
      rw [← hxl, ← hyl, h_]
    have hne : ((n : Int) != (m : Int)) = true := by simp; omega
    clear hx hy
    go_enter Try.func100, Try.ntmps100
    go_wp2
    go_ret
    exact ⟨ret_bool HF.out.symm, 0, rfl⟩

set_option maxHeartbeats 1000000 in
theorem equal_any (lo hi lo2 hi2 : Nat) (ao bo : Option Addr) (c n d m : Nat) (xs ys : List Int) (w : World) (hx : IView w lo hi ao n xs) (hy : IView w lo2 hi2 bo m ys) (hn : n ≤ maxLen) (hm : m ≤ maxLen) :
    Calls Try.prog 108 #[.slice ao n c, .slice bo m d] w fun e w' => e = .returned (.bool (decide (xs = ys))) ∧ ∃ q, w' = w.drewN q := by
  unfold maxLen at hn hm
  have HX := Lib.hid hx
  have HY := Lib.hid hy
  have hxl := hx.1
  have hyl := hy.1
  by_cases hnm : n = m
  · subst hnm
    obtain ⟨r, hr⟩ : ∃ r, decide (xs = ys) = r := ⟨_, rfl⟩
    have HR := Lib.hid hr
    rw [hr]
    clear hx hy hr
    go_enter Try.func108, Try.ntmps108
    go_wp2
    go_loopw [13] (fun i wr => ∃ (k q : Nat), k ≤ n ∧ i = .int .i64 (k : Int) ∧ Hid (xs.take k = ys.take k) ∧ wr = w.drewN q) (fun i _ => n - (intOf i).toNat)
    case atStart => exact ⟨0, 0, Nat.zero_le _, rfl, rfl, rfl⟩
    case round =>
      obtain ⟨k, q, hk, rfl, HK, rfl⟩ := hrel
      by_cases hlt : k < n
      · obtain ⟨b, o, rfl, _, _, hc⟩ := HX.out.at_ (by omega)
        obtain ⟨b2, o2, rfl, _, _, hc2⟩ := HY.out.at_ (by omega)
        obtain ⟨x, hx⟩ := get_of_lt HX.out.1 hlt
        obtain ⟨y, hy⟩ := get_of_lt HY.out.1 hlt
        have cx := hc k x hx
        have cy := hc2 k y hy
        have hkn : (k : Int) < (n : Int) := by omega
        have HXk := Lib.hid hx
        have HYk := Lib.hid hy
        clear hc hc2 hx hy
        by_cases hxy : x = y
        · subst hxy
          have HN : Hid (xs.take (k + 1) = ys.take (k + 1)) := by
            unfold Hid; rw [List.take_add_one, List.take_add_one, HXk.out, HYk.out, HK.out]
          go_wp2
          go_quiet (fail)
          go_wp2
          go_roundw
          case rel => exact ⟨k + 1, _, by omega, by go_num, HN, rfl⟩
          case measure => simp [intOf]; omega
        · have hne : (x != y) = true := by simp [hxy]
          have HF : Hid (r = false) := by
            unfold Hid
            rw [← HR.out]
            refine decide_eq_false fun h_ => hxy ?_
            have h1_ := HXk.out
            rw [h_, HYk.out] at h1_
            injection h1_ with h1_; exact h1_.symm
          clear hxy
          go_wp2
          go_quiet (fail)
          go_wp2
          go_ret
          exact ⟨ret_bool HF.out.symm, q + nq, by rw [World.drewN_drewN]⟩
      · have HT : Hid (r = true) := by
          unfold Hid
          rw [← HR.out]
          refine decide_eq_true ?_
          have h1_ := HK.out
          rw [List.take_of_length_le (by omega), List.take_of_length_le (by omega)] at h1_
          exact h1_
        go_wp2
        go_ret
        exact ⟨ret_bool HT.out.symm, _, rfl⟩
  · have HF : Hid (decide (xs = ys) = false) := by
      unfold Hid
      refine decide_eq_false fun h_ => hnm ?_
      rw [← hxl, ← hyl, h_]
    have hne : ((n : Int) != (m : Int)) = true := by simp; omega
    clear hx hy
    go_enter Try.func108, Try.ntmps108
    go_wp2
    go_ret
    exact ⟨ret_bool HF.out.symm, 0, rfl⟩

end Go.Proofs.Ytcmjkfcgekmomaa
