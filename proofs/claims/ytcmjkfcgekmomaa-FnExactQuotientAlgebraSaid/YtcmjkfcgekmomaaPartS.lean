/-
  Contracts: spec.l6Size, l6Partition, l6Two, l6Below. Conditions: the bounds that each theorem names.
-/
import Derived.Test.YtcmjkfcgekmomaaPartI
namespace Go.Proofs.Ytcmjkfcgekmomaa
open Go.RowKit
set_option linter.unusedVariables false
set_option linter.unusedSimpArgs false

theorem size6_any (n : Int) (w : World) :
    Calls Try.prog 65 #[.int .i64 n] w fun e w' => e = .returned (.bool (inB 1 8 n)) ∧ w = w' := by
  have HC := Lib.hid (fun w => in_any n 1 8 w)
  go_enter Try.func65, Try.ntmps65
  go_wp2_with fail
  refine (HC.out _).mono ?_
  rintro e w' ⟨rfl, rfl⟩
  go_wp2_with fail
  go_ret
  exact ⟨rfl, rfl⟩

set_option maxHeartbeats 1000000 in
theorem part6_any (lo hi : Nat) (n : Int) (ao : Option Addr) (c m : Nat) (xs : List Int) (w : World) (hx : IView w lo hi ao m xs) (hm : m ≤ maxLen) (hn8 : n ≤ 8) :
    Calls Try.prog 113 #[.int .i64 n, .slice ao m c] w fun e w' => e = .returned (.bool (partB n xs)) ∧ ∃ q, w' = w.drewN q := by
  unfold maxLen at hm
  have hl := hx.1
  have HX := Lib.hid hx
  by_cases hmn : (m : Int) = n
  · have hne : ((m : Int) != n) = false := by simp [hmn]
    rw [partB_at (by rw [hl]; exact hmn), hl]
    obtain ⟨u, hu⟩ : ∃ u, okAll (gI xs) m = u := ⟨_, rfl⟩
    have HU := Lib.hid hu
    rw [hu]
    have HL := Lib.hid hl
    have hm8 : m ≤ 8 := by omega
    have HMn := Lib.hid hmn
    clear hx hu hl
    go_enter Try.func113, Try.ntmps113
    go_wp2_with fail
    clear hmn
    go_loopw [5] (fun i wr => ∃ k : Nat, k ≤ m ∧ i = .int .i64 (k : Int) ∧ Hid (okAll (gI xs) k = true) ∧ Hid (∃ q, wr = w.drewN q)) (fun i _ => m - (intOf i).toNat)
    case atStart => exact ⟨0, Nat.zero_le _, rfl, okAll_zero _, ⟨0, rfl⟩⟩
    case round =>
      obtain ⟨k, hk, rfl, HK, HQ⟩ := hrel
      by_cases hlt : k < m
      · obtain ⟨b, o, rfl, _, _, hc⟩ := HX.out.at_ (by omega)
        have hx := get_gI HL.out hlt
        obtain ⟨v, hv⟩ : ∃ v, gI xs k = v := ⟨_, rfl⟩
        have HV := Lib.hid hv
        rw [hv] at hx
        have e1 : wr.cell? ⟨b, o + k, none⟩ = some (.int .i64 v) := by obtain ⟨q, rfl⟩ := HQ.out; exact hc k v hx
        have hkn : (k : Int) < n := by have := HMn.out; omega
        have hkm : (k : Int) < (m : Int) := by omega
        have hin := fun w => in_any v 0 (k : Int) w
        obtain ⟨t, ht⟩ : ∃ t, inB 0 (k : Int) v = t := ⟨_, rfl⟩
        simp only [ht] at hin
        have HIn := Lib.hid hin
        cases t with
        | true =>
          obtain ⟨v0, v1⟩ : 0 ≤ v ∧ v ≤ (k : Int) := of_decide_eq_true ht
          obtain ⟨y, rfl⟩ : ∃ y : Nat, v = (y : Int) := ⟨v.toNat, by omega⟩
          have hy := get_gI HL.out (k := y) (by omega)
          have e2 : wr.cell? ⟨b, o + y, none⟩ = some (.int .i64 (gI xs y)) := by obtain ⟨q, rfl⟩ := HQ.out; exact hc y _ hy
          have hyn : (y : Int) < (m : Int) := by omega
          obtain ⟨z, hz⟩ : ∃ z, gI xs y = z := ⟨_, rfl⟩
          rw [hz] at e2
          by_cases hzy : z = (y : Int)
          · have hne2 : (z != (y : Int)) = false := by simp [hzy]
            have HO : Hid (okP (gI xs) k = true) := okP_yes (by rw [HV.out]; exact ht) (by rw [HV.out, Int.toNat_natCast, hz]; exact hzy)
            clear hc hx hin ht hy hz hzy hv
            go_wp2_with fail
            go_quiet ((go_at_call 97; exact quiet_left (HIn.out _)))
            go_wp2_with fail
            go_roundw
            case rel => exact ⟨k + 1, by omega, by go_num, okAll_succ HK.out HO.out, by obtain ⟨q, h_⟩ := HQ.out; exact ⟨_, by rw [h_, World.drewN_drewN]⟩⟩
            case measure => simp [intOf]; omega
          · have hne2 : (z != (y : Int)) = true := by simp [hzy]
            have HO : Hid (okAll (gI xs) m = false) := okAll_no hlt (okP_ne (by rw [HV.out, Int.toNat_natCast, hz]; exact hzy))
            clear hc hx hin ht hy hz hzy hv
            go_wp2_with fail
            go_quiet ((go_at_call 97; exact quiet_left (HIn.out _)))
            go_wp2_with fail
            go_ret
            exact ⟨ret_bool (HO.out.symm.trans HU.out), by obtain ⟨q, h_⟩ := HQ.out; exact ⟨_, by rw [h_, World.drewN_drewN]⟩⟩
        | false =>
          have HO : Hid (okAll (gI xs) m = false) := okAll_no hlt (okP_out (by rw [HV.out]; exact ht))
          clear hc hx hin ht hv
          go_wp2_with fail
          go_quiet ((go_at_call 97; exact quiet_left (HIn.out _)))
          go_wp2_with fail
          go_ret
          exact ⟨ret_bool (HO.out.symm.trans HU.out), by obtain ⟨q, h_⟩ := HQ.out; exact ⟨_, by rw [h_, World.drewN_drewN]⟩⟩
      · have hkn : ¬ (k : Int) < n := by have := HMn.out; omega
        obtain rfl : k = m := by omega
        go_wp2_with fail
        go_ret
        exact ⟨ret_bool (HK.out.symm.trans HU.out), HQ.out⟩
  · have hne : ((m : Int) != n) = true := by simp [hmn]
    rw [partB_len (by rw [hl]; exact hmn)]
    clear hx hmn
    go_enter Try.func113, Try.ntmps113
    go_wp2_with fail
    go_ret
    exact ⟨rfl, 0, rfl⟩

end Go.Proofs.Ytcmjkfcgekmomaa
