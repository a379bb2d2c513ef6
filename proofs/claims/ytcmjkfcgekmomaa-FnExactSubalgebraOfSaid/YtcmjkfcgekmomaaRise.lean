/-
  Contract: spec.l1Rising. Conditions: the bounds that it names.
-/
import Derived.Test.YtcmjkfcgekmomaaRiseM
import Derived.Test.YtcmjkfcgekmomaaIsAlg
import Derived.Deep.RegionHeld3
namespace Go.Proofs.Ytcmjkfcgekmomaa
open Go.RowKit
set_option linter.unusedVariables false
set_option linter.unusedSimpArgs false

set_option maxHeartbeats 1000000 in
theorem rising_any (lo hi : Nat) (z : Int) (ao : Option Addr) (c n : Nat) (xs : List Int) (w : World) (h : IView w lo hi ao n xs) (hn : n ≤ maxLen) (hz1 : 1 ≤ z) (hz2 : z ≤ 8) :
    Calls Try.prog 99 #[.slice ao n c, .int .i64 0, .int .i64 (z - 1)] w fun e w' => e = .returned (.bool (riseB z xs)) ∧ ∃ q, w' = w.drewN q := by
  unfold maxLen at hn
  have HV := Lib.hid h
  obtain ⟨r, hr⟩ : ∃ r, riseB z xs = r := ⟨_, rfl⟩
  have HR := Lib.hid hr
  obtain ⟨z1, hz⟩ : ∃ z1, z - 1 = z1 := ⟨_, rfl⟩
  have HZ : Hid (z = z1 + 1) := by unfold Hid; omega
  rw [hr, hz]
  clear h hr hz
  go_enter Try.func99, Try.ntmps99
  go_wp2
  go_loopw [7] (fun i wr => ∃ k : Nat, k ≤ n ∧ i = .int .i64 (k : Int) ∧ Hid (riseB z (xs.take k) = true) ∧ Hid (∃ q, wr = w.drewN q)) (fun i _ => n - (intOf i).toNat)
  case atStart => exact ⟨0, Nat.zero_le _, rfl, riseB_nil hz2, ⟨0, rfl⟩⟩
  case round =>
    obtain ⟨k, hk, rfl, HA, HQ⟩ := hrel
    have hcq : ∀ a v, w.cell? a = some v → wr.cell? a = some v := fun a v h_ => by
      obtain ⟨q, hq⟩ := HQ.out
      rw [hq]; exact h_
    by_cases hlt : k < n
    · obtain ⟨b, o, rfl, _, _, hc⟩ := HV.out.at_ (by omega)
      obtain ⟨x, hx⟩ := get_of_lt HV.out.1 hlt
      have hcell := hcq _ _ (hc k x hx)
      have HX := Lib.hid hx
      have hkn : (k : Int) < (n : Int) := by omega
      have HI := fun w => in_any x 0 z1 w
      by_cases hin : 0 ≤ x ∧ x < z
      · obtain ⟨h0, h1⟩ := hin
        rw [inB_yes h0 (by have := HZ.out; omega)] at HI
        have HI := Lib.hid HI
        rcases Nat.eq_zero_or_pos k with hk0 | hk0
        · subst hk0
          have HN : Hid (riseB z (xs.take (0 + 1)) = true) := riseB_first hz2 hx h0 h1
          rw [Nat.add_zero] at hcell
          clear hcq hc hx
          go_wp2_with fail
          go_quiet ((go_at_call 97; exact quiet_left (HI.out _)))
          go_wp2
          go_roundw
          case rel => exact ⟨0 + 1, by omega, by go_num, HN, by obtain ⟨q, hq⟩ := HQ.out; exact ⟨q + nq, by rw [hq, World.drewN_drewN]⟩⟩
          case measure => simp [intOf]; omega
        · obtain ⟨j, rfl⟩ : ∃ j, k = j + 1 := ⟨k - 1, by omega⟩
          obtain ⟨y, hy⟩ := get_of_lt HV.out.1 (show j < n by omega)
          have hcy := hcq _ _ (hc j y hy)
          have hsub : ((j + 1 : Nat) : Int) - 1 = (j : Int) := by omega
          have hwr : IntKind.i64.wrap (((j + 1 : Nat) : Int) - 1) = (j : Int) := by rw [hsub, IntKind.wrap_i64]; omega
          have hjn : (j : Int) < (n : Int) := by omega
          have hk1 : (0 : Int) < ((j + 1 : Nat) : Int) := by omega
          have HY := Lib.hid hy
          by_cases hyx : y < x
          · have hge : ¬ x ≤ y := by omega
            have HN : Hid (riseB z (xs.take (j + 1 + 1)) = true) := riseB_next hz2 HA.out hy hx h0 h1 hyx
            clear hcq hc hx hy hk0
            go_wp2_with fail
            go_quiet ((go_at_call 97; exact quiet_left (HI.out _)))
            go_wp2
            go_roundw
            case rel => exact ⟨j + 1 + 1, by omega, by go_num, HN, by obtain ⟨q, hq⟩ := HQ.out; exact ⟨q + nq, by rw [hq, World.drewN_drewN]⟩⟩
            case measure => simp [intOf]; omega
          · have hge : x ≤ y := by omega
            have HF : Hid (r = false) := by unfold Hid; rw [← HR.out]; exact riseB_fall hz2 hy hx hyx
            clear hcq hc hx hy hk0 hyx
            go_wp2_with fail
            go_quiet ((go_at_call 97; exact quiet_left (HI.out _)))
            go_wp2
            go_ret
            exact ⟨ret_bool HF.out.symm, by obtain ⟨q, hq⟩ := HQ.out; exact ⟨q + nq, by rw [hq, World.drewN_drewN]⟩⟩
      · rw [inB_no (by have := HZ.out; omega)] at HI
        have HI := Lib.hid HI
        have HF : Hid (r = false) := by unfold Hid; rw [← HR.out]; exact riseB_out hx hin
        clear hcq hc hx hin
        go_wp2_with fail
        go_quiet ((go_at_call 97; exact quiet_left (HI.out _)))
        go_wp2
        go_ret
        exact ⟨ret_bool HF.out.symm, by obtain ⟨q, hq⟩ := HQ.out; exact ⟨q + nq, by rw [hq, World.drewN_drewN]⟩⟩
    · go_wp2
      go_ret
      have h_ := HA.out
      rw [List.take_of_length_le (by have := HV.out.1; omega)] at h_
      exact ⟨ret_bool (by rw [← HR.out]; exact h_.symm), HQ.out⟩

end Go.Proofs.Ytcmjkfcgekmomaa
