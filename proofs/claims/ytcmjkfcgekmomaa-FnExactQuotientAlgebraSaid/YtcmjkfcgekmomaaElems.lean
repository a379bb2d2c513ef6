/-
  Contract: spec.l2Elements. Conditions: the bounds that it names.
-/
import Derived.Test.YtcmjkfcgekmomaaGood
namespace Go.Proofs.Ytcmjkfcgekmomaa
open Go.RowKit
set_option linter.unusedVariables false
set_option linter.unusedSimpArgs false

theorem elems_spec (lo hi : Nat) (z : Int) (ao : Option Addr) (c n : Nat) (xs : List Int) (w : World) (h : IView w lo hi ao n xs) (hz0 : -9223372036854775807 ≤ z) (hz1 : z ≤ 9223372036854775807) (hn : n ≤ maxLen) :
    Calls Try.prog 128 #[.int .i64 z, .slice ao n c] w fun e w' => e = .returned (.bool (allIn z xs)) ∧ w = w' := by
  unfold maxLen at hn
  have HV := Lib.hid h
  obtain ⟨r, hr⟩ : ∃ r, allIn z xs = r := ⟨_, rfl⟩
  have HR := Lib.hid hr
  rw [hr]
  clear h hr
  go_enter Try.func128, Try.ntmps128
  go_wp2
  go_loop [5] (fun i => ∃ k : Nat, k ≤ n ∧ i = .int .i64 k ∧ Hid (allIn z (xs.take k) = true)) (fun i => n - (intOf i).toNat)
  case atStart => exact ⟨0, Nat.zero_le _, rfl, rfl⟩
  case round =>
    obtain ⟨k, hk, rfl, HA⟩ := hrel
    by_cases hlt : k < n
    · obtain ⟨b, o, rfl, _, _, hc⟩ := HV.out.at_ (by omega)
      obtain ⟨x, hx⟩ := get_of_lt HV.out.1 hlt
      have hcell := hc k x hx
      have hcall := fun w => in_any x 0 (z - 1) w
      have HX := Lib.hid hx
      clear hc hx
      by_cases h0 : 0 ≤ x ∧ x < z
      · obtain ⟨h0, h1⟩ := h0
        rw [inB_yes h0 (by omega)] at hcall
        have HCall := Lib.hid hcall
        clear hcall
        go_wp2_with fail
        refine (HCall.out _).mono ?_
        rintro e w' ⟨rfl, rfl⟩
        go_wp2_with fail
        go_round
        case rel => exact ⟨k + 1, by omega, by go_num, allIn_succ HX.out HA.out h0 h1⟩
        case measure => simp [intOf]; omega
      · rw [inB_no (by omega)] at hcall
        have HCall := Lib.hid hcall
        have HN := Lib.hid h0
        clear hcall h0
        go_wp2_with fail
        refine (HCall.out _).mono ?_
        rintro e w' ⟨rfl, rfl⟩
        go_wp2_with fail
        go_ret
        exact ⟨ret_bool ((allIn_no HX.out HN.out).symm.trans HR.out), rfl⟩
    · go_wp2
      go_ret
      refine ⟨ret_bool ?_, rfl⟩
      rw [← HR.out]
      exact (allIn_take_all (by have := HV.out.1; omega) HA.out).symm

end Go.Proofs.Ytcmjkfcgekmomaa
