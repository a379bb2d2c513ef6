/-
  Contracts: the methods list and hasArgs of impl.elementSet. Conditions: the bounds that each theorem names.
-/
import Derived.Test.YtcmjkfcgekmomaaSetB
import Derived.Test.YtcmjkfcgekmomaaApp
import Derived.Test.YtcmjkfcgekmomaaMarkA
namespace Go.Proofs.Ytcmjkfcgekmomaa
open Go.RowKit
set_option linter.unusedVariables false
set_option linter.unusedSimpArgs false

theorem hasA_yes {s r : Nat} {z at_ : Int} (h : s.testBit (at_ % z).toNat = true) : hasA s z (r + 1) at_ = hasA s z r (at_ / z) := by simp [hasA, h]
theorem hasA_no {s r : Nat} {z at_ : Int} (h : s.testBit (at_ % z).toNat = false) : hasA s z (r + 1) at_ = false := by simp [hasA, h]

theorem hasArgs_any (s : Nat) (z : Int) (r : Nat) (at_ : Int) (w : World) (hs : s < 2 ^ 8) (hz1 : 1 ≤ z) (hz2 : z ≤ 8) (hr : r ≤ 3) (h0 : 0 ≤ at_) (h1 : at_ ≤ 4096) :
    Calls Try.prog 146 #[.int .u64 (s : Int), .int .i64 z, .int .i64 (r : Int), .int .i64 at_] w fun e w' => e = .returned (.bool (hasA s z r at_)) ∧ w = w' := by
  obtain ⟨t, ht⟩ : ∃ t, hasA s z r at_ = t := ⟨_, rfl⟩
  rw [ht]
  have HT := Lib.hid ht
  have HS := Lib.hid hs
  clear ht hs
  go_enter Try.func146, Try.ntmps146
  go_wp2
  go_loop [3, 10] (fun a i => ∃ (k : Nat) (v : Int), k ≤ r ∧ i = .int .i64 (k : Int) ∧ a = .int .i64 v ∧ 0 ≤ v ∧ v ≤ 4096 ∧ Hid (hasA s z (r - k) v = t)) (fun _ i => r - (intOf i).toNat)
  case atStart => exact ⟨0, at_, Nat.zero_le _, rfl, rfl, h0, h1, HT⟩
  case round =>
    obtain ⟨k, v, hk, rfl, rfl, hv0, hv1, HA⟩ := hrel
    by_cases hlt : k < r
    · have hm0 : 0 ≤ v % z := Int.emod_nonneg _ (by omega)
      have hm1 : v % z < z := Int.emod_lt_of_pos v (by omega)
      obtain ⟨d0, d1⟩ := digs_bd hz1 hv0
      have HB := fun w => has_any s (v % z) w HS.out hm0 (by omega)
      obtain ⟨u, hu⟩ : ∃ u, s.testBit (v % z).toNat = u := ⟨_, rfl⟩
      simp only [hu] at HB
      have HC := Lib.hid HB
      have HU := Lib.hid hu
      have hne : ¬ z = 0 := by omega
      have hkr : (k : Int) < (r : Int) := by omega
      clear HB hu
      cases u with
      | true =>
        go_wp2_with fail
        refine (HC.out _).mono ?_
        rintro e w' ⟨rfl, rfl⟩
        go_wp2_with fail
        go_round
        case rel => exact ⟨k + 1, v / z, by omega, by go_num, by go_num, d0, by omega, by have h_ := HA.out; rw [show r - k = (r - (k + 1)) + 1 by omega, hasA_yes HU.out] at h_; exact h_⟩
        case measure => simp [intOf]; omega
      | false =>
        go_wp2_with fail
        refine (HC.out _).mono ?_
        rintro e w' ⟨rfl, rfl⟩
        go_wp2_with fail
        go_ret
        exact ⟨ret_bool (by have h_ := HA.out; rw [show r - k = (r - (k + 1)) + 1 by omega, hasA_no HU.out] at h_; exact h_), rfl⟩
    · go_wp2
      go_ret
      exact ⟨ret_bool (by have h_ := HA.out; rw [show r - k = 0 by omega] at h_; exact h_), rfl⟩

end Go.Proofs.Ytcmjkfcgekmomaa
