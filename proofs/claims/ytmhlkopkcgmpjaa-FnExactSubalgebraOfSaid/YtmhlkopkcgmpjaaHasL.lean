/-
  Contract: spec.l1Has. Conditions: the bounds that it names.
-/
import Derived.Test.YtmhlkopkcgmpjaaIsAlg
namespace Go.Proofs.Ytmhlkopkcgmpjaa
open Go.RowKit
set_option linter.unusedVariables false
set_option linter.unusedSimpArgs false

theorem l1Has_any (lo hi : Nat) (ao : Option Addr) (c n : Nat) (xs : List Int) (x : Int) (w : World) (h : IView w lo hi ao n xs) (hn : n ≤ maxLen) :
    Calls Try.prog 66 #[.slice ao n c, .int .i64 x] w fun e w' => e = .returned (.bool (decide (x ∈ xs))) ∧ w = w' := by
  unfold maxLen at hn
  have HV := Lib.hid h
  obtain ⟨r, hr⟩ : ∃ r, decide (x ∈ xs) = r := ⟨_, rfl⟩
  have HR := Lib.hid hr
  rw [hr]
  clear h hr
  go_enter Try.func66, Try.ntmps66
  go_wp2
  go_loop [5] (fun i => ∃ k : Nat, k ≤ n ∧ i = .int .i64 k ∧ Hid (¬ x ∈ xs.take k)) (fun i => n - (intOf i).toNat)
  case atStart => exact ⟨0, Nat.zero_le _, rfl, by unfold Hid; simp⟩
  case round =>
    obtain ⟨k, hk, rfl, HA⟩ := hrel
    by_cases hlt : k < n
    · obtain ⟨b, o, rfl, _, _, hc⟩ := HV.out.at_ (by omega)
      obtain ⟨y, hy⟩ := get_of_lt HV.out.1 hlt
      have hcell := hc k y hy
      have HY := Lib.hid hy
      clear hc hy
      by_cases hxy : y = x
      · subst hxy
        go_wp2
        go_ret
        exact ⟨ret_bool (by rw [← HR.out]; exact (decide_eq_true (List.mem_of_getElem? HY.out)).symm), rfl⟩
      · have hne : (y == x) = false := by simp [hxy]
        have HN : Hid (¬ x ∈ xs.take (k + 1)) := by
          unfold Hid
          rw [List.take_add_one, HY.out, Option.toList_some, List.mem_append, List.mem_singleton]
          rintro (h_ | h_)
          · exact HA.out h_
          · exact hxy h_.symm
        go_wp2
        go_round
        case rel => exact ⟨k + 1, by omega, by go_num, HN⟩
        case measure => simp [intOf]; omega
    · go_wp2
      go_ret
      refine ⟨ret_bool ?_, rfl⟩
      rw [← HR.out]
      have h_ := HA.out
      rw [List.take_of_length_le (by have := HV.out.1; omega)] at h_
      exact (decide_eq_false h_).symm

end Go.Proofs.Ytmhlkopkcgmpjaa
