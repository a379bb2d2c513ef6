/-
  Contracts: spec.l3Fits, spec.l3Value and spec.EvalTerm. Conditions: the bounds that each theorem names.
-/
import Derived.Test.YtplheohkecooeaaEvalI
import Derived.Test.YtplheohkecooeaaConcat
namespace Go.Proofs.Ytplheohkecooeaa
open Go.RowKit
set_option linter.unusedVariables false
set_option linter.unusedSimpArgs false
attribute [local go_sem ↓] Go.wp_at_zero Go.wp_at_succ

theorem fits_any (lo hi : Nat) (ao : Option Addr) (c n k : Nat) (xs : List Int) (w : World) (hx : IView w lo hi ao n xs) (hn : n ≤ 1048576) :
    Calls Try.prog 83 #[.slice ao n c, .int .i64 (k : Int)] w fun e w' => e = .returned (.bool (fitsB xs k)) ∧ w = w' := by
  have HX := Lib.hid hx
  obtain ⟨r, hr⟩ : ∃ r, fitsB xs k = r := ⟨_, rfl⟩
  have HR := Lib.hid hr
  rw [hr]
  clear hx hr
  go_enter Try.func83, Try.ntmps83
  go_wp2
  go_loop [5] (fun i => ∃ j : Nat, j ≤ n ∧ i = .int .i64 (j : Int) ∧ Hid (fitsB (xs.take j) k = true)) (fun i => n - (intOf i).toNat)
  case atStart => exact ⟨0, Nat.zero_le _, rfl, rfl⟩
  case round =>
    obtain ⟨j, hj, rfl, HA⟩ := hrel
    by_cases hlt : j < n
    · obtain ⟨b, o, rfl, _, _, hc⟩ := HX.out.at_ (by omega)
      obtain ⟨x, hx⟩ := get_of_lt HX.out.1 hlt
      have cx := hc j x hx
      have HXj := Lib.hid hx
      have hjn : (j : Int) < (n : Int) := by omega
      clear hc hx
      by_cases h0 : x < (k : Int)
      · have HN : Hid (fitsB (xs.take (j + 1)) k = true) := by
          have h1 := HA.out
          unfold Hid fitsB at h1 ⊢
          rw [List.take_add_one, HXj.out, List.all_append, h1]
          simp [h0]
        have hge : ¬ (k : Int) ≤ x := by omega
        go_wp2
        go_round
        case rel => exact ⟨j + 1, by omega, by go_num, HN⟩
        case measure => simp [intOf]; omega
      · have HN : Hid (false = r) := by
          unfold Hid
          rw [← HR.out]
          refine (Bool.not_eq_true _ ▸ fun h => ?_ : fitsB xs k = false).symm
          unfold fitsB at h
          have := List.all_eq_true.1 h x (List.mem_of_getElem? HXj.out)
          simp only [decide_eq_true_eq] at this
          exact h0 this
        have hge : (k : Int) ≤ x := by omega
        go_wp2
        go_ret
        exact ⟨ret_bool HN.out, rfl⟩
    · have hjn : ¬ (j : Int) < (n : Int) := by omega
      have HN : Hid (true = r) := by
        have h1 := HA.out
        rw [List.take_of_length_le (by have := HX.out.1; omega)] at h1
        unfold Hid
        rw [← HR.out, h1]
      go_wp2
      go_ret
      exact ⟨ret_bool HN.out, rfl⟩

end Go.Proofs.Ytplheohkecooeaa
