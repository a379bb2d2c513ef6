/-
  Contract: impl.indexOfArgs: the place of a list of arguments in a table. Conditions: the bounds that it names.
-/
import Derived.Test.YtcmjkfcgekmomaaIdxM
import Derived.Test.YtcmjkfcgekmomaaIsAlg
namespace Go.Proofs.Ytcmjkfcgekmomaa
open Go.RowKit
set_option linter.unusedVariables false
set_option linter.unusedSimpArgs false

theorem idx_impl (lo hi : Nat) (z : Int) (ao : Option Addr) (c n : Nat) (xs : List Int) (w : World) (h : IView w lo hi ao n xs) (h1 : 1 ≤ z) (h2 : z ≤ 8) (ha : allIn z xs = true) (hn : n ≤ 3) :
    Calls Try.prog 112 #[.int .i64 z, .slice ao n c] w fun e w' => e = .returned (.int .i64 (idxA z xs)) ∧ w = w' := by
  have HV := Lib.hid h
  have HA := Lib.hid ha
  clear h ha
  go_enter Try.func112, Try.ntmps112
  go_wp2
  go_loop [5, 10] (fun p i => ∃ (k : Nat) (v : Int), k ≤ n ∧ i = .int .i64 (k : Int) ∧ p = .int .i64 v ∧ Hid (v = idxA z (xs.take k))) (fun _ i => n - (intOf i).toNat)
  case atStart => exact ⟨0, 0, Nat.zero_le _, rfl, rfl, rfl⟩
  case round =>
    obtain ⟨k, v, hk, rfl, rfl, HVal⟩ := hrel
    by_cases hlt : k < n
    · obtain ⟨b, o, rfl, _, _, hc⟩ := HV.out.at_ (by omega)
      obtain ⟨x, hx⟩ := get_of_lt HV.out.1 hlt
      have hcell := hc k x hx
      obtain ⟨q0, q1, q2, q3, q4, q5⟩ := idx_step h1 h2 HA.out (by have := HV.out.1; omega) hx
      rw [← HVal.out] at q2 q3 q4 q5
      have HX := Lib.hid hx
      clear hc hx
      go_wp2
      go_round
      case rel => exact ⟨k + 1, v * z + x, by omega, by go_num, rfl, by unfold Hid; rw [idxA_succ HX.out, HVal.out]⟩
      case measure => simp [intOf]; omega
    · go_wp2
      go_ret
      exact ⟨ret_int (by rw [HVal.out, idx_all (by have := HV.out.1; omega)]), rfl⟩

end Go.Proofs.Ytcmjkfcgekmomaa
