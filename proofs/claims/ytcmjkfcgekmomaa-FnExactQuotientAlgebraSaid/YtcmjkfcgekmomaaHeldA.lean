/-
  Contract: laws.heldAlgebra. Conditions: the bounds that it names.
-/
import Derived.Test.YtcmjkfcgekmomaaMarkA
namespace Go.Proofs.Ytcmjkfcgekmomaa
open Go.RowKit
set_option linter.unusedVariables false

/-! held -/
set_option maxHeartbeats 1000000 in
theorem heldOps_view (lo hi n c : Nat) (ao : Option Addr) (F : Nat → OpD) (k : Int) (w : World) (hk0 : 0 ≤ k) (hk : k + (preLen F n : Int) ≤ 4611686018427387904) (h : OView w lo hi ao n ((List.range n).map (markF k F))) :
    Calls Try.prog 64 #[.slice ao n c, .int .i64 k] w fun e w' => e = .returned (.int .i64 (k + (preLen F n : Int))) ∧ w = w' := by
  have HV := Lib.hid h
  have hnp := preLen_ge F n
  clear h
  go_enter Try.func64, Try.ntmps64
  go_wp2
  go_loop [1, 5] (fun kk i => ∃ j p : Nat, j ≤ n ∧ i = .int .i64 j ∧ kk = .int .i64 (k + (p : Int)) ∧ Hid (p = preLen F j)) (fun _ i => n - (intOf i).toNat)
  case atStart => exact ⟨0, 0, Nat.zero_le _, rfl, by simp, rfl⟩
  case round =>
    obtain ⟨j, p, hj, rfl, rfl, HP⟩ := hrel
    by_cases hlt : j < n
    · obtain ⟨b, o, rfl, _, _, hc⟩ := HV.out.at_ (by omega)
      obtain ⟨a, m, c', c0, c1, _, _, hv⟩ := hc j (markF k F j) (by simp [hlt])
      have hml : (F j).2.length = m := by have := hv.1; simpa [markF, upFrom_len] using this
      have hpm := preLen_mono F (show j + 1 ≤ n by omega)
      have hpe : preLen F (j + 1) = p + 1 + m := by rw [preLen, HP.out, hml]
      rw [hpe] at hpm
      have c0' : w.cell? ⟨b, o + j * 2, none⟩ = some (.int .i64 (k + (p : Int))) := by rw [c0, markF, ← HP.out]
      have hv2 : IView w lo hi a m (upFrom (k + (p : Int) + 1) m) := by
        have := hv
        rw [markF, ← HP.out, hml] at this
        exact this
      have HCall := Lib.hid (heldInts_view lo hi a c' m (k + (p : Int) + 1) w (by omega) (by omega) hv2)
      have HPE := Lib.hid hpe
      clear hc hv hml hpe c0 hv2
      go_wp2_with fail
      refine HCall.out.mono ?_
      rintro e w2 ⟨rfl, rfl⟩
      go_wp2_with fail
      go_round
      case rel => exact ⟨j + 1, p + 1 + m, by omega, by go_num, by go_num, HPE.out.symm⟩
      case measure => simp [intOf]; omega
    · go_wp2
      go_ret
      obtain rfl : j = n := by omega
      exact ⟨ret_int (by rw [HP.out]), rfl⟩

theorem heldAlg_view (lo hi n c : Nat) (z : Int) (ao : Option Addr) (F : Nat → OpD) (k : Int) (w : World) (hk0 : 0 ≤ k) (hk : k + (preLen F n : Int) ≤ 4611686018427387904) (h : OView w lo hi ao n ((List.range n).map (markF k F))) (hh : hi ≤ w.heap.size) :
    Calls Try.prog 27 #[.agg #[.int .i64 z, .slice ao n c], .int .i64 k] w fun e w' => e = .returned (.int .i64 (k + (preLen F n : Int))) ∧ Below w.heap.size w w' := by
  have hB := (Below.refl w.heap.size w).alloc (Nat.le_refl _) (.cells #[.int .i64 z, .slice ao n c] 31)
  have hc := heldOps_view lo hi n c ao F k _ hk0 hk (h.kept (Kept.of_below hB hh))
  have HB := Lib.hid hB
  obtain ⟨q, hq, hq0⟩ : ∃ q, q = k + (preLen F n : Int) ∧ 0 ≤ q := ⟨_, rfl, by omega⟩
  rw [← hq] at hc ⊢
  have HC := Lib.hid hc
  clear hc h hB hk hq
  go_enter Try.func27, Try.ntmps27
  go_wp2_with fail
  refine HC.out.mono ?_
  rintro e w1 ⟨rfl, rfl⟩
  go_wp2_with fail
  go_ret
  exact ⟨rfl, HB.out⟩


end Go.Proofs.Ytcmjkfcgekmomaa
