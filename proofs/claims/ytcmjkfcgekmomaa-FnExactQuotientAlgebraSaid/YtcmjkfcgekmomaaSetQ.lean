/-
  Contract: the method list of impl.elementSet. Conditions: the bounds that it names.
-/
import Derived.Test.YtcmjkfcgekmomaaSetB
import Derived.Test.YtcmjkfcgekmomaaApp
import Derived.Test.YtcmjkfcgekmomaaMarkA
import Derived.RangeFuncBox
namespace Go.Proofs.Ytcmjkfcgekmomaa
open Go.RowKit
set_option linter.unusedVariables false
set_option linter.unusedSimpArgs false

/-- A list of integers in memory of the call's own. -/
def ListAt (w w' : World) (xs : List Int) (e : Ending) : Prop :=
  ∃ a m d, e = .returned (.slice a m d) ∧ m = xs.length ∧ w'.ownsRow w.heap.size 3 1 (.slice a m d) m (xs.map (Value.int .i64)) ∧ Below w.heap.size w w'

set_option maxHeartbeats 1000000 in
theorem list_any (s : Nat) (w : World) (hs : s < 2 ^ 8) :
    Calls Try.prog 81 #[.int .u64 (s : Int)] w fun e w' => ListAt w w' (listK s 8) e := by
  obtain ⟨i0, hi0, hz0, hz1, hz2⟩ := info_parts Try.infoInt
  have HS := Lib.hid hs
  clear hs
  unfold ListAt
  go_enter Try.func81, Try.ntmps81
  go_wp2
  go_loopw [3, 5] (fun v i wr => ∃ (j t vc : Nat) (va : Option Addr), j ≤ 8 ∧ i = .int .i64 (j : Int) ∧ v = .slice va t vc ∧ t ≤ j ∧ Hid (wr.ownsRow w.heap.size 3 1 (.slice va t vc) t ((listK s j).map (Value.int .i64))) ∧ Hid (Below w.heap.size w wr)) (fun _ i _ => 8 - (intOf i).toNat)
  case atStart => exact ⟨0, 0, 0, none, Nat.zero_le _, rfl, rfl, Nat.le_refl _, World.ownsRow_nil _ _ _ _, Below.refl _ _⟩
  case round =>
    obtain ⟨j, t, vc, va, hj, rfl, rfl, htj, HR, HBr⟩ := hrel
    by_cases hj8 : j < 8
    · have hjn : (j : Int) < 8 := by omega
      have HC := fun w => has_any s (j : Int) w HS.out (by omega) hjn
      simp only [Int.toNat_natCast] at HC
      obtain ⟨u, hu⟩ : ∃ u, s.testBit j = u := ⟨_, rfl⟩
      simp only [hu] at HC
      have HC := Lib.hid HC
      have HU := Lib.hid hu
      clear hu
      cases u with
      | true =>
        go_wp2_with fail
        refine (HC.out _).mono ?_
        rintro e w' ⟨rfl, rfl⟩
        go_wp2_with (at_builtin; refine wpList_append_own _ rfl _ _ 25 rfl w.heap.size 3 i0 (.int .i64 0) 1 8 Try.underlying25 hi0 hz0 hz1 hz2 rfl (by decide) (.slice va t vc) t ((listK s j).map (Value.int .i64)) rfl (HR.out.alloc _) ⟨wr.heap.size, 0, none⟩ 1 1 [.int .i64 (j : Int)] rfl rfl (cell_one_new _ _ _) (fun x hx => by simp at hx; subst hx; rfl) (by unfold maxLen; omega) (by omega) (by have := HBr.out.size; simp; omega) ?_; intro v' w3 hown' hgrow' hnil')
        obtain ⟨g, cap, rfl⟩ := ownsRow_succ hown'
        have HB3 := Lib.hid ((HBr.out.alloc HBr.out.size (.cells #[.int .i64 (j : Int)] 3)).grown hgrow' (by have := HBr.out.size; simp; omega) (fun q hq => (HR.out.lt q hq).1))
        have HO3 : Hid (w3.ownsRow w.heap.size 3 1 (.slice (some ⟨g, 0, none⟩) (t + 1) cap) (t + 1) ((listK s (j + 1)).map (Value.int .i64))) := by
          unfold Hid
          rw [listK_yes HU.out, List.map_append]
          exact hown'
        clear hown' hgrow' hnil'
        go_wp2_with fail
        go_roundw
        case rel => exact ⟨j + 1, t + 1, cap, _, by omega, by go_num, rfl, by omega, HO3, HB3⟩
        case measure => simp [intOf]; omega
      | false =>
        have HO2 : Hid (wr.ownsRow w.heap.size 3 1 (.slice va t vc) t ((listK s (j + 1)).map (Value.int .i64))) := by
          unfold Hid; rw [listK_no HU.out]; exact HR.out
        go_wp2_with fail
        refine (HC.out _).mono ?_
        rintro e w' ⟨rfl, rfl⟩
        go_wp2_with fail
        go_roundw
        case rel => exact ⟨j + 1, t, vc, va, by omega, by go_num, rfl, by omega, HO2, HBr⟩
        case measure => simp [intOf]; omega
    · obtain rfl : j = 8 := by omega
      go_wp2
      go_ret
      exact ⟨va, t, vc, rfl, by have h_ := HR.out.1; simp at h_; exact h_.symm, HR.out, HBr.out⟩

theorem Try.infoSet : (Try.prog.info? 62).map (fun i => (i.zero, i.size, i.bytes)) = some (some (.int .u64 0), 1, 8) := by kernel_rfl
/-- The rounds in memory of the call's own. -/
def setV (s : Nat) : Value := .int .u64 (s : Int)

end Go.Proofs.Ytcmjkfcgekmomaa
