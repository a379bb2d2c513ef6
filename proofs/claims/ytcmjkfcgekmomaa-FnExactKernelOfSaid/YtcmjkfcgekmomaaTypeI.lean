/-
  Contract: impl.TypeOf. Conditions: the bounds that each theorem names.
-/
import Derived.Test.YtcmjkfcgekmomaaSig
namespace Go.Proofs.Ytcmjkfcgekmomaa
open Go.RowKit
set_option linter.unusedVariables false
set_option linter.unusedSimpArgs false

theorem sg_list {fs : List OpD} {n : Nat} (hl : fs.length = n) (hn : n ≤ 4) : ([sg fs n 0, sg fs n 1, sg fs n 2, sg fs n 3].take n) = typeV fs := by
  subst hl
  match fs, hn with
  | [], _ => rfl
  | [a], _ => simp [sg, typeV]
  | [a, b], _ => simp [sg, typeV]
  | [a, b, c], _ => simp [sg, typeV]
  | [a, b, c, d], _ => simp [sg, typeV]
  | a :: b :: c :: d :: x :: r, h => simp at h

theorem slice_four (W : World) (B n : Nat) (hn : n ≤ 4) : (Instr.sliceAt 134 (.pointer (some ⟨B, 1, none⟩)) none (some (.int .i64 (n : Int))) none).run Try.prog W = .ok (.slice (some ⟨B, 1, none⟩) n 4) W := by
  have ha : Try.prog.arrayLen 134 = 4 := by kernel_rfl
  have he : Try.prog.elem 134 = 3 := by kernel_rfl
  have ht : Try.prog.underlying 134 = some (.array (Try.prog.arrayLen 134) (Try.prog.elem 134)) := by kernel_rfl
  have hs : (sizeOf 3).run Try.prog W = .ok 1 W := by kernel_rfl
  rw [run_sliceAt_array_h W 134 ⟨B, 1, none⟩ ht .i64 (n : Int) (by omega) (by rw [ha]; omega), he, hs, ha]
  simp [Result.andThen, slicedAt, Addr.add]


end Go.Proofs.Ytcmjkfcgekmomaa
