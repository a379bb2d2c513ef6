/-
  Contract: spec.Checksum returns the checksum of the string and true, or 0 and false where it has more than 4000 bytes. No other condition.
-/
import Derived.Test.YtoljoifldlpinaaStrSum
namespace Go.Proofs.Ytoljoifldlpinaa
open Go.RowKit

theorem specSum_yes (s : ByteArray) (w : World) (hs : s.size ≤ 4000) :
    Calls Try.prog 23 #[.string s] w fun e w' => e = .returned (.tuple #[.int .i64 (ck s.data.toList), .bool true]) ∧ w = w' := by
  go_enter Try.func23, Try.ntmps23
  go_wp2_with (go_at_call 35; refine (l1Sum_any s _ (by unfold maxLen; omega)).mono ?_; rintro e w' ⟨rfl, rfl⟩)
  go_ret2
  exact ⟨rfl, rfl⟩

theorem specSum_no (s : ByteArray) (w : World) (hs : 4000 < s.size) :
    Calls Try.prog 23 #[.string s] w fun e w' => e = .returned (.tuple #[.int .i64 0, .bool false]) ∧ w = w' := by
  go_enter Try.func23, Try.ntmps23
  go_wp2
  go_ret2
  exact ⟨rfl, rfl⟩

end Go.Proofs.Ytoljoifldlpinaa
