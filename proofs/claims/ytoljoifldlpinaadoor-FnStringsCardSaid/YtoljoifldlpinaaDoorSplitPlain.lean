/-
  Plain mathematics: a string cut at each occurrence of a byte. No condition; nothing of the program.
-/
import Derived.Test.YtoljoifldlpinaaDoorStrPlain
import Derived.Lib.Join
import Derived.Lib.Strings
namespace Go.Proofs.YtoljoifldlpinaaDoor
open Go

/-- After k bytes: where the open part begins, and the parts that are cut. -/
def cutAt (s : ByteArray) (c : UInt8) : Nat → Nat × List ByteArray
  | 0 => (0, [])
  | k + 1 => if s.data.toList[k]? = some c then (k + 1, (cutAt s c k).2 ++ [s.extract (cutAt s c k).1 k]) else cutAt s c k
def parts (s : ByteArray) (c : UInt8) : List ByteArray := (cutAt s c s.size).2 ++ [s.extract (cutAt s c s.size).1 s.size]
theorem cutAt_hit {s : ByteArray} {c : UInt8} {k : Nat} (hk : k < s.size) (h : s[k] = c) : cutAt s c (k + 1) = (k + 1, (cutAt s c k).2 ++ [s.extract (cutAt s c k).1 k]) := by
  have e : s.data.toList[k]? = some c := by rw [← h]; exact List.getElem?_eq_getElem (by simpa using hk)
  rw [cutAt, if_pos e]
theorem cutAt_miss {s : ByteArray} {c : UInt8} {k : Nat} (hk : k < s.size) (h : s[k] ≠ c) : cutAt s c (k + 1) = cutAt s c k := by
  have e : s.data.toList[k]? ≠ some c := by
    rw [List.getElem?_eq_getElem (by simpa using hk)]
    intro h2
    exact h (Option.some.inj h2)
  rw [cutAt, if_neg e]
theorem cutAt_le (s : ByteArray) (c : UInt8) : ∀ k, (cutAt s c k).1 ≤ k ∧ (cutAt s c k).2.length ≤ k
  | 0 => ⟨Nat.le_refl _, Nat.le_refl _⟩
  | k + 1 => by
    have h := cutAt_le s c k
    rw [cutAt]
    split
    · exact ⟨Nat.le_refl _, by simp; omega⟩
    · exact ⟨by omega, by omega⟩
theorem parts_pos (s : ByteArray) (c : UInt8) : 0 < (parts s c).length := by unfold parts; simp
theorem parts_le (s : ByteArray) (c : UInt8) : (parts s c).length ≤ s.size + 1 := by
  have := (cutAt_le s c s.size).2
  unfold parts
  simp
  omega

end Go.Proofs.YtoljoifldlpinaaDoor
