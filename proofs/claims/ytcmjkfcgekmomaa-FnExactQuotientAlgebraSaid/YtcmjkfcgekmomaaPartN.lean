/-
  Contracts: impl.IsPartition, IsFiner, MeetPartitions, JoinPartitions. Conditions: the bounds that each theorem names.
-/
import Derived.Test.YtcmjkfcgekmomaaPartL
namespace Go.Proofs.Ytcmjkfcgekmomaa
open Go.RowKit
set_option linter.unusedVariables false
set_option linter.unusedSimpArgs false

def valIsPartition (n : Int) (xs : List Int) : Bool × Bool := (pOfB n xs, inB 1 8 n)
def twoB (n : Int) (xs ys : List Int) : Bool := pOfB n xs && pOfB n ys
def valIsFiner (n : Int) (xs ys : List Int) : Bool × Bool := (twoB n xs ys && finB (gI xs) (gI ys) xs.length, twoB n xs ys)
def valMeetPartitions (n : Int) (xs ys : List Int) : List Int × Bool := if twoB n xs ys = true then (lstP xs.length (meetF (gI xs) (gI ys)), true) else ([], false)
def valJoinPartitions (n : Int) (xs ys : List Int) : List Int × Bool := if twoB n xs ys = true then (lstP xs.length (joinA (gI xs) (gI ys) xs.length), true) else ([], false)
theorem pOfB_of {n : Int} {xs : List Int} (h : pOfB n xs = true) : (1 ≤ n ∧ n ≤ 8) ∧ partB n xs = true := by
  simp only [pOfB, inB, Bool.and_eq_true, decide_eq_true_eq] at h
  exact h
theorem pOfB_len {n : Int} {xs : List Int} (h : pOfB n xs = true) : (xs.length : Int) = n ∧ 1 ≤ xs.length ∧ xs.length ≤ 8 := by
  obtain ⟨h1, h2⟩ := pOfB_of h
  obtain ⟨h3, _⟩ := partB_of h2
  omega
theorem twoB_of {n : Int} {xs ys : List Int} (h : twoB n xs ys = true) : pOfB n xs = true ∧ pOfB n ys = true := by simpa [twoB] using h
theorem smallMeetPartitions (n : Int) (xs ys : List Int) : (valMeetPartitions n xs ys).1.length ≤ 4194304 := by
  unfold valMeetPartitions
  split
  · rename_i h
    have := (pOfB_len (twoB_of h).1).2.2
    simp only [lstP_len]; omega
  · simp
theorem smallJoinPartitions (n : Int) (xs ys : List Int) : (valJoinPartitions n xs ys).1.length ≤ 4194304 := by
  unfold valJoinPartitions
  split
  · rename_i h
    have := (pOfB_len (twoB_of h).1).2.2
    simp only [lstP_len]; omega
  · simp





end Go.Proofs.Ytcmjkfcgekmomaa
