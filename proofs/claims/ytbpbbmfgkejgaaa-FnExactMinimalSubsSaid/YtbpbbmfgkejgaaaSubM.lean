/-
  Plain mathematics: what AllSubuniverses and SubsThrough tell. No condition.
-/
import Derived.Test.YtbpbbmfgkejgaaaAllM
import Derived.Test.YtbpbbmfgkejgaaaRiseM
import Derived.Test.YtbpbbmfgkejgaaaGood
namespace Go.Proofs.Ytbpbbmfgkejgaaa
open Go.RowKit
set_option linter.unusedVariables false
set_option linter.unusedSimpArgs false

/-- A set is closed, and q accepts it. -/
def subP (z : Int) (fs : List OpD) (q : Nat → Bool) (s : Nat) : Bool := q s && decide (stepN z fs s = s)
def valAllSubuniverses (z : Int) (fs : List OpD) : List (List Int) × Bool := if algOkB z fs then (allL (subP z fs fun _ => true) (2 ^ z.toNat), true) else ([], false)
def valSubsThrough (z : Int) (fs : List OpD) (x : Int) : List (List Int) × Bool := if algOkB z fs && inB 0 (z - 1) x then (allL (subP z fs fun s => s.testBit x.toNat) (2 ^ z.toNat), true) else ([], false)
theorem full_step {z : Int} {fs : List OpD} {n : Nat} (hok : algOkB z fs = true) (hz : z ≤ (n : Int)) : stepN z fs (2 ^ n - 1) = 2 ^ n - 1 := by
  have h1 : 2 ^ n - 1 < 2 ^ n := by have := Nat.two_pow_pos n; omega
  have h2 := stepN_lt (s := 2 ^ n - 1) hok hz h1
  refine Nat.eq_of_testBit_eq fun k => ?_
  by_cases hk : k < n
  · rw [stepN_sub (by rw [Nat.testBit_two_pow_sub_one]; exact decide_eq_true hk), Nat.testBit_two_pow_sub_one, decide_eq_true hk]
  · have hp : 2 ^ n ≤ 2 ^ k := Nat.pow_le_pow_right (by decide) (by omega)
    rw [Nat.testBit_lt_two_pow (by omega), Nat.testBit_two_pow_sub_one, decide_eq_false hk]
theorem allL_congr {p p' : Nat → Bool} : ∀ {b : Nat}, (∀ s, s < b → p s = p' s) → allL p b = allL p' b
  | 0, _ => rfl
  | b + 1, h => by rw [allL, allL, h b (by omega), allL_congr fun s hs => h s (by omega)]
/-- A list of a set's elements is a subuniverse where the set is closed. -/
theorem isSub_list {z : Int} {fs : List OpD} {s : Nat} (hs : s < 2 ^ z.toNat) (hz : z.toNat ≤ 8) : isSubB z fs (listK s 8) = decide (stepN z fs s = s) := by
  have hs8 : s < 2 ^ 8 := Nat.lt_of_lt_of_le hs (Nat.pow_le_pow_right (by decide) hz)
  have h1 : setN (listK s 8) = s := set_list hs8
  have h2 : riseB z (listK s 8) = true := by
    unfold riseB
    rw [h1]
    simp only [Bool.and_eq_true, decide_eq_true_eq, and_true]
    rw [allIn, List.all_eq_true]
    intro x hx
    obtain ⟨j, hj, rfl, hb⟩ := (mem_listK _ _ _).1 hx
    have : j < z.toNat := by
      by_cases hlt : j < z.toNat
      · exact hlt
      · have hp : 2 ^ z.toNat ≤ 2 ^ j := Nat.pow_le_pow_right (by decide) (by omega)
        rw [Nat.testBit_lt_two_pow (by omega)] at hb
        cases hb
    exact decide_eq_true ⟨by omega, by omega⟩
  rw [isSubB_step h2, h1]
theorem lsum_le {k : Nat} : ∀ {ls : List (List Int)}, (∀ y, y ∈ ls → y.length ≤ k) → (ls.map List.length).sum ≤ ls.length * k
  | [], _ => by simp
  | y :: r, h => by
    have h1 := h y (by simp)
    have h2 := lsum_le (k := k) (ls := r) fun x hx => h x (by simp [hx])
    simp only [List.map_cons, List.sum_cons, List.length_cons, Nat.succ_mul]
    omega

end Go.Proofs.Ytbpbbmfgkejgaaa
