/-
  Contracts: both GenerateSub and both IsGenerating. Conditions: the bounds that each theorem names.
-/
import Derived.Test.YtcmjkfcgekmomaaSome
import Derived.Test.YtcmjkfcgekmomaaSetR
import Derived.Test.YtcmjkfcgekmomaaCloseC
import Derived.Test.YtcmjkfcgekmomaaSmL
import Derived.Deep.RegionHeld3
namespace Go.Proofs.Ytcmjkfcgekmomaa
open Go.RowKit
set_option linter.unusedVariables false
set_option linter.unusedSimpArgs false

def valGenerateSub (z : Int) (fs : List OpD) (xs : List Int) : List Int × Bool := if someB z fs xs then (listK (closeN z fs (setN xs)) 8, true) else ([], false)
theorem val_gen_no {z : Int} {fs : List OpD} {xs : List Int} (h : someB z fs xs = false) : valGenerateSub z fs xs = ([], false) := by simp [valGenerateSub, h]
theorem val_gen_yes {z : Int} {fs : List OpD} {xs : List Int} (h : someB z fs xs = true) : valGenerateSub z fs xs = (listK (closeN z fs (setN xs)) 8, true) := by simp [valGenerateSub, h]
theorem smallGenerateSub (z : Int) (fs : List OpD) (xs : List Int) : (valGenerateSub z fs xs).1.length ≤ 4194304 := by
  unfold valGenerateSub
  split
  · have := listK_le (closeN z fs (setN xs)) 8; simp only; omega
  · simp
def valIsGenerating (z : Int) (fs : List OpD) (xs : List Int) : Bool × Bool := (someB z fs xs && decide (closeN z fs (setN xs) = 2 ^ z.toNat - 1), someB z fs xs)
theorem val_isg_no {z : Int} {fs : List OpD} {xs : List Int} (h : someB z fs xs = false) : valIsGenerating z fs xs = (false, false) := by simp [valIsGenerating, h]
theorem val_isg_yes {z : Int} {fs : List OpD} {xs : List Int} (h : someB z fs xs = true) : valIsGenerating z fs xs = (decide (closeN z fs (setN xs) = 2 ^ z.toNat - 1), true) := by simp [valIsGenerating, h]

theorem nat_beq (a b : Nat) : ((a : Int) == (b : Int)) = decide (a = b) := by
  by_cases h : a = b
  · simp [h]
  · have h2 : ¬ (a : Int) = (b : Int) := by omega
    rw [decide_eq_false h, beq_eq_false_iff_ne]; exact h2
theorem ret_two {a b : Bool} (h : a = b) : Ending.returned (.tuple #[.bool a, .bool true]) = .returned (.tuple #[.bool b, .bool true]) := by rw [h]
theorem full_bit (n k : Nat) : (2 ^ n - 1).testBit k = decide (k < n) := Nat.testBit_two_pow_sub_one n k
theorem full_lt (n : Nat) : 2 ^ n - 1 < 2 ^ n := by have := Nat.two_pow_pos n; omega
theorem listK_full_len (n : Nat) : ∀ k, k ≤ n → (listK (2 ^ n - 1) k).length = k := by
  intro k
  induction k with
  | zero => intro _; rfl
  | succ k ih =>
    intro hk
    rw [listK_yes (by rw [full_bit]; exact decide_eq_true (by omega)), List.length_append, ih (by omega)]; rfl
theorem full_iff {s n : Nat} (hs : s < 2 ^ n) : (listK s n).length = n ↔ s = 2 ^ n - 1 := by
  constructor
  · intro h
    apply Classical.byContradiction
    intro hne
    have h1 := listK_lt_len (s := s) (t := 2 ^ n - 1) n hs (full_lt n) (fun k hk => by
      rw [full_bit]
      refine decide_eq_true ?_
      rcases Nat.lt_or_ge k n with h2 | h2
      · exact h2
      · rw [bit_of_lt hs h2] at hk; cases hk) hne
    rw [listK_full_len n n (Nat.le_refl _)] at h1
    omega
  · rintro rfl; exact listK_full_len n n (Nat.le_refl _)



theorem all_val {z : Int} (h1 : 1 ≤ z) (h2 : z ≤ 8) : IntKind.u64.wrap (IntKind.u64.wrap (2 ^ z.toNat) - 1) = ((2 ^ z.toNat - 1 : Nat) : Int) := by
  have h : z = 1 ∨ z = 2 ∨ z = 3 ∨ z = 4 ∨ z = 5 ∨ z = 6 ∨ z = 7 ∨ z = 8 := by omega
  rcases h with rfl | rfl | rfl | rfl | rfl | rfl | rfl | rfl <;> decide



end Go.Proofs.Ytcmjkfcgekmomaa
