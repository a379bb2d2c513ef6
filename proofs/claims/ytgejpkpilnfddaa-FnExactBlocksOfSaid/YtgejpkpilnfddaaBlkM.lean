/-
  Plain mathematics: the blocks of a partition, as bits and as lists. No condition.
-/
import Derived.Test.YtgejpkpilnfddaaPartM
import Derived.Test.YtgejpkpilnfddaaSetM
namespace Go.Proofs.Ytgejpkpilnfddaa
open Go.RowKit
set_option linter.unusedVariables false
set_option linter.unusedSimpArgs false

/-- The elements below k that f gives to x: as bits, and as a list. -/
def blkN (f : Nat → Int) : Nat → Nat → Nat
  | 0, _ => 0
  | k + 1, x => if f k = (x : Int) then blkN f k x ||| 2 ^ k else blkN f k x
def blkL (f : Nat → Int) (x : Nat) : Nat → List Int
  | 0 => []
  | k + 1 => if f k = (x : Int) then blkL f x k ++ [(k : Int)] else blkL f x k
theorem blkN_bit (f : Nat → Int) (x j : Nat) : ∀ k, (blkN f k x).testBit j = (decide (j < k) && decide (f j = (x : Int)))
  | 0 => by simp [blkN]
  | k + 1 => by
    rw [blkN]
    split
    · rename_i h
      rw [Nat.testBit_or, blkN_bit f x j k, bit_pow]
      by_cases hj : k = j
      · subst hj; simp [h]
      · have : decide (j < k + 1) = decide (j < k) := by
          by_cases h2 : j < k
          · simp [h2, show j < k + 1 by omega]
          · simp [h2, show ¬ j < k + 1 by omega]
        simp [hj, this]
    · rename_i h
      rw [blkN_bit f x j k]
      by_cases hj : k = j
      · subst hj; simp [h]
      · have : decide (j < k + 1) = decide (j < k) := by
          by_cases h2 : j < k
          · simp [h2, show j < k + 1 by omega]
          · simp [h2, show ¬ j < k + 1 by omega]
        rw [this]
theorem blkN_lt (f : Nat → Int) (x k : Nat) : blkN f k x < 2 ^ k := by
  apply lt_of_bits
  intro j hj
  rw [blkN_bit] at hj
  simp at hj
  exact hj.1
theorem blk_list (f : Nat → Int) (x n : Nat) : ∀ k, k ≤ n → listK (blkN f n x) k = blkL f x k
  | 0, _ => rfl
  | k + 1, h => by
    have hb := blkN_bit f x k n
    rw [blkL]
    by_cases hf : f k = (x : Int)
    · rw [if_pos hf, listK_yes (by rw [hb]; simp [hf]; omega), blk_list f x n k (by omega)]
    · rw [if_neg hf, listK_no (by rw [hb]; simp [hf]), blk_list f x n k (by omega)]
theorem blk_list8 (f : Nat → Int) (x n : Nat) (h : n ≤ 8) : listK (blkN f n x) 8 = blkL f x n := by
  rw [listK_more (blkN_lt f x n) h, blk_list f x n n (Nat.le_refl _)]
/-- Below the least element of a block there is nothing of it. -/
theorem blkL_low {f : Nat → Int} {x : Nat} : ∀ k, k ≤ x → (∀ y, y < k → f y ≤ (y : Int)) → blkL f x k = []
  | 0, _, _ => rfl
  | k + 1, h, hf => by
    have := hf k (by omega)
    rw [blkL, if_neg (by omega), blkL_low k (by omega) fun y hy => hf y (by omega)]
/-- All blocks in the order of their least elements. -/
def blksL (f : Nat → Int) (n : Nat) : Nat → List (List Int)
  | 0 => []
  | k + 1 => if f k = (k : Int) then blksL f n k ++ [blkL f k n] else blksL f n k
theorem blksL_le (f : Nat → Int) (n : Nat) : ∀ k, (blksL f n k).length ≤ k
  | 0 => by simp [blksL]
  | k + 1 => by
    have := blksL_le f n k
    rw [blksL]
    split
    · simp; omega
    · omega
theorem blkL_le (f : Nat → Int) (x : Nat) : ∀ k, (blkL f x k).length ≤ k
  | 0 => by simp [blkL]
  | k + 1 => by
    have := blkL_le f x k
    rw [blkL]
    split
    · simp; omega
    · omega
theorem blks_filter {f : Nat → Int} {n : Nat} (h8 : n ≤ 8) (hk : okAll f n = true) : ∀ k, k ≤ n → (((List.range k).map (blkN f n)).filter fun s => !(s == 0)).map (fun s => listK s 8) = blksL f n k
  | 0, _ => rfl
  | k + 1, h => by
    rw [List.range_succ, List.map_append, List.filter_append, List.map_append, blks_filter h8 hk k (by omega), blksL]
    have hz : (blkN f n k == 0) = !decide (f k = (k : Int)) := by
      by_cases hf : f k = (k : Int)
      · have hb : (blkN f n k).testBit k = true := by rw [blkN_bit]; simp [hf]; omega
        have hne : ¬ blkN f n k = 0 := fun e => by rw [e] at hb; simp at hb
        simp [hf, hne]
      · have : blkN f n k = 0 := by
          apply Nat.eq_of_testBit_eq
          intro j
          rw [blkN_bit, Nat.zero_testBit]
          by_cases hj : j < n
          · by_cases he : f j = (k : Int)
            · have h2 := (okAll_get hk hj).2
              rw [he, Int.toNat_natCast] at h2
              exact absurd h2 hf
            · simp [he]
          · simp [hj]
        simp [hf, this]
    by_cases hf : f k = (k : Int)
    · simp [hf, hz, blk_list8 f k n h8]
    · simp [hf, hz]
theorem lsum_blks (f : Nat → Int) (n : Nat) : ∀ k, ((blksL f n k).map List.length).sum ≤ k * n
  | 0 => by simp [blksL]
  | k + 1 => by
    have h1 := lsum_blks f n k
    have h2 := blkL_le f k n
    rw [Nat.succ_mul, blksL]
    split
    · simp; omega
    · omega

end Go.Proofs.Ytgejpkpilnfddaa
