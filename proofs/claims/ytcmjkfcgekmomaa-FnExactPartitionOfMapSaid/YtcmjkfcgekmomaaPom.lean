/-
  Contracts: impl.PartitionOfMap, spec.PartitionOfMap. Conditions: the bounds that each theorem names.
-/
import Derived.Test.YtcmjkfcgekmomaaPvI
import Derived.Test.YtcmjkfcgekmomaaL9k
import Derived.Test.YtcmjkfcgekmomaaPartS
import Derived.Test.YtcmjkfcgekmomaaIsSz
namespace Go.Proofs.Ytcmjkfcgekmomaa
open Go.RowKit
set_option linter.unusedVariables false
set_option linter.unusedSimpArgs false

def pomB (n : Int) (xs : List Int) : Bool := inB 1 8 n && decide ((xs.length : Int) = n)
def valPartitionOfMap (n : Int) (xs : List Int) : List Int × Bool := if pomB n xs = true then (kerL xs, true) else ([], false)
theorem pomB_of {n : Int} {xs : List Int} (h : pomB n xs = true) : (1 ≤ n ∧ n ≤ 8) ∧ (xs.length : Int) = n := by
  simpa [pomB, inB] using h
theorem smallPartitionOfMap (n : Int) (xs : List Int) : (valPartitionOfMap n xs).1.length ≤ 4194304 := by
  unfold valPartitionOfMap
  split
  · rename_i h
    have := pomB_of h
    show (kerL xs).length ≤ 4194304
    rw [kerL_len]; omega
  · simp

theorem implPartitionOfMap (n : Int) (lo hi : Nat) (ao : Option Addr) (c m : Nat) (xs : List Int) (w : World) (hn : (Lit.int .i64 n).wf = true) (hx : IView w lo hi ao m xs) (hhi : hi ≤ w.heap.size) (hm : m ≤ maxLen) :
    Calls Try.prog 29 #[.int .i64 n, .slice ao m c] w fun e w' => ResL w w' (valPartitionOfMap n xs).1 (valPartitionOfMap n xs).2 e := by
  have HS := Lib.hid (fun w => isSize_any n w)
  have hl := hx.1
  unfold ResL valPartitionOfMap
  cases hb : inB 1 8 n with
  | false =>
    rw [if_neg (by simp [pomB, hb])]
    simp only [hb] at HS
    clear hx hm hb hn hl
    go_enter Try.func29, Try.ntmps29
    go_wp2_with fail
    refine (HS.out _).mono ?_
    rintro e w' ⟨rfl, rfl⟩
    go_wp2_with fail
    go_ret2
    exact ⟨_, _, _, rfl, rfl, OwnsInts.of_row (World.ownsRow_nil _ _ _ _), Below.refl _ _⟩
  | true =>
    simp only [hb] at HS
    by_cases hmn : (m : Int) = n
    · have hp : pomB n xs = true := by simp [pomB, hb, hl, hmn]
      rw [if_pos hp]
      have h18 := (pomB_of hp).1
      have hne : ((m : Int) != n) = false := by simp [hmn]
      have hP := pov_any lo hi ao c m xs w hx hhi (by omega) (by omega)
      unfold NewInts at hP
      have HP := Lib.hid hP
      have HL := Lib.hid hl
      clear hx hm hb hn hl hp hmn hP
      go_enter Try.func29, Try.ntmps29
      go_wp2_with fail
      refine (HS.out _).mono ?_
      rintro e w' ⟨rfl, rfl⟩
      go_wp2_with fail
      refine HP.out.mono ?_
      rintro e w5 ⟨g, dd, rfl, ho, b5⟩
      have HB5 := Lib.hid b5
      have HO5 := Lib.hid ho
      clear ho b5
      go_wp2_with fail
      go_ret2
      exact ⟨_, _, _, rfl, by rw [kerL_len]; exact HL.out.symm, OwnsInts.of_row HO5.out, HB5.out⟩
    · rw [if_neg (by simp [pomB, hb, hl, hmn])]
      have hne : ((m : Int) != n) = true := by simp [hmn]
      clear hx hm hb hn hl
      go_enter Try.func29, Try.ntmps29
      go_wp2_with fail
      refine (HS.out _).mono ?_
      rintro e w' ⟨rfl, rfl⟩
      go_wp2_with fail
      go_ret2
      exact ⟨_, _, _, rfl, rfl, OwnsInts.of_row (World.ownsRow_nil _ _ _ _), Below.refl _ _⟩

theorem specPartitionOfMap (n : Int) (lo hi : Nat) (ao : Option Addr) (c m : Nat) (xs : List Int) (w : World) (hn : (Lit.int .i64 n).wf = true) (hx : IView w lo hi ao m xs) (hhi : hi ≤ w.heap.size) (hm : m ≤ maxLen) :
    Calls Try.prog 28 #[.int .i64 n, .slice ao m c] w fun e w' => ResL w w' (valPartitionOfMap n xs).1 (valPartitionOfMap n xs).2 e := by
  have HS := Lib.hid (fun w => size6_any n w)
  have hl := hx.1
  have HO0 := Lib.hid (World.ownsRow_lit (base := w.heap.size) (e := 3) (size := 1) w #[] 0 (Nat.le_refl _) (by decide) rfl)
  have HB0 := Lib.hid (below_alloc w (.cells #[] 3))
  unfold ResL valPartitionOfMap
  cases hb : inB 1 8 n with
  | false =>
    rw [if_neg (by simp [pomB, hb])]
    simp only [hb] at HS
    clear hx hm hb hn hl
    go_enter Try.func28, Try.ntmps28
    go_wp2_with fail
    refine (HS.out _).mono ?_
    rintro e w' ⟨rfl, rfl⟩
    go_wp2_with fail
    go_ret2
    exact ⟨_, _, _, rfl, rfl, OwnsInts.of_row HO0.out, HB0.out⟩
  | true =>
    simp only [hb] at HS
    by_cases hmn : (m : Int) = n
    · have hp : pomB n xs = true := by simp [pomB, hb, hl, hmn]
      rw [if_pos hp]
      have h18 := (pomB_of hp).1
      have hne : ((m : Int) != n) = false := by simp [hmn]
      have hP := kernel9_spec lo hi ao c m xs w hx hhi (by omega)
      unfold ListAt at hP
      have HP := Lib.hid hP
      clear hx hm hb hn hl hp hmn hP
      go_enter Try.func28, Try.ntmps28
      go_wp2_with fail
      refine (HS.out _).mono ?_
      rintro e w' ⟨rfl, rfl⟩
      go_wp2_with fail
      refine HP.out.mono ?_
      rintro e w5 ⟨ga, gm, gd, rfl, hgm, ho, b5⟩
      have HB5 := Lib.hid b5
      have HO5 := Lib.hid ho
      have HG := Lib.hid hgm
      clear ho b5 hgm
      go_wp2_with fail
      go_ret2
      exact ⟨_, _, _, rfl, HG.out, OwnsInts.of_row HO5.out, HB5.out⟩
    · rw [if_neg (by simp [pomB, hb, hl, hmn])]
      have hne : ((m : Int) != n) = true := by simp [hmn]
      clear hx hm hb hn hl
      go_enter Try.func28, Try.ntmps28
      go_wp2_with fail
      refine (HS.out _).mono ?_
      rintro e w' ⟨rfl, rfl⟩
      go_wp2_with fail
      go_ret2
      exact ⟨_, _, _, rfl, rfl, OwnsInts.of_row HO0.out, HB0.out⟩

end Go.Proofs.Ytcmjkfcgekmomaa
