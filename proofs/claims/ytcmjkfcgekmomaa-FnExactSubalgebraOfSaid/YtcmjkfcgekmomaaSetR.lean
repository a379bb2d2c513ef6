/-
  Contracts: impl.isClosed, impl.roundsFrom and impl.generatedBy. Conditions: the bounds that each theorem names.
-/
import Derived.Test.YtcmjkfcgekmomaaSetV
namespace Go.Proofs.Ytcmjkfcgekmomaa
open Go.RowKit
set_option linter.unusedVariables false
set_option linter.unusedSimpArgs false

theorem closed_any (lo hi : Nat) (z : Int) (ao : Option Addr) (c n : Nat) (fs : List OpD) (s : Nat) (w : World) (hv : OView w lo hi ao n fs) (hhi : hi ≤ w.heap.size) (hok : algOkB z fs = true) (hs : s < 2 ^ 8) :
    Calls Try.prog 109 #[.agg #[.int .i64 z, .slice ao n c], .int .u64 (s : Int)] w fun e w' => e = .returned (.bool (decide (stepN z fs s = s))) ∧ Below w.heap.size w w' := by
  have hB := below_alloc w (.cells #[.int .i64 z, .slice ao n c] 31)
  have HC := Lib.hid (within_any lo hi z ao c n fs s _ (hv.kept (Kept.of_below hB hhi)) (Nat.le_trans hhi hB.size) hok hs)
  have hlt := valO_lt (s := s) (n := 8) hok (algOkB_of hok).1.2 fs.length (Nat.le_refl _)
  have HB := Lib.hid hB
  have HE : Hid (decide (diffN (valO s z fs fs.length) s = 0) = decide (stepN z fs s = s)) := by
    unfold Hid
    have h := isIn_step (n := 8) (s := s) hok (algOkB_of hok).1.2 (Nat.le_refl _)
    by_cases h1 : diffN (valO s z fs fs.length) s = 0
    · rw [decide_eq_true h1, decide_eq_true (h.1 h1)]
    · rw [decide_eq_false h1, decide_eq_false fun h2 => h1 (h.2 h2)]
  have HI := Lib.hid (fun w => isIn_any (valO s z fs fs.length) s w hlt hs)
  clear hv hok hB hlt
  go_enter Try.func109, Try.ntmps109
  go_wp2_with fail
  refine HC.out.mono ?_
  rintro e w1 ⟨rfl, b1⟩
  have HB1 := Lib.hid (below_then HB.out b1)
  clear b1
  go_wp2_with fail
  refine (HI.out _).mono ?_
  rintro e w2 ⟨rfl, rfl⟩
  go_wp2_with fail
  go_ret
  exact ⟨ret_bool HE.out, HB1.out⟩

/-- The rounds: first the set, then what each round adds. -/
def rndL (z : Int) (fs : List OpD) (s : Nat) : Nat → List Nat
  | 0 => [s]
  | k + 1 => rndL z fs s k ++ [diffN (valO (stepK z fs s k) z fs fs.length) (stepK z fs s k)]
theorem rndL_len (z : Int) (fs : List OpD) (s k : Nat) : (rndL z fs s k).length = k + 1 := by
  induction k with
  | zero => rfl
  | succ k ih => simp [rndL, ih]
def orL (ss : List Nat) : Nat := ss.foldl (fun a b => a ||| b) 0
theorem orL_succ {ss : List Nat} {k x : Nat} (hx : ss[k]? = some x) : orL (ss.take (k + 1)) = orL (ss.take k) ||| x := by
  unfold orL
  rw [List.take_add_one, hx, Option.toList_some, List.foldl_append]; rfl
theorem orL_snoc (ss : List Nat) (x : Nat) : orL (ss ++ [x]) = orL ss ||| x := by simp [orL, List.foldl_append]
theorem rnd_next {z : Int} {fs : List OpD} {s : Nat} (hok : algOkB z fs = true) (hs : s < 2 ^ 8) (k : Nat) : stepK z fs s k ||| diffN (valO (stepK z fs s k) z fs fs.length) (stepK z fs s k) = stepK z fs s (k + 1) :=
  or_diff (valO_lt (n := 8) hok (algOkB_of hok).1.2 _ (Nat.le_refl _))
theorem rnd_or {z : Int} {fs : List OpD} {s : Nat} (hok : algOkB z fs = true) (hs : s < 2 ^ 8) (k : Nat) : orL (rndL z fs s k) = stepK z fs s k := by
  induction k with
  | zero => simp [rndL, orL, stepK]
  | succ k ih => rw [rndL, orL_snoc, ih, rnd_next hok hs]
theorem rnd_lt {z : Int} {fs : List OpD} {s n : Nat} (hok : algOkB z fs = true) (hz : z ≤ (n : Int)) (hn : n ≤ 8) (hs : s < 2 ^ n) (k : Nat) : ∀ x, x ∈ rndL z fs s k → x < 2 ^ n := by
  induction k with
  | zero => intro x hx; simp [rndL] at hx; omega
  | succ k ih =>
    intro x hx
    rw [rndL, List.mem_append, List.mem_singleton] at hx
    rcases hx with hx | rfl
    · exact ih x hx
    · exact diffN_lt (valO_lt hok hz _ (Nat.le_refl _)) hn
/-- The least number of rounds behind which nothing is added. -/
def LastR (z : Int) (fs : List OpD) (s k : Nat) : Prop := stepN z fs (stepK z fs s k) = stepK z fs s k ∧ ∀ j, j < k → stepN z fs (stepK z fs s j) ≠ stepK z fs s j
theorem LastR.uniq {z : Int} {fs : List OpD} {s k j : Nat} (h : LastR z fs s k) (h2 : LastR z fs s j) : k = j := by
  rcases Nat.lt_trichotomy k j with h3 | h3 | h3
  · exact absurd h.1 (h2.2 k h3)
  · exact h3
  · exact absurd h2.1 (h.2 j h3)

theorem setV_eq (s : Nat) : setV s = .int .u64 (s : Int) := rfl



end Go.Proofs.Ytcmjkfcgekmomaa
