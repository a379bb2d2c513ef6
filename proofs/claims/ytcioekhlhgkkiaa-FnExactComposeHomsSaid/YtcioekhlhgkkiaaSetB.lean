/-
  Sets of elements as bits of a word: what the operations on words give. Contracts: the methods has and isIn of impl.elementSet. Conditions: the bounds that each theorem names.
-/
import Derived.Test.YtcioekhlhgkkiaaSetM
import Derived.Laws.BitsAllLaws
import Derived.Laws.ShiftsVarLaws
namespace Go.Proofs.Ytcioekhlhgkkiaa
open Go.RowKit
set_option linter.unusedVariables false
set_option linter.unusedSimpArgs false

theorem wrap_u64 (n : Int) (h0 : 0 ≤ n) (h1 : n < 18446744073709551616) : IntKind.u64.wrap n = n := by
  simp [IntKind.wrap, IntKind.bits, IntKind.signed]
  omega
theorem cast_lt {s : Nat} (h : s < 2 ^ 8) : (s : Int) < 18446744073709551616 := by
  have : (2 : Nat) ^ 8 = 256 := by decide
  omega
theorem ofInt_set {s : Nat} (h : s < 2 ^ 8) : (BitVec.ofInt 64 (s : Int)).toNat = s := by
  rw [BitVec.ofInt_natCast, BitVec.toNat_ofNat]
  exact Nat.mod_eq_of_lt (Nat.lt_trans h (by decide))
theorem bits_or_set {s t : Nat} (hs : s < 2 ^ 8) (ht : t < 2 ^ 8) : bits .or .u64 (s : Int) (t : Int) = ((s ||| t : Nat) : Int) := by
  show IntKind.u64.wrap ((BitVec.ofInt 64 (s : Int) ||| BitVec.ofInt 64 (t : Int)).toNat : Int) = _
  rw [BitVec.toNat_or, ofInt_set hs, ofInt_set ht]
  exact wrap_u64 _ (by omega) (cast_lt (or_lt hs ht))
theorem bits_and_set {s t : Nat} (hs : s < 2 ^ 8) (ht : t < 2 ^ 8) : bits .and .u64 (s : Int) (t : Int) = ((s &&& t : Nat) : Int) := by
  show IntKind.u64.wrap ((BitVec.ofInt 64 (s : Int) &&& BitVec.ofInt 64 (t : Int)).toNat : Int) = _
  rw [BitVec.toNat_and, ofInt_set hs, ofInt_set ht]
  exact wrap_u64 _ (by omega) (cast_lt (Nat.and_lt_two_pow _ ht))
theorem bits_not_set {s t : Nat} (hs : s < 2 ^ 8) : bits .andNot .u64 (s : Int) (t : Int) = ((diffN s t : Nat) : Int) := by
  show IntKind.u64.wrap ((BitVec.ofInt 64 (s : Int) &&& ~~~ BitVec.ofInt 64 (t : Int)).toNat : Int) = _
  rw [BitVec.ofInt_natCast, BitVec.ofInt_natCast]
  show IntKind.u64.wrap ((diffN s t : Nat) : Int) = _
  exact wrap_u64 _ (by omega) (cast_lt (diffN_lt hs (Nat.le_refl _)))

theorem has_bit (s k : Nat) (hs : s < 2 ^ 8) : (bits .and .u64 ((s : Int) / 2 ^ k) 1 == 1) = s.testBit k := by
  have h1 : s / 2 ^ k < 2 ^ 8 := Nat.lt_of_le_of_lt (Nat.div_le_self _ _) hs
  have h2 : ((s : Int) / 2 ^ k) = ((s / 2 ^ k : Nat) : Int) := by simp
  have h3 := bits_and_set h1 (show 1 < 2 ^ 8 by decide)
  rw [h2]
  rw [show (1 : Int) = ((1 : Nat) : Int) from rfl, h3, Nat.and_one_is_mod, Nat.testBit_eq_decide_div_mod_eq]
  by_cases h : s / 2 ^ k % 2 = 1
  · simp [h]
  · have h4 : s / 2 ^ k % 2 = 0 := by omega
    simp [h4]
theorem pow_set {x : Int} (h0 : 0 ≤ x) (h1 : x < 8) : IntKind.u64.wrap (2 ^ x.toNat) = ((2 ^ x.toNat : Nat) : Int) := by
  have h2 : 2 ^ x.toNat < 2 ^ 8 := pow_lt_of (by omega)
  rw [show ((2 : Int) ^ x.toNat) = ((2 ^ x.toNat : Nat) : Int) by simp]
  exact wrap_u64 _ (Int.natCast_nonneg _) (cast_lt h2)
theorem put_set {v : Nat} {x : Int} (hv : v < 2 ^ 8) (h0 : 0 ≤ x) (h1 : x < 8) : bits .or .u64 (v : Int) (IntKind.u64.wrap (2 ^ x.toNat)) = ((v ||| 2 ^ x.toNat : Nat) : Int) := by
  rw [pow_set h0 h1]; exact bits_or_set hv (pow_lt_of (by omega))
theorem diff_zero_bit (s t : Nat) (hs : s < 2 ^ 8) : (bits .andNot .u64 (s : Int) (t : Int) == 0) = decide (diffN s t = 0) := by
  rw [bits_not_set hs]
  by_cases h : diffN s t = 0
  · simp [h]
  · simp [h]
theorem ret_set {a : Int} {b : Nat} (h : a = (b : Int)) : Ending.returned (.int .u64 a) = .returned (.int .u64 (b : Int)) := by rw [h]

theorem has_any (s : Nat) (x : Int) (w : World) (hs : s < 2 ^ 8) (h0 : 0 ≤ x) (h1 : x < 8) :
    Calls Try.prog 102 #[.int .u64 (s : Int), .int .i64 x] w fun e w' => e = .returned (.bool (s.testBit x.toNat)) ∧ w = w' := by
  go_enter Try.func102, Try.ntmps102
  go_wp2
  go_ret
  exact ⟨ret_bool (has_bit s x.toNat hs), rfl⟩



end Go.Proofs.Ytcioekhlhgkkiaa
