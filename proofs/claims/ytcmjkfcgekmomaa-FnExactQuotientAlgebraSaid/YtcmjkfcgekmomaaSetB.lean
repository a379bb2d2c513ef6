/-
  Sets of elements as bits of a word: what the operations on words give. Contracts: the methods has and isIn of impl.elementSet. Conditions: the bounds that each theorem names.
-/
import Derived.Test.YtcmjkfcgekmomaaSetM
import Derived.Laws.BitsAllLaws
import Derived.Laws.ShiftsVarLaws
namespace Go.Proofs.Ytcmjkfcgekmomaa
open Go.RowKit
set_option linter.unusedVariables false
set_option linter.unusedSimpArgs false

theorem wrap_u64 (n : Int) (h0 : 0 ≤ n) (h1 : n < 18446744073709551616) : IntKind.u64.wrap n = n := by
  simp [IntKind.wrap, IntKind.bits, IntKind.signed]
  omega
theorem cast_lt {s : Nat} (h : s < 2 ^ 8) : (s : Int) < 18446744073709551616 := by
  have : (2 : Nat) ^ 8 = 256 := by decide
  omega
theorem ofInt_set {s : Nat} (h : s < 2 ^ 8) : (BitVec.ofInt 64 (s : Int)).toNat = s := by
  rw [BitVec.ofInt_natCast, BitVec.toNat_ofNat]
  exact Nat.mod_eq_of_lt (Nat.lt_trans h (by decide))
theorem bits_or_set {s t : Nat} (hs : s < 2 ^ 8) (ht : t < 2 ^ 8) : bits .or .u64 (s : Int) (t : Int) = ((s ||| t : Nat) : Int) := by
  show IntKind.u64.wrap ((BitVec.ofInt 64 (s : Int) ||| BitVec.ofInt 64 (t : Int)).toNat : Int) = _
  rw [BitVec.toNat_or, ofInt_set hs, ofInt_set ht]
  exact wrap_u64 _ (by omega) (cast_lt (or_lt hs ht))
theorem bits_and_set {s t : Nat} (hs : s < 2 ^ 8) (ht : t < 2 ^ 8) : bits .and .u64 (s : Int) (t : Int) = ((s &&& t : Nat) : Int) := by
  show IntKind.u64.wrap ((BitVec.ofInt 64 (s : Int) &&& BitVec.ofInt 64 (t : Int)).toNat : Int) = _
  rw [BitVec.toNat_and, ofInt_set hs, ofInt_set ht]
  exact wrap_u64 _ (by omega) (cast_lt (Nat.and_lt_two_pow _ ht))
theorem bits_not_set {s t : Nat} (hs : s < 2 ^ 8) : bits .andNot .u64 (s : Int) (t : Int) = ((diffN s t : Nat) : Int) := by
  show IntKind.u64.wrap ((BitVec.ofInt 64 (s : Int) &&& ~~~ BitVec.ofInt 64 (t : Int)).toNat : Int) = _
  rw [BitVec.ofInt_natCast, BitVec.ofInt_natCast]
  show IntKind.u64.wrap ((diffN s t : Nat) : Int) = _
  exact wrap_u64 _ (by omega) (cast_lt (diffN_lt hs (Nat.le_refl _)))

theorem has_bit (s k : Nat) (hs : s < 2 ^ 8) : (bits .and .u64 ((s : Int) / 2 ^ k) 1 == 1) = s.testBit k := by
  have h1 : s / 2 ^ k < 2 ^ 8 := Nat.lt_of_le_of_lt (Nat.div_le_self _ _) hs
  have h2 : ((s : Int) / 2 ^ k) = ((s / 2 ^ k : Nat) : Int) := by simp
  have h3 := bits_and_set h1 (show 1 < 2 ^ 8 by decide)
  rw [h2]
  rw [show (1 : Int) = ((1 : Nat) : Int) from rfl, h3, Nat.and_one_is_mod, Nat.testBit_eq_decide_div_mod_eq]
  by_cases h : s / 2 ^ k % 2 = 1
  · simp [h]
  · have h4 : s / 2 ^ k % 2 = 0 := by omega
    simp [h4]
theorem pow_set {x : Int} (h0 : 0 ≤ x) (h1 : x < 8) : IntKind.u64.wrap (2 ^ x.toNat) = ((2 ^ x.toNat : Nat) : Int) := by
  have h2 : 2 ^ x.toNat < 2 ^ 8 := pow_lt_of (by omega)
  rw [show ((2 : Int) ^ x.toNat) = ((2 ^ x.toNat : Nat) : Int) by simp]
  exact wrap_u64 _ (Int.natCast_nonneg _) (cast_lt h2)
theorem put_set {v : Nat} {x : Int} (hv : v < 2 ^ 8) (h0 : 0 ≤ x) (h1 : x < 8) : bits .or .u64 (v : Int) (IntKind.u64.wrap (2 ^ x.toNat)) = ((v ||| 2 ^ x.toNat : Nat) : Int) := by
  rw [pow_set h0 h1]; exact bits_or_set hv (pow_lt_of (by omega))
theorem diff_zero_bit (s t : Nat) (hs : s < 2 ^ 8) : (bits .andNot .u64 (s : Int) (t : Int) == 0) = decide (diffN s t = 0) := by
  rw [bits_not_set hs]
  by_cases h : diffN s t = 0
  · simp [h]
  · simp [h]
theorem ret_set {a : Int} {b : Nat} (h : a = (b : Int)) : Ending.returned (.int .u64 a) = .returned (.int .u64 (b : Int)) := by rw [h]

theorem has_any (s : Nat) (x : Int) (w : World) (hs : s < 2 ^ 8) (h0 : 0 ≤ x) (h1 : x < 8) :
    Calls Try.prog 123 #[.int .u64 (s : Int), .int .i64 x] w fun e w' => e = .returned (.bool (s.testBit x.toNat)) ∧ w = w' := by
  go_enter Try.func123, Try.ntmps123
  go_wp2
  go_ret
  exact ⟨ret_bool (has_bit s x.toNat hs), rfl⟩

theorem isIn_any (s t : Nat) (w : World) (hs : s < 2 ^ 8) (ht : t < 2 ^ 8) :
    Calls Try.prog 138 #[.int .u64 (s : Int), .int .u64 (t : Int)] w fun e w' => e = .returned (.bool (decide (diffN s t = 0))) ∧ w = w' := by
  go_enter Try.func138, Try.ntmps138
  go_wp2
  go_ret
  exact ⟨ret_bool (diff_zero_bit s t hs), rfl⟩

theorem setOf_any (lo hi : Nat) (z : Int) (ao : Option Addr) (c n : Nat) (xs : List Int) (w : World) (h : IView w lo hi ao n xs) (hn : n ≤ maxLen) (ha : allIn z xs = true) (hz : z ≤ 8) :
    Calls Try.prog 107 #[.slice ao n c] w fun e w' => e = .returned (.int .u64 (setN xs : Int)) ∧ w = w' := by
  unfold maxLen at hn
  have HV := Lib.hid h
  have HA := Lib.hid ha
  clear h ha
  go_enter Try.func107, Try.ntmps107
  go_wp2
  go_loop [3, 8] (fun s i => ∃ (k v : Nat), k ≤ n ∧ i = .int .i64 (k : Int) ∧ s = .int .u64 (v : Int) ∧ Hid (v = setN (xs.take k)) ∧ Hid (v < 2 ^ 8)) (fun _ i => n - (intOf i).toNat)
  case atStart => exact ⟨0, 0, Nat.zero_le _, rfl, rfl, rfl, by unfold Hid; decide⟩
  case round =>
    obtain ⟨k, v, hk, rfl, rfl, HVal, HLt⟩ := hrel
    by_cases hlt : k < n
    · obtain ⟨b, o, rfl, _, _, hc⟩ := HV.out.at_ (by omega)
      obtain ⟨x, hx⟩ := get_of_lt HV.out.1 hlt
      have hcell := hc k x hx
      obtain ⟨h0, h1⟩ := allIn_get HA.out hx
      have HX := Lib.hid hx
      clear hc hx
      go_wp2
      go_round
      case rel => exact ⟨k + 1, v ||| 2 ^ x.toNat, by omega, by go_num, by rw [put_set HLt.out h0 (by omega)], by unfold Hid; rw [setN_succ HX.out, HVal.out], or_lt HLt.out (pow_lt_of (by omega))⟩
      case measure => simp [intOf]; omega
    · go_wp2
      go_ret
      exact ⟨ret_set (by rw [HVal.out, setN_all (by have := HV.out.1; omega)]), rfl⟩

end Go.Proofs.Ytcmjkfcgekmomaa
