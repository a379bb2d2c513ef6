/-
  Contracts: spec.l1In, l2Pow, l2Op, l2Elements, l2Good, IsAlgebra and impl.tableLength, areBelow, isOperation, IsAlgebra: both say whether an algebra is valid. Conditions: the bounds that each theorem names.
-/
import Derived.Test.YtcmjkfcgekmomaaPlain
import Derived.Deep.RegionHeld3
namespace Go.Proofs.Ytcmjkfcgekmomaa
open Go.RowKit
set_option linter.unusedVariables false

theorem in_any (x a b : Int) (w : World) :
    Calls Try.prog 97 #[.int .i64 x, .int .i64 a, .int .i64 b] w fun e w' => e = .returned (.bool (inB a b x)) ∧ w = w' := by
  by_cases h1 : a ≤ x
  · by_cases h2 : x ≤ b
    · rw [inB_yes h1 h2]
      go_enter Try.func97, Try.ntmps97
      go_wp2
      go_ret
      exact ⟨rfl, rfl⟩
    · rw [inB_no (by omega)]
      go_enter Try.func97, Try.ntmps97
      go_wp2
      go_ret
      exact ⟨rfl, rfl⟩
  · rw [inB_no (by omega)]
    go_enter Try.func97, Try.ntmps97
    go_wp2
    go_ret
    exact ⟨rfl, rfl⟩

theorem pow_any (z : Int) (r : Nat) (w : World) (h1 : 1 ≤ z) (h2 : z ≤ 8) (hr : r ≤ 3) :
    Calls Try.prog 102 #[.int .i64 z, .int .i64 (r : Int)] w fun e w' => e = .returned (.int .i64 (powI z r)) ∧ w = w' := by
  go_enter Try.func102, Try.ntmps102
  go_wp2
  go_loop [1, 5] (fun k p => ∃ (i j : Nat) (v : Int), i + j = r ∧ k = .int .i64 (j : Int) ∧ p = .int .i64 v ∧ Hid (v = powI z i) ∧ 1 ≤ v ∧ v ≤ 512) (fun k _ => (intOf k).toNat)
  case atStart => exact ⟨0, r, 1, by omega, rfl, rfl, rfl, by omega, by omega⟩
  case round =>
    obtain ⟨i, j, v, hij, rfl, rfl, HV, hv1, hv2⟩ := hrel
    rcases Nat.eq_zero_or_pos j with hj | hj
    · subst hj
      go_wp2
      go_ret
      exact ⟨ret_int (by rw [HV.out, show i = r by omega]), rfl⟩
    · have hb := powI_bd h1 h2 (k := i + 1) (by omega)
      have hm : powI z (i + 1) = v * z := by rw [powI, HV.out]
      rw [hm] at hb
      have hb1 := hb.1
      have hb2 := hb.2
      have HM := Lib.hid hm
      clear hb hm
      go_wp2
      go_round
      case rel => exact ⟨i + 1, j - 1, v * z, by omega, by go_num, rfl, HM.out.symm, hb1, hb2⟩
      case measure => simp [intOf]; omega

theorem len_any (z : Int) (r : Nat) (w : World) (h1 : 1 ≤ z) (h2 : z ≤ 8) (hr : r ≤ 3) :
    Calls Try.prog 110 #[.int .i64 z, .int .i64 (r : Int)] w fun e w' => e = .returned (.int .i64 (powI z r)) ∧ w = w' := by
  go_enter Try.func110, Try.ntmps110
  go_wp2
  go_loop [5, 7] (fun p k => ∃ (i : Nat) (v : Int), i ≤ r ∧ k = .int .i64 (i : Int) ∧ p = .int .i64 v ∧ Hid (v = powI z i) ∧ 1 ≤ v ∧ v ≤ 512) (fun _ k => r - (intOf k).toNat)
  case atStart => exact ⟨0, 1, by omega, rfl, rfl, rfl, by omega, by omega⟩
  case round =>
    obtain ⟨i, v, hij, rfl, rfl, HV, hv1, hv2⟩ := hrel
    by_cases hlt : i < r
    · have hb := powI_bd h1 h2 (k := i + 1) (by omega)
      have hm : powI z (i + 1) = v * z := by rw [powI, HV.out]
      rw [hm] at hb
      have hb1 := hb.1
      have hb2 := hb.2
      have HM := Lib.hid hm
      clear hb hm
      go_wp2
      go_round
      case rel => exact ⟨i + 1, v * z, by omega, by go_num, rfl, HM.out.symm, hb1, hb2⟩
      case measure => simp [intOf]; omega
    · go_wp2
      go_ret
      exact ⟨ret_int (by rw [HV.out, show i = r by omega]), rfl⟩

theorem elems_impl (lo hi : Nat) (z : Int) (ao : Option Addr) (c n : Nat) (xs : List Int) (w : World) (h : IView w lo hi ao n xs) (hn : n ≤ maxLen) :
    Calls Try.prog 136 #[.int .i64 z, .slice ao n c] w fun e w' => e = .returned (.bool (allIn z xs)) ∧ w = w' := by
  unfold maxLen at hn
  have HV := Lib.hid h
  obtain ⟨r, hr⟩ : ∃ r, allIn z xs = r := ⟨_, rfl⟩
  have HR := Lib.hid hr
  rw [hr]
  clear h hr
  go_enter Try.func136, Try.ntmps136
  go_wp2
  go_loop [9] (fun i => ∃ k : Nat, k ≤ n ∧ i = .int .i64 k ∧ Hid (allIn z (xs.take k) = true)) (fun i => n - (intOf i).toNat)
  case atStart => exact ⟨0, Nat.zero_le _, rfl, rfl⟩
  case round =>
    obtain ⟨k, hk, rfl, HA⟩ := hrel
    by_cases hlt : k < n
    · obtain ⟨b, o, rfl, _, _, hc⟩ := HV.out.at_ (by omega)
      obtain ⟨x, hx⟩ := get_of_lt HV.out.1 hlt
      have hcell := hc k x hx
      have HX := Lib.hid hx
      clear hc hx
      by_cases h0 : 0 ≤ x
      · by_cases h1 : x < z
        · go_wp2
          go_round
          case rel => exact ⟨k + 1, by omega, by go_num, allIn_succ HX.out HA.out h0 h1⟩
          case measure => simp [intOf]; omega
        · go_wp2
          go_ret
          exact ⟨ret_bool ((allIn_no HX.out (by omega)).symm.trans HR.out), rfl⟩
      · go_wp2
        go_ret
        exact ⟨ret_bool ((allIn_no HX.out (by omega)).symm.trans HR.out), rfl⟩
    · go_wp2
      go_ret
      refine ⟨ret_bool ?_, rfl⟩
      rw [← HR.out]
      exact (allIn_take_all (by have := HV.out.1; omega) HA.out).symm

/-! isOperation -/
theorem isOp_arity (z r : Int) (ao : Option Addr) (c n : Nat) (w : World) (h : inB 0 3 r = false) :
    Calls Try.prog 115 #[.int .i64 z, .agg #[.int .i64 r, .slice ao n c]] w fun e w' => e = .returned (.bool false) ∧ Below w.heap.size w w' := by
  have h2 : ¬ (0 ≤ r ∧ r ≤ 3) := of_decide_eq_false h
  clear h
  by_cases h0 : 0 ≤ r
  · have h3 : 3 < r := by omega
    clear h2
    go_enter Try.func115, Try.ntmps115
    go_wp2
    go_ret
    exact ⟨rfl, (Below.refl _ _).alloc (Nat.le_refl _) _⟩
  · clear h2
    go_enter Try.func115, Try.ntmps115
    go_wp2
    go_ret
    exact ⟨rfl, (Below.refl _ _).alloc (Nat.le_refl _) _⟩

set_option maxHeartbeats 400000 in
theorem isOp_len (z : Int) (r : Nat) (ao : Option Addr) (c n : Nat) (w : World) (h1 : 1 ≤ z) (h2 : z ≤ 8) (hr : r ≤ 3) (hn : n ≤ maxLen) (h : ¬ (n : Int) = powI z r) :
    Calls Try.prog 115 #[.int .i64 z, .agg #[.int .i64 (r : Int), .slice ao n c]] w fun e w' => e = .returned (.bool false) ∧ Below w.heap.size w w' := by
  unfold maxLen at hn
  have hcall := fun w => len_any z r w h1 h2 hr
  obtain ⟨p, hp⟩ : ∃ p, powI z r = p := ⟨_, rfl⟩
  rw [hp] at hcall h
  have HC := Lib.hid hcall
  have he : ((n : Int) == p) = false := by rw [beq_eq_false_iff_ne]; exact h
  clear hcall hp h
  go_enter Try.func115, Try.ntmps115
  go_wp2
  go_quiet ((go_at_call 110; exact quiet_left (HC.out _)))
  go_wp2
  go_ret
  exact ⟨rfl, below_drewN ((Below.refl _ _).alloc (Nat.le_refl _) _) _⟩

theorem isOp_rest (lo hi : Nat) (z : Int) (r : Nat) (ao : Option Addr) (c n : Nat) (xs : List Int) (w : World) (h1 : 1 ≤ z) (h2 : z ≤ 8) (hr : r ≤ 3) (hv : IView w lo hi ao n xs) (hhi : hi ≤ w.heap.size) (hn : n ≤ maxLen) (h : (n : Int) = powI z r) :
    Calls Try.prog 115 #[.int .i64 z, .agg #[.int .i64 (r : Int), .slice ao n c]] w fun e w' => e = .returned (.bool (allIn z xs)) ∧ Below w.heap.size w w' := by
  have hB := ((Below.refl w.heap.size w).alloc (Nat.le_refl _) (.cells #[.int .i64 (r : Int), .slice ao n c] 66))
  have HE := Lib.hid (fun q => elems_impl lo hi z ao c n xs ((w.alloc (.cells #[.int .i64 (r : Int), .slice ao n c] 66)).drewN q) (hv.kept (Kept.of_below (below_drewN hB q) hhi)) hn)
  have HB := Lib.hid hB
  unfold maxLen at hn
  have hcall := fun w => len_any z r w h1 h2 hr
  rw [← h] at hcall
  have HC := Lib.hid hcall
  clear hcall h hv hB
  go_enter Try.func115, Try.ntmps115
  go_wp2
  go_quiet ((first | (go_at_call 110; exact quiet_left (HC.out _)) | (go_at_call 136; exact quiet_left (HE.out _))))
  go_wp2
  go_ret
  exact ⟨rfl, below_drewN HB.out _⟩

theorem isOp_any (lo hi : Nat) (z : Int) (f : OpD) (ao : Option Addr) (c n : Nat) (w : World) (h1 : 1 ≤ z) (h2 : z ≤ 8) (hv : IView w lo hi ao n f.2) (hhi : hi ≤ w.heap.size) (hn : n ≤ maxLen) :
    Calls Try.prog 115 #[.int .i64 z, .agg #[.int .i64 f.1, .slice ao n c]] w fun e w' => e = .returned (.bool (opOkB z f)) ∧ Below w.heap.size w w' := by
  cases ha : inB 0 3 f.1 with
  | false => rw [opOkB_arity ha]; exact isOp_arity z f.1 ao c n w ha
  | true =>
    obtain ⟨a0, a1⟩ : 0 ≤ f.1 ∧ f.1 ≤ 3 := of_decide_eq_true ha
    obtain ⟨r, hr⟩ : ∃ r : Nat, f.1 = (r : Int) := ⟨f.1.toNat, by omega⟩
    by_cases hl : (f.2.length : Int) = powI z f.1.toNat
    · rw [opOkB_rest ha hl, hr]
      exact isOp_rest lo hi z r ao c n f.2 w h1 h2 (by omega) hv hhi hn (by rw [← hv.1, hl, hr]; simp)
    · rw [opOkB_len hl, hr]
      exact isOp_len z r ao c n w h1 h2 (by omega) hn (by rw [← hv.1]; rw [hr] at hl; simpa using hl)

/-! l2Op -/
theorem l2Op_arity (z r : Int) (ao : Option Addr) (c n : Nat) (w : World) (h : inB 0 3 r = false) :
    Calls Try.prog 98 #[.int .i64 z, .agg #[.int .i64 r, .slice ao n c]] w fun e w' => e = .returned (.bool false) ∧ Below w.heap.size w w' := by
  have hc := fun w => in_any r 0 3 w
  rw [h] at hc
  have HC := Lib.hid hc
  clear hc h
  go_enter Try.func98, Try.ntmps98
  go_wp2
  go_quiet ((go_at_call 97; exact quiet_left (HC.out _)))
  go_wp2
  go_ret
  exact ⟨rfl, below_drewN ((Below.refl _ _).alloc (Nat.le_refl _) _) _⟩

theorem l2Op_len (z : Int) (r : Nat) (ao : Option Addr) (c n : Nat) (w : World) (h1 : 1 ≤ z) (h2 : z ≤ 8) (hr : r ≤ 3) (hn : n ≤ maxLen) (h : ¬ (n : Int) = powI z r) :
    Calls Try.prog 98 #[.int .i64 z, .agg #[.int .i64 (r : Int), .slice ao n c]] w fun e w' => e = .returned (.bool false) ∧ Below w.heap.size w w' := by
  unfold maxLen at hn
  have hin := fun w => in_any (r : Int) 0 3 w
  rw [inB_yes (by omega) (by omega)] at hin
  have HI := Lib.hid hin
  have hcall := fun w => pow_any z r w h1 h2 hr
  obtain ⟨p, hp⟩ : ∃ p, powI z r = p := ⟨_, rfl⟩
  rw [hp] at hcall h
  have HC := Lib.hid hcall
  have he : ((n : Int) == p) = false := by rw [beq_eq_false_iff_ne]; exact h
  have he2 : ((n : Int) != p) = true := by rw [bne_iff_ne]; exact h
  clear hcall hp h hin
  go_enter Try.func98, Try.ntmps98
  go_wp2
  go_quiet ((first | (go_at_call 97; exact quiet_left (HI.out _)) | (go_at_call 102; exact quiet_left (HC.out _))))
  go_wp2
  go_ret
  exact ⟨rfl, below_drewN ((Below.refl _ _).alloc (Nat.le_refl _) _) _⟩

set_option maxHeartbeats 400000 in
theorem l2Op_rest (lo hi : Nat) (z : Int) (r : Nat) (ao : Option Addr) (c n : Nat) (xs : List Int) (w : World) (h1 : 1 ≤ z) (h2 : z ≤ 8) (hr : r ≤ 3) (hv : IView w lo hi ao n xs) (hhi : hi ≤ w.heap.size) (hn : n ≤ maxLen) (h : (n : Int) = powI z r) :
    Calls Try.prog 98 #[.int .i64 z, .agg #[.int .i64 (r : Int), .slice ao n c]] w fun e w' => e = .returned (.bool (allIn z xs)) ∧ Below w.heap.size w w' := by
  have hB := ((Below.refl w.heap.size w).alloc (Nat.le_refl _) (.cells #[.int .i64 (r : Int), .slice ao n c] 66))
  have HV := Lib.hid (hv.kept (Kept.of_below hB hhi))
  have HB := Lib.hid hB
  unfold maxLen at hn
  have hin := fun w => in_any (r : Int) 0 3 w
  rw [inB_yes (by omega) (by omega)] at hin
  have HI := Lib.hid hin
  have hcall := fun w => pow_any z r w h1 h2 hr
  rw [← h] at hcall
  have HC := Lib.hid hcall
  obtain ⟨t, ht⟩ : ∃ t, allIn z xs = t := ⟨_, rfl⟩
  have HR := Lib.hid ht
  rw [ht]
  clear hcall h hin hv hB ht
  go_enter Try.func98, Try.ntmps98
  go_wp2
  go_quiet ((first | (go_at_call 97; exact quiet_left (HI.out _)) | (go_at_call 102; exact quiet_left (HC.out _))))
  go_wp2
  obtain ⟨W, hW⟩ : ∃ W, W = (w.alloc (.cells #[.int .i64 (r : Int), .slice ao n c] 66)).drewN nq := ⟨_, rfl⟩
  go_loop [5] (fun i => ∃ k : Nat, k ≤ n ∧ i = .int .i64 k ∧ Hid (allIn z (xs.take k) = true)) (fun i => n - (intOf i).toNat)
  case atStart => exact ⟨0, Nat.zero_le _, rfl, rfl⟩
  case round =>
    obtain ⟨k, hk, rfl, HA⟩ := hrel
    by_cases hlt : k < n
    · obtain ⟨b, o, rfl, _, _, hc⟩ := HV.out.at_ (by omega)
      obtain ⟨x, hx⟩ := get_of_lt HV.out.1 hlt
      have hcell := hc k x hx
      have hcall := fun w => in_any x 0 (z - 1) w
      have HX := Lib.hid hx
      clear hc hx
      by_cases h0 : 0 ≤ x ∧ x < z
      · obtain ⟨h0, h1⟩ := h0
        rw [inB_yes h0 (by omega)] at hcall
        have HCall := Lib.hid hcall
        clear hcall
        go_wp2_with fail
        refine (HCall.out _).mono ?_
        rintro e w' ⟨rfl, rfl⟩
        go_wp2_with fail
        go_round
        case rel => exact ⟨k + 1, by omega, by go_num, allIn_succ HX.out HA.out h0 h1⟩
        case measure => simp [intOf]; omega
      · rw [inB_no (by omega)] at hcall
        have HCall := Lib.hid hcall
        have HN := Lib.hid h0
        clear hcall h0
        go_wp2_with fail
        refine (HCall.out _).mono ?_
        rintro e w' ⟨rfl, rfl⟩
        go_wp2_with fail
        go_ret
        exact ⟨ret_bool ((allIn_no HX.out HN.out).symm.trans HR.out), below_drewN HB.out _⟩
    · go_wp2
      go_ret
      refine ⟨ret_bool ?_, below_drewN HB.out _⟩
      rw [← HR.out]
      exact (allIn_take_all (by have := HV.out.1; omega) HA.out).symm

theorem l2Op_any (lo hi : Nat) (z : Int) (f : OpD) (ao : Option Addr) (c n : Nat) (w : World) (h1 : 1 ≤ z) (h2 : z ≤ 8) (hv : IView w lo hi ao n f.2) (hhi : hi ≤ w.heap.size) (hn : n ≤ maxLen) :
    Calls Try.prog 98 #[.int .i64 z, .agg #[.int .i64 f.1, .slice ao n c]] w fun e w' => e = .returned (.bool (opOkB z f)) ∧ Below w.heap.size w w' := by
  cases ha : inB 0 3 f.1 with
  | false => rw [opOkB_arity ha]; exact l2Op_arity z f.1 ao c n w ha
  | true =>
    obtain ⟨a0, a1⟩ : 0 ≤ f.1 ∧ f.1 ≤ 3 := of_decide_eq_true ha
    obtain ⟨r, hr⟩ : ∃ r : Nat, f.1 = (r : Int) := ⟨f.1.toNat, by omega⟩
    by_cases hl : (f.2.length : Int) = powI z f.1.toNat
    · rw [opOkB_rest ha hl, hr]
      exact l2Op_rest lo hi z r ao c n f.2 w h1 h2 (by omega) hv hhi hn (by rw [← hv.1, hl, hr]; simp)
    · rw [opOkB_len hl, hr]
      exact l2Op_len z r ao c n w h1 h2 (by omega) hn (by rw [← hv.1]; rw [hr] at hl; simpa using hl)

end Go.Proofs.Ytcmjkfcgekmomaa
