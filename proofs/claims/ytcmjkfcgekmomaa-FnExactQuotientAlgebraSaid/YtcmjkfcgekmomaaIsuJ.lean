/-
  AreE, RiseM, Rise, Some, SetL, SetV, SetR, Box, OwnN, BoolS, StepC, CloseC, GenS, Isu in one text. Conditions: as each theorem names them.
-/
import Derived.Test.YtcmjkfcgekmomaaIsAlg
import Derived.Test.YtcmjkfcgekmomaaStep
import Derived.Test.YtcmjkfcgekmomaaSetM
import Derived.Deep.RegionHeld3
import Derived.Test.YtcmjkfcgekmomaaSetB
import Derived.Test.YtcmjkfcgekmomaaElems
import Derived.Test.YtcmjkfcgekmomaaApp
import Derived.Test.YtcmjkfcgekmomaaMarkA
import Derived.Test.YtcmjkfcgekmomaaSetQ
import Derived.Test.YtcmjkfcgekmomaaDigs
import Derived.Test.YtcmjkfcgekmomaaSmL
namespace Go.Proofs.Ytcmjkfcgekmomaa
section
open Go.RowKit
set_option linter.unusedVariables false
set_option linter.unusedSimpArgs false

set_option maxHeartbeats 1000000 in
theorem areEls_any (lo hi lo2 hi2 : Nat) (z : Int) (ao bo : Option Addr) (c n d m : Nat) (fs : List OpD) (xs : List Int) (w : World) (hv : OView w lo hi ao n fs) (hhi : hi ≤ w.heap.size) (hs : ∀ (j : Nat) (f : OpD), fs[j]? = some f → f.2.length ≤ maxLen)
    (hx : IView w lo2 hi2 bo m xs) (hhi2 : hi2 ≤ w.heap.size) (hm : m ≤ maxLen) :
    Calls Try.prog 106 #[.agg #[.int .i64 z, .slice ao n c], .slice bo m d] w fun e w' => e = .returned (.bool (algOkB z fs && allIn z xs)) ∧ Below w.heap.size w w' := by
  have hB := below_alloc w (.cells #[.int .i64 z, .slice ao n c] 31)
  have HB := Lib.hid hB
  have hC := isAlg_any lo hi z ao c n fs _ (hv.kept (Kept.of_below hB hhi)) (Nat.le_trans hhi hB.size) hs
  obtain ⟨r, hr⟩ : ∃ r, algOkB z fs = r := ⟨_, rfl⟩
  rw [hr] at hC ⊢
  have HC := Lib.hid hC
  have cz : (w.alloc (.cells #[.int .i64 z, .slice ao n c] 31)).cell? ⟨w.heap.size, 0, none⟩ = some (.int .i64 z) := by simp
  have HX := Lib.hid hx
  obtain ⟨t, ht⟩ : ∃ t, allIn z xs = t := ⟨_, rfl⟩
  rw [ht]
  have HT := Lib.hid ht
  clear hv hs hx hB hC hr ht
  cases r with
  | false =>
    go_enter Try.func106, Try.ntmps106
    go_wp2_with fail
    refine HC.out.mono ?_
    rintro e w1 ⟨rfl, b1⟩
    have HB1 := Lib.hid (below_then HB.out b1)
    clear b1 cz
    go_wp2_with fail
    go_ret
    exact ⟨rfl, HB1.out⟩
  | true =>
    go_enter Try.func106, Try.ntmps106
    go_wp2_with fail
    refine HC.out.mono ?_
    rintro e w1 ⟨rfl, b1⟩
    have HB1 := Lib.hid (below_then HB.out b1)
    have cz1 := cell_b b1 cz
    have hE := elems_impl lo2 hi2 z bo d m xs w1 (HX.out.kept (Kept.of_below HB1.out hhi2)) hm
    rw [HT.out] at hE
    have HE := Lib.hid hE
    clear b1 cz hE
    go_wp2_with fail
    refine HE.out.mono ?_
    rintro e w2 ⟨rfl, rfl⟩
    go_wp2_with fail
    go_ret
    exact ⟨by simp, HB1.out⟩
end

section
set_option linter.unusedVariables false
set_option linter.unusedSimpArgs false

theorem listK_congr {s t : Nat} : ∀ n : Nat, (∀ k, k < n → s.testBit k = t.testBit k) → listK s n = listK t n := by
  intro n
  induction n with
  | zero => intro _; rfl
  | succ n ih =>
    intro h
    have h1 := h n (by omega)
    cases hb : s.testBit n with
    | true => rw [listK_yes hb, listK_yes (h1 ▸ hb), ih fun k hk => h k (by omega)]
    | false => rw [listK_no hb, listK_no (h1 ▸ hb), ih fun k hk => h k (by omega)]
theorem listK_add {s x n : Nat} (hs : s < 2 ^ x) (hx : x < n) : listK (s ||| 2 ^ x) n = listK s n ++ [(x : Int)] := by
  have h1 : (s ||| 2 ^ x) < 2 ^ (x + 1) := or_lt (lt_mono hs (by omega)) (pow_lt_of (by omega))
  rw [listK_more h1 (by omega : x + 1 ≤ n), listK_yes (by rw [Nat.testBit_or, bit_pow]; simp), listK_more hs (by omega : x ≤ n)]
  congr 1
  exact listK_congr x fun k hk => by
    rw [Nat.testBit_or, bit_pow]
    have : ¬ x = k := by omega
    simp [this]
theorem listK_pair (s n : Nat) : (listK s n).Pairwise (· < ·) := by
  induction n with
  | zero => exact List.Pairwise.nil
  | succ n ih =>
    cases hb : s.testBit n with
    | true =>
      rw [listK_yes hb, List.pairwise_append]
      refine ⟨ih, List.pairwise_singleton _ _, fun a ha b hb2 => ?_⟩
      rw [List.mem_singleton] at hb2
      obtain ⟨j, hj, rfl, _⟩ := (mem_listK s n a).1 ha
      omega
    | false => rw [listK_no hb]; exact ih
theorem allIn_take {z : Int} {xs : List Int} (k : Nat) (h : allIn z xs = true) : allIn z (xs.take k) = true := by
  unfold allIn at h ⊢
  rw [List.all_eq_true] at h ⊢
  exact fun x hx => h x (List.mem_of_mem_take hx)
theorem pair_list {z : Int} {xs : List Int} {n : Nat} (hz : z ≤ (n : Int)) (ha : allIn z xs = true) (hp : xs.Pairwise (· < ·)) : ∀ k, k ≤ xs.length → listK (setN (xs.take k)) n = xs.take k := by
  intro k
  induction k with
  | zero => intro _; rw [List.take_zero]; have h : ∀ n : Nat, listK 0 n = [] := fun n => by
              induction n with
              | zero => rfl
              | succ n ih => rw [listK_no (Nat.zero_testBit n), ih]
            exact h n
  | succ k ih =>
    intro hk
    have hx : xs[k]? = some (xs[k]'(by omega)) := List.getElem?_eq_getElem (by omega)
    obtain ⟨x0, x1⟩ := allIn_get ha hx
    have hlt : setN (xs.take k) < 2 ^ (xs[k]'(by omega)).toNat := by
      apply lt_of_bits
      intro j hj
      rw [setN_bit_iff (allIn_take k ha)] at hj
      obtain ⟨i, hi, he⟩ := List.getElem_of_mem hj
      rw [List.length_take] at hi
      rw [List.getElem_take] at he
      have h2 := (List.pairwise_iff_getElem.1 hp) i k (by omega) (by omega) (by omega)
      omega
    rw [setN_succ hx, listK_add hlt (by omega), ih (by omega), List.take_add_one, hx, Option.toList_some]
    congr 1
    simp; omega

/-- The list is the ascending list of some elements. -/
def riseB (z : Int) (xs : List Int) : Bool := allIn z xs && decide (listK (setN xs) 8 = xs)
theorem riseB_iff {z : Int} {xs : List Int} (hz : z ≤ 8) : riseB z xs = true ↔ allIn z xs = true ∧ xs.Pairwise (· < ·) := by
  unfold riseB
  rw [Bool.and_eq_true, decide_eq_true_eq]
  constructor
  · rintro ⟨h1, h2⟩; exact ⟨h1, by rw [← h2]; exact listK_pair _ _⟩
  · rintro ⟨h1, h2⟩
    have h3 := pair_list (n := 8) hz h1 h2 xs.length (Nat.le_refl _)
    rw [List.take_length] at h3
    exact ⟨h1, h3⟩
theorem riseB_nil {z : Int} (hz : z ≤ 8) : riseB z [] = true := (riseB_iff hz).2 ⟨rfl, List.Pairwise.nil⟩
theorem riseB_first {z : Int} {xs : List Int} {x : Int} (hz : z ≤ 8) (hx : xs[0]? = some x) (h0 : 0 ≤ x) (h1 : x < z) : riseB z (xs.take 1) = true := by
  rw [List.take_add_one, List.take_zero, hx]
  exact (riseB_iff hz).2 ⟨by simp [allIn, h0, h1], List.pairwise_singleton _ _⟩
theorem riseB_next {z : Int} {xs : List Int} {k : Nat} {x y : Int} (hz : z ≤ 8) (h : riseB z (xs.take (k + 1)) = true) (hy : xs[k]? = some y) (hx : xs[k + 1]? = some x) (h0 : 0 ≤ x) (h1 : x < z) (hlt : y < x) : riseB z (xs.take (k + 1 + 1)) = true := by
  obtain ⟨ha, hp⟩ := (riseB_iff hz).1 h
  refine (riseB_iff hz).2 ?_
  rw [List.take_add_one (i := k + 1), hx, Option.toList_some]
  refine ⟨?_, ?_⟩
  · unfold allIn at ha ⊢
    rw [List.all_append, ha]; simp [h0, h1]
  · rw [List.pairwise_append]
    refine ⟨hp, List.pairwise_singleton _ _, fun a ha2 b hb => ?_⟩
    rw [List.mem_singleton] at hb
    subst hb
    obtain ⟨i, hi, he⟩ := List.getElem_of_mem ha2
    have hkl : k < (xs.take (k + 1)).length := by
      have := (List.getElem?_eq_some_iff.1 hx).1
      rw [List.length_take]; omega
    have hyk : (xs.take (k + 1))[k]'hkl = y := by
      rw [List.getElem_take]
      have := (List.getElem?_eq_some_iff.1 hy).2
      exact this
    rw [List.length_take] at hi
    by_cases hik : i = k
    · subst hik; omega
    · have h2 := (List.pairwise_iff_getElem.1 hp) i k (by rw [List.length_take]; omega) hkl (by omega)
      omega
theorem riseB_out {z : Int} {xs : List Int} {k : Nat} {x : Int} (hx : xs[k]? = some x) (h : ¬ (0 ≤ x ∧ x < z)) : riseB z xs = false := by
  unfold riseB
  have : allIn z xs = false := by
    rw [← Bool.not_eq_true]
    intro ha
    exact h (allIn_get ha hx)
  rw [this]; rfl
theorem riseB_fall {z : Int} {xs : List Int} {k : Nat} {x y : Int} (hz : z ≤ 8) (hy : xs[k]? = some y) (hx : xs[k + 1]? = some x) (h : ¬ y < x) : riseB z xs = false := by
  rw [← Bool.not_eq_true]
  intro hr
  obtain ⟨_, hp⟩ := (riseB_iff hz).1 hr
  obtain ⟨h1, h2⟩ := List.getElem?_eq_some_iff.1 hy
  obtain ⟨h3, h4⟩ := List.getElem?_eq_some_iff.1 hx
  have := (List.pairwise_iff_getElem.1 hp) k (k + 1) h1 h3 (by omega)
  omega

/-- A list is a subuniverse of a valid algebra. -/
def isSubB (z : Int) (fs : List OpD) (xs : List Int) : Bool := riseB z xs && decide (stepN z fs (setN xs) = setN xs)
theorem isSubB_rise {z : Int} {fs : List OpD} {xs : List Int} (h : riseB z xs = false) : isSubB z fs xs = false := by simp [isSubB, h]
theorem isSubB_step {z : Int} {fs : List OpD} {xs : List Int} (h : riseB z xs = true) : isSubB z fs xs = decide (stepN z fs (setN xs) = setN xs) := by simp [isSubB, h]
theorem isSubB_of {z : Int} {fs : List OpD} {xs : List Int} (h : isSubB z fs xs = true) : allIn z xs = true ∧ listK (setN xs) 8 = xs ∧ stepN z fs (setN xs) = setN xs := by
  unfold isSubB riseB at h
  simp only [Bool.and_eq_true, decide_eq_true_eq] at h
  exact ⟨h.1.1, h.1.2, h.2⟩
/-- The model asks for the closure. -/
theorem isSub_close {z : Int} {fs : List OpD} {xs : List Int} (hok : algOkB z fs = true) (h : riseB z xs = true) : decide (listK (closeN z fs (setN xs)) 8 = xs) = isSubB z fs xs := by
  rw [isSubB_step h]
  unfold riseB at h
  simp only [Bool.and_eq_true, decide_eq_true_eq] at h
  obtain ⟨ha, hl⟩ := h
  have hz := (algOkB_of hok).1
  have hs : setN xs < 2 ^ z.toNat := setN_lt ha (by omega)
  have hs8 : setN xs < 2 ^ 8 := lt_mono hs (by omega)
  have hc8 : closeN z fs (setN xs) < 2 ^ 8 := closeN_lt hok (by omega) hs8
  have key : listK (closeN z fs (setN xs)) 8 = xs ↔ stepN z fs (setN xs) = setN xs := by
    rw [← closeN_self hok hs]
    constructor
    · intro h1; exact listK_inj hc8 hs8 (h1.trans hl.symm)
    · intro h1; rw [h1]; exact hl
  by_cases h1 : stepN z fs (setN xs) = setN xs
  · rw [decide_eq_true h1, decide_eq_true (key.2 h1)]
  · rw [decide_eq_false h1, decide_eq_false fun h2 => h1 (key.1 h2)]
end

section
open Go.RowKit
set_option linter.unusedVariables false
set_option linter.unusedSimpArgs false

set_option maxHeartbeats 1000000 in
theorem rising_any (lo hi : Nat) (z : Int) (ao : Option Addr) (c n : Nat) (xs : List Int) (w : World) (h : IView w lo hi ao n xs) (hn : n ≤ maxLen) (hz1 : 1 ≤ z) (hz2 : z ≤ 8) :
    Calls Try.prog 99 #[.slice ao n c, .int .i64 0, .int .i64 (z - 1)] w fun e w' => e = .returned (.bool (riseB z xs)) ∧ ∃ q, w' = w.drewN q := by
  unfold maxLen at hn
  have HV := Lib.hid h
  obtain ⟨r, hr⟩ : ∃ r, riseB z xs = r := ⟨_, rfl⟩
  have HR := Lib.hid hr
  obtain ⟨z1, hz⟩ : ∃ z1, z - 1 = z1 := ⟨_, rfl⟩
  have HZ : Hid (z = z1 + 1) := by unfold Hid; omega
  rw [hr, hz]
  clear h hr hz
  go_enter Try.func99, Try.ntmps99
  go_wp2
  go_loopw [7] (fun i wr => ∃ k : Nat, k ≤ n ∧ i = .int .i64 (k : Int) ∧ Hid (riseB z (xs.take k) = true) ∧ Hid (∃ q, wr = w.drewN q)) (fun i _ => n - (intOf i).toNat)
  case atStart => exact ⟨0, Nat.zero_le _, rfl, riseB_nil hz2, ⟨0, rfl⟩⟩
  case round =>
    obtain ⟨k, hk, rfl, HA, HQ⟩ := hrel
    have hcq : ∀ a v, w.cell? a = some v → wr.cell? a = some v := fun a v h_ => by
      obtain ⟨q, hq⟩ := HQ.out
      rw [hq]; exact h_
    by_cases hlt : k < n
    · obtain ⟨b, o, rfl, _, _, hc⟩ := HV.out.at_ (by omega)
      obtain ⟨x, hx⟩ := get_of_lt HV.out.1 hlt
      have hcell := hcq _ _ (hc k x hx)
      have HX := Lib.hid hx
      have hkn : (k : Int) < (n : Int) := by omega
      have HI := fun w => in_any x 0 z1 w
      by_cases hin : 0 ≤ x ∧ x < z
      · obtain ⟨h0, h1⟩ := hin
        rw [inB_yes h0 (by have := HZ.out; omega)] at HI
        have HI := Lib.hid HI
        rcases Nat.eq_zero_or_pos k with hk0 | hk0
        · subst hk0
          have HN : Hid (riseB z (xs.take (0 + 1)) = true) := riseB_first hz2 hx h0 h1
          rw [Nat.add_zero] at hcell
          clear hcq hc hx
          go_wp2_with fail
          go_quiet ((go_at_call 97; exact quiet_left (HI.out _)))
          go_wp2
          go_roundw
          case rel => exact ⟨0 + 1, by omega, by go_num, HN, by obtain ⟨q, hq⟩ := HQ.out; exact ⟨q + nq, by rw [hq, World.drewN_drewN]⟩⟩
          case measure => simp [intOf]; omega
        · obtain ⟨j, rfl⟩ : ∃ j, k = j + 1 := ⟨k - 1, by omega⟩
          obtain ⟨y, hy⟩ := get_of_lt HV.out.1 (show j < n by omega)
          have hcy := hcq _ _ (hc j y hy)
          have hsub : ((j + 1 : Nat) : Int) - 1 = (j : Int) := by omega
          have hwr : IntKind.i64.wrap (((j + 1 : Nat) : Int) - 1) = (j : Int) := by rw [hsub, IntKind.wrap_i64]; omega
          have hjn : (j : Int) < (n : Int) := by omega
          have hk1 : (0 : Int) < ((j + 1 : Nat) : Int) := by omega
          have HY := Lib.hid hy
          by_cases hyx : y < x
          · have hge : ¬ x ≤ y := by omega
            have HN : Hid (riseB z (xs.take (j + 1 + 1)) = true) := riseB_next hz2 HA.out hy hx h0 h1 hyx
            clear hcq hc hx hy hk0
            go_wp2_with fail
            go_quiet ((go_at_call 97; exact quiet_left (HI.out _)))
            go_wp2
            go_roundw
            case rel => exact ⟨j + 1 + 1, by omega, by go_num, HN, by obtain ⟨q, hq⟩ := HQ.out; exact ⟨q + nq, by rw [hq, World.drewN_drewN]⟩⟩
            case measure => simp [intOf]; omega
          · have hge : x ≤ y := by omega
            have HF : Hid (r = false) := by unfold Hid; rw [← HR.out]; exact riseB_fall hz2 hy hx hyx
            clear hcq hc hx hy hk0 hyx
            go_wp2_with fail
            go_quiet ((go_at_call 97; exact quiet_left (HI.out _)))
            go_wp2
            go_ret
            exact ⟨ret_bool HF.out.symm, by obtain ⟨q, hq⟩ := HQ.out; exact ⟨q + nq, by rw [hq, World.drewN_drewN]⟩⟩
      · rw [inB_no (by have := HZ.out; omega)] at HI
        have HI := Lib.hid HI
        have HF : Hid (r = false) := by unfold Hid; rw [← HR.out]; exact riseB_out hx hin
        clear hcq hc hx hin
        go_wp2_with fail
        go_quiet ((go_at_call 97; exact quiet_left (HI.out _)))
        go_wp2
        go_ret
        exact ⟨ret_bool HF.out.symm, by obtain ⟨q, hq⟩ := HQ.out; exact ⟨q + nq, by rw [hq, World.drewN_drewN]⟩⟩
    · go_wp2
      go_ret
      have h_ := HA.out
      rw [List.take_of_length_le (by have := HV.out.1; omega)] at h_
      exact ⟨ret_bool (by rw [← HR.out]; exact h_.symm), HQ.out⟩
end

section
open Go.RowKit
set_option linter.unusedVariables false
set_option linter.unusedSimpArgs false

/-- Some elements of a valid algebra, at most 20. -/
def someB (z : Int) (fs : List OpD) (xs : List Int) : Bool := algOkB z fs && (decide (xs.length ≤ 20) && allIn z xs)
theorem someB_alg {z : Int} {fs : List OpD} {xs : List Int} (h : algOkB z fs = false) : someB z fs xs = false := by simp [someB, h]
theorem someB_long {z : Int} {fs : List OpD} {xs : List Int} (h : ¬ xs.length ≤ 20) : someB z fs xs = false := by simp [someB, h]
theorem someB_in {z : Int} {fs : List OpD} {xs : List Int} (h : algOkB z fs = true) (h2 : xs.length ≤ 20) : someB z fs xs = allIn z xs := by simp [someB, h, h2]
theorem someB_of {z : Int} {fs : List OpD} {xs : List Int} (h : someB z fs xs = true) : algOkB z fs = true ∧ xs.length ≤ 20 ∧ allIn z xs = true := by
  simp only [someB, Bool.and_eq_true, decide_eq_true_eq] at h
  exact h
theorem alg_dom {z : Int} {fs : List OpD} (h : algOkB z fs = true) : 1 ≤ z ∧ z ≤ 8 := (algOkB_of h).1


end

section
open Go.RowKit
set_option linter.unusedVariables false
set_option linter.unusedSimpArgs false

theorem hasA_yes {s r : Nat} {z at_ : Int} (h : s.testBit (at_ % z).toNat = true) : hasA s z (r + 1) at_ = hasA s z r (at_ / z) := by simp [hasA, h]
theorem hasA_no {s r : Nat} {z at_ : Int} (h : s.testBit (at_ % z).toNat = false) : hasA s z (r + 1) at_ = false := by simp [hasA, h]

theorem hasArgs_any (s : Nat) (z : Int) (r : Nat) (at_ : Int) (w : World) (hs : s < 2 ^ 8) (hz1 : 1 ≤ z) (hz2 : z ≤ 8) (hr : r ≤ 3) (h0 : 0 ≤ at_) (h1 : at_ ≤ 4096) :
    Calls Try.prog 146 #[.int .u64 (s : Int), .int .i64 z, .int .i64 (r : Int), .int .i64 at_] w fun e w' => e = .returned (.bool (hasA s z r at_)) ∧ w = w' := by
  obtain ⟨t, ht⟩ : ∃ t, hasA s z r at_ = t := ⟨_, rfl⟩
  rw [ht]
  have HT := Lib.hid ht
  have HS := Lib.hid hs
  clear ht hs
  go_enter Try.func146, Try.ntmps146
  go_wp2
  go_loop [3, 10] (fun a i => ∃ (k : Nat) (v : Int), k ≤ r ∧ i = .int .i64 (k : Int) ∧ a = .int .i64 v ∧ 0 ≤ v ∧ v ≤ 4096 ∧ Hid (hasA s z (r - k) v = t)) (fun _ i => r - (intOf i).toNat)
  case atStart => exact ⟨0, at_, Nat.zero_le _, rfl, rfl, h0, h1, HT⟩
  case round =>
    obtain ⟨k, v, hk, rfl, rfl, hv0, hv1, HA⟩ := hrel
    by_cases hlt : k < r
    · have hm0 : 0 ≤ v % z := Int.emod_nonneg _ (by omega)
      have hm1 : v % z < z := Int.emod_lt_of_pos v (by omega)
      obtain ⟨d0, d1⟩ := digs_bd hz1 hv0
      have HB := fun w => has_any s (v % z) w HS.out hm0 (by omega)
      obtain ⟨u, hu⟩ : ∃ u, s.testBit (v % z).toNat = u := ⟨_, rfl⟩
      simp only [hu] at HB
      have HC := Lib.hid HB
      have HU := Lib.hid hu
      have hne : ¬ z = 0 := by omega
      have hkr : (k : Int) < (r : Int) := by omega
      clear HB hu
      cases u with
      | true =>
        go_wp2_with fail
        refine (HC.out _).mono ?_
        rintro e w' ⟨rfl, rfl⟩
        go_wp2_with fail
        go_round
        case rel => exact ⟨k + 1, v / z, by omega, by go_num, by go_num, d0, by omega, by have h_ := HA.out; rw [show r - k = (r - (k + 1)) + 1 by omega, hasA_yes HU.out] at h_; exact h_⟩
        case measure => simp [intOf]; omega
      | false =>
        go_wp2_with fail
        refine (HC.out _).mono ?_
        rintro e w' ⟨rfl, rfl⟩
        go_wp2_with fail
        go_ret
        exact ⟨ret_bool (by have h_ := HA.out; rw [show r - k = (r - (k + 1)) + 1 by omega, hasA_no HU.out] at h_; exact h_), rfl⟩
    · go_wp2
      go_ret
      exact ⟨ret_bool (by have h_ := HA.out; rw [show r - k = 0 by omega] at h_; exact h_), rfl⟩
end

section
open Go.RowKit
set_option linter.unusedVariables false
set_option linter.unusedSimpArgs false

set_option maxHeartbeats 2000000 in
theorem within_any (lo hi : Nat) (z : Int) (ao : Option Addr) (c n : Nat) (fs : List OpD) (s : Nat) (w : World) (hv : OView w lo hi ao n fs) (hhi : hi ≤ w.heap.size) (hok : algOkB z fs = true) (hs : s < 2 ^ 8) :
    Calls Try.prog 137 #[.agg #[.int .i64 z, .slice ao n c], .int .u64 (s : Int)] w fun e w' => e = .returned (.int .u64 (valO s z fs fs.length : Int)) ∧ Below w.heap.size w w' := by
  obtain ⟨⟨h1, h2⟩, hn4, hall⟩ := algOkB_of hok
  have HV := Lib.hid hv
  have HAll := Lib.hid hall
  have HS := Lib.hid hs
  have hl := hv.1
  rw [hl] at hn4
  have HB := Lib.hid (below_alloc w (.cells #[.int .i64 z, .slice ao n c] 31))
  have HLt := Lib.hid (fun j hj => valO_lt (s := s) (n := 8) hok h2 j hj)
  clear hv hok hs hall
  go_enter Try.func137, Try.ntmps137
  go_wp2
  go_loopw [5, 13] (fun p i wr => ∃ (k v : Nat), k ≤ n ∧ i = .int .i64 (k : Int) ∧ p = .int .u64 (v : Int) ∧ Hid (v = valO s z fs k) ∧ wr.cell? ⟨w.heap.size, 0, none⟩ = some (.int .i64 z) ∧ Hid (Below w.heap.size w wr)) (fun _ i _ => n - (intOf i).toNat)
  case atStart => exact ⟨0, 0, Nat.zero_le _, rfl, rfl, rfl, by simp, HB⟩
  case round =>
    obtain ⟨k, v, hk, rfl, rfl, HVal, cz, HBr⟩ := hrel
    by_cases hlt : k < n
    · obtain ⟨b, o, rfl, _, hbh, hc⟩ := HV.out.at_ (by omega)
      obtain ⟨f, hf⟩ := get_of_lt HV.out.1 hlt
      obtain ⟨a, m, c', c0, c1, hmc, hcm, hvt⟩ := hc k f hf
      have e0 : wr.cell? ⟨b, o + k * 2, none⟩ = some (.int .i64 f.1) := cell_b HBr.out c0
      have e1 : wr.cell? ⟨b, o + k * 2 + 1, none⟩ = some (.slice a m c') := cell_b HBr.out c1
      obtain ⟨hm5, hf1, hf3⟩ := place_bd h1 h2 (HAll.out f (List.mem_of_getElem? hf))
      obtain ⟨r, hr⟩ : ∃ r, f.1.toNat = r := ⟨_, rfl⟩
      rw [hr] at hf1 hf3
      rw [hf1] at e0
      have hml : f.2.length = m := hvt.1
      rw [hml] at hm5
      have HVt := Lib.hid (hvt.kept (Kept.of_below HBr.out hhi))
      have HF := Lib.hid hf
      have HR := Lib.hid hr
      have HML := Lib.hid hml
      have hkn : (k : Int) < (n : Int) := by omega
      clear hc hf c0 c1 hvt hr hf1 hml
      go_wp2
      have cz1 : (wr.alloc (.cells #[.int .i64 (r : Int), .slice a m c'] 66)).cell? ⟨w.heap.size, 0, none⟩ = some (.int .i64 z) := cell_b (below_alloc _ _) cz
      have cr1 : (wr.alloc (.cells #[.int .i64 (r : Int), .slice a m c'] 66)).cell? ⟨wr.heap.size, 0, none⟩ = some (.int .i64 (r : Int)) := by simp
      have HB1 := Lib.hid (HBr.out.alloc HBr.out.size (.cells #[.int .i64 (r : Int), .slice a m c'] 66))
      have HVt1 := Lib.hid (HVt.out.kept (Kept.of_below (below_alloc wr (.cells #[.int .i64 (r : Int), .slice a m c'] 66)) (Nat.le_trans hhi HBr.out.size)))
      obtain ⟨g, hg⟩ : ∃ g, g = wr.heap.size := ⟨_, rfl⟩
      rw [← hg] at cr1 ⊢
      obtain ⟨W1, hW1⟩ : ∃ W1, W1 = wr.alloc (.cells #[.int .i64 (r : Int), .slice a m c'] 66) := ⟨_, rfl⟩
      rw [← hW1] at cz1 cr1 HB1 HVt1 ⊢
      clear hW1 hg e0 e1 cz HVt
      go_loop [5, 20] (fun p i => ∃ (j u : Nat), j ≤ m ∧ i = .int .i64 (j : Int) ∧ p = .int .u64 (u : Int) ∧ Hid (u = valO s z fs k ||| valT s z f j) ∧ Hid (u < 2 ^ 8)) (fun _ i => m - (intOf i).toNat)
      case atStart => exact ⟨0, v, Nat.zero_le _, rfl, rfl, by unfold Hid; rw [HVal.out]; simp [valT], by unfold Hid; rw [HVal.out]; exact HLt.out k (by omega)⟩
      case round =>
        obtain ⟨j, u, hj, rfl, rfl, HU, HULt⟩ := hrel
        by_cases hjm : j < m
        · obtain ⟨bt, ot, rfl, _, _, hct⟩ := HVt1.out.at_ (by omega)
          obtain ⟨x, hx⟩ := get_of_lt HVt1.out.1 hjm
          have hcell := hct j x hx
          obtain ⟨x0, x1⟩ := allIn_get (opOkB_of (HAll.out f (List.mem_of_getElem? HF.out))).2.2 hx
          have HX := Lib.hid hx
          have HC := fun w => hasArgs_any s z r (j : Int) w HS.out h1 h2 hf3 (by omega) (by omega)
          obtain ⟨t, ht⟩ : ∃ t, hasA s z r (j : Int) = t := ⟨_, rfl⟩
          simp only [ht] at HC
          have HC := Lib.hid HC
          have HT : Hid (hasA s z f.1.toNat (j : Int) = t) := by unfold Hid; rw [HR.out, ht]
          have hjm' : (j : Int) < (m : Int) := by omega
          clear hct hx ht
          cases t with
          | true =>
            go_wp2_with fail
            refine (HC.out _).mono ?_
            rintro e w' ⟨rfl, rfl⟩
            go_wp2_with fail
            go_round
            case rel => exact ⟨j + 1, u ||| 2 ^ x.toNat, by omega, by go_num, by rw [put_set HULt.out x0 (by omega)], by unfold Hid; rw [valT_yes HT.out HX.out, ← Nat.or_assoc, HU.out], or_lt HULt.out (pow_lt_of (by omega))⟩
            case measure => simp [intOf]; omega
          | false =>
            go_wp2_with fail
            refine (HC.out _).mono ?_
            rintro e w' ⟨rfl, rfl⟩
            go_wp2_with fail
            go_round
            case rel => exact ⟨j + 1, u, by omega, by go_num, rfl, by unfold Hid; rw [valT_no HT.out, HU.out], HULt⟩
            case measure => simp [intOf]; omega
        · have hjm' : ¬ (j : Int) < (m : Int) := by omega
          have HUe : Hid (u = valO s z fs (k + 1)) := by
            unfold Hid; rw [valO_succ HF.out, HU.out, HML.out, show j = m by omega]
          go_wp2_with fail
          go_roundw
          case rel => exact ⟨k + 1, u, by omega, by go_num, rfl, HUe, cz1, HB1⟩
          case measure => simp [intOf]; omega
    · go_wp2
      go_ret
      exact ⟨ret_set (by rw [HVal.out, show k = fs.length by omega]), HBr.out⟩
end

section
open Go.RowKit
set_option linter.unusedVariables false
set_option linter.unusedSimpArgs false

theorem closed_any (lo hi : Nat) (z : Int) (ao : Option Addr) (c n : Nat) (fs : List OpD) (s : Nat) (w : World) (hv : OView w lo hi ao n fs) (hhi : hi ≤ w.heap.size) (hok : algOkB z fs = true) (hs : s < 2 ^ 8) :
    Calls Try.prog 109 #[.agg #[.int .i64 z, .slice ao n c], .int .u64 (s : Int)] w fun e w' => e = .returned (.bool (decide (stepN z fs s = s))) ∧ Below w.heap.size w w' := by
  have hB := below_alloc w (.cells #[.int .i64 z, .slice ao n c] 31)
  have HC := Lib.hid (within_any lo hi z ao c n fs s _ (hv.kept (Kept.of_below hB hhi)) (Nat.le_trans hhi hB.size) hok hs)
  have hlt := valO_lt (s := s) (n := 8) hok (algOkB_of hok).1.2 fs.length (Nat.le_refl _)
  have HB := Lib.hid hB
  have HE : Hid (decide (diffN (valO s z fs fs.length) s = 0) = decide (stepN z fs s = s)) := by
    unfold Hid
    have h := isIn_step (n := 8) (s := s) hok (algOkB_of hok).1.2 (Nat.le_refl _)
    by_cases h1 : diffN (valO s z fs fs.length) s = 0
    · rw [decide_eq_true h1, decide_eq_true (h.1 h1)]
    · rw [decide_eq_false h1, decide_eq_false fun h2 => h1 (h.2 h2)]
  have HI := Lib.hid (fun w => isIn_any (valO s z fs fs.length) s w hlt hs)
  clear hv hok hB hlt
  go_enter Try.func109, Try.ntmps109
  go_wp2_with fail
  refine HC.out.mono ?_
  rintro e w1 ⟨rfl, b1⟩
  have HB1 := Lib.hid (below_then HB.out b1)
  clear b1
  go_wp2_with fail
  refine (HI.out _).mono ?_
  rintro e w2 ⟨rfl, rfl⟩
  go_wp2_with fail
  go_ret
  exact ⟨ret_bool HE.out, HB1.out⟩

/-- The rounds: first the set, then what each round adds. -/
def rndL (z : Int) (fs : List OpD) (s : Nat) : Nat → List Nat
  | 0 => [s]
  | k + 1 => rndL z fs s k ++ [diffN (valO (stepK z fs s k) z fs fs.length) (stepK z fs s k)]
theorem rndL_len (z : Int) (fs : List OpD) (s k : Nat) : (rndL z fs s k).length = k + 1 := by
  induction k with
  | zero => rfl
  | succ k ih => simp [rndL, ih]
def orL (ss : List Nat) : Nat := ss.foldl (fun a b => a ||| b) 0
theorem orL_succ {ss : List Nat} {k x : Nat} (hx : ss[k]? = some x) : orL (ss.take (k + 1)) = orL (ss.take k) ||| x := by
  unfold orL
  rw [List.take_add_one, hx, Option.toList_some, List.foldl_append]; rfl
theorem orL_snoc (ss : List Nat) (x : Nat) : orL (ss ++ [x]) = orL ss ||| x := by simp [orL, List.foldl_append]
theorem rnd_next {z : Int} {fs : List OpD} {s : Nat} (hok : algOkB z fs = true) (hs : s < 2 ^ 8) (k : Nat) : stepK z fs s k ||| diffN (valO (stepK z fs s k) z fs fs.length) (stepK z fs s k) = stepK z fs s (k + 1) :=
  or_diff (valO_lt (n := 8) hok (algOkB_of hok).1.2 _ (Nat.le_refl _))
theorem rnd_or {z : Int} {fs : List OpD} {s : Nat} (hok : algOkB z fs = true) (hs : s < 2 ^ 8) (k : Nat) : orL (rndL z fs s k) = stepK z fs s k := by
  induction k with
  | zero => simp [rndL, orL, stepK]
  | succ k ih => rw [rndL, orL_snoc, ih, rnd_next hok hs]
theorem rnd_lt {z : Int} {fs : List OpD} {s n : Nat} (hok : algOkB z fs = true) (hz : z ≤ (n : Int)) (hn : n ≤ 8) (hs : s < 2 ^ n) (k : Nat) : ∀ x, x ∈ rndL z fs s k → x < 2 ^ n := by
  induction k with
  | zero => intro x hx; simp [rndL] at hx; omega
  | succ k ih =>
    intro x hx
    rw [rndL, List.mem_append, List.mem_singleton] at hx
    rcases hx with hx | rfl
    · exact ih x hx
    · exact diffN_lt (valO_lt hok hz _ (Nat.le_refl _)) hn
/-- The least number of rounds behind which nothing is added. -/
def LastR (z : Int) (fs : List OpD) (s k : Nat) : Prop := stepN z fs (stepK z fs s k) = stepK z fs s k ∧ ∀ j, j < k → stepN z fs (stepK z fs s j) ≠ stepK z fs s j
theorem LastR.uniq {z : Int} {fs : List OpD} {s k j : Nat} (h : LastR z fs s k) (h2 : LastR z fs s j) : k = j := by
  rcases Nat.lt_trichotomy k j with h3 | h3 | h3
  · exact absurd h.1 (h2.2 k h3)
  · exact h3
  · exact absurd h2.1 (h.2 j h3)

theorem setV_eq (s : Nat) : setV s = .int .u64 (s : Int) := rfl


end

section
open Go.RowKit
set_option linter.unusedVariables false
set_option linter.unusedSimpArgs false

theorem OwnsInts.none_ (w : World) (lo hi : Nat) : OwnsInts w lo hi none 0 0 [] := ⟨⟨rfl, .inl ⟨rfl, rfl⟩⟩, fun k hk => by cases hk⟩

/-- The first i of new, behind them what was there. -/
def fillL (new old : List Int) (i : Nat) : List Int := new.take i ++ old.drop i

theorem fillL_zero (new old : List Int) : fillL new old 0 = old := by simp [fillL]

theorem fillL_all {new old : List Int} {i : Nat} (h : new.length = i) (hi : old.length = i) : fillL new old i = new := by
  simp [fillL, List.take_of_length_le (by omega : new.length ≤ i), List.drop_of_length_le (by omega : old.length ≤ i)]

theorem fillL_set {new old : List Int} {i n : Nat} {x : Int} (h : new.length = n) (ho : old.length = n) (hi : i < n) (hx : new[i]? = some x) : (fillL new old i).set i x = fillL new old (i + 1) := by
  unfold fillL
  have hl : (new.take i).length = i := by simp; omega
  rw [List.set_append_right _ _ (by omega), hl, Nat.sub_self, List.drop_eq_getElem_cons (by omega), List.set_cons_zero, List.take_add_one, hx]
  simp

theorem boxC {w : World} {B : Nat} {a b : Value} {ty : TypeId} (h : w.heap[B]? = some (.cells #[a, b] ty (0, 0))) : w.cell? ⟨B, 0, none⟩ = some a ∧ w.cell? ⟨B, 1, none⟩ = some b ∧ (∀ j, w.frozen? ⟨B, j, none⟩ = false) :=
  ⟨by rw [cell_of_row w B 0 _ ty (0, 0) h]; rfl, by rw [cell_of_row w B 1 _ ty (0, 0) h]; rfl, fun j => by simp [World.frozen?, h]⟩

theorem keepS {w : World} {a b : Addr} {u v : Value} (h : w.cell? b = some v) (hne : a.block ≠ b.block) : (w.setCell a u).cell? b = some v :=
  (World.cell?_setCell_other _ _ _ _ (fun e => hne (by rw [e]))).trans h
end

section
open Go.RowKit

theorem own_nil_res {w w1 : World} (hB1 : Below w.heap.size w w1) : OwnsInts (w1.alloc (.cells #[] 3)) w.heap.size (w1.alloc (.cells #[] 3)).heap.size (some ⟨w1.heap.size, 0, none⟩) 0 0 [] :=
  OwnsInts.of_row (World.ownsRow_lit (base := w.heap.size) (e := 3) (size := 1) w1 #[] 0 hB1.size (by decide) rfl)
end

section
open Go.RowKit
set_option linter.unusedVariables false
set_option linter.unusedSimpArgs false

def boolsV (s n : Nat) : List Value := (List.range n).map fun k => Value.bool (s.testBit k)
theorem boolsV_len (s n : Nat) : (boolsV s n).length = n := by simp [boolsV]
theorem boolsV_get {s n k : Nat} (h : k < n) : (boolsV s n)[k]? = some (.bool (s.testBit k)) := by simp [boolsV, h]
theorem boolsV_set {s n k : Nat} (h : k < n) : (boolsV s n).set k (.bool true) = boolsV (s ||| 2 ^ k) n := by
  apply List.ext_getElem?
  intro i
  rw [List.getElem?_set]
  by_cases hi : i < n
  · rw [boolsV_get hi, boolsV_get hi, Nat.testBit_or, bit_pow]
    by_cases hk : k = i
    · subst hk; simp [boolsV_len, h]
    · simp [hk]
  · rw [List.getElem?_eq_none (by rw [boolsV_len]; omega), List.getElem?_eq_none (by rw [boolsV_len]; omega)]
    by_cases hk : k = i
    · omega
    · simp [hk]
theorem boolsV_zero (n : Nat) : boolsV 0 n = List.replicate n (.bool false) := by
  unfold boolsV
  apply List.ext_getElem?
  intro i
  rw [List.getElem?_map, List.getElem?_replicate]
  by_cases hi : i < n
  · rw [List.getElem?_range hi, if_pos hi]; simp
  · rw [if_neg hi, List.getElem?_eq_none (by simp; omega)]; rfl

theorem Try.infoBool : (Try.prog.info? 4).map (fun i => (i.zero, i.size, i.bytes)) = some (some (.bool false), 1, 1) := by kernel_rfl
theorem make_bools (w : World) (n : Nat) (hn : n ≤ 1048576) : ∃ w', (Instr.makeSlice 119 (.int .i64 (n : Int)) (.int .i64 (n : Int))).run Try.prog w = .ok (.slice (some ⟨w.heap.size, 0, none⟩) n n) w' ∧
    w'.ownsRow w.heap.size 4 1 (.slice (some ⟨w.heap.size, 0, none⟩) n n) n (boolsV 0 n) ∧ Below w.heap.size w w' := by
  obtain ⟨i0, hi0, hz0, hz1, hz2⟩ := info_parts Try.infoBool
  obtain ⟨w', hrun, r1, r2⟩ := run_make_full (P := Try.prog) w w.heap.size 119 4 i0 _ 1 Try.underlying119 hi0 hz0 hz1 .i64 .i64 n (by rw [hz2]; omega) (by unfold maxLen; omega) (Nat.le_refl _)
  refine ⟨w', hrun, ?_, (Below.refl _ _).grown r2 (Nat.le_refl _) (by intro k hk; cases hk)⟩
  rw [show (Value.bool false).cells = #[Value.bool false] from rfl, Nat.mul_one, toList_madeCells_one] at r1
  rw [boolsV_zero]
  exact r1

/-- A set told for each of the first n elements, in memory of the call's own. -/
def BoolsAt (w w' : World) (n s : Nat) (e : Ending) : Prop :=
  ∃ g d, e = .returned (.slice (some ⟨g, 0, none⟩) n d) ∧ w'.ownsRow w.heap.size 4 1 (.slice (some ⟨g, 0, none⟩) n d) n (boolsV s n) ∧ Below w.heap.size w w'

set_option maxHeartbeats 1000000 in
theorem l5In_any (lo hi : Nat) (zn : Nat) (ao : Option Addr) (c n : Nat) (xs : List Int) (w : World) (h : IView w lo hi ao n xs) (hhi : hi ≤ w.heap.size) (hn : n ≤ maxLen) (ha : allIn (zn : Int) xs = true) (hz : zn ≤ 8) :
    Calls Try.prog 133 #[.int .i64 (zn : Int), .slice ao n c] w fun e w' => BoolsAt w w' zn (setN xs) e := by
  unfold maxLen at hn
  obtain ⟨w1, hmk, ho1, hb1⟩ := make_bools w zn (by omega)
  have HV := Lib.hid (h.kept (Kept.of_below hb1 hhi))
  have HA := Lib.hid ha
  have HO := Lib.hid ho1
  have HB := Lib.hid hb1
  have HLn := Lib.hid h.1
  clear h ha ho1 hb1
  unfold BoolsAt
  go_enter Try.func133, Try.ntmps133
  go_wp2_with fail
  clear hmk
  go_loopw [6] (fun i wr => ∃ k : Nat, k ≤ n ∧ i = .int .i64 (k : Int) ∧ Hid (wr.ownsRow w.heap.size 4 1 (.slice (some ⟨w.heap.size, 0, none⟩) zn zn) zn (boolsV (setN (xs.take k)) zn)) ∧ Hid (Below w.heap.size w wr)) (fun i _ => n - (intOf i).toNat)
  case atStart => exact ⟨0, Nat.zero_le _, rfl, HO, HB⟩
  case round =>
    obtain ⟨k, hk, rfl, HR, HBr⟩ := hrel
    by_cases hlt : k < n
    · obtain ⟨b, o, rfl, _, hbh, hc⟩ := HV.out.at_ (by omega)
      obtain ⟨x, hx⟩ := get_of_lt HLn.out hlt
      have hlow : b < w.heap.size := by omega
      have hcell : wr.cell? ⟨b, o + k, none⟩ = some (.int .i64 x) := by
        have h1_ := hc k x hx
        rw [HB.out.cell (p := ⟨b, o + k, none⟩) hlow] at h1_
        exact cell_b HBr.out h1_
      obtain ⟨h0, h1⟩ := allIn_get HA.out hx
      obtain ⟨xn, rfl⟩ : ∃ xn : Nat, x = (xn : Int) := ⟨x.toNat, by omega⟩
      have hxn : xn < zn := by omega
      obtain ⟨u, hu⟩ : ∃ u, wr.cell? ⟨w.heap.size, xn, none⟩ = some u := by
        rw [HR.out.cellAt xn (by omega)]; exact ⟨_, boolsV_get hxn⟩
      have hfr := HR.out.frozenAt xn
      have hst := HR.out.stored xn (.bool true)
      rw [boolsV_set hxn] at hst
      have hse : setN (xs.take k) ||| 2 ^ xn = setN (xs.take (k + 1)) := by rw [setN_succ hx]; simp
      rw [hse] at hst
      have HST := Lib.hid hst
      have hkn : (k : Int) < (n : Int) := by omega
      clear hc hx hst hse
      go_wp2_with fail
      go_roundw
      case rel => exact ⟨k + 1, by omega, by go_num, HST.out.1, HBr.out.setCell (Nat.le_refl _) _⟩
      case measure => simp [intOf]; omega
    · go_wp2_with fail
      go_ret
      have hR := HR.out
      rw [setN_all (by have := HLn.out; omega)] at hR
      exact ⟨w.heap.size, zn, rfl, hR, HBr.out⟩

/-- The cells of a set that is told for each element. -/
def BoolsIn (w : World) (hi g n s : Nat) : Prop := g < hi ∧ ∀ j, j < n → w.cell? ⟨g, j, none⟩ = some (.bool (s.testBit j))
theorem BoolsIn.below {w w' : World} {hi g n s B : Nat} (h : BoolsIn w hi g n s) (hb : Below B w w') (hB : hi ≤ B) : BoolsIn w' hi g n s :=
  ⟨h.1, fun j hj => (hb.cell (p := ⟨g, j, none⟩) (by have := h.1; show g < B; omega)).trans (h.2 j hj)⟩
theorem BoolsIn.of_row {w : World} {B g n d s : Nat} (h : w.ownsRow B 4 1 (.slice (some ⟨g, 0, none⟩) n d) n (boolsV s n)) : BoolsIn w w.heap.size g n s :=
  ⟨(h.lt g rfl).2, fun j hj => by rw [h.cellAt j (by omega)]; exact boolsV_get hj⟩

set_option maxHeartbeats 1000000 in
theorem l5List_any (hi g n d s : Nat) (w : World) (h : BoolsIn w hi g n s) (hn : n ≤ 8) :
    Calls Try.prog 135 #[.slice (some ⟨g, 0, none⟩) n d] w fun e w' => ListAt w w' (listK s n) e := by
  obtain ⟨i0, hi0, hz0, hz1, hz2⟩ := info_parts Try.infoInt
  have HV := Lib.hid h
  have HO := Lib.hid (World.ownsRow_lit (base := w.heap.size) (e := 3) (size := 1) w #[] 0 (Nat.le_refl _) (by decide) rfl)
  have HB := Lib.hid (below_alloc w (.cells #[] 3))
  clear h
  unfold ListAt
  go_enter Try.func135, Try.ntmps135
  go_wp2_with fail
  go_loopw [3, 4] (fun v i wr => ∃ (j t vc g2 : Nat), j ≤ n ∧ i = .int .i64 (j : Int) ∧ v = .slice (some ⟨g2, 0, none⟩) t vc ∧ t ≤ j ∧ Hid (wr.ownsRow w.heap.size 3 1 (.slice (some ⟨g2, 0, none⟩) t vc) t ((listK s j).map (Value.int .i64))) ∧ Hid (Below w.heap.size w wr)) (fun _ i _ => n - (intOf i).toNat)
  case atStart => exact ⟨0, 0, 0, _, Nat.zero_le _, rfl, rfl, Nat.le_refl _, HO, HB⟩
  case round =>
    obtain ⟨j, t, vc, g2, hj, rfl, rfl, htj, HR, HBr⟩ := hrel
    by_cases hjn : j < n
    · have hcell : wr.cell? ⟨g, j, none⟩ = some (.bool (s.testBit j)) := cell_b HBr.out (HV.out.2 j hjn)
      obtain ⟨u, hu⟩ : ∃ u, s.testBit j = u := ⟨_, rfl⟩
      rw [hu] at hcell
      have HU := Lib.hid hu
      have hjn' : (j : Int) < (n : Int) := by omega
      clear hu
      cases u with
      | true =>
        go_wp2_with (at_builtin; refine wpList_append_own _ rfl _ _ 25 rfl w.heap.size 3 i0 (.int .i64 0) 1 8 Try.underlying25 hi0 hz0 hz1 hz2 rfl (by decide) (.slice (some ⟨g2, 0, none⟩) t vc) t ((listK s j).map (Value.int .i64)) rfl (HR.out.alloc _) ⟨wr.heap.size, 0, none⟩ 1 1 [.int .i64 (j : Int)] rfl rfl (cell_one_new _ _ _) (fun x hx => by simp at hx; subst hx; rfl) (by unfold maxLen; omega) (by omega) (by have := HBr.out.size; simp; omega) ?_; intro v' w3 hown' hgrow' hnil')
        obtain ⟨g3, cap, rfl⟩ := ownsRow_succ hown'
        have HB3 := Lib.hid ((HBr.out.alloc HBr.out.size (.cells #[.int .i64 (j : Int)] 3)).grown hgrow' (by have := HBr.out.size; simp; omega) (fun q hq => (HR.out.lt q hq).1))
        have HO3 : Hid (w3.ownsRow w.heap.size 3 1 (.slice (some ⟨g3, 0, none⟩) (t + 1) cap) (t + 1) ((listK s (j + 1)).map (Value.int .i64))) := by
          unfold Hid
          rw [listK_yes HU.out, List.map_append]
          exact hown'
        clear hown' hgrow' hnil'
        go_wp2_with fail
        go_roundw
        case rel => exact ⟨j + 1, t + 1, cap, g3, by omega, by go_num, rfl, by omega, HO3, HB3⟩
        case measure => simp [intOf]; omega
      | false =>
        have HO2 : Hid (wr.ownsRow w.heap.size 3 1 (.slice (some ⟨g2, 0, none⟩) t vc) t ((listK s (j + 1)).map (Value.int .i64))) := by
          unfold Hid; rw [listK_no HU.out]; exact HR.out
        go_wp2_with fail
        go_roundw
        case rel => exact ⟨j + 1, t, vc, g2, by omega, by go_num, rfl, by omega, HO2, HBr⟩
        case measure => simp [intOf]; omega
    · have hjn' : ¬ (j : Int) < (n : Int) := by omega
      go_wp2_with fail
      go_ret
      have hR := HR.out
      rw [show j = n by omega] at hR
      exact ⟨some ⟨g2, 0, none⟩, t, vc, rfl, by have h_ := hR.1; simp at h_; exact h_.symm, hR, HBr.out⟩
end

section
open Go.RowKit Go.WideShapes
set_option linter.unusedVariables false
set_option linter.unusedSimpArgs false

set_option maxRecDepth 100000 in
set_option maxHeartbeats 4000000 in
theorem l5Step_any (lo hi : Nat) (zn : Nat) (ao : Option Addr) (c n : Nat) (fs : List OpD) (hi2 g d s : Nat) (w : World) (hv : OView w lo hi ao n fs) (hhi : hi ≤ w.heap.size) (hok : algOkB (zn : Int) fs = true) (hin : BoolsIn w hi2 g zn s) (hhi2 : hi2 ≤ w.heap.size) (hs : s < 2 ^ zn) (hd : zn ≤ d) (hd2 : d ≤ maxLen) :
    Calls Try.prog 134 #[.agg #[.int .i64 (zn : Int), .slice ao n c], .slice (some ⟨g, 0, none⟩) zn d] w fun e w' => BoolsAt w w' zn (stepN (zn : Int) fs s) e := by
  obtain ⟨i0, hi0, hz0, hz1, hz2⟩ := info_parts Try.infoBool
  obtain ⟨⟨h1, h2⟩, hn4, hall⟩ := algOkB_of hok
  have hz8 : zn ≤ 8 := by omega
  have HV := Lib.hid hv
  have HAll := Lib.hid hall
  have HS := Lib.hid hs
  have HIn := Lib.hid hin
  have hl := hv.1
  rw [hl] at hn4
  have hb1 := below_alloc w (.cells #[.int .i64 (zn : Int), .slice ao n c] 31)
  have HO := Lib.hid (World.ownsRow_lit (base := w.heap.size) (e := 4) (size := 1) (w.alloc (.cells #[.int .i64 (zn : Int), .slice ao n c] 31)) #[] 0 hb1.size (by decide) rfl)
  have hB := below_then hb1 (below_alloc (w.alloc (.cells #[.int .i64 (zn : Int), .slice ao n c] 31)) (.cells #[] 4))
  have HB := Lib.hid hB
  have HCl : Hid (∀ (j : Nat) (u : Value), (boolsV s zn)[j]? = some u → ((w.alloc (.cells #[.int .i64 (zn : Int), .slice ao n c] 31)).alloc (.cells #[] 4)).cell? ((⟨g, 0, none⟩ : Addr).add j) = some u) := by
    intro j u hu
    have hj : j < zn := by have := (List.getElem?_eq_some_iff.1 hu).1; rw [boolsV_len] at this; exact this
    rw [boolsV_get hj] at hu
    injection hu with hu
    subst hu
    rw [add_plain, Nat.zero_add]
    exact cell_b hB (hin.2 j hj)
  unfold maxLen at hd2
  clear hv hok hs hall hin hb1 hB
  unfold BoolsAt
  go_enter Try.func134, Try.ntmps134
  go_wp2_with (at_builtin; refine wpList_append_own_at _ rfl _ _ 119 rfl w.heap.size 4 i0 (.bool false) 1 1 Try.underlying119 hi0 hz0 hz1 hz2 rfl (by decide) (.slice (some ⟨w.heap.size + 1, 0, none⟩) 0 0) 0 [] rfl (by have h_ := HO.out; simp only [World.size_alloc] at h_; exact h_) ⟨g, 0, none⟩ zn d (boolsV s zn) rfl (by rw [boolsV_len]; omega) HCl.out (fun x hx => by unfold boolsV at hx; obtain ⟨y, _, rfl⟩ := List.mem_map.1 hx; rfl) (by unfold maxLen; omega) (by omega) HB.out.size ?_; intro v' w3 hown' hgrow' hnil' hat')
  rw [Nat.zero_add, List.nil_append] at hown'
  obtain ⟨zm, hzm⟩ : ∃ m, zn = m + 1 := ⟨zn - 1, by omega⟩
  obtain ⟨g1, cap, rfl⟩ : ∃ g1 cap, v' = .slice (some ⟨g1, 0, none⟩) zn cap := by
    rw [hzm] at hown' ⊢
    exact ownsRow_succ hown'
  clear hzm
  have hg1 : w.heap.size < g1 := by
    rcases hat' with h_ | h_
    · have : g1 = w.heap.size + 1 := by simpa [Value.ownBlock] using h_
      omega
    · have : g1 = w.heap.size + 1 + 1 := by simpa [Value.ownBlock] using h_
      omega
  have hkeep : ∀ v, ((w.alloc (.cells #[.int .i64 (zn : Int), .slice ao n c] 31)).alloc (.cells #[] 4)).heap[w.heap.size]? = some v → w3.heap[w.heap.size]? = some v := fun v hv_ => by
    rw [hgrow'.block _ (by simp; omega) (by simp [Value.ownBlock])]; exact hv_
  have hX3 : w3.heap[w.heap.size]? = some (.cells #[.int .i64 (zn : Int), .slice ao n c] 31 (0, 0)) := hkeep _ (by rw [Below.heap_alloc _ _ _ (by simp)]; exact heap_alloc_new _ _)
  obtain ⟨cz3, ca3, _⟩ := boxC hX3
  have HB3 := Lib.hid (HB.out.grown hgrow' HB.out.size (fun q hq => by have h_ : w.heap.size + 1 = q := (by simpa [Value.ownBlock] using hq); omega))
  have HO3 : Hid (w3.ownsRow w.heap.size 4 1 (.slice (some ⟨g1, 0, none⟩) zn cap) zn (boolsV (s ||| valO s (zn : Int) fs 0) zn)) := by
    unfold Hid; simp only [valO, Nat.or_zero]; exact hown'
  clear hown' hgrow' hnil' hat' hkeep hX3 HCl HO HB
  go_wp2_with fail
  go_loopw [6] (fun i wr => ∃ k : Nat, k ≤ n ∧ i = .int .i64 (k : Int) ∧ wr.cell? ⟨w.heap.size, 0, none⟩ = some (.int .i64 (zn : Int)) ∧ wr.cell? ⟨w.heap.size, 1, none⟩ = some (.slice ao n c) ∧ Hid (wr.ownsRow w.heap.size 4 1 (.slice (some ⟨g1, 0, none⟩) zn cap) zn (boolsV (s ||| valO s (zn : Int) fs k) zn)) ∧ Hid (Below w.heap.size w wr)) (fun i _ => n - (intOf i).toNat)
  case atStart => exact ⟨0, Nat.zero_le _, rfl, cz3, ca3, HO3, HB3⟩
  case round =>
    obtain ⟨k, hk, rfl, cz0, ca0, HR0, HBr0⟩ := hrel
    clear cz3 ca3 HO3 HB3
    by_cases hlt : k < n
    · obtain ⟨b, o, rfl, _, hbh, hc⟩ := HV.out.at_ (by omega)
      obtain ⟨f, hf⟩ := get_of_lt HV.out.1 hlt
      obtain ⟨a, m, c', c0, c1, hmc, hcm, hvt⟩ := hc k f hf
      obtain ⟨hm5, hf1, hf3⟩ := place_bd h1 h2 (HAll.out f (List.mem_of_getElem? hf))
      obtain ⟨r, hr⟩ : ∃ r, f.1.toNat = r := ⟨_, rfl⟩
      rw [hr] at hf1 hf3
      rw [hf1] at c0
      have hml : f.2.length = m := hvt.1
      rw [hml] at hm5
      have HC0 := Lib.hid c0
      have HC1 := Lib.hid c1
      have HVt0 := Lib.hid hvt
      have HF := Lib.hid hf
      have HRr := Lib.hid hr
      have HML := Lib.hid hml
      have hkn : (k : Int) < (n : Int) := by omega
      have HOO : Hid (wr.ownsRow w.heap.size 4 1 (.slice (some ⟨g1, 0, none⟩) zn cap) zn (boolsV (s ||| (valO s (zn : Int) fs k ||| valT s (zn : Int) f 0)) zn)) := by
        unfold Hid; simp only [valT, Nat.or_zero]; exact HR0.out
      clear hc hf c0 c1 hvt hr hf1 hml HR0
      obtain ⟨wq, hwq⟩ : ∃ wq : World, wq = wr := ⟨_, rfl⟩
      rw [← hwq]
      rw [← hwq] at HOO cz0 ca0 HBr0
      clear hwq
      go_wp2_with fail
      go_loopw [7] (fun i wr => ∃ j : Nat, j ≤ m ∧ i = .int .i64 (j : Int) ∧ wr.cell? ⟨w.heap.size, 0, none⟩ = some (.int .i64 (zn : Int)) ∧ wr.cell? ⟨w.heap.size, 1, none⟩ = some (.slice (some ⟨b, o, none⟩) n c) ∧ Hid (wr.ownsRow w.heap.size 4 1 (.slice (some ⟨g1, 0, none⟩) zn cap) zn (boolsV (s ||| (valO s (zn : Int) fs k ||| valT s (zn : Int) f j)) zn)) ∧ Hid (Below w.heap.size w wr)) (fun i _ => m - (intOf i).toNat)
      case atStart => exact ⟨0, Nat.zero_le _, rfl, cz0, ca0, HOO, HBr0⟩
      case round =>
        obtain ⟨j, hj, rfl, cz, ca, HR, HBr⟩ := hrel
        clear cz0 ca0 HOO HBr0
        have e0 : wr.cell? ⟨b, o + k * 2, none⟩ = some (.int .i64 (r : Int)) := cell_b HBr.out HC0.out
        have e1 : wr.cell? ⟨b, o + k * 2 + 1, none⟩ = some (.slice a m c') := cell_b HBr.out HC1.out
        have HVt := Lib.hid (HVt0.out.kept (Kept.of_below HBr.out hhi))
        by_cases hjm : j < m
        · have hjm' : (j : Int) < (m : Int) := by omega
          have HAr := Lib.hid (fun w => argsSpec_any (zn : Int) (j : Int) r hf3 w h1 h2 (by omega) (by omega))
          obtain ⟨bt, ot, rfl, _, hbth, hct⟩ := HVt.out.at_ (by omega)
          obtain ⟨x, hx⟩ := get_of_lt HVt.out.1 hjm
          obtain ⟨x0, x1⟩ := allIn_get (opOkB_of (HAll.out f (List.mem_of_getElem? HF.out))).2.2 hx
          obtain ⟨xn, rfl⟩ : ∃ xn : Nat, x = (xn : Int) := ⟨x.toNat, by omega⟩
          have hxn : xn < zn := by omega
          have HX := Lib.hid hx
          have HDg : Hid ((digs (zn : Int) r (j : Int)).all (fun x => s.testBit x.toNat) = hasA s (zn : Int) r (j : Int)) := hasA_digs _ _ _ _
          have HDi := Lib.hid (digs_in h1 r (j : Int))
          have HDl := Lib.hid (digs_len (zn : Int) r (j : Int))
          clear hct hx
          go_wp2_with fail
          refine wp_region_noPanic ?_
          refine wp_region_held_drew (S := fun W => W.cell? ⟨w.heap.size, 0, none⟩ = some (.int .i64 (zn : Int)) ∧ W.cell? ⟨w.heap.size, 1, none⟩ = some (.slice (some ⟨b, o, none⟩) n c) ∧ W.cell? ⟨b, o + k * 2, none⟩ = some (.int .i64 (r : Int))) (by kernel_rfl) ?_ (fun hHeld => ?_)
          · exact ⟨cz, ca, e0⟩
          refine wpAnyH_take (i := 0) (oi := ⟨_, _, _, _, _, _⟩) (v := ?_) rfl (by kernel_rfl) (by kernel_rfl) (by kernel_rfl) (fun _ _ _ h => h) (Or.inl ⟨rfl, ?_⟩) (by assumption) ?_
          rotate_left 1
          · intro w_ hSw; (try dsimp only at hSw); go_simp; (try with_reducible rfl)
          (try simp only [Act.put, List.setIfInBounds_toArray, List.set_cons_zero, List.set_cons_succ])
          refine wpAnyH_take (i := 1) (oi := ⟨_, _, _, _, _, _⟩) (v := ?_) rfl (by kernel_rfl) (by kernel_rfl) (by kernel_rfl) (fun _ _ _ h => h) (Or.inl ⟨rfl, ?_⟩) (by assumption) ?_
          rotate_left 1
          · intro w_ hSw; (try dsimp only at hSw); go_simp; (try with_reducible rfl)
          (try simp only [Act.put, List.setIfInBounds_toArray, List.set_cons_zero, List.set_cons_succ])
          refine wpAnyH_take (i := 2) (oi := ⟨_, _, _, _, _, _⟩) (v := ?_) rfl (by kernel_rfl) (by kernel_rfl) (by kernel_rfl) (fun _ _ _ h => h) (Or.inl ⟨rfl, ?_⟩) (by assumption) ?_
          rotate_left 1
          · intro w_ hSw; (try dsimp only at hSw); go_simp; (try with_reducible rfl)
          (try simp only [Act.put, List.setIfInBounds_toArray, List.set_cons_zero, List.set_cons_succ])
          refine wpAnyH_take (i := 3) (oi := ⟨_, _, _, _, _, _⟩) (v := ?_) rfl (by kernel_rfl) (by kernel_rfl) (by kernel_rfl) (fun _ _ _ h => h) (Or.inl ⟨rfl, ?_⟩) (by assumption) ?_
          rotate_left 1
          · intro w_ hSw; (try dsimp only at hSw); go_simp; (try with_reducible rfl)
          (try simp only [Act.put, List.setIfInBounds_toArray, List.set_cons_zero, List.set_cons_succ])
          refine wpAnyH_take (i := 4) (oi := ⟨_, _, _, _, _, _⟩) (v := ?_) rfl (by kernel_rfl) (by kernel_rfl) (by kernel_rfl) (fun _ _ _ h => h) (Or.inl ⟨rfl, ?_⟩) (by assumption) ?_
          rotate_left 1
          · intro w_ hSw; (try dsimp only at hSw); go_simp; (try with_reducible rfl)
          (try simp only [Act.put, List.setIfInBounds_toArray, List.set_cons_zero, List.set_cons_succ])
          refine wpAnyH_take (i := 5) (oi := ⟨_, _, _, _, _, _⟩) (v := ?_) rfl (by kernel_rfl) (by kernel_rfl) (by kernel_rfl) (fun _ _ _ h => h) (Or.inl ⟨rfl, ?_⟩) (by assumption) ?_
          rotate_left 1
          · intro w_ hSw; (try dsimp only at hSw); go_simp; (try with_reducible rfl)
          (try simp only [Act.put, List.setIfInBounds_toArray, List.set_cons_zero, List.set_cons_succ])
          refine wpAnyH_take (i := 6) (oi := ⟨_, _, _, _, _, _⟩) (v := ?_) rfl (by kernel_rfl) (by kernel_rfl) (by kernel_rfl) (fun _ _ _ h => h) (Or.inl ⟨rfl, ?_⟩) (by assumption) ?_
          rotate_left 1
          · intro w_ hSw; (try dsimp only at hSw); go_simp; (try with_reducible rfl)
          (try simp only [Act.put, List.setIfInBounds_toArray, List.set_cons_zero, List.set_cons_succ])
          refine wpAnyH_take (i := 7) (oi := ⟨_, _, _, _, _, _⟩) (v := ?_) rfl (by kernel_rfl) (by kernel_rfl) (by kernel_rfl) (fun _ _ _ h => h) (Or.inl ⟨rfl, ?_⟩) (by assumption) ?_
          rotate_left 1
          · intro w_ hSw; (try dsimp only at hSw); go_simp; (try with_reducible rfl)
          (try simp only [Act.put, List.setIfInBounds_toArray, List.set_cons_zero, List.set_cons_succ])
          refine wpAnyH_take (i := 8) (oi := ⟨_, _, _, _, _, _⟩) (v := ?_) rfl (by kernel_rfl) (by kernel_rfl) (by kernel_rfl) (fun _ _ _ h => h) (Or.inl ⟨rfl, ?_⟩) (by assumption) ?_
          rotate_left 1
          · intro w_ hSw; (try dsimp only at hSw); go_simp; (try with_reducible rfl)
          (try simp only [Act.put, List.setIfInBounds_toArray, List.set_cons_zero, List.set_cons_succ])
          refine wpAnyH_ready (rs := [9]) (by kernel_rfl) (by simp) ?_
          refine AllReadyH.cons (o := ⟨_, _, _, _, _, _⟩) rfl (fun K hK => ?_) AllReadyH.nil
          go_simp
          go_at_call 103
          refine (HAr.out _).mono ?_
          rintro e wA ⟨rfl, hwA⟩
          have bA : Below wr.heap.size wr wA := by rw [hwA]; exact below_then (below_drew wr) (below_alloc _ _)
          have HDv : Hid (IView wA wr.heap.size wA.heap.size (some ⟨wr.heap.size, 0, none⟩) r (digs (zn : Int) r (j : Int))) := digs_view (W := wA) (g := wr.heap.size) (z := (zn : Int)) (at_ := (j : Int)) (m := r) (ty := 3) (by rw [hwA]; exact heap_alloc_new _ _)
          have zA := cell_b bA cz
          have aA := cell_b bA ca
          have eA := cell_b bA e0
          have fA := cell_b bA e1
          have HRA := Lib.hid (HR.out.kept (grown_of_below bA none) (own_em _))
          have HBA := Lib.hid (HBr.out.trans (bA.mono HBr.out.size))
          have HInA := Lib.hid (HIn.out.below HBA.out hhi2)
          have HVtA := Lib.hid (HVt.out.kept (Kept.of_below bA (Nat.le_trans hhi HBr.out.size)))
          have hAs : Hid (wA.heap.size = wA.heap.size) := rfl
          clear hwA bA cz ca e0 e1 HR HBr HVt hAs
          go_wp2_with fail
          refine hK.out _ _ ?_ (fun hHeld => ?_)
          · exact ⟨zA, aA, eA⟩
          clear hK K
          (try simp only [Act.put, List.setIfInBounds_toArray, List.set_cons_zero, List.set_cons_succ])
          refine wpAnyH_take (i := 10) (oi := ⟨_, _, _, _, _, _⟩) (v := ?_) rfl (by kernel_rfl) (by kernel_rfl) (by kernel_rfl) (fun _ _ _ h => h) (Or.inl ⟨rfl, ?_⟩) (by assumption) ?_
          rotate_left 1
          · intro w_ hSw; (try dsimp only at hSw); go_simp; (try with_reducible rfl)
          (try simp only [Act.put, List.setIfInBounds_toArray, List.set_cons_zero, List.set_cons_succ])
          refine wpAnyH_done (by kernel_rfl) ?_ _
          refine NoPanic.normal ?_
          go_wp2_with fail
          go_loop [9, 10] (fun p i => ∃ (q : Nat) (t : Bool), q ≤ r ∧ i = .int .i64 (q : Int) ∧ p = .bool t ∧ Hid (t = ((digs (zn : Int) r (j : Int)).take q).all (fun x => s.testBit x.toNat))) (fun _ i => r - (intOf i).toNat)
          case atStart => exact ⟨0, true, Nat.zero_le _, rfl, rfl, rfl⟩
          case round =>
            obtain ⟨q, t, hq, rfl, rfl, HT⟩ := hrel
            by_cases hqr : q < r
            · obtain ⟨b2, o2, he2, _, _, hc2⟩ := HDv.out.at_ (by omega)
              cases he2
              obtain ⟨y, hy⟩ := get_of_lt HDl.out hqr
              have hcy := hc2 q y hy
              rw [Nat.zero_add] at hcy
              obtain ⟨y0, y1⟩ := allIn_get HDi.out hy
              obtain ⟨yn, rfl⟩ : ∃ yn : Nat, y = (yn : Int) := ⟨y.toNat, by omega⟩
              have hyn : yn < zn := by omega
              have hcb := HInA.out.2 yn hyn
              have hqr' : (q : Int) < (r : Int) := by omega
              have HN := Lib.hid (all_succ (s := s) hy)
              simp only [Int.toNat_natCast] at HN
              clear hc2 hy
              cases t with
              | true =>
                go_wp2_with fail
                go_round
                case rel => exact ⟨q + 1, s.testBit yn, by omega, by go_num, rfl, by unfold Hid; rw [HN.out, ← HT.out, Bool.true_and]⟩
                case measure => simp [intOf]; omega
              | false =>
                go_wp2_with fail
                go_round
                case rel => exact ⟨q + 1, false, by omega, by go_num, rfl, by unfold Hid; rw [HN.out, ← HT.out, Bool.false_and]⟩
                case measure => simp [intOf]; omega
            · have hqr' : ¬ (q : Int) < (r : Int) := by omega
              have HTe : Hid (hasA s (zn : Int) f.1.toNat (j : Int) = t) := by
                unfold Hid
                rw [HRr.out, ← HDg.out, HT.out, List.take_of_length_le (by have := HDl.out; omega)]
              clear HT
              cases t with
              | true =>
                have hcx : wA.cell? ⟨bt, ot + j, none⟩ = some (.int .i64 (xn : Int)) := by
                  obtain ⟨b3, o3, he3, _, _, hc3⟩ := HVtA.out.at_ (by omega)
                  cases he3
                  exact hc3 j _ HX.out
                obtain ⟨u, hu⟩ : ∃ u, wA.cell? ⟨g1, xn, none⟩ = some u := by
                  rw [HRA.out.cellAt xn (by omega)]; exact ⟨_, boolsV_get hxn⟩
                have hfr := HRA.out.frozenAt xn
                have hst := HRA.out.stored xn (.bool true)
                rw [boolsV_set hxn] at hst
                have hse : s ||| (valO s (zn : Int) fs k ||| valT s (zn : Int) f j) ||| 2 ^ xn = s ||| (valO s (zn : Int) fs k ||| valT s (zn : Int) f (j + 1)) := by
                  rw [valT_yes HTe.out HX.out, Int.toNat_natCast, Nat.or_assoc, Nat.or_assoc]
                rw [hse] at hst
                have HST := Lib.hid hst
                have z6 : Hid ((wA.setCell ⟨g1, xn, none⟩ (.bool true)).cell? ⟨w.heap.size, 0, none⟩ = some (.int .i64 (zn : Int))) := keepS zA (by show g1 ≠ w.heap.size; omega)
                have a6 : Hid ((wA.setCell ⟨g1, xn, none⟩ (.bool true)).cell? ⟨w.heap.size, 1, none⟩ = some (.slice (some ⟨b, o, none⟩) n c)) := keepS aA (by show g1 ≠ w.heap.size; omega)
                have B6 : Hid (Below w.heap.size w (wA.setCell ⟨g1, xn, none⟩ (.bool true))) := HBA.out.setCell (by show w.heap.size ≤ g1; omega) _
                clear hst hse
                go_wp2_with fail
                go_roundw
                case rel => exact ⟨j + 1, by omega, by go_num, z6.out, a6.out, HST.out.1, B6⟩
                case measure => simp [intOf]; omega
              | false =>
                have HO2 : Hid (wA.ownsRow w.heap.size 4 1 (.slice (some ⟨g1, 0, none⟩) zn cap) zn (boolsV (s ||| (valO s (zn : Int) fs k ||| valT s (zn : Int) f (j + 1))) zn)) := by
                  unfold Hid; rw [valT_no HTe.out]; exact HRA.out
                go_wp2_with fail
                go_roundw
                case rel => exact ⟨j + 1, by omega, by go_num, zA, aA, HO2, HBA⟩
                case measure => simp [intOf]; omega
        · have hjm' : ¬ (j : Int) < (m : Int) := by omega
          have HO2 : Hid (wr.ownsRow w.heap.size 4 1 (.slice (some ⟨g1, 0, none⟩) zn cap) zn (boolsV (s ||| valO s (zn : Int) fs (k + 1)) zn)) := by
            unfold Hid
            rw [valO_succ HF.out, HML.out, ← show j = m by omega]; exact HR.out
          go_wp2_with fail
          go_roundw
          case rel => exact ⟨k + 1, by omega, by go_num, cz, ca, HO2, HBr⟩
          case measure => simp [intOf]; omega
    · have hkn : ¬ (k : Int) < (n : Int) := by omega
      go_wp2_with fail
      go_ret
      have hR := HR0.out
      rw [show k = fs.length by omega] at hR
      exact ⟨g1, cap, rfl, hR, HBr0.out⟩
end

section
open Go.RowKit
set_option linter.unusedVariables false
set_option linter.unusedSimpArgs false

theorem row_cap {w : World} {B g n c : Nat} {e : TypeId} {s : Nat} {xs : List Value} (h : w.ownsRow B e s (.slice (some ⟨g, 0, none⟩) n c) n xs) : n ≤ c ∧ c ≤ maxLen := by
  rcases h.2 with ⟨h1, _⟩ | ⟨_, _, _, h1, _, _, q1, q2, _⟩
  · cases h1
  · cases h1; exact ⟨q1, q2⟩

set_option maxHeartbeats 2000000 in
theorem l5Close_any (lo hi lo2 hi2 : Nat) (z : Int) (ao bo : Option Addr) (c n d m : Nat) (fs : List OpD) (xs : List Int) (w : World) (hv : OView w lo hi ao n fs) (hhi : hi ≤ w.heap.size) (hok : algOkB z fs = true)
    (hx : IView w lo2 hi2 bo m xs) (hhi2 : hi2 ≤ w.heap.size) (hm : m ≤ maxLen) (ha : allIn z xs = true) :
    Calls Try.prog 101 #[.agg #[.int .i64 z, .slice ao n c], .slice bo m d] w fun e w' => ListAt w w' (listK (closeN z fs (setN xs)) 8) e := by
  obtain ⟨h1, h2⟩ := (algOkB_of hok).1
  obtain ⟨zn, rfl⟩ : ∃ zn : Nat, z = (zn : Int) := ⟨z.toNat, by omega⟩
  have hz8 : zn ≤ 8 := by omega
  have hB := below_alloc w (.cells #[.int .i64 (zn : Int), .slice ao n c] 31)
  have HB := Lib.hid hB
  have HV := Lib.hid hv
  have hs : setN xs < 2 ^ zn := setN_lt ha (Int.le_refl _)
  have HLt := Lib.hid (fun k => stepK_lt (fs := fs) (n := zn) hok (Int.le_refl _) hs k)
  have HOk := Lib.hid hok
  have HIn := Lib.hid (l5In_any lo2 hi2 zn bo d m xs _ (hx.kept (Kept.of_below hB hhi2)) (Nat.le_trans hhi2 hB.size) hm ha hz8)
  have hcl : listK (closeN (zn : Int) fs (setN xs)) 8 = listK (stepK (zn : Int) fs (setN xs) (zn + 1)) zn := by
    have h_ := closeN_lt (n := zn) hok (Int.le_refl _) hs
    rw [listK_more h_ hz8]
    unfold closeN
    rw [Int.toNat_natCast]
  rw [hcl]
  have cz : (w.alloc (.cells #[.int .i64 (zn : Int), .slice ao n c] 31)).cell? ⟨w.heap.size, 0, none⟩ = some (.int .i64 (zn : Int)) := by simp
  have ca : (w.alloc (.cells #[.int .i64 (zn : Int), .slice ao n c] 31)).cell? ⟨w.heap.size, 1, none⟩ = some (.slice ao n c) := by simp
  obtain ⟨S, hS⟩ : ∃ S, setN xs = S := ⟨_, rfl⟩
  rw [hS] at HIn HLt ⊢
  clear hv hx hok hB ha hs hcl hS
  unfold ListAt
  go_enter Try.func101, Try.ntmps101
  go_wp2_with fail
  refine HIn.out.mono ?_
  rintro e w1 ⟨g, d1, rfl, ho, b1⟩
  have HB1 := Lib.hid (below_then HB.out b1)
  have cz1 := cell_b b1 cz
  have ca1 := cell_b b1 ca
  have HO1 : Hid (w1.ownsRow w.heap.size 4 1 (.slice (some ⟨g, 0, none⟩) zn d1) zn (boolsV (stepK (zn : Int) fs S 0) zn)) := ownsRow_base ho HB.out.size
  clear ho b1 cz ca
  go_wp2_with fail
  go_loopw [5, 6] (fun v i wr => ∃ (k g d1 : Nat), k ≤ zn + 1 ∧ i = .int .i64 (k : Int) ∧ v = .slice (some ⟨g, 0, none⟩) zn d1 ∧ wr.cell? ⟨w.heap.size, 0, none⟩ = some (.int .i64 (zn : Int)) ∧ wr.cell? ⟨w.heap.size, 1, none⟩ = some (.slice ao n c) ∧ Hid (wr.ownsRow w.heap.size 4 1 (.slice (some ⟨g, 0, none⟩) zn d1) zn (boolsV (stepK (zn : Int) fs S k) zn)) ∧ Hid (Below w.heap.size w wr)) (fun _ i _ => zn + 1 - (intOf i).toNat)
  case atStart => exact ⟨0, g, d1, Nat.zero_le _, rfl, rfl, cz1, ca1, HO1, HB1⟩
  case round =>
    obtain ⟨k, g, d1, hk, rfl, rfl, cz, ca, HR, HBr⟩ := hrel
    clear cz1 ca1 HO1
    obtain ⟨hc1, hc2⟩ := row_cap HR.out
    by_cases hlt : k < zn + 1
    · have HC := Lib.hid (l5Step_any lo hi zn ao c n fs wr.heap.size g d1 (stepK (zn : Int) fs S k) wr (HV.out.kept (Kept.of_below HBr.out hhi)) (Nat.le_trans hhi HBr.out.size) HOk.out (BoolsIn.of_row HR.out) (Nat.le_refl _) (HLt.out k) hc1 hc2)
      have hkz : (k : Int) ≤ (zn : Int) := by omega
      clear hc1 hc2
      go_wp2_with fail
      refine HC.out.mono ?_
      rintro e w2 ⟨g2, d2, rfl, ho2, b2⟩
      have HB2 := Lib.hid (HBr.out.trans (b2.mono HBr.out.size))
      have cz2 := cell_b b2 cz
      have ca2 := cell_b b2 ca
      have HO2 : Hid (w2.ownsRow w.heap.size 4 1 (.slice (some ⟨g2, 0, none⟩) zn d2) zn (boolsV (stepK (zn : Int) fs S (k + 1)) zn)) := ownsRow_base ho2 HBr.out.size
      clear ho2 b2 cz ca
      go_wp2_with fail
      go_roundw
      case rel => exact ⟨k + 1, g2, d2, by omega, by go_num, rfl, cz2, ca2, HO2, HB2⟩
      case measure => simp [intOf]; omega
    · obtain rfl : k = zn + 1 := by omega
      have HC := Lib.hid (l5List_any wr.heap.size g zn d1 (stepK (zn : Int) fs S (zn + 1)) wr (BoolsIn.of_row HR.out) hz8)
      have hkz : ¬ ((zn + 1 : Nat) : Int) ≤ (zn : Int) := by omega
      clear hc1 hc2
      go_wp2_with fail
      refine HC.out.mono ?_
      rintro e w2 ⟨a2, m2, d2, rfl, hm2, ho2, b2⟩
      have HB2 := Lib.hid (HBr.out.trans (b2.mono HBr.out.size))
      have HO2 := Lib.hid (ownsRow_base ho2 HBr.out.size)
      have HM2 := Lib.hid hm2
      clear ho2 b2 hm2
      go_wp2_with fail
      go_ret
      exact ⟨a2, m2, d2, rfl, HM2.out, HO2.out, HB2.out⟩
end

section
open Go.RowKit
set_option linter.unusedVariables false
set_option linter.unusedSimpArgs false

def valGenerateSub (z : Int) (fs : List OpD) (xs : List Int) : List Int × Bool := if someB z fs xs then (listK (closeN z fs (setN xs)) 8, true) else ([], false)
theorem val_gen_no {z : Int} {fs : List OpD} {xs : List Int} (h : someB z fs xs = false) : valGenerateSub z fs xs = ([], false) := by simp [valGenerateSub, h]
theorem val_gen_yes {z : Int} {fs : List OpD} {xs : List Int} (h : someB z fs xs = true) : valGenerateSub z fs xs = (listK (closeN z fs (setN xs)) 8, true) := by simp [valGenerateSub, h]
theorem smallGenerateSub (z : Int) (fs : List OpD) (xs : List Int) : (valGenerateSub z fs xs).1.length ≤ 4194304 := by
  unfold valGenerateSub
  split
  · have := listK_le (closeN z fs (setN xs)) 8; simp only; omega
  · simp
def valIsGenerating (z : Int) (fs : List OpD) (xs : List Int) : Bool × Bool := (someB z fs xs && decide (closeN z fs (setN xs) = 2 ^ z.toNat - 1), someB z fs xs)
theorem val_isg_no {z : Int} {fs : List OpD} {xs : List Int} (h : someB z fs xs = false) : valIsGenerating z fs xs = (false, false) := by simp [valIsGenerating, h]
theorem val_isg_yes {z : Int} {fs : List OpD} {xs : List Int} (h : someB z fs xs = true) : valIsGenerating z fs xs = (decide (closeN z fs (setN xs) = 2 ^ z.toNat - 1), true) := by simp [valIsGenerating, h]

theorem nat_beq (a b : Nat) : ((a : Int) == (b : Int)) = decide (a = b) := by
  by_cases h : a = b
  · simp [h]
  · have h2 : ¬ (a : Int) = (b : Int) := by omega
    rw [decide_eq_false h, beq_eq_false_iff_ne]; exact h2
theorem ret_two {a b : Bool} (h : a = b) : Ending.returned (.tuple #[.bool a, .bool true]) = .returned (.tuple #[.bool b, .bool true]) := by rw [h]
theorem full_bit (n k : Nat) : (2 ^ n - 1).testBit k = decide (k < n) := Nat.testBit_two_pow_sub_one n k
theorem full_lt (n : Nat) : 2 ^ n - 1 < 2 ^ n := by have := Nat.two_pow_pos n; omega
theorem listK_full_len (n : Nat) : ∀ k, k ≤ n → (listK (2 ^ n - 1) k).length = k := by
  intro k
  induction k with
  | zero => intro _; rfl
  | succ k ih =>
    intro hk
    rw [listK_yes (by rw [full_bit]; exact decide_eq_true (by omega)), List.length_append, ih (by omega)]; rfl
theorem full_iff {s n : Nat} (hs : s < 2 ^ n) : (listK s n).length = n ↔ s = 2 ^ n - 1 := by
  constructor
  · intro h
    apply Classical.byContradiction
    intro hne
    have h1 := listK_lt_len (s := s) (t := 2 ^ n - 1) n hs (full_lt n) (fun k hk => by
      rw [full_bit]
      refine decide_eq_true ?_
      rcases Nat.lt_or_ge k n with h2 | h2
      · exact h2
      · rw [bit_of_lt hs h2] at hk; cases hk) hne
    rw [listK_full_len n n (Nat.le_refl _)] at h1
    omega
  · rintro rfl; exact listK_full_len n n (Nat.le_refl _)



theorem all_val {z : Int} (h1 : 1 ≤ z) (h2 : z ≤ 8) : IntKind.u64.wrap (IntKind.u64.wrap (2 ^ z.toNat) - 1) = ((2 ^ z.toNat - 1 : Nat) : Int) := by
  have h : z = 1 ∨ z = 2 ∨ z = 3 ∨ z = 4 ∨ z = 5 ∨ z = 6 ∨ z = 7 ∨ z = 8 := by omega
  rcases h with rfl | rfl | rfl | rfl | rfl | rfl | rfl | rfl <;> decide


end

section
open Go.RowKit
set_option linter.unusedVariables false
set_option linter.unusedSimpArgs false

set_option maxHeartbeats 1000000 in
theorem l5Is_any (lo hi : Nat) (z : Int) (ao : Option Addr) (c n : Nat) (fs : List OpD) (lo2 hi2 : Nat) (bo : Option Addr) (d m : Nat) (xs : List Int) (w : World) (hv : OView w lo hi ao n fs) (hhi : hi ≤ w.heap.size) (hok : algOkB z fs = true)
    (hx : IView w lo2 hi2 bo m xs) (hhi2 : hi2 ≤ w.heap.size) (hm : m ≤ maxLen) :
    Calls Try.prog 58 #[.agg #[.int .i64 z, .slice ao n c], .slice bo m d] w fun e w' => e = .returned (.bool (isSubB z fs xs)) ∧ Below w.heap.size w w' := by
  have hB := below_alloc w (.cells #[.int .i64 z, .slice ao n c] 31)
  have HB := Lib.hid hB
  have HX := Lib.hid hx
  have HV := Lib.hid hv
  have cz : (w.alloc (.cells #[.int .i64 z, .slice ao n c] 31)).cell? ⟨w.heap.size, 0, none⟩ = some (.int .i64 z) := by simp
  have ca : (w.alloc (.cells #[.int .i64 z, .slice ao n c] 31)).cell? ⟨w.heap.size, 1, none⟩ = some (.slice ao n c) := by simp
  have HX0 := Lib.hid (hx.kept (Kept.of_below hB hhi2))
  have hs0 := hB.size
  obtain ⟨hz1, hz2⟩ := alg_dom hok
  have HOk := Lib.hid hok
  have hRi := rising_any lo2 hi2 z bo d m xs _ HX0.out hm hz1 hz2
  obtain ⟨r, hr⟩ : ∃ r, riseB z xs = r := ⟨_, rfl⟩
  rw [hr] at hRi
  have HRi := Lib.hid hRi
  have HRr := Lib.hid hr
  clear hv hx hok hB hRi hr
  go_enter Try.func58, Try.ntmps58
  cases r with
  | false =>
    rw [isSubB_rise HRr.out]
    go_wp2_with fail
    refine HRi.out.mono ?_
    rintro e w1 ⟨rfl, q, rfl⟩
    have HB1 := Lib.hid (below_drewN HB.out q)
    go_wp2_with fail
    go_ret
    exact ⟨rfl, HB1.out⟩
  | true =>
    have HE : Hid (decide (listK (closeN z fs (setN xs)) 8 = xs) = isSubB z fs xs) := isSub_close HOk.out HRr.out
    have HA : Hid (allIn z xs = true) := by
      have h_ := HRr.out
      unfold riseB at h_
      exact (Bool.and_eq_true _ _ |>.mp h_).1
    go_wp2_with fail
    refine HRi.out.mono ?_
    rintro e w1 ⟨rfl, hq⟩
    have HB1 : Hid (Below w.heap.size w w1) := by obtain ⟨q, rfl⟩ := hq; exact below_drewN HB.out q
    have cz1 : w1.cell? ⟨w.heap.size, 0, none⟩ = some (.int .i64 z) := by obtain ⟨q, rfl⟩ := hq; exact cz
    have ca1 : w1.cell? ⟨w.heap.size, 1, none⟩ = some (.slice ao n c) := by obtain ⟨q, rfl⟩ := hq; exact ca
    have HX1 := Lib.hid (HX.out.kept (Kept.of_below HB1.out hhi2))
    have hs1 := HB1.out.size
    have HG := Lib.hid (l5Close_any lo hi lo2 hi2 z ao bo c n d m fs xs w1 (HV.out.kept (Kept.of_below HB1.out hhi)) (Nat.le_trans hhi hs1) HOk.out HX1.out (Nat.le_trans hhi2 hs1) hm HA.out)
    clear hq cz ca HX0
    go_wp2_with fail
    refine HG.out.mono ?_
    rintro e w2 ⟨a2, m2, d2, rfl, hm2, ho2, b2⟩
    have HB2 := Lib.hid (HB1.out.trans (b2.mono HB1.out.size))
    have HS := Lib.hid (l1Same_any w1.heap.size w2.heap.size lo2 hi2 a2 bo d2 m2 d m (listK (closeN z fs (setN xs)) 8) xs w2 (OwnsInts.of_row ho2).view (HX1.out.kept (Kept.of_below b2 (Nat.le_trans hhi2 hs1))) (by have := listK_le (closeN z fs (setN xs)) 8; unfold maxLen; omega) hm)
    clear b2 ho2 hm2
    rw [HE.out] at HS
    go_wp2_with fail
    refine HS.out.mono ?_
    rintro e w3 ⟨rfl, q3, rfl⟩
    have HB3 := Lib.hid (below_drewN HB2.out q3)
    go_wp2_with fail
    go_ret
    exact ⟨rfl, HB3.out⟩

/-- A list is a subuniverse, and the algebra is valid. -/
def subuB (z : Int) (fs : List OpD) (xs : List Int) : Bool := algOkB z fs && isSubB z fs xs
theorem subuB_alg {z : Int} {fs : List OpD} {xs : List Int} (h : algOkB z fs = false) : subuB z fs xs = false := by simp [subuB, h]
theorem subuB_ok {z : Int} {fs : List OpD} {xs : List Int} (h : algOkB z fs = true) : subuB z fs xs = isSubB z fs xs := by simp [subuB, h]
theorem subuB_of {z : Int} {fs : List OpD} {xs : List Int} (h : subuB z fs xs = true) : algOkB z fs = true ∧ isSubB z fs xs = true := by
  simp only [subuB, Bool.and_eq_true] at h
  exact h
theorem isSubB_in {z : Int} {fs : List OpD} {xs : List Int} (h : allIn z xs = false) : isSubB z fs xs = false := isSubB_rise (by simp [riseB, h])
theorem isSubB_list {z : Int} {fs : List OpD} {xs : List Int} (h : ¬ listK (setN xs) 8 = xs) : isSubB z fs xs = false := isSubB_rise (by simp [riseB, h])
theorem isSubB_yes {z : Int} {fs : List OpD} {xs : List Int} (h : allIn z xs = true) (h2 : listK (setN xs) 8 = xs) : isSubB z fs xs = decide (stepN z fs (setN xs) = setN xs) := isSubB_step (by simp [riseB, h, h2])

set_option maxHeartbeats 1000000 in
theorem subOf_any (lo hi : Nat) (z : Int) (ao : Option Addr) (c n : Nat) (fs : List OpD) (lo2 hi2 : Nat) (bo : Option Addr) (d m : Nat) (xs : List Int) (w : World) (hv : OView w lo hi ao n fs) (hhi : hi ≤ w.heap.size) (hs : ∀ (j : Nat) (f : OpD), fs[j]? = some f → f.2.length ≤ maxLen)
    (hx : IView w lo2 hi2 bo m xs) (hhi2 : hi2 ≤ w.heap.size) (hm : m ≤ maxLen) :
    Calls Try.prog 60 #[.agg #[.int .i64 z, .slice ao n c], .slice bo m d] w fun e w' => e = .returned (.tuple #[.int .u64 ((if subuB z fs xs then setN xs else 0 : Nat) : Int), .bool (subuB z fs xs)]) ∧ Below w.heap.size w w' := by
  have hB := below_alloc w (.cells #[.int .i64 z, .slice ao n c] 31)
  have HB := Lib.hid hB
  have HX := Lib.hid hx
  have HV := Lib.hid hv
  have cz : (w.alloc (.cells #[.int .i64 z, .slice ao n c] 31)).cell? ⟨w.heap.size, 0, none⟩ = some (.int .i64 z) := by simp
  have ca : (w.alloc (.cells #[.int .i64 z, .slice ao n c] 31)).cell? ⟨w.heap.size, 1, none⟩ = some (.slice ao n c) := by simp
  have HX0 := Lib.hid (hx.kept (Kept.of_below hB hhi2))
  have hs0 := hB.size
  have hC := areEls_any lo hi lo2 hi2 z ao bo c n d m fs xs _ (hv.kept (Kept.of_below hB hhi)) (Nat.le_trans hhi hB.size) hs (hx.kept (Kept.of_below hB hhi2)) (Nat.le_trans hhi2 hB.size) hm
  obtain ⟨r, hr⟩ : ∃ r, algOkB z fs = r := ⟨_, rfl⟩
  rw [hr] at hC
  have HC := Lib.hid hC
  cases r with
  | false =>
    rw [subuB_alg hr]
    clear hv hs hx hB hC hr HX0
    go_enter Try.func60, Try.ntmps60
    go_wp2_with fail
    refine HC.out.mono ?_
    rintro e w1 ⟨rfl, b1⟩
    have HB1 := Lib.hid (below_then HB.out b1)
    have cz1 := cell_b b1 cz
    have ca1 := cell_b b1 ca
    have HV1 := Lib.hid (HV.out.kept (Kept.of_below HB1.out hhi))
    have HX1 := Lib.hid (HX.out.kept (Kept.of_below HB1.out hhi2))
    have hs1 := HB1.out.size
    clear b1
    go_wp2_with fail
    go_ret2
    exact ⟨rfl, HB1.out⟩
  | true =>
    rw [subuB_ok hr]
    obtain ⟨hz1, hz2⟩ := alg_dom hr
    have HOk := Lib.hid hr
    obtain ⟨t, ht⟩ : ∃ t, allIn z xs = t := ⟨_, rfl⟩
    have HT := Lib.hid ht
    clear hv hs hx hB hC hr HX0 ht
    cases t with
    | false =>
      rw [isSubB_in HT.out]
      have hC2 := HC.out
      rw [HT.out] at hC2
      have HC := Lib.hid hC2
      clear hC2
      go_enter Try.func60, Try.ntmps60
      go_wp2_with fail
      refine HC.out.mono ?_
      rintro e w1 ⟨rfl, b1⟩
      have HB1 := Lib.hid (below_then HB.out b1)
      have cz1 := cell_b b1 cz
      have ca1 := cell_b b1 ca
      have HV1 := Lib.hid (HV.out.kept (Kept.of_below HB1.out hhi))
      have HX1 := Lib.hid (HX.out.kept (Kept.of_below HB1.out hhi2))
      have hs1 := HB1.out.size
      clear b1
      go_wp2_with fail
      go_ret2
      exact ⟨rfl, HB1.out⟩
    | true =>
      have hl8 : setN xs < 2 ^ 8 := setN_lt HT.out hz2
      have HL8 := Lib.hid hl8
      obtain ⟨S, hS⟩ : ∃ S, setN xs = S := ⟨_, rfl⟩
      rw [hS]
      have HSS := Lib.hid hS
      obtain ⟨r2, hr2⟩ : ∃ r2, isSubB z fs xs = r2 := ⟨_, rfl⟩
      rw [hr2]
      have HR2 := Lib.hid hr2
      have hC2 := HC.out
      rw [HT.out] at hC2
      have HC := Lib.hid hC2
      clear hl8 hS hr2 hC2
      go_enter Try.func60, Try.ntmps60
      go_wp2_with fail
      refine HC.out.mono ?_
      rintro e w1 ⟨rfl, b1⟩
      have HB1 := Lib.hid (below_then HB.out b1)
      have cz1 := cell_b b1 cz
      have ca1 := cell_b b1 ca
      have HV1 := Lib.hid (HV.out.kept (Kept.of_below HB1.out hhi))
      have HX1 := Lib.hid (HX.out.kept (Kept.of_below HB1.out hhi2))
      have hs1 := HB1.out.size
      have hSe := setOf_any lo2 hi2 z bo d m xs w1 HX1.out hm HT.out hz2
      rw [HSS.out] at hSe
      have HSe := Lib.hid hSe
      have hLi := list_any (setN xs) w1 HL8.out
      rw [HSS.out] at hLi
      have HLi := Lib.hid hLi
      clear b1 hSe hLi
      go_wp2_with fail
      refine HSe.out.mono ?_
      rintro e w2 ⟨rfl, rfl⟩
      go_wp2_with fail
      refine HLi.out.mono ?_
      rintro e w2 ⟨a2, m2, d2, rfl, hm2, ho2, b2⟩
      have HB2 := Lib.hid (HB1.out.trans (b2.mono HB1.out.size))
      have cz2 := cell_b b2 cz1
      have ca2 := cell_b b2 ca1
      have HEq := Lib.hid (equal_any w1.heap.size w2.heap.size lo2 hi2 a2 bo d2 m2 d m (listK S 8) xs w2 (OwnsInts.of_row ho2).view (HX1.out.kept (Kept.of_below b2 (Nat.le_trans hhi2 hs1))) (by have := listK_le S 8; unfold maxLen; omega) hm)
      clear b2 ho2 hm2
      by_cases hl : listK S 8 = xs
      · have HEq2 : Hid (decide (listK S 8 = xs) = true) := decide_eq_true hl
        rw [HEq2.out] at HEq
        have hy : isSubB z fs xs = decide (stepN z fs S = S) := by rw [← HSS.out]; exact isSubB_yes HT.out (by rw [HSS.out]; exact hl)
        have HC2 := (fun W (hb : Below w.heap.size w W) => closed_any lo hi z ao c n fs S W (HV.out.kept (Kept.of_below hb hhi)) (Nat.le_trans hhi hb.size) HOk.out (by rw [← HSS.out]; exact HL8.out))
        obtain ⟨u, hu⟩ : ∃ u, decide (stepN z fs S = S) = u := ⟨_, rfl⟩
        simp only [hu] at HC2
        obtain rfl : r2 = u := HR2.out.symm.trans (hy.trans hu)
        clear hu hy hl
        go_wp2_with fail
        refine HEq.out.mono ?_
        rintro e w3 ⟨rfl, hq3⟩
        have HB3 : Hid (Below w.heap.size w w3) := by obtain ⟨q, rfl⟩ := hq3; exact below_drewN HB2.out q
        have cz3 : w3.cell? ⟨w.heap.size, 0, none⟩ = some (.int .i64 z) := by obtain ⟨q, rfl⟩ := hq3; exact cz2
        have ca3 : w3.cell? ⟨w.heap.size, 1, none⟩ = some (.slice ao n c) := by obtain ⟨q, rfl⟩ := hq3; exact ca2
        clear hq3 cz2 ca2
        go_wp2_with fail
        refine (HC2 _ HB3.out).mono ?_
        rintro e w4 ⟨rfl, b4⟩
        have HB4 := Lib.hid (HB3.out.trans (b4.mono HB3.out.size))
        clear b4
        cases r2 with
        | true =>
          go_wp2_with fail
          go_ret2
          exact ⟨rfl, HB4.out⟩
        | false =>
          go_wp2_with fail
          go_ret2
          exact ⟨rfl, HB4.out⟩
      · have HEq2 : Hid (decide (listK S 8 = xs) = false) := decide_eq_false hl
        rw [HEq2.out] at HEq
        obtain rfl : r2 = false := HR2.out.symm.trans (isSubB_list (by rw [HSS.out]; exact hl))
        clear hl
        go_wp2_with fail
        refine HEq.out.mono ?_
        rintro e w3 ⟨rfl, q3, rfl⟩
        have HB3 := Lib.hid (below_drewN HB2.out q3)
        go_wp2_with fail
        go_ret2
        exact ⟨rfl, HB3.out⟩

def valIsSubuniverse (z : Int) (fs : List OpD) (xs : List Int) : Bool × Bool := (subuB z fs xs, algOkB z fs)


end

end Go.Proofs.Ytcmjkfcgekmomaa
