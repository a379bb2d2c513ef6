/-
  Contracts: spec.l2Good, spec.IsAlgebra and impl.IsAlgebra: both say whether an algebra is valid. Conditions: the bounds that each theorem names.
-/
import Derived.Test.YtcmjkfcgekmomaaGood
import Derived.Test.YtcmjkfcgekmomaaIsSz
namespace Go.Proofs.Ytcmjkfcgekmomaa
open Go.RowKit
set_option linter.unusedVariables false

theorem isAlg_size (z : Int) (ao : Option Addr) (c n : Nat) (w : World) (h : inB 1 8 z = false) :
    Calls Try.prog 69 #[.agg #[.int .i64 z, .slice ao n c]] w fun e w' => e = .returned (.bool false) ∧ Below w.heap.size w w' := by
  have HS := Lib.hid (fun w => isSize_any z w)
  simp only [h] at HS
  clear h
  go_enter Try.func69, Try.ntmps69
  go_wp2_with fail
  refine (HS.out _).mono ?_
  rintro e w' ⟨rfl, rfl⟩
  go_wp2_with fail
  go_ret
  exact ⟨rfl, (Below.refl _ _).alloc (Nat.le_refl _) _⟩

theorem isAlg_many (z : Int) (ao : Option Addr) (c n : Nat) (w : World) (h1 : 1 ≤ z) (h2 : z ≤ 8) (h : 4 < n) :
    Calls Try.prog 69 #[.agg #[.int .i64 z, .slice ao n c]] w fun e w' => e = .returned (.bool false) ∧ Below w.heap.size w w' := by
  have HS := Lib.hid (fun w => isSize_any z w)
  simp only [inB_yes h1 h2] at HS
  go_enter Try.func69, Try.ntmps69
  go_wp2_with fail
  refine (HS.out _).mono ?_
  rintro e w' ⟨rfl, rfl⟩
  go_wp2_with fail
  go_ret
  exact ⟨rfl, (Below.refl _ _).alloc (Nat.le_refl _) _⟩

set_option maxHeartbeats 400000 in
theorem isAlg_loop (lo hi : Nat) (z : Int) (ao : Option Addr) (c n : Nat) (fs : List OpD) (w : World) (h1 : 1 ≤ z) (h2 : z ≤ 8) (hn : n ≤ 4) (hv : OView w lo hi ao n fs) (hhi : hi ≤ w.heap.size) (hs : ∀ (j : Nat) (f : OpD), fs[j]? = some f → f.2.length ≤ maxLen) :
    Calls Try.prog 69 #[.agg #[.int .i64 z, .slice ao n c]] w fun e w' => e = .returned (.bool (algOkB z fs)) ∧ Below w.heap.size w w' := by
  have HV := Lib.hid hv
  have HSz := Lib.hid hs
  obtain ⟨t, ht⟩ : ∃ t, algOkB z fs = t := ⟨_, rfl⟩
  have HR := Lib.hid ht
  have HSz8 := Lib.hid (fun w => isSize_any z w)
  simp only [inB_yes h1 h2] at HSz8
  rw [ht]
  have HB0 := Lib.hid ((Below.refl w.heap.size w).alloc (Nat.le_refl _) (.cells #[.int .i64 z, .slice ao n c] 31))
  clear hv hs ht
  go_enter Try.func69, Try.ntmps69
  go_wp2_with fail
  refine (HSz8.out _).mono ?_
  rintro e w' ⟨rfl, rfl⟩
  clear HSz8
  go_wp2_with fail
  go_loopw [18] (fun i wr => ∃ k : Nat, k ≤ n ∧ i = .int .i64 k ∧ Hid ((fs.take k).all (opOkB z) = true) ∧ Hid (Below w.heap.size w wr) ∧ wr.cell? ⟨w.heap.size, 0, none⟩ = some (.int .i64 z) ∧ w.heap.size < wr.heap.size) (fun i _ => n - (intOf i).toNat)
  case atStart => exact ⟨0, Nat.zero_le _, rfl, rfl, HB0.out, by simp, by simp⟩
  case round =>
    obtain ⟨k, hk, rfl, HA, HB, hcz, hws⟩ := hrel
    by_cases hlt : k < n
    · obtain ⟨b, o, rfl, _, hb, hc⟩ := HV.out.at_ (by omega)
      obtain ⟨f, hf⟩ := get_of_lt HV.out.1 hlt
      obtain ⟨a, m, c', c0, c1, _, _, hvt⟩ := hc k f hf
      have e0 : wr.cell? ⟨b, o + k * 2, none⟩ = some (.int .i64 f.1) := (HB.out.cell (p := ⟨b, _, none⟩) (by show b < _; omega)).trans c0
      have e1 : wr.cell? ⟨b, o + k * 2 + 1, none⟩ = some (.slice a m c') := (HB.out.cell (p := ⟨b, _, none⟩) (by show b < _; omega)).trans c1
      have hm := HSz.out k f hf
      rw [hvt.1] at hm
      have hcall := fun (w1 : World) (hw1 : Below wr.heap.size wr w1) => isOp_any lo hi z f a c' m w1 h1 h2 (hvt.kept (Kept.of_below (HB.out.trans (hw1.mono HB.out.size)) hhi)) (by have := hw1.size; omega) hm
      obtain ⟨r, hr⟩ : ∃ r, f.1 = r := ⟨_, rfl⟩
      rw [hr] at e0 hcall
      obtain ⟨y, hy⟩ : ∃ y, opOkB z f = y := ⟨_, rfl⟩
      rw [hy] at hcall
      have HCall := Lib.hid hcall
      have HF := Lib.hid hf
      have HY := Lib.hid hy
      have hW := Lib.hid ((Below.refl wr.heap.size wr).alloc (Nat.le_refl _) (.cells #[.int .i64 r, .slice a m c'] 66))
      clear hc c0 c1 hvt hf hy hr hcall hm
      cases y with
      | true =>
        go_wp2_with fail
        refine (HCall.out _ hW.out).mono ?_
        rintro e w2 ⟨rfl, b2⟩
        have HB3 := Lib.hid (hW.out.trans (b2.mono hW.out.size))
        have hcz2 : w2.cell? ⟨w.heap.size, 0, none⟩ = some (.int .i64 z) := (HB3.out.cell (p := ⟨w.heap.size, 0, none⟩) hws).trans hcz
        have hws2 : w.heap.size < w2.heap.size := by have := HB3.out.size; omega
        clear b2 hcz hws e0 e1
        go_wp2_with fail
        go_roundw
        case rel => exact ⟨k + 1, by omega, by go_num, allOk_succ HF.out HA.out HY.out, HB.out.trans (HB3.out.mono HB.out.size), hcz2, hws2⟩
        case measure => simp [intOf]; omega
      | false =>
        go_wp2_with fail
        refine (HCall.out _ hW.out).mono ?_
        rintro e w2 ⟨rfl, b2⟩
        have HB3 := Lib.hid (hW.out.trans (b2.mono hW.out.size))
        clear b2 hcz hws e0 e1
        go_wp2_with fail
        go_ret
        exact ⟨ret_bool ((algOkB_op HF.out HY.out).symm.trans HR.out), HB.out.trans (HB3.out.mono HB.out.size)⟩
    · go_wp2
      go_ret
      refine ⟨ret_bool ?_, HB.out⟩
      rw [← HR.out]
      exact (algOkB_yes h1 h2 (by have := HV.out.1; omega) (by have := HV.out.1; omega) HA.out).symm

theorem isAlg_any (lo hi : Nat) (z : Int) (ao : Option Addr) (c n : Nat) (fs : List OpD) (w : World) (hv : OView w lo hi ao n fs) (hhi : hi ≤ w.heap.size) (hs : ∀ (j : Nat) (f : OpD), fs[j]? = some f → f.2.length ≤ maxLen) :
    Calls Try.prog 69 #[.agg #[.int .i64 z, .slice ao n c]] w fun e w' => e = .returned (.bool (algOkB z fs)) ∧ Below w.heap.size w w' := by
  cases ha : inB 1 8 z with
  | false => rw [algOkB_size ha]; exact isAlg_size z ao c n w ha
  | true =>
    obtain ⟨a0, a1⟩ : 1 ≤ z ∧ z ≤ 8 := of_decide_eq_true ha
    by_cases hl : n ≤ 4
    · exact isAlg_loop lo hi z ao c n fs w a0 a1 hl hv hhi hs
    · rw [algOkB_many (by rw [hv.1]; omega)]
      exact isAlg_many z ao c n w a0 a1 (by omega)

/-! spec.l2Good -/
theorem good_size (z : Int) (ao : Option Addr) (c n : Nat) (w : World) (h : inB 1 8 z = false) :
    Calls Try.prog 57 #[.agg #[.int .i64 z, .slice ao n c]] w fun e w' => e = .returned (.bool false) ∧ Below w.heap.size w w' := by
  have hc := fun w => in_any z 1 8 w
  rw [h] at hc
  have HC := Lib.hid hc
  clear hc h
  go_enter Try.func57, Try.ntmps57
  go_wp2_with fail
  refine (HC.out _).mono ?_
  rintro e w' ⟨rfl, rfl⟩
  go_wp2_with fail
  go_ret
  exact ⟨rfl, (Below.refl _ _).alloc (Nat.le_refl _) _⟩

theorem good_many (z : Int) (ao : Option Addr) (c n : Nat) (w : World) (h : inB 1 8 z = true) (hn : 4 < n) :
    Calls Try.prog 57 #[.agg #[.int .i64 z, .slice ao n c]] w fun e w' => e = .returned (.bool false) ∧ Below w.heap.size w w' := by
  have hc := fun w => in_any z 1 8 w
  rw [h] at hc
  have HC := Lib.hid hc
  clear hc h
  go_enter Try.func57, Try.ntmps57
  go_wp2_with fail
  refine (HC.out _).mono ?_
  rintro e w' ⟨rfl, rfl⟩
  go_wp2_with fail
  go_ret
  exact ⟨rfl, (Below.refl _ _).alloc (Nat.le_refl _) _⟩

set_option maxHeartbeats 1000000 in
theorem good_loop (lo hi : Nat) (z : Int) (ao : Option Addr) (c n : Nat) (fs : List OpD) (w : World) (h : inB 1 8 z = true) (hn : n ≤ 4) (hv : OView w lo hi ao n fs) (hhi : hi ≤ w.heap.size) (hs : ∀ (j : Nat) (f : OpD), fs[j]? = some f → f.2.length ≤ maxLen) :
    Calls Try.prog 57 #[.agg #[.int .i64 z, .slice ao n c]] w fun e w' => e = .returned (.bool (algOkB z fs)) ∧ Below w.heap.size w w' := by
  have HV := Lib.hid hv
  have HSz := Lib.hid hs
  obtain ⟨h1, h2⟩ : 1 ≤ z ∧ z ≤ 8 := of_decide_eq_true h
  have hcin := fun w => in_any z 1 8 w
  rw [h] at hcin
  have HC := Lib.hid hcin
  obtain ⟨t, ht⟩ : ∃ t, algOkB z fs = t := ⟨_, rfl⟩
  have HR := Lib.hid ht
  rw [ht]
  have HB0 := Lib.hid ((Below.refl w.heap.size w).alloc (Nat.le_refl _) (.cells #[.int .i64 z, .slice ao n c] 31))
  clear hv hs ht hcin h
  go_enter Try.func57, Try.ntmps57
  go_wp2_with fail
  refine (HC.out _).mono ?_
  rintro e w' ⟨rfl, rfl⟩
  go_wp2_with fail
  go_loopw [3] (fun i wr => ∃ k : Nat, k ≤ n ∧ i = .int .i64 k ∧ Hid ((fs.take k).all (opOkB z) = true) ∧ Hid (Below w.heap.size w wr) ∧ wr.cell? ⟨w.heap.size, 0, none⟩ = some (.int .i64 z) ∧ wr.cell? ⟨w.heap.size, 1, none⟩ = some (.slice ao n c) ∧ w.heap.size < wr.heap.size) (fun i _ => n - (intOf i).toNat)
  case atStart => exact ⟨0, Nat.zero_le _, rfl, rfl, HB0.out, by simp, by simp, by simp⟩
  case round =>
    obtain ⟨k, hk, rfl, HA, HB, hcz, hca, hws⟩ := hrel
    by_cases hlt : k < n
    · obtain ⟨b, o, rfl, _, hb, hc⟩ := HV.out.at_ (by omega)
      obtain ⟨f, hf⟩ := get_of_lt HV.out.1 hlt
      obtain ⟨a, m, c', c0, c1, _, _, hvt⟩ := hc k f hf
      have e0 : wr.cell? ⟨b, o + k * 2, none⟩ = some (.int .i64 f.1) := (HB.out.cell (p := ⟨b, _, none⟩) (by show b < _; omega)).trans c0
      have e1 : wr.cell? ⟨b, o + k * 2 + 1, none⟩ = some (.slice a m c') := (HB.out.cell (p := ⟨b, _, none⟩) (by show b < _; omega)).trans c1
      have hm := HSz.out k f hf
      rw [hvt.1] at hm
      have hsz := HB.out.size
      have hcall : ∀ w1, (w1.cell? ⟨w.heap.size, 0, none⟩ = some (.int .i64 z) ∧ w1.cell? ⟨w.heap.size, 1, none⟩ = some (.slice (some ⟨b, o, none⟩) n c) ∧ w1.cell? ⟨b, o + k * 2, none⟩ = some (.int .i64 f.1) ∧ w1.cell? ⟨b, o + k * 2 + 1, none⟩ = some (.slice a m c') ∧ Below wr.heap.size wr w1) →
          Calls Try.prog 98 #[.int .i64 z, .agg #[.int .i64 f.1, .slice a m c']] w1 fun e w' => e = .returned (.bool (opOkB z f)) ∧ (w'.cell? ⟨w.heap.size, 0, none⟩ = some (.int .i64 z) ∧ w'.cell? ⟨w.heap.size, 1, none⟩ = some (.slice (some ⟨b, o, none⟩) n c) ∧ w'.cell? ⟨b, o + k * 2, none⟩ = some (.int .i64 f.1) ∧ w'.cell? ⟨b, o + k * 2 + 1, none⟩ = some (.slice a m c') ∧ Below wr.heap.size wr w') := by
        intro w1 ⟨q0, q1, q2, q3, q4⟩
        have hz := q4.size
        refine (l2Op_any lo hi z f a c' m w1 h1 h2 ((hvt.kept (Kept.of_below HB.out hhi)).kept (Kept.of_below q4 (by omega))) (by omega) hm).mono fun e w' ⟨he, hb'⟩ => ⟨he, ?_, ?_, ?_, ?_, q4.trans (hb'.mono hz)⟩
        · exact (hb'.cell (World.block_lt_of_cell? w1 _ q0)).trans q0
        · exact (hb'.cell (World.block_lt_of_cell? w1 _ q1)).trans q1
        · exact (hb'.cell (World.block_lt_of_cell? w1 _ q2)).trans q2
        · exact (hb'.cell (World.block_lt_of_cell? w1 _ q3)).trans q3
      obtain ⟨r, hr⟩ : ∃ r, f.1 = r := ⟨_, rfl⟩
      rw [hr] at e0 hcall
      obtain ⟨y, hy⟩ : ∃ y, opOkB z f = y := ⟨_, rfl⟩
      rw [hy] at hcall
      have HCall := Lib.hid hcall
      have HF := Lib.hid hf
      have HY := Lib.hid hy
      have hw0 : Below wr.heap.size wr wr.drew := (Below.refl _ _).drew
      clear hc c0 c1 hvt hf hy hr hcall hm
      cases y with
      | true =>
        go_wp2_with fail
        go_region_held3 (fun w1 => w1.cell? ⟨w.heap.size, 0, none⟩ = some (.int .i64 z) ∧ w1.cell? ⟨w.heap.size, 1, none⟩ = some (.slice (some ⟨b, o, none⟩) n c) ∧ w1.cell? ⟨b, o + k * 2, none⟩ = some (.int .i64 r) ∧ w1.cell? ⟨b, o + k * 2 + 1, none⟩ = some (.slice a m c') ∧ Below wr.heap.size wr w1) (first | assumption | go_keep) ((go_at_call 98; refine (HCall.out _ ?_).mono ?_; exact ⟨by assumption, by assumption, by assumption, by assumption, by assumption⟩; rintro e w2 ⟨rfl, hS⟩))
        obtain ⟨q0, q1, q2, q3, q4⟩ := hS
        have HB3 := Lib.hid q4
        have hws2 : w.heap.size < w2.heap.size := by have := q4.size; omega
        clear hcz hca hws e0 e1 q2 q3 q4 hw0
        go_wp2_with fail
        go_roundw
        case rel => exact ⟨k + 1, by omega, by go_num, allOk_succ HF.out HA.out HY.out, HB.out.trans (HB3.out.mono HB.out.size), q0, q1, hws2⟩
        case measure => simp [intOf]; omega
      | false =>
        go_wp2_with fail
        go_region_held3 (fun w1 => w1.cell? ⟨w.heap.size, 0, none⟩ = some (.int .i64 z) ∧ w1.cell? ⟨w.heap.size, 1, none⟩ = some (.slice (some ⟨b, o, none⟩) n c) ∧ w1.cell? ⟨b, o + k * 2, none⟩ = some (.int .i64 r) ∧ w1.cell? ⟨b, o + k * 2 + 1, none⟩ = some (.slice a m c') ∧ Below wr.heap.size wr w1) (first | assumption | go_keep) ((go_at_call 98; refine (HCall.out _ ?_).mono ?_; exact ⟨by assumption, by assumption, by assumption, by assumption, by assumption⟩; rintro e w2 ⟨rfl, hS⟩))
        obtain ⟨q0, q1, q2, q3, q4⟩ := hS
        have HB3 := Lib.hid q4
        clear hcz hca hws e0 e1 q0 q1 q2 q3 q4 hw0
        go_wp2_with fail
        go_ret
        exact ⟨ret_bool ((algOkB_op HF.out HY.out).symm.trans HR.out), HB.out.trans (HB3.out.mono HB.out.size)⟩
    · go_wp2
      go_ret
      refine ⟨ret_bool ?_, HB.out⟩
      rw [← HR.out]
      exact (algOkB_yes h1 h2 (by have := HV.out.1; omega) (by have := HV.out.1; omega) HA.out).symm

theorem good_any (lo hi : Nat) (z : Int) (ao : Option Addr) (c n : Nat) (fs : List OpD) (w : World) (hv : OView w lo hi ao n fs) (hhi : hi ≤ w.heap.size) (hs : ∀ (j : Nat) (f : OpD), fs[j]? = some f → f.2.length ≤ maxLen) :
    Calls Try.prog 57 #[.agg #[.int .i64 z, .slice ao n c]] w fun e w' => e = .returned (.bool (algOkB z fs)) ∧ Below w.heap.size w w' := by
  cases ha : inB 1 8 z with
  | false => rw [algOkB_size ha]; exact good_size z ao c n w ha
  | true =>
    by_cases hl : n ≤ 4
    · exact good_loop lo hi z ao c n fs w ha hl hv hhi hs
    · rw [algOkB_many (by rw [hv.1]; omega)]
      exact good_many z ao c n w ha (by omega)


end Go.Proofs.Ytcmjkfcgekmomaa
