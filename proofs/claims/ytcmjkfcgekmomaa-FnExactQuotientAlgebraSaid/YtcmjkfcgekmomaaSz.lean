/-
  Contracts: the laws' szIntS, szOp, szOpS, szAlgebra: they count the values of an argument against a limit. Conditions: the bounds that each theorem names.
-/
import Derived.Test.YtcmjkfcgekmomaaAlg
namespace Go.Proofs.Ytcmjkfcgekmomaa
open Go.RowKit

def szI (left : Int) (n : Nat) : Int := if (n : Int) ≤ left then left - n else -1
theorem szI_yes {left : Int} {n : Nat} (h : (n : Int) ≤ left) : szI left n = left - n := if_pos h
theorem szI_no {left : Int} {n : Nat} (h : ¬ (n : Int) ≤ left) : szI left n = -1 := if_neg h

theorem szInts_any (ao : Option Addr) (c n : Nat) (left : Int) (w : World) (hn : n ≤ maxLen) (h0 : 0 ≤ left) (h1 : left ≤ 1048576) :
    Calls Try.prog 126 #[.slice ao n c, .int .i64 left] w fun e w' => e = .returned (.int .i64 (szI left n)) ∧ w = w' := by
  unfold maxLen at hn
  by_cases h : (n : Int) ≤ left
  · rw [szI_yes h]
    go_enter Try.func126, Try.ntmps126
    go_wp2
    go_ret
    exact ⟨rfl, rfl⟩
  · rw [szI_no h]
    go_enter Try.func126, Try.ntmps126
    go_wp2
    go_ret
    exact ⟨rfl, rfl⟩

theorem szOp_any (r : Int) (ao : Option Addr) (c n : Nat) (left : Int) (w : World) (hn : n ≤ maxLen) (h0 : 0 ≤ left) (h1 : left ≤ 1048576) :
    Calls Try.prog 89 #[.agg #[.int .i64 r, .slice ao n c], .int .i64 left] w fun e w' => e = .returned (.int .i64 (szI left n)) ∧ Below w.heap.size w w' := by
  have hc := Lib.hid (fun w => szInts_any ao c n left w hn h0 h1)
  clear hn
  by_cases h : (n : Int) ≤ left
  · rw [szI_yes h] at hc ⊢
    go_enter Try.func89, Try.ntmps89
    go_wp2_with fail
    refine (hc.out _).mono ?_
    rintro e w' ⟨rfl, rfl⟩
    go_wp2_with fail
    go_ret
    exact ⟨rfl, (Below.refl _ _).alloc (Nat.le_refl _) _⟩
  · rw [szI_no h] at hc ⊢
    go_enter Try.func89, Try.ntmps89
    go_wp2_with fail
    refine (hc.out _).mono ?_
    rintro e w' ⟨rfl, rfl⟩
    go_wp2_with fail
    go_ret
    exact ⟨rfl, (Below.refl _ _).alloc (Nat.le_refl _) _⟩

set_option maxHeartbeats 400000 in
theorem szOps_zero (ao : Option Addr) (c : Nat) (left : Int) (w : World) (h0 : 0 ≤ left) (h1 : left ≤ 1048576) :
    Calls Try.prog 48 #[.slice ao 0 c, .int .i64 left] w fun e w' => e = .returned (.int .i64 left) ∧ w = w' := by
  go_enter Try.func48, Try.ntmps48
  go_wp2
  refine wp_loop_rounds 1 ?_
  rw [rounds_succ]
  go_wp2
  go_ret
  exact ⟨by simp, rfl⟩

set_option maxHeartbeats 1000000 in
theorem szOps_some (hi b o c n : Nat) (fs : List OpD) (left : Int) (w : World) (hlen : fs.length = n) (hn : n ≤ maxLen) (hs : ∀ (j : Nat) (f : OpD), fs[j]? = some f → f.2.length ≤ maxLen) (h0 : 0 ≤ left) (h1 : left ≤ 1048576) (hb : b < hi) (hhi : hi ≤ w.heap.size)
    (hc : ∀ j f, fs[j]? = some f → ∃ a m c, w.cell? ⟨b, o + j * 2, none⟩ = some (.int .i64 f.1) ∧ w.cell? ⟨b, o + j * 2 + 1, none⟩ = some (.slice a m c) ∧ m ≤ c ∧ c ≤ maxLen ∧ IView w 0 hi a m f.2) :
    Calls Try.prog 48 #[.slice (some ⟨b, o, none⟩) n c, .int .i64 left] w fun e w' => e = .returned (.int .i64 (szI left (n + osum fs))) ∧ Below w.heap.size w w' := by
  unfold maxLen at hn
  have HL := Lib.hid hlen
  have HC := Lib.hid hc
  have HSz := Lib.hid hs
  clear hlen hc hs
  by_cases hnl : (n : Int) ≤ left
  · go_enter Try.func48, Try.ntmps48
    go_wp2_with fail
    go_loopw [1, 5] (fun l i wr => ∃ k s : Nat, k ≤ n ∧ i = .int .i64 k ∧ Hid (s = osum (fs.take k)) ∧ (n + s : Int) ≤ left ∧ l = .int .i64 (left - n - s) ∧ Hid (Below w.heap.size w wr)) (fun _ i _ => n - (intOf i).toNat)
    case atStart => exact ⟨0, 0, Nat.zero_le _, rfl, rfl, by omega, by simp, Below.refl _ _⟩
    case round =>
      obtain ⟨k, s, hk, rfl, HS, hs, rfl, HB⟩ := hrel
      by_cases hlt : k < n
      · obtain ⟨f, hf⟩ := get_of_lt HL.out hlt
        obtain ⟨a, m, c', c0, c1, hmc, hcm, hv⟩ := HC.out k f hf
        have e0 : wr.cell? ⟨b, o + k * 2, none⟩ = some (.int .i64 f.1) := (HB.out.cell (p := ⟨b, _, none⟩) (by show b < _; omega)).trans c0
        have e1 : wr.cell? ⟨b, o + k * 2 + 1, none⟩ = some (.slice a m c') := (HB.out.cell (p := ⟨b, _, none⟩) (by show b < _; omega)).trans c1
        have hfl : f.2.length = m := hv.1
        have hcall := Lib.hid (fun w => szOp_any f.1 a c' m (left - n - s) w (by omega) (by omega) (by omega))
        obtain ⟨r, hr⟩ : ∃ r, f.1 = r := ⟨_, rfl⟩
        rw [hr] at hcall e0
        have HF := Lib.hid hf
        have HFL := Lib.hid hfl
        clear hf hfl hv c0 c1 hmc hcm hr
        by_cases hfit : (m : Int) ≤ left - n - s
        · rw [szI_yes hfit] at hcall
          go_wp2_with fail
          refine (hcall.out _).mono ?_
          rintro e w1 ⟨rfl, b1⟩
          have HB1 := Lib.hid (HB.out.trans (b1.mono HB.out.size))
          clear b1
          go_wp2_with fail
          go_roundw
          case rel => exact ⟨k + 1, s + m, by omega, by go_num, by unfold Hid; rw [osum_succ HF.out, HS.out, HFL.out], by omega, by go_num, HB1.out⟩
          case measure => simp [intOf]; omega
        · rw [szI_no hfit] at hcall
          go_wp2_with fail
          refine (hcall.out _).mono ?_
          rintro e w1 ⟨rfl, b1⟩
          have HB1 := Lib.hid (HB.out.trans (b1.mono HB.out.size))
          clear b1
          go_wp2_with fail
          go_ret
          refine ⟨ret_int ?_, HB1.out⟩
          have h1 := osum_take_le fs (k + 1)
          rw [osum_succ HF.out, ← HS.out, HFL.out] at h1
          rw [szI_no (by omega)]
      · go_wp2_with fail
        go_ret
        refine ⟨?_, HB.out⟩
        have hs2 : s = osum fs := by rw [HS.out, osum_all (by have := HL.out; omega)]
        rw [szI_yes (by omega), ← hs2]
        go_num
  · go_enter Try.func48, Try.ntmps48
    go_wp2_with fail
    go_ret
    exact ⟨ret_int (by rw [szI_no (by omega)]), Below.refl _ _⟩

theorem szOps_view (hi : Nat) (ao : Option Addr) (c n : Nat) (fs : List OpD) (left : Int) (w : World) (h : OView w 0 hi ao n fs) (hhi : hi ≤ w.heap.size) (hn : n ≤ maxLen) (hs : ∀ (j : Nat) (f : OpD), fs[j]? = some f → f.2.length ≤ maxLen) (h0 : 0 ≤ left) (h1 : left ≤ 1048576) :
    Calls Try.prog 48 #[.slice ao n c, .int .i64 left] w fun e w' => e = .returned (.int .i64 (szI left (n + osum fs))) ∧ Below w.heap.size w w' := by
  obtain ⟨hl, rfl | ⟨b, o, rfl, _, hb, hc⟩⟩ := h
  · obtain rfl : fs = [] := List.eq_nil_of_length_eq_zero hl
    refine (szOps_zero ao c left w h0 h1).mono fun e w' ⟨he, hw⟩ => ⟨he.trans (ret_int ?_), hw ▸ Below.refl _ _⟩
    rw [szI_yes (by simpa [osum] using h0)]
    simp [osum]
  · exact szOps_some hi b o c n fs left w hl hn hs h0 h1 hb hhi hc

theorem szAlg_any (hi : Nat) (z : Int) (ao : Option Addr) (c n : Nat) (fs : List OpD) (left : Int) (w : World) (h : OView w 0 hi ao n fs) (hhi : hi ≤ w.heap.size) (hn : n ≤ maxLen) (hs : ∀ (j : Nat) (f : OpD), fs[j]? = some f → f.2.length ≤ maxLen) (h0 : 0 ≤ left) (h1 : left ≤ 1048576) :
    Calls Try.prog 15 #[.agg #[.int .i64 z, .slice ao n c], .int .i64 left] w fun e w' => e = .returned (.int .i64 (szI left (n + osum fs))) ∧ Below w.heap.size w w' := by
  have hc := Lib.hid (fun (w1 : World) (hb : Below w.heap.size w w1) => szOps_view hi ao c n fs left w1 (h.kept (Kept.of_below hb hhi)) (by have := hb.size; omega) hn hs h0 h1)
  have hB0 := Lib.hid ((Below.refl w.heap.size w).alloc (Nat.le_refl _) (.cells #[.int .i64 z, .slice ao n c] 24))
  clear h hhi hs hn
  by_cases h : ((n + osum fs : Nat) : Int) ≤ left
  · rw [szI_yes h] at hc ⊢
    obtain ⟨s, hs⟩ : ∃ s, s = n + osum fs := ⟨_, rfl⟩
    rw [← hs] at hc h ⊢
    have HS := Lib.hid hs
    clear hs
    go_enter Try.func15, Try.ntmps15
    go_wp2_with fail
    refine (hc.out _ hB0.out).mono ?_
    rintro e w' ⟨rfl, b1⟩
    have HB1 := Lib.hid (hB0.out.trans (b1.mono hB0.out.size))
    clear b1
    go_wp2_with fail
    go_ret
    exact ⟨rfl, HB1.out⟩
  · rw [szI_no h] at hc ⊢
    clear h
    go_enter Try.func15, Try.ntmps15
    go_wp2_with fail
    refine (hc.out _ hB0.out).mono ?_
    rintro e w' ⟨rfl, b1⟩
    have HB1 := Lib.hid (hB0.out.trans (b1.mono hB0.out.size))
    clear b1
    go_wp2_with fail
    go_ret
    exact ⟨rfl, HB1.out⟩

end Go.Proofs.Ytcmjkfcgekmomaa
