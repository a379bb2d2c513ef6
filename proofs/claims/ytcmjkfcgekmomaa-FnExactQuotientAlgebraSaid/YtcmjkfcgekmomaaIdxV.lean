/-
  Contract: spec.l2Value: what stands in a table for a list of arguments. Conditions: the bounds that it names.
-/
import Derived.Test.YtcmjkfcgekmomaaIdx
namespace Go.Proofs.Ytcmjkfcgekmomaa
open Go.RowKit
set_option linter.unusedVariables false
set_option linter.unusedSimpArgs false

set_option maxHeartbeats 1000000 in
theorem value_spec (lo hi lo2 hi2 : Nat) (z : Int) (ao bo : Option Addr) (c n d m k : Nat) (fs : List OpD) (f : OpD) (xs : List Int) (w : World) (hv : OView w lo hi ao n fs) (hhi : hi ≤ w.heap.size) (hok : algOkB z fs = true) (hf : fs[k]? = some f)
    (hx : IView w lo2 hi2 bo m xs) (hhi2 : hi2 ≤ w.heap.size) (ha : allIn z xs = true) (hl : (m : Int) = f.1) :
    Calls Try.prog 105 #[.agg #[.int .i64 z, .slice ao n c], .int .i64 (k : Int), .slice bo m d] w fun e w' => e = .returned (.int .i64 (atA z f xs)) ∧ Below w.heap.size w w' := by
  obtain ⟨⟨h1, h2⟩, hn4, hall⟩ := algOkB_of hok
  have hfo := hall f (List.mem_of_getElem? hf)
  have hm3 : m ≤ 3 := by have := (opOkB_of hfo).1; omega
  obtain ⟨hi0, hi1, hat⟩ := at_get h1 hfo (by rw [hx.1]; exact hl) ha
  have hkl : k < n := by rw [← hv.1]; exact (List.getElem?_eq_some_iff.1 hf).1
  have hn4' : n ≤ 4 := by have := hv.1; omega
  have hB := (Below.refl w.heap.size w).alloc (Nat.le_refl _) (.cells #[.int .i64 z, .slice ao n c] 31)
  have HX := Lib.hid (hx.kept (Kept.of_below hB hhi2))
  obtain ⟨b, o, rfl, hbl, hb, hc⟩ := (hv.kept (Kept.of_below hB hhi)).at_ (by omega)
  obtain ⟨a, mt, c', c0, c1, hmc, hcm, hvt⟩ := hc k f hf
  have hmt : f.2.length = mt := hvt.1
  rw [hmt] at hi1
  obtain ⟨bt, ot, rfl, _, _, hct⟩ := hvt.at_ (by omega)
  have hct2 := hct _ _ hat
  obtain ⟨i, hi⟩ : ∃ i : Nat, idxA z xs = (i : Int) := ⟨(idxA z xs).toNat, by omega⟩
  rw [hi] at hi1 hct2
  rw [Int.toNat_natCast] at hct2
  have HI := Lib.hid hi
  have HA := Lib.hid ha
  have HB := Lib.hid hB
  obtain ⟨v, hve⟩ : ∃ v, atA z f xs = v := ⟨_, rfl⟩
  rw [hve] at hct2 ⊢
  clear hv hok hf hx ha hl hfo hall hat hB hc c0 hvt hct hi hve hn4 hi0 hmt
  go_enter Try.func105, Try.ntmps105
  go_wp2
  go_loopw [7, 8] (fun p i wr => ∃ (k : Nat) (v : Int) (q : Nat), k ≤ m ∧ i = .int .i64 (k : Int) ∧ p = .int .i64 v ∧ Hid (v = idxA z (xs.take k)) ∧ wr = (w.alloc (.cells #[.int .i64 z, .slice (some ⟨b, o, none⟩) n c] 31)).drewN q) (fun _ i _ => m - (intOf i).toNat)
  case atStart => exact ⟨0, 0, 0, Nat.zero_le _, rfl, rfl, rfl, rfl⟩
  case round =>
    obtain ⟨k', v', q, hk, rfl, rfl, HVal, rfl⟩ := hrel
    by_cases hlt : k' < m
    · obtain ⟨b2, o2, rfl, _, _, hc2⟩ := HX.out.at_ (by omega)
      obtain ⟨x, hx⟩ := get_of_lt HX.out.1 hlt
      have hcell := hc2 k' x hx
      obtain ⟨q0, q1, q2, q3, q4, q5⟩ := idx_step h1 h2 HA.out (by have := HX.out.1; omega) hx
      rw [← HVal.out] at q2 q3 q4 q5
      have HXx := Lib.hid hx
      have hkm : (k' : Int) < (m : Int) := by omega
      clear hc2 hx
      go_wp2
      go_quiet (fail)
      go_wp2
      go_roundw
      case rel => exact ⟨k' + 1, v' * z + x, _, by omega, by go_num, rfl, by unfold Hid; rw [idxA_succ HXx.out, HVal.out], rfl⟩
      case measure => simp [intOf]; omega
    · have hvi : v' = (i : Int) := by rw [HVal.out, idx_all (by have := HX.out.1; omega), HI.out]
      subst hvi
      go_wp2
      go_ret
      exact ⟨rfl, below_drewN HB.out _⟩

end Go.Proofs.Ytcmjkfcgekmomaa
