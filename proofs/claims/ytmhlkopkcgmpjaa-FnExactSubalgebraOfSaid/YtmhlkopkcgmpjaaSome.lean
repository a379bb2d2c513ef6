/-
  Contracts: impl.someElements and spec.l5Some: some elements of a valid algebra. Conditions: the bounds that each theorem names.
-/
import Derived.Test.YtmhlkopkcgmpjaaAreE
import Derived.Test.YtmhlkopkcgmpjaaSetB
import Derived.Test.YtmhlkopkcgmpjaaIsAlg
import Derived.Test.YtmhlkopkcgmpjaaElems
import Derived.Test.YtmhlkopkcgmpjaaStep
namespace Go.Proofs.Ytmhlkopkcgmpjaa
open Go.RowKit
set_option linter.unusedVariables false
set_option linter.unusedSimpArgs false

/-- Some elements of a valid algebra, at most 20. -/
def someB (z : Int) (fs : List OpD) (xs : List Int) : Bool := algOkB z fs && (decide (xs.length ≤ 20) && allIn z xs)
theorem someB_alg {z : Int} {fs : List OpD} {xs : List Int} (h : algOkB z fs = false) : someB z fs xs = false := by simp [someB, h]
theorem someB_long {z : Int} {fs : List OpD} {xs : List Int} (h : ¬ xs.length ≤ 20) : someB z fs xs = false := by simp [someB, h]
theorem someB_in {z : Int} {fs : List OpD} {xs : List Int} (h : algOkB z fs = true) (h2 : xs.length ≤ 20) : someB z fs xs = allIn z xs := by simp [someB, h, h2]
theorem someB_of {z : Int} {fs : List OpD} {xs : List Int} (h : someB z fs xs = true) : algOkB z fs = true ∧ xs.length ≤ 20 ∧ allIn z xs = true := by
  simp only [someB, Bool.and_eq_true, decide_eq_true_eq] at h
  exact h
theorem alg_dom {z : Int} {fs : List OpD} (h : algOkB z fs = true) : 1 ≤ z ∧ z ≤ 8 := (algOkB_of h).1

set_option maxHeartbeats 1000000 in
theorem someEl_any (lo hi lo2 hi2 : Nat) (z : Int) (ao bo : Option Addr) (c n d m : Nat) (fs : List OpD) (xs : List Int) (w : World) (hv : OView w lo hi ao n fs) (hhi : hi ≤ w.heap.size) (hs : ∀ (j : Nat) (f : OpD), fs[j]? = some f → f.2.length ≤ maxLen)
    (hx : IView w lo2 hi2 bo m xs) (hhi2 : hi2 ≤ w.heap.size) (hm : m ≤ maxLen) :
    Calls Try.prog 54 #[.agg #[.int .i64 z, .slice ao n c], .slice bo m d] w fun e w' => e = .returned (.tuple #[.int .u64 ((if someB z fs xs then setN xs else 0 : Nat) : Int), .bool (someB z fs xs)]) ∧ Below w.heap.size w w' := by
  have hB := below_alloc w (.cells #[.int .i64 z, .slice ao n c] 31)
  have HB := Lib.hid hB
  have hC := areEls_any lo hi lo2 hi2 z ao bo c n d m fs xs _ (hv.kept (Kept.of_below hB hhi)) (Nat.le_trans hhi hB.size) hs (hx.kept (Kept.of_below hB hhi2)) (Nat.le_trans hhi2 hB.size) hm
  have hxl := hx.1
  by_cases h20 : xs.length ≤ 20
  · have hm20 : (m : Int) ≤ 20 := by omega
    obtain ⟨t, ht⟩ : ∃ t, (algOkB z fs && allIn z xs) = t := ⟨_, rfl⟩
    rw [ht] at hC
    have hsb : someB z fs xs = t := by rw [← ht, someB, decide_eq_true h20, Bool.true_and]
    rw [hsb]
    have HC := Lib.hid hC
    have HX := Lib.hid hx
    cases t with
    | false =>
      clear hv hs hx hB hC ht hsb h20
      go_enter Try.func54, Try.ntmps54
      go_wp2_with fail
      refine HC.out.mono ?_
      rintro e w1 ⟨rfl, b1⟩
      have HB1 := Lib.hid (below_then HB.out b1)
      clear b1
      go_wp2_with fail
      go_ret2
      exact ⟨rfl, HB1.out⟩
    | true =>
      simp only [Bool.and_eq_true] at ht
      obtain ⟨hz1, hz2⟩ := alg_dom ht.1
      have HT := Lib.hid ht.2
      clear hv hs hx hB hC ht hsb h20
      go_enter Try.func54, Try.ntmps54
      go_wp2_with fail
      refine HC.out.mono ?_
      rintro e w1 ⟨rfl, b1⟩
      have HB1 := Lib.hid (below_then HB.out b1)
      have HX1 := Lib.hid (HX.out.kept (Kept.of_below HB1.out hhi2))
      have HSe := Lib.hid (setOf_any lo2 hi2 z bo d m xs w1 HX1.out hm HT.out hz2)
      clear b1
      go_wp2_with fail
      refine HSe.out.mono ?_
      rintro e w2 ⟨rfl, rfl⟩
      go_wp2_with fail
      go_ret2
      exact ⟨by simp, HB1.out⟩
  · rw [someB_long h20]
    have hm20 : ¬ (m : Int) ≤ 20 := by omega
    clear hv hs hx hB hC h20
    go_enter Try.func54, Try.ntmps54
    go_wp2_with fail
    go_ret2
    exact ⟨rfl, HB.out⟩

set_option maxHeartbeats 1000000 in
theorem l5Some_any (lo hi lo2 hi2 : Nat) (z : Int) (ao bo : Option Addr) (c n d m : Nat) (fs : List OpD) (xs : List Int) (w : World) (hv : OView w lo hi ao n fs) (hhi : hi ≤ w.heap.size) (hs : ∀ (j : Nat) (f : OpD), fs[j]? = some f → f.2.length ≤ maxLen)
    (hx : IView w lo2 hi2 bo m xs) (hhi2 : hi2 ≤ w.heap.size) (hm : m ≤ maxLen) :
    Calls Try.prog 52 #[.agg #[.int .i64 z, .slice ao n c], .slice bo m d] w fun e w' => e = .returned (.bool (someB z fs xs)) ∧ Below w.heap.size w w' := by
  have hB := below_alloc w (.cells #[.int .i64 z, .slice ao n c] 31)
  have HB := Lib.hid hB
  have hC := good_any lo hi z ao c n fs _ (hv.kept (Kept.of_below hB hhi)) (Nat.le_trans hhi hB.size) hs
  obtain ⟨r, hr⟩ : ∃ r, algOkB z fs = r := ⟨_, rfl⟩
  rw [hr] at hC
  have HC := Lib.hid hC
  have hxl := hx.1
  cases r with
  | false =>
    rw [someB_alg hr]
    clear hv hs hx hB hC hr
    go_enter Try.func52, Try.ntmps52
    go_wp2_with fail
    refine HC.out.mono ?_
    rintro e w1 ⟨rfl, b1⟩
    have HB1 := Lib.hid (below_then HB.out b1)
    clear b1
    go_wp2_with fail
    go_ret
    exact ⟨rfl, HB1.out⟩
  | true =>
    obtain ⟨hz1, hz2⟩ := alg_dom hr
    by_cases h20 : xs.length ≤ 20
    · rw [someB_in hr h20]
      have HX := Lib.hid hx
      have hm20 : (m : Int) ≤ 20 := by omega
      obtain ⟨t, ht⟩ : ∃ t, allIn z xs = t := ⟨_, rfl⟩
      rw [ht]
      have HT := Lib.hid ht
      have cz : (w.alloc (.cells #[.int .i64 z, .slice ao n c] 31)).cell? ⟨w.heap.size, 0, none⟩ = some (.int .i64 z) := by simp
      clear hv hs hx hB hC hr ht h20
      go_enter Try.func52, Try.ntmps52
      go_wp2_with fail
      refine HC.out.mono ?_
      rintro e w1 ⟨rfl, b1⟩
      have HB1 := Lib.hid (below_then HB.out b1)
      have cz1 := cell_b b1 cz
      have HE := Lib.hid (elems_spec lo2 hi2 z bo d m xs w1 (HX.out.kept (Kept.of_below HB1.out hhi2)) (by omega) (by omega) hm)
      simp only [HT.out] at HE
      clear b1
      go_wp2_with fail
      refine HE.out.mono ?_
      rintro e w2 ⟨rfl, rfl⟩
      go_wp2_with fail
      go_ret
      exact ⟨rfl, HB1.out⟩
    · rw [someB_long h20]
      have hm20 : ¬ (m : Int) ≤ 20 := by omega
      clear hv hs hx hB hC hr h20
      go_enter Try.func52, Try.ntmps52
      go_wp2_with fail
      refine HC.out.mono ?_
      rintro e w1 ⟨rfl, b1⟩
      have HB1 := Lib.hid (below_then HB.out b1)
      clear b1
      go_wp2_with fail
      go_ret
      exact ⟨rfl, HB1.out⟩

end Go.Proofs.Ytmhlkopkcgmpjaa
