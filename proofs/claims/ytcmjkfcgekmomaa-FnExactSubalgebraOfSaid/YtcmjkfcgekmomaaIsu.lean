/-
  Contracts: spec.l5Is, impl.subuniverseOf and both IsSubuniverse. Conditions: the bounds that each theorem names.
-/
import Derived.Test.YtcmjkfcgekmomaaAreE
import Derived.Test.YtcmjkfcgekmomaaRise
import Derived.Test.YtcmjkfcgekmomaaGenS
namespace Go.Proofs.Ytcmjkfcgekmomaa
open Go.RowKit
set_option linter.unusedVariables false
set_option linter.unusedSimpArgs false

set_option maxHeartbeats 1000000 in
theorem l5Is_any (lo hi : Nat) (z : Int) (ao : Option Addr) (c n : Nat) (fs : List OpD) (lo2 hi2 : Nat) (bo : Option Addr) (d m : Nat) (xs : List Int) (w : World) (hv : OView w lo hi ao n fs) (hhi : hi ≤ w.heap.size) (hok : algOkB z fs = true)
    (hx : IView w lo2 hi2 bo m xs) (hhi2 : hi2 ≤ w.heap.size) (hm : m ≤ maxLen) :
    Calls Try.prog 58 #[.agg #[.int .i64 z, .slice ao n c], .slice bo m d] w fun e w' => e = .returned (.bool (isSubB z fs xs)) ∧ Below w.heap.size w w' := by
  have hB := below_alloc w (.cells #[.int .i64 z, .slice ao n c] 31)
  have HB := Lib.hid hB
  have HX := Lib.hid hx
  have HV := Lib.hid hv
  have cz : (w.alloc (.cells #[.int .i64 z, .slice ao n c] 31)).cell? ⟨w.heap.size, 0, none⟩ = some (.int .i64 z) := by simp
  have ca : (w.alloc (.cells #[.int .i64 z, .slice ao n c] 31)).cell? ⟨w.heap.size, 1, none⟩ = some (.slice ao n c) := by simp
  have HX0 := Lib.hid (hx.kept (Kept.of_below hB hhi2))
  have hs0 := hB.size
  obtain ⟨hz1, hz2⟩ := alg_dom hok
  have HOk := Lib.hid hok
  have hRi := rising_any lo2 hi2 z bo d m xs _ HX0.out hm hz1 hz2
  obtain ⟨r, hr⟩ : ∃ r, riseB z xs = r := ⟨_, rfl⟩
  rw [hr] at hRi
  have HRi := Lib.hid hRi
  have HRr := Lib.hid hr
  clear hv hx hok hB hRi hr
  go_enter Try.func58, Try.ntmps58
  cases r with
  | false =>
    rw [isSubB_rise HRr.out]
    go_wp2_with fail
    refine HRi.out.mono ?_
    rintro e w1 ⟨rfl, q, rfl⟩
    have HB1 := Lib.hid (below_drewN HB.out q)
    go_wp2_with fail
    go_ret
    exact ⟨rfl, HB1.out⟩
  | true =>
    have HE : Hid (decide (listK (closeN z fs (setN xs)) 8 = xs) = isSubB z fs xs) := isSub_close HOk.out HRr.out
    have HA : Hid (allIn z xs = true) := by
      have h_ := HRr.out
      unfold riseB at h_
      exact (Bool.and_eq_true _ _ |>.mp h_).1
    go_wp2_with fail
    refine HRi.out.mono ?_
    rintro e w1 ⟨rfl, hq⟩
    have HB1 : Hid (Below w.heap.size w w1) := by obtain ⟨q, rfl⟩ := hq; exact below_drewN HB.out q
    have cz1 : w1.cell? ⟨w.heap.size, 0, none⟩ = some (.int .i64 z) := by obtain ⟨q, rfl⟩ := hq; exact cz
    have ca1 : w1.cell? ⟨w.heap.size, 1, none⟩ = some (.slice ao n c) := by obtain ⟨q, rfl⟩ := hq; exact ca
    have HX1 := Lib.hid (HX.out.kept (Kept.of_below HB1.out hhi2))
    have hs1 := HB1.out.size
    have HG := Lib.hid (l5Close_any lo hi lo2 hi2 z ao bo c n d m fs xs w1 (HV.out.kept (Kept.of_below HB1.out hhi)) (Nat.le_trans hhi hs1) HOk.out HX1.out (Nat.le_trans hhi2 hs1) hm HA.out)
    clear hq cz ca HX0
    go_wp2_with fail
    refine HG.out.mono ?_
    rintro e w2 ⟨a2, m2, d2, rfl, hm2, ho2, b2⟩
    have HB2 := Lib.hid (HB1.out.trans (b2.mono HB1.out.size))
    have HS := Lib.hid (l1Same_any w1.heap.size w2.heap.size lo2 hi2 a2 bo d2 m2 d m (listK (closeN z fs (setN xs)) 8) xs w2 (OwnsInts.of_row ho2).view (HX1.out.kept (Kept.of_below b2 (Nat.le_trans hhi2 hs1))) (by have := listK_le (closeN z fs (setN xs)) 8; unfold maxLen; omega) hm)
    clear b2 ho2 hm2
    rw [HE.out] at HS
    go_wp2_with fail
    refine HS.out.mono ?_
    rintro e w3 ⟨rfl, q3, rfl⟩
    have HB3 := Lib.hid (below_drewN HB2.out q3)
    go_wp2_with fail
    go_ret
    exact ⟨rfl, HB3.out⟩

/-- A list is a subuniverse, and the algebra is valid. -/
def subuB (z : Int) (fs : List OpD) (xs : List Int) : Bool := algOkB z fs && isSubB z fs xs
theorem subuB_alg {z : Int} {fs : List OpD} {xs : List Int} (h : algOkB z fs = false) : subuB z fs xs = false := by simp [subuB, h]
theorem subuB_ok {z : Int} {fs : List OpD} {xs : List Int} (h : algOkB z fs = true) : subuB z fs xs = isSubB z fs xs := by simp [subuB, h]
theorem subuB_of {z : Int} {fs : List OpD} {xs : List Int} (h : subuB z fs xs = true) : algOkB z fs = true ∧ isSubB z fs xs = true := by
  simp only [subuB, Bool.and_eq_true] at h
  exact h
theorem isSubB_in {z : Int} {fs : List OpD} {xs : List Int} (h : allIn z xs = false) : isSubB z fs xs = false := isSubB_rise (by simp [riseB, h])
theorem isSubB_list {z : Int} {fs : List OpD} {xs : List Int} (h : ¬ listK (setN xs) 8 = xs) : isSubB z fs xs = false := isSubB_rise (by simp [riseB, h])
theorem isSubB_yes {z : Int} {fs : List OpD} {xs : List Int} (h : allIn z xs = true) (h2 : listK (setN xs) 8 = xs) : isSubB z fs xs = decide (stepN z fs (setN xs) = setN xs) := isSubB_step (by simp [riseB, h, h2])

set_option maxHeartbeats 1000000 in
theorem subOf_any (lo hi : Nat) (z : Int) (ao : Option Addr) (c n : Nat) (fs : List OpD) (lo2 hi2 : Nat) (bo : Option Addr) (d m : Nat) (xs : List Int) (w : World) (hv : OView w lo hi ao n fs) (hhi : hi ≤ w.heap.size) (hs : ∀ (j : Nat) (f : OpD), fs[j]? = some f → f.2.length ≤ maxLen)
    (hx : IView w lo2 hi2 bo m xs) (hhi2 : hi2 ≤ w.heap.size) (hm : m ≤ maxLen) :
    Calls Try.prog 60 #[.agg #[.int .i64 z, .slice ao n c], .slice bo m d] w fun e w' => e = .returned (.tuple #[.int .u64 ((if subuB z fs xs then setN xs else 0 : Nat) : Int), .bool (subuB z fs xs)]) ∧ Below w.heap.size w w' := by
  have hB := below_alloc w (.cells #[.int .i64 z, .slice ao n c] 31)
  have HB := Lib.hid hB
  have HX := Lib.hid hx
  have HV := Lib.hid hv
  have cz : (w.alloc (.cells #[.int .i64 z, .slice ao n c] 31)).cell? ⟨w.heap.size, 0, none⟩ = some (.int .i64 z) := by simp
  have ca : (w.alloc (.cells #[.int .i64 z, .slice ao n c] 31)).cell? ⟨w.heap.size, 1, none⟩ = some (.slice ao n c) := by simp
  have HX0 := Lib.hid (hx.kept (Kept.of_below hB hhi2))
  have hs0 := hB.size
  have hC := areEls_any lo hi lo2 hi2 z ao bo c n d m fs xs _ (hv.kept (Kept.of_below hB hhi)) (Nat.le_trans hhi hB.size) hs (hx.kept (Kept.of_below hB hhi2)) (Nat.le_trans hhi2 hB.size) hm
  obtain ⟨r, hr⟩ : ∃ r, algOkB z fs = r := ⟨_, rfl⟩
  rw [hr] at hC
  have HC := Lib.hid hC
  cases r with
  | false =>
    rw [subuB_alg hr]
    clear hv hs hx hB hC hr HX0
    go_enter Try.func60, Try.ntmps60
    go_wp2_with fail
    refine HC.out.mono ?_
    rintro e w1 ⟨rfl, b1⟩
    have HB1 := Lib.hid (below_then HB.out b1)
    have cz1 := cell_b b1 cz
    have ca1 := cell_b b1 ca
    have HV1 := Lib.hid (HV.out.kept (Kept.of_below HB1.out hhi))
    have HX1 := Lib.hid (HX.out.kept (Kept.of_below HB1.out hhi2))
    have hs1 := HB1.out.size
    clear b1
    go_wp2_with fail
    go_ret2
    exact ⟨rfl, HB1.out⟩
  | true =>
    rw [subuB_ok hr]
    obtain ⟨hz1, hz2⟩ := alg_dom hr
    have HOk := Lib.hid hr
    obtain ⟨t, ht⟩ : ∃ t, allIn z xs = t := ⟨_, rfl⟩
    have HT := Lib.hid ht
    clear hv hs hx hB hC hr HX0 ht
    cases t with
    | false =>
      rw [isSubB_in HT.out]
      have hC2 := HC.out
      rw [HT.out] at hC2
      have HC := Lib.hid hC2
      clear hC2
      go_enter Try.func60, Try.ntmps60
      go_wp2_with fail
      refine HC.out.mono ?_
      rintro e w1 ⟨rfl, b1⟩
      have HB1 := Lib.hid (below_then HB.out b1)
      have cz1 := cell_b b1 cz
      have ca1 := cell_b b1 ca
      have HV1 := Lib.hid (HV.out.kept (Kept.of_below HB1.out hhi))
      have HX1 := Lib.hid (HX.out.kept (Kept.of_below HB1.out hhi2))
      have hs1 := HB1.out.size
      clear b1
      go_wp2_with fail
      go_ret2
      exact ⟨rfl, HB1.out⟩
    | true =>
      have hl8 : setN xs < 2 ^ 8 := setN_lt HT.out hz2
      have HL8 := Lib.hid hl8
      obtain ⟨S, hS⟩ : ∃ S, setN xs = S := ⟨_, rfl⟩
      rw [hS]
      have HSS := Lib.hid hS
      obtain ⟨r2, hr2⟩ : ∃ r2, isSubB z fs xs = r2 := ⟨_, rfl⟩
      rw [hr2]
      have HR2 := Lib.hid hr2
      have hC2 := HC.out
      rw [HT.out] at hC2
      have HC := Lib.hid hC2
      clear hl8 hS hr2 hC2
      go_enter Try.func60, Try.ntmps60
      go_wp2_with fail
      refine HC.out.mono ?_
      rintro e w1 ⟨rfl, b1⟩
      have HB1 := Lib.hid (below_then HB.out b1)
      have cz1 := cell_b b1 cz
      have ca1 := cell_b b1 ca
      have HV1 := Lib.hid (HV.out.kept (Kept.of_below HB1.out hhi))
      have HX1 := Lib.hid (HX.out.kept (Kept.of_below HB1.out hhi2))
      have hs1 := HB1.out.size
      have hSe := setOf_any lo2 hi2 z bo d m xs w1 HX1.out hm HT.out hz2
      rw [HSS.out] at hSe
      have HSe := Lib.hid hSe
      have hLi := list_any (setN xs) w1 HL8.out
      rw [HSS.out] at hLi
      have HLi := Lib.hid hLi
      clear b1 hSe hLi
      go_wp2_with fail
      refine HSe.out.mono ?_
      rintro e w2 ⟨rfl, rfl⟩
      go_wp2_with fail
      refine HLi.out.mono ?_
      rintro e w2 ⟨a2, m2, d2, rfl, hm2, ho2, b2⟩
      have HB2 := Lib.hid (HB1.out.trans (b2.mono HB1.out.size))
      have cz2 := cell_b b2 cz1
      have ca2 := cell_b b2 ca1
      have HEq := Lib.hid (equal_any w1.heap.size w2.heap.size lo2 hi2 a2 bo d2 m2 d m (listK S 8) xs w2 (OwnsInts.of_row ho2).view (HX1.out.kept (Kept.of_below b2 (Nat.le_trans hhi2 hs1))) (by have := listK_le S 8; unfold maxLen; omega) hm)
      clear b2 ho2 hm2
      by_cases hl : listK S 8 = xs
      · have HEq2 : Hid (decide (listK S 8 = xs) = true) := decide_eq_true hl
        rw [HEq2.out] at HEq
        have hy : isSubB z fs xs = decide (stepN z fs S = S) := by rw [← HSS.out]; exact isSubB_yes HT.out (by rw [HSS.out]; exact hl)
        have HC2 := (fun W (hb : Below w.heap.size w W) => closed_any lo hi z ao c n fs S W (HV.out.kept (Kept.of_below hb hhi)) (Nat.le_trans hhi hb.size) HOk.out (by rw [← HSS.out]; exact HL8.out))
        obtain ⟨u, hu⟩ : ∃ u, decide (stepN z fs S = S) = u := ⟨_, rfl⟩
        simp only [hu] at HC2
        obtain rfl : r2 = u := HR2.out.symm.trans (hy.trans hu)
        clear hu hy hl
        go_wp2_with fail
        refine HEq.out.mono ?_
        rintro e w3 ⟨rfl, hq3⟩
        have HB3 : Hid (Below w.heap.size w w3) := by obtain ⟨q, rfl⟩ := hq3; exact below_drewN HB2.out q
        have cz3 : w3.cell? ⟨w.heap.size, 0, none⟩ = some (.int .i64 z) := by obtain ⟨q, rfl⟩ := hq3; exact cz2
        have ca3 : w3.cell? ⟨w.heap.size, 1, none⟩ = some (.slice ao n c) := by obtain ⟨q, rfl⟩ := hq3; exact ca2
        clear hq3 cz2 ca2
        go_wp2_with fail
        refine (HC2 _ HB3.out).mono ?_
        rintro e w4 ⟨rfl, b4⟩
        have HB4 := Lib.hid (HB3.out.trans (b4.mono HB3.out.size))
        clear b4
        cases r2 with
        | true =>
          go_wp2_with fail
          go_ret2
          exact ⟨rfl, HB4.out⟩
        | false =>
          go_wp2_with fail
          go_ret2
          exact ⟨rfl, HB4.out⟩
      · have HEq2 : Hid (decide (listK S 8 = xs) = false) := decide_eq_false hl
        rw [HEq2.out] at HEq
        obtain rfl : r2 = false := HR2.out.symm.trans (isSubB_list (by rw [HSS.out]; exact hl))
        clear hl
        go_wp2_with fail
        refine HEq.out.mono ?_
        rintro e w3 ⟨rfl, q3, rfl⟩
        have HB3 := Lib.hid (below_drewN HB2.out q3)
        go_wp2_with fail
        go_ret2
        exact ⟨rfl, HB3.out⟩

def valIsSubuniverse (z : Int) (fs : List OpD) (xs : List Int) : Bool × Bool := (subuB z fs xs, algOkB z fs)



end Go.Proofs.Ytcmjkfcgekmomaa
