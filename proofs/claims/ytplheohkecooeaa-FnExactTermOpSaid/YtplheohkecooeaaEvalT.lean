/-
  Contract: impl.EvalTerm. Conditions: the bounds that it names.
-/
import Derived.Test.YtplheohkecooeaaEvalI
import Derived.Test.YtplheohkecooeaaSub
namespace Go.Proofs.Ytplheohkecooeaa
open Go.RowKit
set_option linter.unusedVariables false
set_option linter.unusedSimpArgs false

theorem val_eval_no {z : Int} {fs : List OpD} {xs vs : List Int} (h : evalB z fs xs vs = false) : valEvalTerm z fs xs vs = (0, false) := by simp [valEvalTerm, h]
theorem val_eval_yes {z : Int} {fs : List OpD} {xs vs : List Int} (h : evalB z fs xs vs = true) : valEvalTerm z fs xs vs = (evT z fs vs xs, true) := by simp [valEvalTerm, h]

set_option maxHeartbeats 1000000 in
theorem implEvalTerm (lo hi : Nat) (z : Int) (ao : Option Addr) (c n : Nat) (fs : List OpD) (lo2 hi2 : Nat) (bo : Option Addr) (d m : Nat) (xs : List Int) (lo3 hi3 : Nat) (co : Option Addr) (d2 m2 : Nat) (vs : List Int) (w : World) (hv : OView w lo hi ao n fs) (hhi : hi ≤ w.heap.size) (hs : ∀ (j : Nat) (f : OpD), fs[j]? = some f → f.2.length ≤ maxLen)
    (hx : IView w lo2 hi2 bo m xs) (hhi2 : hi2 ≤ w.heap.size) (hmd : m ≤ d) (hm : d ≤ maxLen) (hq : ∀ x, x ∈ xs → (Lit.int .i64 x).wf = true)
    (hy : IView w lo3 hi3 co m2 vs) (hhi3 : hi3 ≤ w.heap.size) (hmd2 : m2 ≤ d2) (hm2 : d2 ≤ maxLen) (hq2 : ∀ x, x ∈ vs → (Lit.int .i64 x).wf = true) :
    Calls Try.prog 38 #[.agg #[.int .i64 z, .slice ao n c], .slice bo m d, .slice co m2 d2] w fun e w' => e = .returned (.tuple #[.int .i64 (valEvalTerm z fs xs vs).1, .bool (valEvalTerm z fs xs vs).2]) ∧ Below w.heap.size w w' := by
  have hB0 := below_alloc w (.cells #[.int .i64 z, .slice ao n c] 30)
  have hB := below_then hB0 (below_alloc _ (.cells #[.slice bo m d] 25))
  have HB := Lib.hid hB
  have hcall := areT_one lo hi lo2 hi2 z ao bo c n d m fs xs w _ hB hv hhi hs hx hhi2 hmd hm hq (w.heap.size + 1) (by simp) (by simp) 1
  obtain ⟨r, hr⟩ : ∃ r, isTermB z fs xs = r := ⟨_, rfl⟩
  rw [hr] at hcall
  have HC := Lib.hid hcall
  cases r with
  | false =>
    rw [val_eval_no (by simp [evalB, hr])]
    clear hB0 hB hv hs hx hq hy hq2 hcall hr
    go_enter Try.func38, Try.ntmps38
    go_wp2_with fail
    refine HC.out.mono ?_
    rintro e w1 ⟨rfl, b1⟩
    have HB1 := Lib.hid (HB.out.trans (b1.mono HB.out.size))
    clear b1
    go_wp2_with fail
    go_ret2
    exact ⟨rfl, HB1.out⟩
  | true =>
    obtain ⟨hok, h60, hend⟩ := isTermB_of hr
    have hly := hy.1
    have hlx := hx.1
    have hm0 : 0 < m := by have := term_pos hend; omega
    by_cases h6 : m2 ≤ 6
    · have HE := Lib.hid (fun (w1 : World) (hB1 : Below w.heap.size w w1) => elems_impl lo3 hi3 z co d2 m2 vs w1 (hy.kept (Kept.of_below hB1 hhi3)) (Nat.le_trans hmd2 hm2))
      obtain ⟨a, ha⟩ : ∃ a, allIn z vs = a := ⟨_, rfl⟩
      rw [ha] at HE
      cases a with
      | false =>
        rw [val_eval_no (by simp [evalB, ha])]
        have h6' : ¬ (6 : Int) < (m2 : Int) := by omega
        clear hB0 hB hv hs hx hq hy hq2 hcall hr hok hend ha
        go_enter Try.func38, Try.ntmps38
        go_wp2_with fail
        refine HC.out.mono ?_
        rintro e w1 ⟨rfl, b1⟩
        have HB1 := Lib.hid (HB.out.trans (b1.mono HB.out.size))
        have cz : w1.cell? ⟨w.heap.size, 0, none⟩ = some (.int .i64 z) := cell_b b1 (by simp)
        have ca : w1.cell? ⟨w.heap.size, 1, none⟩ = some (.slice ao n c) := cell_b b1 (by simp)
        clear b1
        go_wp2_with fail
        refine (HE.out _ HB1.out).mono ?_
        rintro e w2 ⟨rfl, rfl⟩
        go_wp2_with fail
        go_ret2
        exact ⟨rfl, HB1.out⟩
      | true =>
        have hbd : ∀ x, x ∈ xs → -9223372036854775808 ≤ x ∧ x < 6 := fun x hxx => by
          obtain ⟨j, hj⟩ := List.getElem?_of_mem hxx
          exact ⟨(wf_bd (hq x hxx)).1, (term_lt hok hend hj).1⟩
        have hne : xs ≠ [] := fun e => by rw [e] at hlx; simp at hlx; omega
        have HN := Lib.hid (fun (w1 : World) (hB1 : Below w.heap.size w w1) => needed_any lo2 hi2 bo d m xs w1 (hx.kept (Kept.of_below hB1 hhi2)) hm0 (by omega) hbd)
        have hfm := fits_max (k := m2) hne
        obtain ⟨q, hqe⟩ : ∃ q, max (maxL xs + 1) 0 = q := ⟨_, rfl⟩
        rw [hqe] at HN hfm
        by_cases hfit : q ≤ (m2 : Int)
        · have hf : fitsB xs m2 = true := by rw [hfm]; exact decide_eq_true hfit
          have hev : evalB z fs xs vs = true := by unfold evalB; rw [hr, ha, hly, hf, decide_eq_true h6]; rfl
          rw [val_eval_yes hev]
          have hgt : ¬ (m2 : Int) < q := by omega
          have h6' : ¬ (6 : Int) < (m2 : Int) := by omega
          have HV := Lib.hid (fun (w1 : World) (hB1 : Below w.heap.size w w1) => valueT_any lo hi lo2 hi2 lo3 hi3 z ao bo co n c m d m2 d2 fs xs vs w1 (hv.kept (Kept.of_below hB1 hhi)) (Nat.le_trans hhi hB1.size) hok (hx.kept (Kept.of_below hB1 hhi2)) (Nat.le_trans hhi2 hB1.size) (hy.kept (Kept.of_below hB1 hhi3)) (Nat.le_trans hhi3 hB1.size) h60 hend ha (fun x hxx => by
            unfold fitsB at hf
            have := List.all_eq_true.1 hf x hxx
            simpa using this))
          obtain ⟨y, hye⟩ : ∃ y, evT z fs vs xs = y := ⟨_, rfl⟩
          rw [hye] at HV ⊢
          clear hB0 hB hv hs hx hq hy hq2 hcall hr hok hend ha hbd hne hfm hqe hf hev hye
          go_enter Try.func38, Try.ntmps38
          go_wp2_with fail
          refine HC.out.mono ?_
          rintro e w1 ⟨rfl, b1⟩
          have HB1 := Lib.hid (HB.out.trans (b1.mono HB.out.size))
          have cz : w1.cell? ⟨w.heap.size, 0, none⟩ = some (.int .i64 z) := cell_b b1 (by simp)
          have ca : w1.cell? ⟨w.heap.size, 1, none⟩ = some (.slice ao n c) := cell_b b1 (by simp)
          clear b1
          go_wp2_with fail
          refine (HE.out _ HB1.out).mono ?_
          rintro e w2 ⟨rfl, rfl⟩
          go_wp2_with fail
          refine (HN.out _ HB1.out).mono ?_
          rintro e w2 ⟨rfl, rfl⟩
          go_wp2_with fail
          refine (HV.out _ HB1.out).mono ?_
          rintro e w2 ⟨rfl, b2⟩
          have HB2 := Lib.hid (HB1.out.trans (b2.mono HB1.out.size))
          clear b2
          go_wp2_with fail
          go_ret2
          exact ⟨rfl, HB2.out⟩
        · have hf : fitsB xs m2 = false := by rw [hfm]; exact decide_eq_false hfit
          rw [val_eval_no (by unfold evalB; rw [hly, hf]; simp)]
          have hgt : (m2 : Int) < q := by omega
          have h6' : ¬ (6 : Int) < (m2 : Int) := by omega
          clear hB0 hB hv hs hx hq hy hq2 hcall hr hok hend ha hbd hne hfm hqe hf
          go_enter Try.func38, Try.ntmps38
          go_wp2_with fail
          refine HC.out.mono ?_
          rintro e w1 ⟨rfl, b1⟩
          have HB1 := Lib.hid (HB.out.trans (b1.mono HB.out.size))
          have cz : w1.cell? ⟨w.heap.size, 0, none⟩ = some (.int .i64 z) := cell_b b1 (by simp)
          have ca : w1.cell? ⟨w.heap.size, 1, none⟩ = some (.slice ao n c) := cell_b b1 (by simp)
          clear b1
          go_wp2_with fail
          refine (HE.out _ HB1.out).mono ?_
          rintro e w2 ⟨rfl, rfl⟩
          go_wp2_with fail
          refine (HN.out _ HB1.out).mono ?_
          rintro e w2 ⟨rfl, rfl⟩
          go_wp2_with fail
          go_ret2
          exact ⟨rfl, HB1.out⟩
    · rw [val_eval_no (by unfold evalB; rw [hly, decide_eq_false h6]; simp)]
      have h6' : (6 : Int) < (m2 : Int) := by omega
      clear hB0 hB hv hs hx hq hy hq2 hcall hr hok hend
      go_enter Try.func38, Try.ntmps38
      go_wp2_with fail
      refine HC.out.mono ?_
      rintro e w1 ⟨rfl, b1⟩
      have HB1 := Lib.hid (HB.out.trans (b1.mono HB.out.size))
      clear b1
      go_wp2_with fail
      go_ret2
      exact ⟨rfl, HB1.out⟩

end Go.Proofs.Ytplheohkecooeaa
