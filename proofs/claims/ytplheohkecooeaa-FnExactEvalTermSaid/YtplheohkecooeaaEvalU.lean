/-
  Contract: spec.EvalTerm. Conditions: the bounds that it names.
-/
import Derived.Test.YtplheohkecooeaaElems
import Derived.Test.YtplheohkecooeaaEvalT
import Derived.Test.YtplheohkecooeaaEvalV
namespace Go.Proofs.Ytplheohkecooeaa
open Go.RowKit
set_option linter.unusedVariables false
set_option linter.unusedSimpArgs false

set_option maxHeartbeats 1000000 in
theorem specEvalTerm (lo hi : Nat) (z : Int) (ao : Option Addr) (c n : Nat) (fs : List OpD) (lo2 hi2 : Nat) (bo : Option Addr) (d m : Nat) (xs : List Int) (lo3 hi3 : Nat) (co : Option Addr) (d2 m2 : Nat) (vs : List Int) (w : World) (hv : OView w lo hi ao n fs) (hhi : hi ≤ w.heap.size) (hs : ∀ (j : Nat) (f : OpD), fs[j]? = some f → f.2.length ≤ maxLen)
    (hx : IView w lo2 hi2 bo m xs) (hhi2 : hi2 ≤ w.heap.size) (hmd : m ≤ d) (hm : d ≤ maxLen) (hq : ∀ x, x ∈ xs → (Lit.int .i64 x).wf = true)
    (hy : IView w lo3 hi3 co m2 vs) (hhi3 : hi3 ≤ w.heap.size) (hmd2 : m2 ≤ d2) (hm2 : d2 ≤ maxLen) (hq2 : ∀ x, x ∈ vs → (Lit.int .i64 x).wf = true) :
    Calls Try.prog 37 #[.agg #[.int .i64 z, .slice ao n c], .slice bo m d, .slice co m2 d2] w fun e w' => e = .returned (.tuple #[.int .i64 (valEvalTerm z fs xs vs).1, .bool (valEvalTerm z fs xs vs).2]) ∧ Below w.heap.size w w' := by
  have hB := below_alloc w (.cells #[.int .i64 z, .slice ao n c] 30)
  have HB := Lib.hid hB
  have hcall := l3Takes_any lo hi lo2 hi2 z ao bo c n d m fs xs _ (hv.kept (Kept.of_below hB hhi)) (Nat.le_trans hhi hB.size) hs (hx.kept (Kept.of_below hB hhi2)) (Nat.le_trans hhi2 hB.size) (Nat.le_trans hmd hm)
  obtain ⟨r, hr⟩ : ∃ r, isTermB z fs xs = r := ⟨_, rfl⟩
  rw [hr] at hcall
  have HC := Lib.hid hcall
  cases r with
  | false =>
    rw [val_eval_no (by simp [evalB, hr])]
    clear hB hv hs hx hq hy hq2 hcall hr
    go_enter Try.func37, Try.ntmps37
    go_wp2_with fail
    refine HC.out.mono ?_
    rintro e w1 ⟨rfl, b1⟩
    have HB1 := Lib.hid (HB.out.trans (b1.mono HB.out.size))
    clear b1
    go_wp2_with fail
    go_ret2
    exact ⟨rfl, HB1.out⟩
  | true =>
    obtain ⟨hok, h60, hend⟩ := isTermB_of hr
    have hly := hy.1
    have hlx := hx.1
    have h1 := (algOkB_of hok).1
    by_cases h6 : m2 ≤ 6
    · have h6' : ¬ (6 : Int) < (m2 : Int) := by omega
      have HE := Lib.hid (fun (w1 : World) (hB1 : Below w.heap.size w w1) => elems_spec lo3 hi3 z co d2 m2 vs w1 (hy.kept (Kept.of_below hB1 hhi3)) (by omega) (by omega) (Nat.le_trans hmd2 hm2))
      obtain ⟨a, ha⟩ : ∃ a, allIn z vs = a := ⟨_, rfl⟩
      rw [ha] at HE
      cases a with
      | false =>
        rw [val_eval_no (by simp [evalB, ha])]
        clear hB hv hs hx hq hy hq2 hcall hr hok hend ha h1
        go_enter Try.func37, Try.ntmps37
        go_wp2_with fail
        refine HC.out.mono ?_
        rintro e w1 ⟨rfl, b1⟩
        have HB1 := Lib.hid (HB.out.trans (b1.mono HB.out.size))
        have cz : w1.cell? ⟨w.heap.size, 0, none⟩ = some (.int .i64 z) := cell_b b1 (by simp)
        have ca : w1.cell? ⟨w.heap.size, 1, none⟩ = some (.slice ao n c) := cell_b b1 (by simp)
        clear b1
        go_wp2_with fail
        refine (HE.out _ HB1.out).mono ?_
        rintro e w2 ⟨rfl, rfl⟩
        go_wp2_with fail
        go_ret2
        exact ⟨rfl, HB1.out⟩
      | true =>
        have HN := Lib.hid (fun (w1 : World) (hB1 : Below w.heap.size w w1) => fits_any lo2 hi2 bo d m m2 xs w1 (hx.kept (Kept.of_below hB1 hhi2)) (by omega))
        obtain ⟨f, hf⟩ : ∃ f, fitsB xs m2 = f := ⟨_, rfl⟩
        rw [hf] at HN
        cases f with
        | false =>
          rw [val_eval_no (by unfold evalB; rw [hly, hf]; simp)]
          clear hB hv hs hx hq hy hq2 hcall hr hok hend ha h1 hf
          go_enter Try.func37, Try.ntmps37
          go_wp2_with fail
          refine HC.out.mono ?_
          rintro e w1 ⟨rfl, b1⟩
          have HB1 := Lib.hid (HB.out.trans (b1.mono HB.out.size))
          have cz : w1.cell? ⟨w.heap.size, 0, none⟩ = some (.int .i64 z) := cell_b b1 (by simp)
          have ca : w1.cell? ⟨w.heap.size, 1, none⟩ = some (.slice ao n c) := cell_b b1 (by simp)
          clear b1
          go_wp2_with fail
          refine (HE.out _ HB1.out).mono ?_
          rintro e w2 ⟨rfl, rfl⟩
          go_wp2_with fail
          refine (HN.out _ HB1.out).mono ?_
          rintro e w2 ⟨rfl, rfl⟩
          go_wp2_with fail
          go_ret2
          exact ⟨rfl, HB1.out⟩
        | true =>
          have hev : evalB z fs xs vs = true := by unfold evalB; rw [hr, ha, hly, hf, decide_eq_true h6]; rfl
          rw [val_eval_yes hev]
          have HV := Lib.hid (fun (w1 : World) (hB1 : Below w.heap.size w w1) => l3Value_any lo hi lo2 hi2 lo3 hi3 z ao bo co n c m d m2 d2 fs xs vs w1 (hv.kept (Kept.of_below hB1 hhi)) (Nat.le_trans hhi hB1.size) hok (hx.kept (Kept.of_below hB1 hhi2)) (Nat.le_trans hhi2 hB1.size) (hy.kept (Kept.of_below hB1 hhi3)) (Nat.le_trans hhi3 hB1.size) h60 hend ha (fun x hxx => by
            unfold fitsB at hf
            have := List.all_eq_true.1 hf x hxx
            simpa using this))
          obtain ⟨y, hye⟩ : ∃ y, evT z fs vs xs = y := ⟨_, rfl⟩
          rw [hye] at HV ⊢
          clear hB hv hs hx hq hy hq2 hcall hr hok hend ha h1 hf hev hye
          go_enter Try.func37, Try.ntmps37
          go_wp2_with fail
          refine HC.out.mono ?_
          rintro e w1 ⟨rfl, b1⟩
          have HB1 := Lib.hid (HB.out.trans (b1.mono HB.out.size))
          have cz : w1.cell? ⟨w.heap.size, 0, none⟩ = some (.int .i64 z) := cell_b b1 (by simp)
          have ca : w1.cell? ⟨w.heap.size, 1, none⟩ = some (.slice ao n c) := cell_b b1 (by simp)
          clear b1
          go_wp2_with fail
          refine (HE.out _ HB1.out).mono ?_
          rintro e w2 ⟨rfl, rfl⟩
          go_wp2_with fail
          refine (HN.out _ HB1.out).mono ?_
          rintro e w2 ⟨rfl, rfl⟩
          go_wp2_with fail
          refine (HV.out _ HB1.out).mono ?_
          rintro e w2 ⟨rfl, b2⟩
          have HB2 := Lib.hid (HB1.out.trans (b2.mono HB1.out.size))
          clear b2
          go_wp2_with fail
          go_ret2
          exact ⟨rfl, HB2.out⟩
    · rw [val_eval_no (by unfold evalB; rw [hly, decide_eq_false h6]; simp)]
      have h6' : (6 : Int) < (m2 : Int) := by omega
      clear hB hv hs hx hq hy hq2 hcall hr hok hend h1
      go_enter Try.func37, Try.ntmps37
      go_wp2_with fail
      refine HC.out.mono ?_
      rintro e w1 ⟨rfl, b1⟩
      have HB1 := Lib.hid (HB.out.trans (b1.mono HB.out.size))
      have cz : w1.cell? ⟨w.heap.size, 0, none⟩ = some (.int .i64 z) := cell_b b1 (by simp)
      have ca : w1.cell? ⟨w.heap.size, 1, none⟩ = some (.slice ao n c) := cell_b b1 (by simp)
      clear b1
      go_wp2_with fail
      go_ret2
      exact ⟨rfl, HB1.out⟩

end Go.Proofs.Ytplheohkecooeaa
