/-
  Contract: impl.TermOp. Conditions: the bounds that it names.
-/
import Derived.Test.YtplheohkecooeaaOpM
import Derived.Deep.RegionHeld3
namespace Go.Proofs.Ytplheohkecooeaa
open Go.RowKit
set_option linter.unusedVariables false
set_option linter.unusedSimpArgs false
attribute [local go_sem ↓] Go.wp_at_zero Go.wp_at_succ

theorem resO_no {w w' : World} (hb : Below w.heap.size w w') : ResO w w' (0, []) false (.returned (.tuple #[.agg #[.int .i64 0, .slice none 0 0], .bool false])) := ⟨none, 0, 0, rfl, rfl, OwnsInts.none_ _ _ _, hb⟩

set_option maxRecDepth 100000 in
set_option maxHeartbeats 2000000 in
theorem iop_no (lo hi : Nat) (z : Int) (ao : Option Addr) (c n : Nat) (fs : List OpD) (lo2 hi2 : Nat) (bo : Option Addr) (d m : Nat) (xs : List Int) (k : Int) (w : World) (hv : OView w lo hi ao n fs) (hhi : hi ≤ w.heap.size) (hs : ∀ (j : Nat) (f : OpD), fs[j]? = some f → f.2.length ≤ maxLen)
    (hx : IView w lo2 hi2 bo m xs) (hhi2 : hi2 ≤ w.heap.size) (hmd : m ≤ d) (hm : d ≤ maxLen) (hq : ∀ x, x ∈ xs → (Lit.int .i64 x).wf = true) (hno : opB z fs xs k = false) :
    Calls Try.prog 40 #[.agg #[.int .i64 z, .slice ao n c], .slice bo m d, .int .i64 k] w fun e w' => e = .returned (.tuple #[.agg #[.int .i64 0, .slice none 0 0], .bool false]) ∧ Below w.heap.size w w' := by
  have hB := below_then (below_then (below_alloc w (.cells #[.int .i64 z, .slice ao n c] 30)) (below_alloc _ (.cells #[.int .i64 0, .slice none 0 0] 54))) (below_alloc _ (.cells #[.slice bo m d] 25))
  have HB := Lib.hid hB
  have hcall := areT_one lo hi lo2 hi2 z ao bo c n d m fs xs w _ hB hv hhi hs hx hhi2 hmd hm hq (w.heap.size + 1 + 1) (by simp) (by go_simp) 1
  obtain ⟨r, hr⟩ : ∃ r, isTermB z fs xs = r := ⟨_, rfl⟩
  rw [hr] at hcall
  have HC := Lib.hid hcall
  cases r with
  | false =>
    clear hB hv hs hx hq hcall hr hno
    go_enter Try.func40, Try.ntmps40
    go_wp2_with fail
    refine HC.out.mono ?_
    rintro e w1 ⟨rfl, b1⟩
    obtain ⟨hcc, hff⟩ := bcell b1
    have HB1 := Lib.hid (HB.out.trans (b1.mono HB.out.size))
    clear b1
    go_wp2_with fail
    refine bodyPost_ret (v := .tuple #[.agg #[.int .i64 0, .slice none 0 0], .bool false]) (by simp [results, Try.results40, go_sem, hcc]) rfl ⟨rfl, (HB1.out.setCell (by show _ ≤ _; simp) _).setCell (by show _ ≤ _; simp) _⟩
  | true =>
    obtain ⟨hok, h60, hend⟩ := isTermB_of hr
    have hlx := hx.1
    have hm0 : 0 < m := by have := term_pos hend; omega
    by_cases h0 : k < 0
    · clear hB hv hs hx hq hcall hr hno hok hend
      go_enter Try.func40, Try.ntmps40
      go_wp2_with fail
      refine HC.out.mono ?_
      rintro e w1 ⟨rfl, b1⟩
      obtain ⟨hcc, hff⟩ := bcell b1
      have HB1 := Lib.hid (HB.out.trans (b1.mono HB.out.size))
      clear b1
      go_wp2_with fail
      refine bodyPost_ret (v := .tuple #[.agg #[.int .i64 0, .slice none 0 0], .bool false]) (by simp [results, Try.results40, go_sem, hcc]) rfl ⟨rfl, (HB1.out.setCell (by show _ ≤ _; simp) _).setCell (by show _ ≤ _; simp) _⟩
    · obtain ⟨kn, rfl⟩ : ∃ kn : Nat, k = (kn : Int) := ⟨k.toNat, by omega⟩
      clear h0
      by_cases h3 : (3 : Int) < (kn : Int)
      · clear hB hv hs hx hq hcall hr hno hok hend
        go_enter Try.func40, Try.ntmps40
        go_wp2_with fail
        refine HC.out.mono ?_
        rintro e w1 ⟨rfl, b1⟩
        obtain ⟨hcc, hff⟩ := bcell b1
        have HB1 := Lib.hid (HB.out.trans (b1.mono HB.out.size))
        clear b1
        go_wp2_with fail
        refine bodyPost_ret (v := .tuple #[.agg #[.int .i64 0, .slice none 0 0], .bool false]) (by simp [results, Try.results40, go_sem, hcc]) rfl ⟨rfl, (HB1.out.setCell (by show _ ≤ _; simp) _).setCell (by show _ ≤ _; simp) _⟩
      · have hbd : ∀ x, x ∈ xs → -9223372036854775808 ≤ x ∧ x < 6 := fun x hxx => by
          obtain ⟨j, hj⟩ := List.getElem?_of_mem hxx
          exact ⟨(wf_bd (hq x hxx)).1, (term_lt hok hend hj).1⟩
        have hne : xs ≠ [] := fun e => by rw [e] at hlx; simp at hlx; omega
        have HN := Lib.hid (fun (w1 : World) (hB1 : Below w.heap.size w w1) => needed_any lo2 hi2 bo d m xs w1 (hx.kept (Kept.of_below hB1 hhi2)) hm0 (by omega) hbd)
        have hfm := fits_max (k := kn) hne
        obtain ⟨q, hqe⟩ : ∃ q, max (maxL xs + 1) 0 = q := ⟨_, rfl⟩
        rw [hqe] at HN hfm
        have hgt : (kn : Int) < q := by
          have h1 : fitsB xs kn = false := by
            unfold opB at hno
            rw [hr, decide_eq_true (show 0 ≤ (kn : Int) ∧ (kn : Int) ≤ 3 by omega), Bool.true_and, Bool.true_and] at hno
            exact hno
          rw [hfm] at h1
          have := of_decide_eq_false h1
          omega
        clear hB hv hs hx hq hcall hr hno hok hend hbd hne hfm hqe
        go_enter Try.func40, Try.ntmps40
        go_wp2_with fail
        refine HC.out.mono ?_
        rintro e w1 ⟨rfl, b1⟩
        obtain ⟨hcc, hff⟩ := bcell b1
        have HB1 := Lib.hid (HB.out.trans (b1.mono HB.out.size))
        clear b1
        go_wp2_with fail
        refine (HN.out _ HB1.out).mono ?_
        rintro e w2 ⟨rfl, rfl⟩
        go_wp2_with fail
        refine bodyPost_ret (v := .tuple #[.agg #[.int .i64 0, .slice none 0 0], .bool false]) (by simp [results, Try.results40, go_sem, hcc]) rfl ⟨rfl, (HB1.out.setCell (by show _ ≤ _; simp) _).setCell (by show _ ≤ _; simp) _⟩

end Go.Proofs.Ytplheohkecooeaa
