/-
  Contracts: both SubstituteIn. Conditions: the bounds that each theorem names.
-/
import Derived.Test.YteealelfghimbaaSubI
import Derived.Test.YteealelfghimbaaTakes3
import Derived.Test.YteealelfghimbaaRepd
namespace Go.Proofs.Yteealelfghimbaa
open Go.RowKit
set_option linter.unusedVariables false
set_option linter.unusedSimpArgs false
attribute [local go_sem ↓] Go.wp_at_zero Go.wp_at_succ

theorem val_sbs_no {z : Int} {fs : List OpD} {xs : List Int} {tss : List (List Int)} (h : subB z fs xs tss = false) : valSubstituteIn z fs xs tss = ([], false) := by simp [valSubstituteIn, h]
theorem val_sbs_yes {z : Int} {fs : List OpD} {xs : List Int} {tss : List (List Int)} (h : subB z fs xs tss = true) : valSubstituteIn z fs xs tss = subR tss xs := by simp [valSubstituteIn, h]
theorem val_sbs_part {z : Int} {fs : List OpD} {xs : List Int} {tss : List (List Int)} {m : Nat} (hm : tss.length = m) (h : (isTermB z fs xs && (decide (tss.length ≤ 6) && tss.all (termB fs))) = true) : valSubstituteIn z fs xs tss = subV tss xs m := by
  unfold valSubstituteIn subV subB
  rw [h, Bool.true_and, hm]

set_option maxHeartbeats 1000000 in
theorem implSubstituteIn (lo hi : Nat) (z : Int) (ao : Option Addr) (c n : Nat) (fs : List OpD) (lo2 hi2 : Nat) (bo : Option Addr) (d m : Nat) (xs : List Int) (lo3 hi3 : Nat) (co : Option Addr) (d2 m2 : Nat) (tss : List (List Int)) (w : World) (hv : OView w lo hi ao n fs) (hhi : hi ≤ w.heap.size) (hs : ∀ (j : Nat) (f : OpD), fs[j]? = some f → f.2.length ≤ maxLen)
    (hx : IView w lo2 hi2 bo m xs) (hhi2 : hi2 ≤ w.heap.size) (hmd : m ≤ d) (hm : d ≤ maxLen) (hq : ∀ x, x ∈ xs → (Lit.int .i64 x).wf = true)
    (hy : LView w lo3 hi3 co m2 tss) (hhi3 : hi3 ≤ w.heap.size) (hmd2 : m2 ≤ d2) (hm2 : d2 ≤ maxLen) (hq2 : ∀ ts, ts ∈ tss → ∀ x, x ∈ ts → (Lit.int .i64 x).wf = true) :
    Calls Try.prog 40 #[.agg #[.int .i64 z, .slice ao n c], .slice bo m d, .slice co m2 d2] w fun e w' => ResL w w' (valSubstituteIn z fs xs tss).1 (valSubstituteIn z fs xs tss).2 e := by
  have hly := hy.1
  have hlx := hx.1
  unfold ResL
  by_cases h6 : m2 ≤ 6
  · have h6' : ¬ (6 : Int) < (m2 : Int) := by omega
    have hB0 := below_alloc w (.cells #[.int .i64 z, .slice ao n c] 31)
    have hB := below_then hB0 (below_alloc _ (.cells #[.slice bo m d] 25))
    have HB := Lib.hid hB
    have hcall := areT_one lo hi lo2 hi2 z ao bo c n d m fs xs w _ hB hv hhi hs hx hhi2 hmd hm hq (w.heap.size + 1) (by simp) (by simp) 1
    obtain ⟨r, hr⟩ : ∃ r, isTermB z fs xs = r := ⟨_, rfl⟩
    rw [hr] at hcall
    have HC := Lib.hid hcall
    cases r with
    | false =>
      rw [val_sbs_no (by simp [subB, hr])]
      clear hB0 hB hcall hr hly hlx
      clear hv hs hx hq hy hq2
      go_enter Try.func40, Try.ntmps40
      go_wp2_with fail
      refine HC.out.mono ?_
      rintro e w1 ⟨rfl, b1⟩
      have HB1 := Lib.hid (HB.out.trans (b1.mono HB.out.size))
      have cz : w1.cell? ⟨w.heap.size, 0, none⟩ = some (.int .i64 z) := cell_b b1 (by simp)
      have ca : w1.cell? ⟨w.heap.size, 1, none⟩ = some (.slice ao n c) := cell_b b1 (by simp)
      clear b1
      go_wp2_with fail
      go_ret2
      exact ⟨none, 0, 0, rfl, rfl, OwnsInts.none_ _ _ _, HB1.out⟩
    | true =>
      obtain ⟨hok, h60, hend⟩ := isTermB_of hr
      have hm0 : 0 < m := by have := term_pos hend; omega
      have hcall2 := fun (W : World) (hb : Below w.heap.size w W) => areT_any lo hi lo3 hi3 z ao co c n d2 m2 fs tss W (hv.kept (Kept.of_below hb hhi)) (Nat.le_trans hhi hb.size) hs (hy.kept (Kept.of_below hb hhi3)) (Nat.le_trans hhi3 hb.size) (by omega) hq2
      have har : areB z fs tss = tss.all (termB fs) := by unfold areB; rw [hok, Bool.true_and]
      obtain ⟨s, hss⟩ : ∃ s, tss.all (termB fs) = s := ⟨_, rfl⟩
      simp only [har, hss] at hcall2
      have HC2 := Lib.hid hcall2
      cases s with
      | false =>
        rw [val_sbs_no (by simp [subB, hss])]
        clear hB0 hB hcall hr hly hlx hok hend hcall2 har hss
        clear hv hs hx hq hy hq2
        go_enter Try.func40, Try.ntmps40
        go_wp2_with fail
        refine HC.out.mono ?_
        rintro e w1 ⟨rfl, b1⟩
        have HB1 := Lib.hid (HB.out.trans (b1.mono HB.out.size))
        have cz : w1.cell? ⟨w.heap.size, 0, none⟩ = some (.int .i64 z) := cell_b b1 (by simp)
        have ca : w1.cell? ⟨w.heap.size, 1, none⟩ = some (.slice ao n c) := cell_b b1 (by simp)
        clear b1
        go_wp2_with fail
        refine (HC2.out _ HB1.out).mono ?_
        rintro e w2 ⟨rfl, b2⟩
        have HB2 := Lib.hid (HB1.out.trans (b2.mono HB1.out.size))
        clear b2
        go_wp2_with fail
        go_ret2
        exact ⟨none, 0, 0, rfl, rfl, OwnsInts.none_ _ _ _, HB2.out⟩
      | true =>
        have hbd : ∀ x, x ∈ xs → -9223372036854775808 ≤ x ∧ x < 6 := fun x hxx => by
          obtain ⟨j, hj⟩ := List.getElem?_of_mem hxx
          exact ⟨(wf_bd (hq x hxx)).1, (term_lt hok hend hj).1⟩
        have hne : xs ≠ [] := fun e => by rw [e] at hlx; simp at hlx; omega
        have hn_ := fun (w1 : World) (hB1 : Below w.heap.size w w1) => needed_any lo2 hi2 bo d m xs w1 (hx.kept (Kept.of_below hB1 hhi2)) hm0 (by omega) hbd
        have hfm := fits_max (k := m2) hne
        obtain ⟨q, hqe⟩ : ∃ q, max (maxL xs + 1) 0 = q := ⟨_, rfl⟩
        rw [hqe] at hn_ hfm
        have HN := Lib.hid hn_
        by_cases hfit : q ≤ (m2 : Int)
        · have hf : fitsB xs m2 = true := by rw [hfm]; exact decide_eq_true hfit
          rw [val_sbs_yes (by unfold subB; rw [hr, hss, hly, hf, decide_eq_true h6]; rfl)]
          have hgt : ¬ (m2 : Int) < q := by omega
          have hS := fun (W : World) (hb : Below w.heap.size w W) => substituted_any lo2 hi2 lo3 hi3 bo co d m d2 m2 xs tss W (hx.kept (Kept.of_below hb hhi2)) (Nat.le_trans hhi2 hb.size) (by omega) hm0 hmd hm (hy.kept (Kept.of_below hb hhi3)) (Nat.le_trans hhi3 hb.size) h6 (fun ts hts => term_len (List.all_eq_true.1 hss ts hts)) (fun x hxx => by
            unfold fitsB at hf
            have := List.all_eq_true.1 hf x hxx
            simpa using this)
          obtain ⟨⟨rs, ok⟩, hR⟩ : ∃ R, subR tss xs = R := ⟨_, rfl⟩
          simp only [hR] at hS ⊢
          unfold ResL at hS
          have HS := Lib.hid hS
          clear hB0 hB hcall hr hly hlx hok hend hcall2 har hss hbd hne hn_ hfm hqe hf hS hR
          clear hv hs hx hq hy hq2
          go_enter Try.func40, Try.ntmps40
          go_wp2_with fail
          refine HC.out.mono ?_
          rintro e w1 ⟨rfl, b1⟩
          have HB1 := Lib.hid (HB.out.trans (b1.mono HB.out.size))
          have cz : w1.cell? ⟨w.heap.size, 0, none⟩ = some (.int .i64 z) := cell_b b1 (by simp)
          have ca : w1.cell? ⟨w.heap.size, 1, none⟩ = some (.slice ao n c) := cell_b b1 (by simp)
          clear b1
          go_wp2_with fail
          refine (HC2.out _ HB1.out).mono ?_
          rintro e w2 ⟨rfl, b2⟩
          have HB2 := Lib.hid (HB1.out.trans (b2.mono HB1.out.size))
          clear b2
          go_wp2_with fail
          refine (HN.out _ HB2.out).mono ?_
          rintro e w3 ⟨rfl, rfl⟩
          go_wp2_with fail
          refine (HS.out _ HB2.out).mono ?_
          rintro e w3 ⟨ga, gn, gc, rfl, hgn, ho, b3⟩
          have HO := Lib.hid (OwnsInts.lo_mono ho HB2.out.size)
          have HB3 := Lib.hid (HB2.out.trans (b3.mono HB2.out.size))
          have HGn := Lib.hid hgn
          clear ho b3 hgn
          go_wp2_with fail
          go_ret2
          exact ⟨ga, gn, gc, rfl, HGn.out, HO.out, HB3.out⟩
        · have hf : fitsB xs m2 = false := by rw [hfm]; exact decide_eq_false hfit
          rw [val_sbs_no (by unfold subB; rw [hly, hf]; simp)]
          have hgt : (m2 : Int) < q := by omega
          clear hB0 hB hcall hr hly hlx hok hend hcall2 har hss hbd hne hn_ hfm hqe hf
          clear hv hs hx hq hy hq2
          go_enter Try.func40, Try.ntmps40
          go_wp2_with fail
          refine HC.out.mono ?_
          rintro e w1 ⟨rfl, b1⟩
          have HB1 := Lib.hid (HB.out.trans (b1.mono HB.out.size))
          have cz : w1.cell? ⟨w.heap.size, 0, none⟩ = some (.int .i64 z) := cell_b b1 (by simp)
          have ca : w1.cell? ⟨w.heap.size, 1, none⟩ = some (.slice ao n c) := cell_b b1 (by simp)
          clear b1
          go_wp2_with fail
          refine (HC2.out _ HB1.out).mono ?_
          rintro e w2 ⟨rfl, b2⟩
          have HB2 := Lib.hid (HB1.out.trans (b2.mono HB1.out.size))
          clear b2
          go_wp2_with fail
          refine (HN.out _ HB2.out).mono ?_
          rintro e w3 ⟨rfl, rfl⟩
          go_wp2_with fail
          go_ret2
          exact ⟨none, 0, 0, rfl, rfl, OwnsInts.none_ _ _ _, HB2.out⟩
  · have h6' : (6 : Int) < (m2 : Int) := by omega
    rw [val_sbs_no (by unfold subB; rw [hly, decide_eq_false h6]; simp)]
    have HB := Lib.hid (below_alloc w (.cells #[.int .i64 z, .slice ao n c] 31))
    clear hly hlx
    clear hv hs hx hq hy hq2
    go_enter Try.func40, Try.ntmps40
    go_wp2_with fail
    go_ret2
    exact ⟨none, 0, 0, rfl, rfl, OwnsInts.none_ _ _ _, HB.out⟩

set_option maxHeartbeats 1000000 in
theorem specSubstituteIn (lo hi : Nat) (z : Int) (ao : Option Addr) (c n : Nat) (fs : List OpD) (lo2 hi2 : Nat) (bo : Option Addr) (d m : Nat) (xs : List Int) (lo3 hi3 : Nat) (co : Option Addr) (d2 m2 : Nat) (tss : List (List Int)) (w : World) (hv : OView w lo hi ao n fs) (hhi : hi ≤ w.heap.size) (hs : ∀ (j : Nat) (f : OpD), fs[j]? = some f → f.2.length ≤ maxLen)
    (hx : IView w lo2 hi2 bo m xs) (hhi2 : hi2 ≤ w.heap.size) (hmd : m ≤ d) (hm : d ≤ maxLen) (hq : ∀ x, x ∈ xs → (Lit.int .i64 x).wf = true)
    (hy : LView w lo3 hi3 co m2 tss) (hhi3 : hi3 ≤ w.heap.size) (hmd2 : m2 ≤ d2) (hm2 : d2 ≤ maxLen) (hq2 : ∀ ts, ts ∈ tss → ∀ x, x ∈ ts → (Lit.int .i64 x).wf = true) :
    Calls Try.prog 38 #[.agg #[.int .i64 z, .slice ao n c], .slice bo m d, .slice co m2 d2] w fun e w' => ResL w w' (valSubstituteIn z fs xs tss).1 (valSubstituteIn z fs xs tss).2 e := by
  have hly := hy.1
  have hlx := hx.1
  unfold ResL
  have hB := below_alloc w (.cells #[.int .i64 z, .slice ao n c] 31)
  have HB := Lib.hid hB
  have hcall := l3Takes_any lo hi lo2 hi2 z ao bo c n d m fs xs _ (hv.kept (Kept.of_below hB hhi)) (Nat.le_trans hhi hB.size) hs (hx.kept (Kept.of_below hB hhi2)) (Nat.le_trans hhi2 hB.size) (Nat.le_trans hmd hm)
  obtain ⟨r, hr⟩ : ∃ r, isTermB z fs xs = r := ⟨_, rfl⟩
  rw [hr] at hcall
  have HC := Lib.hid hcall
  cases r with
  | false =>
    rw [val_sbs_no (by simp [subB, hr])]
    clear hB hcall hr hly hlx
    clear hv hs hx hq hy hq2
    go_enter Try.func38, Try.ntmps38
    go_wp2_with fail
    refine HC.out.mono ?_
    rintro e w1 ⟨rfl, b1⟩
    have HB1 := Lib.hid (HB.out.trans (b1.mono HB.out.size))
    have cz : w1.cell? ⟨w.heap.size, 0, none⟩ = some (.int .i64 z) := cell_b b1 (by simp)
    have ca : w1.cell? ⟨w.heap.size, 1, none⟩ = some (.slice ao n c) := cell_b b1 (by simp)
    clear b1
    go_wp2_with fail
    go_ret2
    exact ⟨_, 0, 0, rfl, rfl, own_nil_res HB1.out, HB1.out.alloc HB1.out.size _⟩
  | true =>
    obtain ⟨hok, h60, hend⟩ := isTermB_of hr
    have hm0 : 0 < m := by have := term_pos hend; omega
    by_cases h6 : m2 ≤ 6
    · have h6' : ¬ (6 : Int) < (m2 : Int) := by omega
      have hcall2 := fun (W : World) (hb : Below w.heap.size w W) => l3List_any lo hi lo3 hi3 z ao co c n d2 m2 fs tss W (hv.kept (Kept.of_below hb hhi)) (Nat.le_trans hhi hb.size) hok (hy.kept (Kept.of_below hb hhi3)) (Nat.le_trans hhi3 hb.size) (Nat.le_trans hmd2 hm2)
      obtain ⟨s, hss⟩ : ∃ s, tss.all (termB fs) = s := ⟨_, rfl⟩
      simp only [hss] at hcall2
      have HC2 := Lib.hid hcall2
      cases s with
      | false =>
        rw [val_sbs_no (by simp [subB, hss])]
        clear hB hcall hr hly hlx hok hend hcall2 hss
        clear hv hs hx hq hy hq2
        go_enter Try.func38, Try.ntmps38
        go_wp2_with fail
        refine HC.out.mono ?_
        rintro e w1 ⟨rfl, b1⟩
        have HB1 := Lib.hid (HB.out.trans (b1.mono HB.out.size))
        have cz : w1.cell? ⟨w.heap.size, 0, none⟩ = some (.int .i64 z) := cell_b b1 (by simp)
        have ca : w1.cell? ⟨w.heap.size, 1, none⟩ = some (.slice ao n c) := cell_b b1 (by simp)
        clear b1
        go_wp2_with fail
        refine (HC2.out _ HB1.out).mono ?_
        rintro e w2 ⟨rfl, b2⟩
        have HB2 := Lib.hid (HB1.out.trans (b2.mono HB1.out.size))
        clear b2
        go_wp2_with fail
        go_ret2
        exact ⟨_, 0, 0, rfl, rfl, own_nil_res HB2.out, HB2.out.alloc HB2.out.size _⟩
      | true =>
        rw [val_sbs_part (m := m2) hly (by rw [hr, hss, hly, decide_eq_true h6]; rfl)]
        have hS := fun (W : World) (hb : Below w.heap.size w W) => l3Substitute_any lo2 hi2 lo3 hi3 bo co d m d2 m2 xs tss W (hx.kept (Kept.of_below hb hhi2)) (Nat.le_trans hhi2 hb.size) (by omega) (hy.kept (Kept.of_below hb hhi3)) (Nat.le_trans hhi3 hb.size) h6 (fun ts hts => term_len (List.all_eq_true.1 hss ts hts))
        obtain ⟨⟨rs, ok⟩, hR⟩ : ∃ R, subV tss xs m2 = R := ⟨_, rfl⟩
        simp only [hR] at hS ⊢
        unfold ResL at hS
        have HS := Lib.hid hS
        clear hB hcall hr hly hlx hok hend hcall2 hss hS hR
        clear hv hs hx hq hy hq2
        go_enter Try.func38, Try.ntmps38
        go_wp2_with fail
        refine HC.out.mono ?_
        rintro e w1 ⟨rfl, b1⟩
        have HB1 := Lib.hid (HB.out.trans (b1.mono HB.out.size))
        have cz : w1.cell? ⟨w.heap.size, 0, none⟩ = some (.int .i64 z) := cell_b b1 (by simp)
        have ca : w1.cell? ⟨w.heap.size, 1, none⟩ = some (.slice ao n c) := cell_b b1 (by simp)
        clear b1
        go_wp2_with fail
        refine (HC2.out _ HB1.out).mono ?_
        rintro e w2 ⟨rfl, b2⟩
        have HB2 := Lib.hid (HB1.out.trans (b2.mono HB1.out.size))
        clear b2
        go_wp2_with fail
        refine (HS.out _ HB2.out).mono ?_
        rintro e w3 ⟨ga, gn, gc, rfl, hgn, ho, b3⟩
        have HO := Lib.hid (OwnsInts.lo_mono ho HB2.out.size)
        have HB3 := Lib.hid (HB2.out.trans (b3.mono HB2.out.size))
        have HGn := Lib.hid hgn
        clear ho b3 hgn
        go_wp2_with fail
        go_ret2
        exact ⟨ga, gn, gc, rfl, HGn.out, HO.out, HB3.out⟩
    · have h6' : (6 : Int) < (m2 : Int) := by omega
      rw [val_sbs_no (by unfold subB; rw [hly, decide_eq_false h6]; simp)]
      clear hB hcall hr hly hlx hok hend
      clear hv hs hx hq hy hq2
      go_enter Try.func38, Try.ntmps38
      go_wp2_with fail
      refine HC.out.mono ?_
      rintro e w1 ⟨rfl, b1⟩
      have HB1 := Lib.hid (HB.out.trans (b1.mono HB.out.size))
      have cz : w1.cell? ⟨w.heap.size, 0, none⟩ = some (.int .i64 z) := cell_b b1 (by simp)
      have ca : w1.cell? ⟨w.heap.size, 1, none⟩ = some (.slice ao n c) := cell_b b1 (by simp)
      clear b1
      go_wp2_with fail
      go_ret2
      exact ⟨_, 0, 0, rfl, rfl, own_nil_res HB1.out, HB1.out.alloc HB1.out.size _⟩

end Go.Proofs.Yteealelfghimbaa
