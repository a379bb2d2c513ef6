/-
  Contracts: both ReplaceAt. Conditions: the bounds that each theorem names.
-/
import Derived.Test.YtplheohkecooeaaRepd
namespace Go.Proofs.Ytplheohkecooeaa
open Go.RowKit
set_option linter.unusedVariables false
set_option linter.unusedSimpArgs false
attribute [local go_sem ↓] Go.wp_at_zero Go.wp_at_succ

set_option maxHeartbeats 1000000 in
theorem implReplaceAt (lo hi : Nat) (z : Int) (ao : Option Addr) (c n : Nat) (fs : List OpD) (lo2 hi2 : Nat) (bo : Option Addr) (d m : Nat) (xs : List Int) (at_ : Int) (lo3 hi3 : Nat) (co : Option Addr) (d2 m2 : Nat) (ys : List Int) (w : World) (hv : OView w lo hi ao n fs) (hhi : hi ≤ w.heap.size) (hs : ∀ (j : Nat) (f : OpD), fs[j]? = some f → f.2.length ≤ maxLen)
    (hx : IView w lo2 hi2 bo m xs) (hhi2 : hi2 ≤ w.heap.size) (hmd : m ≤ d) (hm : d ≤ maxLen) (hq : ∀ x, x ∈ xs → (Lit.int .i64 x).wf = true) (hat : (Lit.int .i64 at_).wf = true)
    (hy : IView w lo3 hi3 co m2 ys) (hhi3 : hi3 ≤ w.heap.size) (hmd2 : m2 ≤ d2) (hm2 : d2 ≤ maxLen) (hq2 : ∀ x, x ∈ ys → (Lit.int .i64 x).wf = true) :
    Calls Try.prog 30 #[.agg #[.int .i64 z, .slice ao n c], .slice bo m d, .int .i64 at_, .slice co m2 d2] w fun e w' => ResL w w' (valReplaceAt z fs xs at_ ys).1 (valReplaceAt z fs xs at_ ys).2 e := by
  have hB0 := below_alloc w (.cells #[.int .i64 z, .slice ao n c] 30)
  have hB := below_then hB0 (below_alloc _ (.cells #[.slice bo m d, .slice co m2 d2] 25))
  have HB := Lib.hid hB
  have hcall := areT_two lo hi lo2 hi2 lo3 hi3 z ao bo co c n d m d2 m2 fs xs ys w _ hB hv hhi hs hx hhi2 hmd hm hq hy hhi3 hmd2 hm2 hq2 (w.heap.size + 1) (by simp) (by simp) (by simp) 2
  obtain ⟨r, hr⟩ : ∃ r, (algOkB z fs && (termB fs xs && termB fs ys)) = r := ⟨_, rfl⟩
  rw [hr] at hcall
  have HC := Lib.hid hcall
  have hl := hx.1
  have hly := hy.1
  unfold ResL
  cases r with
  | false =>
    rw [val_rep_no hr]
    clear hB0 hB hv hs hx hq hy hq2 hcall hr hl hly
    go_enter Try.func30, Try.ntmps30
    go_wp2_with fail
    refine HC.out.mono ?_
    rintro e w1 ⟨rfl, b1⟩
    have HB1 := Lib.hid (HB.out.trans (b1.mono HB.out.size))
    clear b1
    go_wp2_with fail
    go_ret2
    exact ⟨none, 0, 0, rfl, rfl, ⟨World.ownsRow_nil _ _ _ _, fun k h => by simp [Value.ownBlock] at h⟩, HB1.out⟩
  | true =>
    have hr2 := hr
    simp only [Bool.and_eq_true] at hr2
    obtain ⟨hok, htx, hty⟩ := hr2
    obtain ⟨_, h60, hend⟩ := isTermB_of (z := z) (fs := fs) (xs := xs) (by rw [isTermB, hok, htx]; rfl)
    obtain ⟨_, h602, hend2⟩ := isTermB_of (z := z) (fs := fs) (xs := ys) (by rw [isTermB, hok, hty]; rfl)
    have hy0 : 0 < m2 := by have := term_pos hend2; omega
    by_cases hin : 0 ≤ at_ ∧ at_ < (xs.length : Int)
    · obtain ⟨k, rfl⟩ : ∃ k : Nat, at_ = (k : Int) := ⟨at_.toNat, by omega⟩
      have hk : k < xs.length := by omega
      have hval : valReplaceAt z fs xs (k : Int) ys = repV fs xs k ys := val_rep_in hr hk
      rw [hval]
      have hkm : (k : Int) < (m : Int) := by omega
      have HR := Lib.hid (fun (w1 : World) (hB1 : Below w.heap.size w w1) => replaced_any lo hi z ao c n fs lo2 hi2 bo d m xs k lo3 hi3 co d2 m2 ys w1 (hv.kept (Kept.of_below hB1 hhi)) (Nat.le_trans hhi hB1.size) hok (hx.kept (Kept.of_below hB1 hhi2)) (Nat.le_trans hhi2 hB1.size) hmd hm hq h60 hend hk (hy.kept (Kept.of_below hB1 hhi3)) (Nat.le_trans hhi3 hB1.size) (by omega) hy0)
      obtain ⟨⟨rs, ok⟩, hrv⟩ : ∃ p, repV fs xs k ys = p := ⟨_, rfl⟩
      simp only [hrv] at HR ⊢
      clear hB0 hB hv hs hx hq hy hq2 hcall hr hl hly hok htx hty hend hend2 hin hat hk hval hrv
      go_enter Try.func30, Try.ntmps30
      go_wp2_with fail
      refine HC.out.mono ?_
      rintro ε w1 ⟨rfl, b1⟩
      have HB1 := Lib.hid (HB.out.trans (b1.mono HB.out.size))
      have cz : w1.cell? ⟨w.heap.size, 0, none⟩ = some (.int .i64 z) := cell_b b1 (by simp)
      have ca : w1.cell? ⟨w.heap.size, 1, none⟩ = some (.slice ao n c) := cell_b b1 (by simp)
      clear b1
      go_wp2_with fail
      refine (HR.out _ HB1.out).mono ?_
      rintro ε w2 ⟨ga, gn, gc, rfl, hgn, ho, b2⟩
      have HO := Lib.hid (OwnsInts.lo_mono ho HB1.out.size)
      have HB2 := Lib.hid (HB1.out.trans (b2.mono HB1.out.size))
      have HGn := Lib.hid hgn
      clear ho b2 hgn
      go_wp2_with fail
      go_ret2
      exact ⟨ga, gn, gc, rfl, HGn.out, HO.out, HB2.out⟩
    · rw [val_rep_out hin]
      have hin' : at_ < 0 ∨ (m : Int) ≤ at_ := by omega
      have hatb := wf_bd hat
      clear hB0 hB hv hs hx hq hy hq2 hcall hr hl hly hok htx hty hend hend2 hin hat
      rcases hin' with h0 | h0
      · go_enter Try.func30, Try.ntmps30
        go_wp2_with fail
        refine HC.out.mono ?_
        rintro e w1 ⟨rfl, b1⟩
        have HB1 := Lib.hid (HB.out.trans (b1.mono HB.out.size))
        clear b1
        go_wp2_with fail
        go_ret2
        exact ⟨none, 0, 0, rfl, rfl, ⟨World.ownsRow_nil _ _ _ _, fun k h => by simp [Value.ownBlock] at h⟩, HB1.out⟩
      · have h1 : ¬ at_ < 0 := by omega
        go_enter Try.func30, Try.ntmps30
        go_wp2_with fail
        refine HC.out.mono ?_
        rintro e w1 ⟨rfl, b1⟩
        have HB1 := Lib.hid (HB.out.trans (b1.mono HB.out.size))
        clear b1
        go_wp2_with fail
        go_ret2
        exact ⟨none, 0, 0, rfl, rfl, ⟨World.ownsRow_nil _ _ _ _, fun k h => by simp [Value.ownBlock] at h⟩, HB1.out⟩

set_option maxHeartbeats 2000000 in
theorem specReplaceAt (lo hi : Nat) (z : Int) (ao : Option Addr) (c n : Nat) (fs : List OpD) (lo2 hi2 : Nat) (bo : Option Addr) (d m : Nat) (xs : List Int) (at_ : Int) (lo3 hi3 : Nat) (co : Option Addr) (d2 m2 : Nat) (ys : List Int) (w : World) (hv : OView w lo hi ao n fs) (hhi : hi ≤ w.heap.size) (hs : ∀ (j : Nat) (f : OpD), fs[j]? = some f → f.2.length ≤ maxLen)
    (hx : IView w lo2 hi2 bo m xs) (hhi2 : hi2 ≤ w.heap.size) (hmd : m ≤ d) (hm : d ≤ maxLen) (hq : ∀ x, x ∈ xs → (Lit.int .i64 x).wf = true) (hat : (Lit.int .i64 at_).wf = true)
    (hy : IView w lo3 hi3 co m2 ys) (hhi3 : hi3 ≤ w.heap.size) (hmd2 : m2 ≤ d2) (hm2 : d2 ≤ maxLen) (hq2 : ∀ x, x ∈ ys → (Lit.int .i64 x).wf = true) :
    Calls Try.prog 29 #[.agg #[.int .i64 z, .slice ao n c], .slice bo m d, .int .i64 at_, .slice co m2 d2] w fun e w' => ResL w w' (valReplaceAt z fs xs at_ ys).1 (valReplaceAt z fs xs at_ ys).2 e := by
  have hB := below_alloc w (.cells #[.int .i64 z, .slice ao n c] 30)
  have HB := Lib.hid hB
  have hcall := l3Takes_any lo hi lo2 hi2 z ao bo c n d m fs xs _ (hv.kept (Kept.of_below hB hhi)) (Nat.le_trans hhi hB.size) hs (hx.kept (Kept.of_below hB hhi2)) (Nat.le_trans hhi2 hB.size) (Nat.le_trans hmd hm)
  obtain ⟨r, hr⟩ : ∃ r, isTermB z fs xs = r := ⟨_, rfl⟩
  rw [hr] at hcall
  have HC := Lib.hid hcall
  have hl := hx.1
  have hly := hy.1
  have hall : (algOkB z fs && (termB fs xs && termB fs ys)) = (r && termB fs ys) := by rw [← hr, isTermB, Bool.and_assoc]
  unfold ResL
  cases r with
  | false =>
    rw [val_rep_no (by rw [hall]; rfl)]
    clear hB hv hs hx hq hy hq2 hcall hr hl hly hall
    go_enter Try.func29, Try.ntmps29
    go_wp2_with fail
    refine HC.out.mono ?_
    rintro e w1 ⟨rfl, b1⟩
    have HB1 := Lib.hid (HB.out.trans (b1.mono HB.out.size))
    clear b1
    go_wp2_with fail
    go_ret2
    exact ⟨_, 0, 0, rfl, rfl, own_nil_res HB1.out, HB1.out.alloc HB1.out.size _⟩
  | true =>
    obtain ⟨hok, h60, hend⟩ := isTermB_of hr
    have h60' : m ≤ 60 := by omega
    have hm1 : 0 < m := by have := term_pos hend; omega
    obtain ⟨r2, hr2⟩ : ∃ r2, termB fs ys = r2 := ⟨_, rfl⟩
    have hall2 : (algOkB z fs && (termB fs xs && termB fs ys)) = r2 := by rw [hall, hr2, Bool.true_and]
    clear hall
    have HCG := Lib.hid (fun (w1 : World) (hB1 : Below w.heap.size w w1) => l3Good_any lo hi lo3 hi3 z ao co c n d2 m2 fs ys w1 (hv.kept (Kept.of_below hB1 hhi)) (Nat.le_trans hhi hB1.size) hok (hy.kept (Kept.of_below hB1 hhi3)) (Nat.le_trans hhi3 hB1.size) (Nat.le_trans hmd2 hm2))
    rw [hr2] at HCG
    cases r2 with
    | false =>
      rw [val_rep_no hall2]
      clear hB hv hs hx hq hy hq2 hcall hr hl hly hok hend hr2 hall2
      go_enter Try.func29, Try.ntmps29
      go_wp2_with fail
      refine HC.out.mono ?_
      rintro e w1 ⟨rfl, b1⟩
      have HB1 := Lib.hid (HB.out.trans (b1.mono HB.out.size))
      have cz : w1.cell? ⟨w.heap.size, 0, none⟩ = some (.int .i64 z) := cell_b b1 (by simp)
      have ca : w1.cell? ⟨w.heap.size, 1, none⟩ = some (.slice ao n c) := cell_b b1 (by simp)
      clear b1
      go_wp2_with fail
      refine (HCG.out _ HB1.out).mono ?_
      rintro e w2 ⟨rfl, b2⟩
      have HB2 := Lib.hid (HB1.out.trans (b2.mono HB1.out.size))
      clear b2
      go_wp2_with fail
      go_ret2
      exact ⟨_, 0, 0, rfl, rfl, own_nil_res HB2.out, HB2.out.alloc HB2.out.size _⟩
    | true =>
      obtain ⟨_, h602, hend2⟩ := isTermB_of (z := z) (fs := fs) (xs := ys) (by rw [isTermB, hok, hr2]; rfl)
      have hy0 : 0 < m2 := by have := term_pos hend2; omega
      have h602' : m2 ≤ 60 := by omega
      have hI0 := fun w => in_any at_ 0 ((m : Int) - 1) w
      by_cases hin : 0 ≤ at_ ∧ at_ < (xs.length : Int)
      · obtain ⟨k, rfl⟩ : ∃ k : Nat, at_ = (k : Int) := ⟨at_.toNat, by omega⟩
        have hk : k < xs.length := by omega
        obtain ⟨e, he, he1, he2⟩ := term_sub hok hend hk
        rw [val_rep_in hall2 hk]
        rw [inB_yes (by omega) (by omega)] at hI0
        have hI := Lib.hid hI0
        obtain ⟨M, hM⟩ : ∃ M, (repA fs xs k ys).length = M := ⟨_, rfl⟩
        have hMle : M ≤ 180 := by rw [← hM, rep_len he]; omega
        have HW := Lib.hid (fun (w1 : World) (hB1 : Below w.heap.size w w1) => (with_any lo hi lo2 hi2 lo3 hi3 z ao bo co c n d m d2 m2 fs xs ys k e w1 (hv.kept (Kept.of_below hB1 hhi)) (Nat.le_trans hhi hB1.size) hok (hx.kept (Kept.of_below hB1 hhi2)) (Nat.le_trans hhi2 hB1.size) h60' hmd hm (hy.kept (Kept.of_below hB1 hhi3)) (Nat.le_trans hhi3 hB1.size) h602' hy0 he).mono (R' := fun ε w' => ∃ g D, ε = .returned (.slice (some ⟨g, 0, none⟩) M D) ∧ w'.ownsRow w.heap.size 3 1 (.slice (some ⟨g, 0, none⟩) M D) M ((repA fs xs k ys).map (Value.int .i64)) ∧ Below w.heap.size w w') fun ε w' ⟨g, M', D, h1_, h2_, h3_, h4_⟩ => by
          rw [hM] at h2_
          subst h2_
          exact ⟨g, D, h1_, ownsRow_base h3_ hB1.size, hB1.trans (h4_.mono hB1.size)⟩)
        have HMl := Lib.hid hM
        rw [hM]
        clear hB hv hs hx hq hy hq2 hcall hr hl hly hok hend hend2 hr2 hall2 he hin hat hM hI0 h60 h602
        by_cases hbig : M ≤ 60
        · rw [if_pos hbig]
          go_enter Try.func29, Try.ntmps29
          go_wp2_with fail
          refine HC.out.mono ?_
          rintro ε w1 ⟨rfl, b1⟩
          have HB1 := Lib.hid (HB.out.trans (b1.mono HB.out.size))
          have cz : w1.cell? ⟨w.heap.size, 0, none⟩ = some (.int .i64 z) := cell_b b1 (by simp)
          have ca : w1.cell? ⟨w.heap.size, 1, none⟩ = some (.slice ao n c) := cell_b b1 (by simp)
          clear b1
          go_wp2_with fail
          refine (HCG.out _ HB1.out).mono ?_
          rintro ε w2 ⟨rfl, b2⟩
          have HB2 := Lib.hid (HB1.out.trans (b2.mono HB1.out.size))
          have dz := cell_b b2 cz
          have da := cell_b b2 ca
          clear b2 cz ca
          go_wp2_with fail
          refine (hI.out _).mono ?_
          rintro ε w3 ⟨rfl, rfl⟩
          go_wp2_with fail
          refine (HW.out _ HB2.out).mono ?_
          rintro ε w3 ⟨g3, D3, rfl, ho3, b3⟩
          have HB3 := Lib.hid b3
          have HO3 := Lib.hid ho3
          clear b3 ho3
          go_wp2_with fail
          go_ret2
          exact ⟨_, M, D3, rfl, HMl.out.symm, OwnsInts.of_row HO3.out, HB3.out⟩
        · rw [if_neg hbig]
          go_enter Try.func29, Try.ntmps29
          go_wp2_with fail
          refine HC.out.mono ?_
          rintro ε w1 ⟨rfl, b1⟩
          have HB1 := Lib.hid (HB.out.trans (b1.mono HB.out.size))
          have cz : w1.cell? ⟨w.heap.size, 0, none⟩ = some (.int .i64 z) := cell_b b1 (by simp)
          have ca : w1.cell? ⟨w.heap.size, 1, none⟩ = some (.slice ao n c) := cell_b b1 (by simp)
          clear b1
          go_wp2_with fail
          refine (HCG.out _ HB1.out).mono ?_
          rintro ε w2 ⟨rfl, b2⟩
          have HB2 := Lib.hid (HB1.out.trans (b2.mono HB1.out.size))
          have dz := cell_b b2 cz
          have da := cell_b b2 ca
          clear b2 cz ca
          go_wp2_with fail
          refine (hI.out _).mono ?_
          rintro ε w3 ⟨rfl, rfl⟩
          go_wp2_with fail
          refine (HW.out _ HB2.out).mono ?_
          rintro ε w3 ⟨g3, D3, rfl, ho3, b3⟩
          have HB3 := Lib.hid b3
          clear b3 ho3
          go_wp2_with fail
          go_ret2
          exact ⟨_, 0, 0, rfl, rfl, own_nil_res HB3.out, HB3.out.alloc HB3.out.size _⟩
      · rw [val_rep_out hin]
        rw [inB_no (by omega)] at hI0
        have hI := Lib.hid hI0
        have hatb := wf_bd hat
        clear hB hv hs hx hq hy hq2 hcall hr hl hly hok hend hend2 hr2 hall2 hin hat hI0
        go_enter Try.func29, Try.ntmps29
        go_wp2_with fail
        refine HC.out.mono ?_
        rintro ε w1 ⟨rfl, b1⟩
        have HB1 := Lib.hid (HB.out.trans (b1.mono HB.out.size))
        have cz : w1.cell? ⟨w.heap.size, 0, none⟩ = some (.int .i64 z) := cell_b b1 (by simp)
        have ca : w1.cell? ⟨w.heap.size, 1, none⟩ = some (.slice ao n c) := cell_b b1 (by simp)
        clear b1
        go_wp2_with fail
        refine (HCG.out _ HB1.out).mono ?_
        rintro ε w2 ⟨rfl, b2⟩
        have HB2 := Lib.hid (HB1.out.trans (b2.mono HB1.out.size))
        clear b2
        go_wp2_with fail
        refine (hI.out _).mono ?_
        rintro ε w3 ⟨rfl, rfl⟩
        go_wp2_with fail
        go_ret2
        exact ⟨_, 0, 0, rfl, rfl, own_nil_res HB2.out, HB2.out.alloc HB2.out.size _⟩

end Go.Proofs.Ytplheohkecooeaa
