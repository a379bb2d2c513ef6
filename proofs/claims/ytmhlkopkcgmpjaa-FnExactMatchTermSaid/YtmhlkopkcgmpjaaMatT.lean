/-
  Contracts: both MatchTerm. Conditions: the bounds that each theorem names.
-/
import Derived.Test.YtmhlkopkcgmpjaaMatS
import Derived.Test.YtmhlkopkcgmpjaaTwo
namespace Go.Proofs.Ytmhlkopkcgmpjaa
open Go.RowKit
set_option linter.unusedVariables false
set_option linter.unusedSimpArgs false

theorem val_mat_no {z : Int} {fs : List OpD} {ps ts : List Int} (h : (algOkB z fs && (termB fs ps && termB fs ts)) = false) : valMatchTerm z fs ps ts = ([], false) := by unfold valMatchTerm; rw [h]; rfl
theorem val_mat_yes {z : Int} {fs : List OpD} {ps ts : List Int} (h : (algOkB z fs && (termB fs ps && termB fs ts)) = true) : valMatchTerm z fs ps ts = matV (matF fs ts ps 0 (fun _ => [])) := by
  unfold valMatchTerm matV
  rw [h]
  cases matF fs ts ps 0 (fun _ => []) <;> rfl
theorem matV_len (fs : List OpD) (ps ts : List Int) (h : ts.length ≤ 60) : (matV (matF fs ts ps 0 (fun _ => []))).1.length ≤ 6 ∧ lsum (matV (matF fs ts ps 0 (fun _ => []))).1 ≤ 360 := by
  cases hm : matF fs ts ps 0 (fun _ => []) with
  | none => simp [matV, lsum]
  | some p =>
    have hl := matF_len (B := 60) (fun v => Nat.zero_le _) h hm
    have h0 := hl 0
    have h1 := hl 1
    have h2 := hl 2
    have h3 := hl 3
    have h4 := hl 4
    have h5 := hl 5
    refine ⟨by simp [matV], ?_⟩
    simp only [matV, lsum, List.map_map]
    show (List.map _ (List.range 6)).sum ≤ 360
    rw [show List.range 6 = [0, 1, 2, 3, 4, 5] from rfl]
    simp only [List.map_cons, List.map_nil, List.sum_cons, List.sum_nil, Function.comp]
    omega
theorem smallMatchTerm (z : Int) (fs : List OpD) (ps ts : List Int) : (valMatchTerm z fs ps ts).1.length + lsum (valMatchTerm z fs ps ts).1 ≤ 4194304 := by
  cases h : (algOkB z fs && (termB fs ps && termB fs ts)) with
  | false => rw [val_mat_no h]; simp [lsum]
  | true =>
    rw [val_mat_yes h]
    simp only [Bool.and_eq_true] at h
    obtain ⟨_, h60, _⟩ := isTermB_of (z := z) (fs := fs) (xs := ts) (by rw [isTermB, h.1, h.2.2]; rfl)
    have := matV_len fs ps ts h60
    omega

set_option maxHeartbeats 1000000 in
theorem implMatchTerm (lo hi : Nat) (z : Int) (ao : Option Addr) (c n : Nat) (fs : List OpD) (lo2 hi2 : Nat) (bo : Option Addr) (d m : Nat) (xs : List Int) (lo3 hi3 : Nat) (co : Option Addr) (d2 m2 : Nat) (ys : List Int) (w : World) (hv : OView w lo hi ao n fs) (hhi : hi ≤ w.heap.size) (hs : ∀ (j : Nat) (f : OpD), fs[j]? = some f → f.2.length ≤ maxLen)
    (hx : IView w lo2 hi2 bo m xs) (hhi2 : hi2 ≤ w.heap.size) (hmd : m ≤ d) (hm : d ≤ maxLen) (hq : ∀ x, x ∈ xs → (Lit.int .i64 x).wf = true)
    (hy : IView w lo3 hi3 co m2 ys) (hhi3 : hi3 ≤ w.heap.size) (hmd2 : m2 ≤ d2) (hm2 : d2 ≤ maxLen) (hq2 : ∀ x, x ∈ ys → (Lit.int .i64 x).wf = true) :
    Calls Try.prog 44 #[.agg #[.int .i64 z, .slice ao n c], .slice bo m d, .slice co m2 d2] w fun e w' => ResS w w' (valMatchTerm z fs xs ys).1 (valMatchTerm z fs xs ys).2 e := by
  have hB0 := below_alloc w (.cells #[.int .i64 z, .slice ao n c] 31)
  have hB := below_then hB0 (below_alloc _ (.cells #[.slice bo m d, .slice co m2 d2] 25))
  have HB := Lib.hid hB
  have hcall := areT_two lo hi lo2 hi2 lo3 hi3 z ao bo co c n d m d2 m2 fs xs ys w _ hB hv hhi hs hx hhi2 hmd hm hq hy hhi3 hmd2 hm2 hq2 (w.heap.size + 1) (by simp) (by simp) (by simp) 2
  obtain ⟨r, hr⟩ : ∃ r, (algOkB z fs && (termB fs xs && termB fs ys)) = r := ⟨_, rfl⟩
  rw [hr] at hcall
  have HC := Lib.hid hcall
  cases r with
  | false =>
    rw [val_mat_no hr]
    clear hB0 hB hv hs hx hq hy hq2 hcall hr
    go_enter Try.func44, Try.ntmps44
    go_wp2_with fail
    refine HC.out.mono ?_
    rintro e w1 ⟨rfl, b1⟩
    have HB1 := Lib.hid (HB.out.trans (b1.mono HB.out.size))
    clear b1
    go_wp2_with fail
    go_ret2
    unfold ResS
    obtain ⟨G0, C0, hN0⟩ := ownsLL_none w1 w.heap.size
    exact ⟨none, 0, 0, G0, C0, rfl, rfl, hN0, HB1.out⟩
  | true =>
    have hr2 := hr
    simp only [Bool.and_eq_true] at hr2
    obtain ⟨hok, htx, hty⟩ := hr2
    obtain ⟨_, h60, hend⟩ := isTermB_of (z := z) (fs := fs) (xs := xs) (by rw [isTermB, hok, htx]; rfl)
    obtain ⟨_, h602, hend2⟩ := isTermB_of (z := z) (fs := fs) (xs := ys) (by rw [isTermB, hok, hty]; rfl)
    have hy0 : 0 < m2 := by have := term_pos hend2; have := hy.1; omega
    obtain ⟨b3, o3, rfl, _, _, _⟩ := hy.at_ hy0
    have hl := hx.1
    have hly := hy.1
    rw [val_mat_yes hr]
    have HR := Lib.hid (fun (w1 : World) (hB1 : Below w.heap.size w w1) => matched_any lo hi lo2 hi2 lo3 hi3 z ao bo c n d m b3 o3 d2 m2 fs xs ys w1 (hv.kept (Kept.of_below hB1 hhi)) (Nat.le_trans hhi hB1.size) hok (hx.kept (Kept.of_below hB1 hhi2)) (Nat.le_trans hhi2 hB1.size) hend (by omega) (hy.kept (Kept.of_below hB1 hhi3)) (Nat.le_trans hhi3 hB1.size) hend2 (by omega) hmd2 hm2 hq2)
    obtain ⟨⟨ls, ok⟩, hrv⟩ : ∃ p, matV (matF fs ys xs 0 (fun _ => [])) = p := ⟨_, rfl⟩
    simp only [hrv] at HR ⊢
    clear hB0 hB hv hs hx hq hy hq2 hcall hr hl hly hok htx hty hend hend2 hrv
    go_enter Try.func44, Try.ntmps44
    go_wp2_with fail
    refine HC.out.mono ?_
    rintro ε w1 ⟨rfl, b1⟩
    have HB1 := Lib.hid (HB.out.trans (b1.mono HB.out.size))
    have cz : w1.cell? ⟨w.heap.size, 0, none⟩ = some (.int .i64 z) := cell_b b1 (by simp)
    have ca : w1.cell? ⟨w.heap.size, 1, none⟩ = some (.slice ao n c) := cell_b b1 (by simp)
    clear b1
    go_wp2_with fail
    refine (HR.out _ HB1.out).mono ?_
    rintro ε w2 hres
    unfold ResS at hres
    obtain ⟨ga, gn, gc, G, C, rfl, hgn, ho, b2⟩ := hres
    have HO := Lib.hid (OwnsLL.lo_mono ho HB1.out.size)
    have HB2 := Lib.hid (HB1.out.trans (b2.mono HB1.out.size))
    have HGn := Lib.hid hgn
    clear ho b2 hgn
    go_wp2_with fail
    go_ret2
    unfold ResS
    exact ⟨ga, gn, gc, G, C, rfl, HGn.out, HO.out, HB2.out⟩

set_option maxHeartbeats 1000000 in
theorem specMatchTerm (lo hi : Nat) (z : Int) (ao : Option Addr) (c n : Nat) (fs : List OpD) (lo2 hi2 : Nat) (bo : Option Addr) (d m : Nat) (xs : List Int) (lo3 hi3 : Nat) (co : Option Addr) (d2 m2 : Nat) (ys : List Int) (w : World) (hv : OView w lo hi ao n fs) (hhi : hi ≤ w.heap.size) (hs : ∀ (j : Nat) (f : OpD), fs[j]? = some f → f.2.length ≤ maxLen)
    (hx : IView w lo2 hi2 bo m xs) (hhi2 : hi2 ≤ w.heap.size) (hmd : m ≤ d) (hm : d ≤ maxLen) (hq : ∀ x, x ∈ xs → (Lit.int .i64 x).wf = true)
    (hy : IView w lo3 hi3 co m2 ys) (hhi3 : hi3 ≤ w.heap.size) (hmd2 : m2 ≤ d2) (hm2 : d2 ≤ maxLen) (hq2 : ∀ x, x ∈ ys → (Lit.int .i64 x).wf = true) :
    Calls Try.prog 43 #[.agg #[.int .i64 z, .slice ao n c], .slice bo m d, .slice co m2 d2] w fun e w' => ResS w w' (valMatchTerm z fs xs ys).1 (valMatchTerm z fs xs ys).2 e := by
  have hB := below_alloc w (.cells #[.int .i64 z, .slice ao n c] 31)
  have HB := Lib.hid hB
  have HV := Lib.hid hv
  have HX := Lib.hid hx
  have HY := Lib.hid hy
  have hcall := l3Takes_any lo hi lo2 hi2 z ao bo c n d m fs xs _ (hv.kept (Kept.of_below hB hhi)) (Nat.le_trans hhi hB.size) hs (hx.kept (Kept.of_below hB hhi2)) (Nat.le_trans hhi2 hB.size) (Nat.le_trans hmd hm)
  have cz : (w.alloc (.cells #[.int .i64 z, .slice ao n c] 31)).cell? ⟨w.heap.size, 0, none⟩ = some (.int .i64 z) := by simp
  have ca : (w.alloc (.cells #[.int .i64 z, .slice ao n c] 31)).cell? ⟨w.heap.size, 1, none⟩ = some (.slice ao n c) := by simp
  have hsp : (algOkB z fs && (termB fs xs && termB fs ys)) = (isTermB z fs xs && termB fs ys) := by unfold isTermB; rw [Bool.and_assoc]
  obtain ⟨r1, hr1⟩ : ∃ r, isTermB z fs xs = r := ⟨_, rfl⟩
  rw [hr1] at hcall
  have HC := Lib.hid hcall
  cases r1 with
  | false =>
    rw [val_mat_no (by rw [hsp, hr1]; rfl)]
    clear hB hv hs hx hq hy hq2 hcall hsp hr1
    go_enter Try.func43, Try.ntmps43
    go_wp2_with fail
    refine HC.out.mono ?_
    rintro e w1 ⟨rfl, b1⟩
    have HB1 := Lib.hid (below_then HB.out b1)
    clear b1
    go_wp2_with fail
    go_ret2
    unfold ResS
    exact ⟨_, 0, 0, _, _, rfl, rfl, ownsLL_lit w1 w.heap.size HB1.out.size, HB1.out.alloc HB1.out.size _⟩
  | true =>
    have hok0 := (isTermB_of hr1).1
    have hcall2 := fun W (hb : Below w.heap.size w W) => l3Good_any lo hi lo3 hi3 z ao co c n d2 m2 fs ys W (HV.out.kept (Kept.of_below hb hhi)) (Nat.le_trans hhi hb.size) hok0 (HY.out.kept (Kept.of_below hb hhi3)) (Nat.le_trans hhi3 hb.size) (Nat.le_trans hmd2 hm2)
    obtain ⟨r2, hr2_⟩ : ∃ r, termB fs ys = r := ⟨_, rfl⟩
    simp only [hr2_] at hcall2
    have HC2 := Lib.hid hcall2
    cases r2 with
    | false =>
      rw [val_mat_no (by rw [hsp, hr1, hr2_]; rfl)]
      clear hB hv hs hx hq hy hq2 hcall hsp hr1 hr2_ hcall2
      go_enter Try.func43, Try.ntmps43
      go_wp2_with fail
      refine HC.out.mono ?_
      rintro e w1 ⟨rfl, b1⟩
      have HB1 := Lib.hid (below_then HB.out b1)
      have cz1 := cell_b b1 cz
      have ca1 := cell_b b1 ca
      clear b1
      go_wp2_with fail
      refine (HC2.out _ HB1.out).mono ?_
      rintro e w2 ⟨rfl, b2⟩
      have HB2 := Lib.hid (HB1.out.trans (b2.mono HB1.out.size))
      clear b2
      go_wp2_with fail
      go_ret2
      unfold ResS
      exact ⟨_, 0, 0, _, _, rfl, rfl, ownsLL_lit w2 w.heap.size HB2.out.size, HB2.out.alloc HB2.out.size _⟩
    | true =>
      have hr : (algOkB z fs && (termB fs xs && termB fs ys)) = true := by rw [hsp, hr1, hr2_]; rfl
      have hr2 := hr
      simp only [Bool.and_eq_true] at hr2
      obtain ⟨hok, htx, hty⟩ := hr2
      obtain ⟨_, h60, hend⟩ := isTermB_of (z := z) (fs := fs) (xs := xs) (by rw [isTermB, hok, htx]; rfl)
      obtain ⟨_, h602, hend2⟩ := isTermB_of (z := z) (fs := fs) (xs := ys) (by rw [isTermB, hok, hty]; rfl)
      have hy0 : 0 < m2 := by have := term_pos hend2; have := hy.1; omega
      obtain ⟨b3, o3, rfl, _, _, _⟩ := hy.at_ hy0
      have hl := hx.1
      have hly := hy.1
      rw [val_mat_yes hr]
      have HR := Lib.hid (fun (w1 : World) (hB1 : Below w.heap.size w w1) => l3Match_any lo hi lo2 hi2 lo3 hi3 z ao bo c n d m b3 o3 d2 m2 fs xs ys w1 (hv.kept (Kept.of_below hB1 hhi)) (Nat.le_trans hhi hB1.size) hok (hx.kept (Kept.of_below hB1 hhi2)) (Nat.le_trans hhi2 hB1.size) hend (by omega) (hy.kept (Kept.of_below hB1 hhi3)) (Nat.le_trans hhi3 hB1.size) hend2 (by omega) hmd2 hm2)
      have hvl : (matV (matF fs ys xs 0 (fun _ => []))).2 = false → (matV (matF fs ys xs 0 (fun _ => []))).1 = [] := by
        intro h_
        cases hm_ : matF fs ys xs 0 (fun _ => []) with
        | none => rfl
        | some p => rw [hm_] at h_; cases h_
      obtain ⟨⟨ls, ok⟩, hrv⟩ : ∃ p, matV (matF fs ys xs 0 (fun _ => [])) = p := ⟨_, rfl⟩
      rw [hrv] at hvl
      simp only [hrv] at HR ⊢
      have HVl := Lib.hid hvl
      clear hB hv hs hx hq hy hq2 hcall hr hl hly hok htx hty hend hend2 hrv hsp hr1 hr2_ hcall2 hok0 hvl
      go_enter Try.func43, Try.ntmps43
      go_wp2_with fail
      refine HC.out.mono ?_
      rintro e w1 ⟨rfl, b1⟩
      have HB1 := Lib.hid (below_then HB.out b1)
      have cz1 := cell_b b1 cz
      have ca1 := cell_b b1 ca
      clear b1
      go_wp2_with fail
      refine (HC2.out _ HB1.out).mono ?_
      rintro e w2 ⟨rfl, b2⟩
      have HB2 := Lib.hid (HB1.out.trans (b2.mono HB1.out.size))
      have cz2 := cell_b b2 cz1
      have ca2 := cell_b b2 ca1
      clear b2
      go_wp2_with fail
      refine (HR.out _ HB2.out).mono ?_
      rintro ε w3 hres
      unfold ResS at hres
      obtain ⟨ga, gn, gc, G, C, rfl, hgn, ho, b3_⟩ := hres
      have HO := Lib.hid (OwnsLL.lo_mono ho HB2.out.size)
      have HB3 := Lib.hid (HB2.out.trans (b3_.mono HB2.out.size))
      have HGn := Lib.hid hgn
      clear ho b3_ hgn
      cases ok with
      | true =>
        go_wp2_with fail
        go_ret2
        unfold ResS
        exact ⟨ga, gn, gc, G, C, rfl, HGn.out, HO.out, HB3.out⟩
      | false =>
        obtain rfl : ls = [] := HVl.out rfl
        go_wp2_with fail
        go_ret2
        unfold ResS
        exact ⟨_, 0, 0, _, _, rfl, rfl, ownsLL_lit w3 w.heap.size HB3.out.size, HB3.out.alloc HB3.out.size _⟩

end Go.Proofs.Ytmhlkopkcgmpjaa
