/-
  Contract: impl.canCheck. Conditions: the bounds that it names.
-/
import Derived.Test.YteealelfghimbaaAskN
import Derived.Test.YteealelfghimbaaDig6
import Derived.Test.YteealelfghimbaaIdn
import Derived.Test.YteealelfghimbaaCntM
import Derived.Test.YteealelfghimbaaVarsIn
import Derived.Deep.RegionHeld3
namespace Go.Proofs.Yteealelfghimbaa
open Go.RowKit
set_option linter.unusedVariables false
set_option linter.unusedSimpArgs false
attribute [local go_sem ↓] Go.wp_at_zero Go.wp_at_succ

set_option maxRecDepth 100000 in
set_option maxHeartbeats 4000000 in
theorem canCheck_yes (lo hi : Nat) (z : Int) (ao : Option Addr) (c n : Nat) (fs : List OpD) (lo2 hi2 : Nat) (bo : Option Addr) (d m : Nat) (xs : List Int) (lo3 hi3 : Nat) (co : Option Addr) (d2 m2 : Nat) (ys : List Int) (w : World) (hv : OView w lo hi ao n fs) (hhi : hi ≤ w.heap.size) (hs : ∀ (j : Nat) (f : OpD), fs[j]? = some f → f.2.length ≤ maxLen)
    (hx : IView w lo2 hi2 bo m xs) (hhi2 : hi2 ≤ w.heap.size) (hmd : m ≤ d) (hm : d ≤ maxLen) (hq : ∀ x, x ∈ xs → (Lit.int .i64 x).wf = true)
    (hy : IView w lo3 hi3 co m2 ys) (hhi3 : hi3 ≤ w.heap.size) (hmd2 : m2 ≤ d2) (hm2 : d2 ≤ maxLen) (hq2 : ∀ x, x ∈ ys → (Lit.int .i64 x).wf = true) (hr : (algOkB z fs && (termB fs xs && termB fs ys)) = true) :
    Calls Try.prog 85 #[.agg #[.int .i64 z, .slice ao n c], .agg #[.slice bo m d, .slice co m2 d2]] w fun e w' => e = .returned (.bool (askB z fs xs ys)) ∧ Below w.heap.size w w' := by
  have HC := fun (W : World) (hB : Below w.heap.size w W) (b : Nat) (hb : b < W.heap.size) (hc : W.cell? ⟨b, 0, none⟩ = some (.slice bo m d)) (hc2 : W.cell? ⟨b, 1, none⟩ = some (.slice co m2 d2)) (cc : Nat) =>
    areT_two lo hi lo2 hi2 lo3 hi3 z ao bo co c n d m d2 m2 fs xs ys w W hB hv hhi hs hx hhi2 hmd hm hq hy hhi3 hmd2 hm2 hq2 b hb hc hc2 cc
  rw [hr] at HC
  have HC := Lib.hid HC
  unfold askB
  simp only [hr]
  rw [Bool.true_and]
  simp only [Bool.and_eq_true] at hr
  obtain ⟨hok, ht1, ht2⟩ := hr
  have hi1 : isTermB z fs xs = true := by simp [isTermB, hok, ht1]
  have hi2_ : isTermB z fs ys = true := by simp [isTermB, hok, ht2]
  obtain ⟨_, h60, hend⟩ := isTermB_of hi1
  obtain ⟨_, h602, hend2⟩ := isTermB_of hi2_
  obtain ⟨hz1, hz2⟩ := (algOkB_of hok).1
  have hlt : ∀ zs, zs ∈ [xs, ys] → ∀ x, x ∈ zs → x < 6 := fun zs hzs x hxx => by
    obtain ⟨j, hj⟩ := List.getElem?_of_mem hxx
    simp at hzs
    rcases hzs with rfl | rfl
    · exact (term_lt hok hend hj).1
    · exact (term_lt hok hend2 hj).1
  have hle : ∀ zs, zs ∈ [xs, ys] → zs.length ≤ 60 := fun zs hzs => by
    simp at hzs
    rcases hzs with rfl | rfl
    · exact h60
    · exact h602
  have HCV := fun (w1 : World) (hB1 : Below w.heap.size w w1) => varsIn_any 0 (w1.heap.size + 1) (some ⟨w1.heap.size, 0, none⟩) 2 2 [xs, ys] (w1.alloc (.cells #[.slice bo m d, .slice co m2 d2] 25))
    (LView.two (by simp) (by simp) (Nat.zero_le _) (by omega) hmd hm ((hx.kept (Kept.of_below (below_then hB1 (below_alloc _ _)) hhi2)).mono (Nat.zero_le _) (by have := hB1.size; omega)) hmd2 hm2 ((hy.kept (Kept.of_below (below_then hB1 (below_alloc _ _)) hhi3)).mono (Nat.zero_le _) (by have := hB1.size; omega))) (by simp) (by omega) hle hlt
  simp only [List.flatten_cons, List.flatten_nil, List.append_nil] at HCV
  have hL6 := varsL_len (xs ++ ys)
  obtain ⟨L, hL⟩ : ∃ L, (varsL (xs ++ ys)).length = L := ⟨_, rfl⟩
  rw [hL] at hL6
  simp only [hL] at HCV ⊢
  have HCV := Lib.hid HCV
  have HL := fun (W : World) => len6_any z L W hz1 hz2 hL6
  have hpb := powI_bd6 hz1 hz2 hL6
  obtain ⟨p, hp⟩ : ∃ p, powI z L = p := ⟨_, rfl⟩
  rw [hp] at HL hpb ⊢
  have HL := Lib.hid HL
  obtain ⟨hpb0, hpb1⟩ := hpb
  clear hv hs hx hq hy hq2 hok ht1 ht2 hi1 hi2_ hend hend2 hlt hle hL hp
  go_enter Try.func85, Try.ntmps85
  go_wp2_with fail
  refine wp_region_noPanic ?_
  have yB : Below w.heap.size w ((w.alloc (.cells #[.int .i64 z, .slice ao n c] 31)).alloc (.cells #[.slice bo m d, .slice co m2 d2] 44)).drew := by (repeat (first | assumption | exact Below.refl _ _ | apply keep_drew | apply keep_alloc))
  refine wp_region_held_drew (S := fun W => W.cell? ⟨w.heap.size, 0, none⟩ = some (.int .i64 z) ∧ W.cell? ⟨w.heap.size, 1, none⟩ = some (.slice ao n c) ∧ W.cell? ⟨w.heap.size + 1, 0, none⟩ = some (.slice bo m d) ∧ W.cell? ⟨w.heap.size + 1, 1, none⟩ = some (.slice co m2 d2) ∧ Below w.heap.size w W) (by kernel_rfl) ?_ (fun hHeld => ?_)
  · exact ⟨by go_simp, by go_simp, by go_simp, by go_simp, yB⟩
  refine wpAnyH_take (i := 0) (oi := ⟨_, _, _, _, _, _⟩) (v := ?_) rfl (by kernel_rfl) (by kernel_rfl) (by kernel_rfl) (fun _ _ _ h => h) (Or.inl ⟨rfl, ?_⟩) (by assumption) ?_
  rotate_left 1
  · intro w_ hSw; (try dsimp only at hSw); go_simp; (try with_reducible rfl)
  (try simp only [Act.put, List.setIfInBounds_toArray, List.set_cons_zero, List.set_cons_succ])
  refine wpAnyH_take (i := 1) (oi := ⟨_, _, _, _, _, _⟩) (v := ?_) rfl (by kernel_rfl) (by kernel_rfl) (by kernel_rfl) (fun _ _ _ h => h) (Or.inl ⟨rfl, ?_⟩) (by assumption) ?_
  rotate_left 1
  · intro w_ hSw; (try dsimp only at hSw); go_simp; (try with_reducible rfl)
  (try simp only [Act.put, List.setIfInBounds_toArray, List.set_cons_zero, List.set_cons_succ])
  refine wpAnyH_take (i := 2) (oi := ⟨_, _, _, _, _, _⟩) (v := ?_) rfl (by kernel_rfl) (by kernel_rfl) (by kernel_rfl) (fun _ _ _ h => h) (Or.inl ⟨rfl, ?_⟩) (by assumption) ?_
  rotate_left 1
  · intro w_ hSw; (try dsimp only at hSw); go_simp; (try with_reducible rfl)
  (try simp only [Act.put, List.setIfInBounds_toArray, List.set_cons_zero, List.set_cons_succ])
  refine wpAnyH_take (i := 3) (oi := ⟨_, _, _, _, _, _⟩) (v := ?_) rfl (by kernel_rfl) (by kernel_rfl) (by kernel_rfl) (fun _ _ _ h => h) (Or.inl ⟨rfl, ?_⟩) (by assumption) ?_
  rotate_left 1
  · intro w_ hSw; (try dsimp only at hSw); go_simp; (try with_reducible rfl)
  (try simp only [Act.put, List.setIfInBounds_toArray, List.set_cons_zero, List.set_cons_succ])
  refine wpAnyH_take (i := 4) (oi := ⟨_, _, _, _, _, _⟩) (v := ?_) rfl (by kernel_rfl) (by kernel_rfl) (by kernel_rfl) (fun _ _ _ h => h) (Or.inl ⟨rfl, ?_⟩) (by assumption) ?_
  rotate_left 1
  · intro w_ hSw; (try dsimp only at hSw); go_simp; (try with_reducible rfl)
  (try simp only [Act.put, List.setIfInBounds_toArray, List.set_cons_zero, List.set_cons_succ])
  refine wpAnyH_ready (rs := [5]) (by kernel_rfl) (by simp) ?_
  refine AllReadyH.cons (o := ⟨_, _, _, _, _, _⟩) rfl (fun K hK => ?_) AllReadyH.nil
  go_simp
  refine hK.out _ _ ?_ (fun hHeld => ?_)
  · obtain ⟨h1_, h2_, h3_, h4_, h5_⟩ := hHeld
    exact ⟨by go_simp, by go_simp, by go_simp, by go_simp, keep_alloc (by assumption) _⟩
  clear hK K
  (try simp only [Act.put, List.setIfInBounds_toArray, List.set_cons_zero, List.set_cons_succ])
  obtain ⟨hXc1, hXc2, hXc3, hXc4, hX5⟩ := id hHeld
  refine wpAnyH_ready (rs := [6]) (by kernel_rfl) (by simp) ?_
  refine AllReadyH.cons (o := ⟨_, _, _, _, _, _⟩) rfl (fun K hK => ?_) AllReadyH.nil
  go_simp
  go_at_call 77
  refine (HC.out _ ?_ _ ?_ ?_ ?_ _).mono ?_
  · exact hX5
  · simp
  · go_simp
  · go_simp
  rintro e w1 ⟨rfl, b1⟩
  have hX6 := hX5.trans (b1.mono hX5.size)
  have hC1 := cell_b b1 hXc1
  have hC2 := cell_b b1 hXc2
  have hC3 := cell_b b1 hXc3
  have hC4 := cell_b b1 hXc4
  have HB1 := Lib.hid hX6
  clear b1
  go_wp2_with fail
  refine hK.out _ _ ?_ (fun hHeld => ?_)
  · exact ⟨hC1, hC2, hC3, hC4, HB1.out⟩
  clear hK K
  (try simp only [Act.put, List.setIfInBounds_toArray, List.set_cons_zero, List.set_cons_succ])
  refine wpAnyH_take (i := 7) (oi := ⟨_, _, _, _, _, _⟩) (v := ?_) rfl (by kernel_rfl) (by kernel_rfl) (by kernel_rfl) (fun _ _ _ h => h) (Or.inl ⟨rfl, ?_⟩) (by assumption) ?_
  rotate_left 1
  · intro w_ hSw; (try dsimp only at hSw); go_simp; (try with_reducible rfl)
  (try simp only [Act.put, List.setIfInBounds_toArray, List.set_cons_zero, List.set_cons_succ])
  refine wpAnyH_take (i := 8) (oi := ⟨_, _, _, _, _, _⟩) (v := ?_) rfl (by kernel_rfl) (by kernel_rfl) (by kernel_rfl) (fun _ _ _ h => h) (Or.inl ⟨rfl, ?_⟩) (by assumption) ?_
  rotate_left 1
  · intro w_ hSw; (try dsimp only at hSw); go_simp; (try with_reducible rfl)
  (try simp only [Act.put, List.setIfInBounds_toArray, List.set_cons_zero, List.set_cons_succ])
  refine wpAnyH_take (i := 9) (oi := ⟨_, _, _, _, _, _⟩) (v := ?_) rfl (by kernel_rfl) (by kernel_rfl) (by kernel_rfl) (fun _ _ _ h => h) (Or.inl ⟨rfl, ?_⟩) (by assumption) ?_
  rotate_left 1
  · intro w_ hSw; (try dsimp only at hSw); go_simp; (try with_reducible rfl)
  (try simp only [Act.put, List.setIfInBounds_toArray, List.set_cons_zero, List.set_cons_succ])
  refine wpAnyH_take (i := 10) (oi := ⟨_, _, _, _, _, _⟩) (v := ?_) rfl (by kernel_rfl) (by kernel_rfl) (by kernel_rfl) (fun _ _ _ h => h) (Or.inl ⟨rfl, ?_⟩) (by assumption) ?_
  rotate_left 1
  · intro w_ hSw; (try dsimp only at hSw); go_simp; (try with_reducible rfl)
  (try simp only [Act.put, List.setIfInBounds_toArray, List.set_cons_zero, List.set_cons_succ])
  refine wpAnyH_take (i := 11) (oi := ⟨_, _, _, _, _, _⟩) (v := ?_) rfl (by kernel_rfl) (by kernel_rfl) (by kernel_rfl) (fun _ _ _ h => h) (Or.inl ⟨rfl, ?_⟩) (by assumption) ?_
  rotate_left 1
  · intro w_ hSw; (try dsimp only at hSw); go_simp; (try with_reducible rfl)
  (try simp only [Act.put, List.setIfInBounds_toArray, List.set_cons_zero, List.set_cons_succ])
  refine wpAnyH_take (i := 12) (oi := ⟨_, _, _, _, _, _⟩) (v := ?_) rfl (by kernel_rfl) (by kernel_rfl) (by kernel_rfl) (fun _ _ _ h => h) (Or.inl ⟨rfl, ?_⟩) (by assumption) ?_
  rotate_left 1
  · intro w_ hSw; (try dsimp only at hSw); go_simp; (try with_reducible rfl)
  (try simp only [Act.put, List.setIfInBounds_toArray, List.set_cons_zero, List.set_cons_succ])
  refine wpAnyH_take (i := 13) (oi := ⟨_, _, _, _, _, _⟩) (v := ?_) rfl (by kernel_rfl) (by kernel_rfl) (by kernel_rfl) (fun _ _ _ h => h) (Or.inl ⟨rfl, ?_⟩) (by assumption) ?_
  rotate_left 1
  · intro w_ hSw; (try dsimp only at hSw); go_simp; (try with_reducible rfl)
  (try simp only [Act.put, List.setIfInBounds_toArray, List.set_cons_zero, List.set_cons_succ])
  refine wpAnyH_ready (rs := [14]) (by kernel_rfl) (by simp) ?_
  refine AllReadyH.cons (o := ⟨_, _, _, _, _, _⟩) rfl (fun K hK => ?_) AllReadyH.nil
  go_simp
  refine hK.out _ _ ?_ (fun hHeld => ?_)
  · obtain ⟨h1_, h2_, h3_, h4_, h5_⟩ := hHeld
    exact ⟨cell_b (below_alloc _ _) h1_, cell_b (below_alloc _ _) h2_, cell_b (below_alloc _ _) h3_, cell_b (below_alloc _ _) h4_, keep_alloc h5_ _⟩
  clear hK K
  (try simp only [Act.put, List.setIfInBounds_toArray, List.set_cons_zero, List.set_cons_succ])
  obtain ⟨hXd1, hXd2, hXd3, hXd4, hX14⟩ := id hHeld
  refine wpAnyH_ready (rs := [15]) (by kernel_rfl) (by simp) ?_
  refine AllReadyH.cons (o := ⟨_, _, _, _, _, _⟩) rfl (fun K hK => ?_) AllReadyH.nil
  go_simp
  go_at_call 110
  refine (HCV.out _ hX6).mono ?_
  rintro e w2 ⟨va, vm, vd, rfl, rfl, vo, b2⟩
  have hD1 := cell_b b2 hXd1
  have hD2 := cell_b b2 hXd2
  have hD3 := cell_b b2 hXd3
  have hD4 := cell_b b2 hXd4
  have hX15 := hX14.trans (b2.mono hX14.size)
  have HB2 := Lib.hid hX15
  clear vo b2
  go_wp2_with fail
  refine hK.out _ _ ?_ (fun hHeld => ?_)
  · exact ⟨hD1, hD2, hD3, hD4, HB2.out⟩
  clear hK K
  (try simp only [Act.put, List.setIfInBounds_toArray, List.set_cons_zero, List.set_cons_succ])
  refine wpAnyH_take (i := 16) (oi := ⟨_, _, _, _, _, _⟩) (v := ?_) rfl (by kernel_rfl) (by kernel_rfl) (by kernel_rfl) (fun _ _ _ h => h) (Or.inl ⟨rfl, ?_⟩) (by assumption) ?_
  rotate_left 1
  · intro w_ hSw; (try dsimp only at hSw); go_simp; (try with_reducible rfl)
  (try simp only [Act.put, List.setIfInBounds_toArray, List.set_cons_zero, List.set_cons_succ])
  refine wpAnyH_ready (rs := [17]) (by kernel_rfl) (by simp) ?_
  refine AllReadyH.cons (o := ⟨_, _, _, _, _, _⟩) rfl (fun K hK => ?_) AllReadyH.nil
  go_simp
  go_at_call 113
  refine (HL.out _).mono ?_
  rintro e w3 ⟨rfl, rfl⟩
  go_wp2_with fail
  refine hK.out _ _ ?_ (fun hHeld => ?_)
  · assumption
  clear hK K
  (try simp only [Act.put, List.setIfInBounds_toArray, List.set_cons_zero, List.set_cons_succ])
  refine wpAnyH_take (i := 18) (oi := ⟨_, _, _, _, _, _⟩) (v := ?_) rfl (by kernel_rfl) (by kernel_rfl) (by kernel_rfl) (fun _ _ _ h => h) (Or.inl ⟨rfl, ?_⟩) (by assumption) ?_
  rotate_left 1
  · intro w_ hSw; (try dsimp only at hSw); go_simp; (try with_reducible rfl)
  (try simp only [Act.put, List.setIfInBounds_toArray, List.set_cons_zero, List.set_cons_succ])
  refine wpAnyH_take (i := 19) (oi := ⟨_, _, _, _, _, _⟩) (v := ?_) rfl (by kernel_rfl) (by kernel_rfl) (by kernel_rfl) (fun _ _ _ h => h) (Or.inl ⟨rfl, ?_⟩) (by assumption) ?_
  rotate_left 1
  · intro w_ hSw; (try dsimp only at hSw); go_simp; (try with_reducible rfl)
  (try simp only [Act.put, List.setIfInBounds_toArray, List.set_cons_zero, List.set_cons_succ])
  refine wpAnyH_take (i := 20) (oi := ⟨_, _, _, _, _, _⟩) (v := ?_) rfl (by kernel_rfl) (by kernel_rfl) (by kernel_rfl) (fun _ _ _ h => h) (Or.inl ⟨rfl, ?_⟩) (by assumption) ?_
  rotate_left 1
  · intro w_ hSw; (try dsimp only at hSw); go_simp; (try with_reducible rfl)
  (try simp only [Act.put, List.setIfInBounds_toArray, List.set_cons_zero, List.set_cons_succ])
  refine wpAnyH_done (by kernel_rfl) ?_ _
  refine NoPanic.normal ?_
  go_wp2_with fail
  go_ret
  exact ⟨by first | rfl | simp, HB2.out⟩

theorem canCheck_any (lo hi : Nat) (z : Int) (ao : Option Addr) (c n : Nat) (fs : List OpD) (lo2 hi2 : Nat) (bo : Option Addr) (d m : Nat) (xs : List Int) (lo3 hi3 : Nat) (co : Option Addr) (d2 m2 : Nat) (ys : List Int) (w : World) (hv : OView w lo hi ao n fs) (hhi : hi ≤ w.heap.size) (hs : ∀ (j : Nat) (f : OpD), fs[j]? = some f → f.2.length ≤ maxLen)
    (hx : IView w lo2 hi2 bo m xs) (hhi2 : hi2 ≤ w.heap.size) (hmd : m ≤ d) (hm : d ≤ maxLen) (hq : ∀ x, x ∈ xs → (Lit.int .i64 x).wf = true)
    (hy : IView w lo3 hi3 co m2 ys) (hhi3 : hi3 ≤ w.heap.size) (hmd2 : m2 ≤ d2) (hm2 : d2 ≤ maxLen) (hq2 : ∀ x, x ∈ ys → (Lit.int .i64 x).wf = true) :
    Calls Try.prog 85 #[.agg #[.int .i64 z, .slice ao n c], .agg #[.slice bo m d, .slice co m2 d2]] w fun e w' => e = .returned (.bool (askB z fs xs ys)) ∧ Below w.heap.size w w' := by
  obtain ⟨r, hr⟩ : ∃ r, (algOkB z fs && (termB fs xs && termB fs ys)) = r := ⟨_, rfl⟩
  cases r with
  | false =>
    have h := canCheck_no lo hi z ao c n fs lo2 hi2 bo d m xs lo3 hi3 co d2 m2 ys w hv hhi hs hx hhi2 hmd hm hq hy hhi3 hmd2 hm2 hq2 hr
    unfold askB
    rw [hr, Bool.false_and]
    exact h
  | true => exact canCheck_yes lo hi z ao c n fs lo2 hi2 bo d m xs lo3 hi3 co d2 m2 ys w hv hhi hs hx hhi2 hmd hm hq hy hhi3 hmd2 hm2 hq2 hr

end Go.Proofs.Yteealelfghimbaa
