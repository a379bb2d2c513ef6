/-
  Contracts: DoesHold and FirstCounter of impl. Conditions: the bounds that each theorem names.
-/
import Derived.Test.YteealelfghimbaaCntI
import Derived.Test.YteealelfghimbaaRepd
namespace Go.Proofs.Yteealelfghimbaa
open Go.RowKit
set_option linter.unusedVariables false
set_option linter.unusedSimpArgs false
attribute [local go_sem ↓] Go.wp_at_zero Go.wp_at_succ

set_option maxHeartbeats 1000000 in
theorem implDoesHold (lo hi : Nat) (z : Int) (ao : Option Addr) (c n : Nat) (fs : List OpD) (lo2 hi2 : Nat) (bo : Option Addr) (d m : Nat) (xs : List Int) (lo3 hi3 : Nat) (co : Option Addr) (d2 m2 : Nat) (ys : List Int) (w : World) (hv : OView w lo hi ao n fs) (hhi : hi ≤ w.heap.size) (hs : ∀ (j : Nat) (f : OpD), fs[j]? = some f → f.2.length ≤ maxLen)
    (hx : IView w lo2 hi2 bo m xs) (hhi2 : hi2 ≤ w.heap.size) (hmd : m ≤ d) (hm : d ≤ maxLen) (hq : ∀ x, x ∈ xs → (Lit.int .i64 x).wf = true)
    (hy : IView w lo3 hi3 co m2 ys) (hhi3 : hi3 ≤ w.heap.size) (hmd2 : m2 ≤ d2) (hm2 : d2 ≤ maxLen) (hq2 : ∀ x, x ∈ ys → (Lit.int .i64 x).wf = true) :
    Calls Try.prog 27 #[.agg #[.int .i64 z, .slice ao n c], .agg #[.slice bo m d, .slice co m2 d2]] w fun e w' => e = .returned (.tuple #[.bool (valDoesHold z fs xs ys).1, .bool (valDoesHold z fs xs ys).2]) ∧ Below w.heap.size w w' := by
  have HB := Lib.hid (below_then (below_alloc w (.cells #[.int .i64 z, .slice ao n c] 31)) (below_alloc _ (.cells #[.slice bo m d, .slice co m2 d2] 44)))
  have hask := fun (W : World) (hb : Below w.heap.size w W) => canCheck_any lo hi z ao c n fs lo2 hi2 bo d m xs lo3 hi3 co d2 m2 ys W (hv.kept (Kept.of_below hb hhi)) (Nat.le_trans hhi hb.size) hs (hx.kept (Kept.of_below hb hhi2)) (Nat.le_trans hhi2 hb.size) hmd hm hq (hy.kept (Kept.of_below hb hhi3)) (Nat.le_trans hhi3 hb.size) hmd2 hm2 hq2
  unfold valDoesHold
  obtain ⟨r, hr⟩ : ∃ r, askB z fs xs ys = r := ⟨_, rfl⟩
  simp only [hr] at hask ⊢
  have HA := Lib.hid hask
  cases r with
  | false =>
    simp only [Bool.false_eq_true, if_false]
    clear hv hs hx hq hy hq2 hask hr
    go_enter Try.func27, Try.ntmps27
    go_wp2_with fail
    refine (HA.out _ HB.out).mono ?_
    rintro e w1 ⟨rfl, b1⟩
    have HB1 := Lib.hid (HB.out.trans (b1.mono HB.out.size))
    clear b1
    go_wp2_with fail
    go_ret2
    exact ⟨rfl, HB1.out⟩
  | true =>
    simp only [if_true]
    have HC := Lib.hid (fun (W : World) (hb : Below w.heap.size w W) => counterOf_any lo hi z ao c n fs lo2 hi2 bo d m xs lo3 hi3 co d2 m2 ys W (hv.kept (Kept.of_below hb hhi)) (Nat.le_trans hhi hb.size) (hx.kept (Kept.of_below hb hhi2)) (Nat.le_trans hhi2 hb.size) hmd hm (hy.kept (Kept.of_below hb hhi3)) (Nat.le_trans hhi3 hb.size) hmd2 hm2 hr)
    obtain ⟨⟨rs, ok⟩, hR⟩ : ∃ R, cntR z fs xs ys = R := ⟨_, rfl⟩
    simp only [hR] at HC ⊢
    unfold ResL at HC
    clear hv hs hx hq hy hq2 hask hr hR
    go_enter Try.func27, Try.ntmps27
    go_wp2_with fail
    refine (HA.out _ HB.out).mono ?_
    rintro e w1 ⟨rfl, b1⟩
    have HB1 := Lib.hid (HB.out.trans (b1.mono HB.out.size))
    have c1 : w1.cell? ⟨w.heap.size, 0, none⟩ = some (.int .i64 z) := cell_b b1 (by go_simp)
    have c2 : w1.cell? ⟨w.heap.size, 1, none⟩ = some (.slice ao n c) := cell_b b1 (by go_simp)
    have c3 : w1.cell? ⟨w.heap.size + 1, 0, none⟩ = some (.slice bo m d) := cell_b b1 (by go_simp)
    have c4 : w1.cell? ⟨w.heap.size + 1, 1, none⟩ = some (.slice co m2 d2) := cell_b b1 (by go_simp)
    clear b1
    go_wp2_with fail
    refine (HC.out _ HB1.out).mono ?_
    rintro e w2 ⟨ga, gn, gc, rfl, hgn, ho, b2⟩
    have HO := Lib.hid (OwnsInts.lo_mono ho HB1.out.size)
    have HB2 := Lib.hid (HB1.out.trans (b2.mono HB1.out.size))
    have HGn := Lib.hid hgn
    clear ho b2 hgn
    go_wp2_with fail
    go_ret2
    exact ⟨rfl, HB2.out⟩

set_option maxHeartbeats 1000000 in
theorem implFirstCounter (lo hi : Nat) (z : Int) (ao : Option Addr) (c n : Nat) (fs : List OpD) (lo2 hi2 : Nat) (bo : Option Addr) (d m : Nat) (xs : List Int) (lo3 hi3 : Nat) (co : Option Addr) (d2 m2 : Nat) (ys : List Int) (w : World) (hv : OView w lo hi ao n fs) (hhi : hi ≤ w.heap.size) (hs : ∀ (j : Nat) (f : OpD), fs[j]? = some f → f.2.length ≤ maxLen)
    (hx : IView w lo2 hi2 bo m xs) (hhi2 : hi2 ≤ w.heap.size) (hmd : m ≤ d) (hm : d ≤ maxLen) (hq : ∀ x, x ∈ xs → (Lit.int .i64 x).wf = true)
    (hy : IView w lo3 hi3 co m2 ys) (hhi3 : hi3 ≤ w.heap.size) (hmd2 : m2 ≤ d2) (hm2 : d2 ≤ maxLen) (hq2 : ∀ x, x ∈ ys → (Lit.int .i64 x).wf = true) :
    Calls Try.prog 30 #[.agg #[.int .i64 z, .slice ao n c], .agg #[.slice bo m d, .slice co m2 d2]] w fun e w' => ResL w w' (valFirstCounter z fs xs ys).1 (valFirstCounter z fs xs ys).2 e := by
  have HB := Lib.hid (below_then (below_alloc w (.cells #[.int .i64 z, .slice ao n c] 31)) (below_alloc _ (.cells #[.slice bo m d, .slice co m2 d2] 44)))
  have hask := fun (W : World) (hb : Below w.heap.size w W) => canCheck_any lo hi z ao c n fs lo2 hi2 bo d m xs lo3 hi3 co d2 m2 ys W (hv.kept (Kept.of_below hb hhi)) (Nat.le_trans hhi hb.size) hs (hx.kept (Kept.of_below hb hhi2)) (Nat.le_trans hhi2 hb.size) hmd hm hq (hy.kept (Kept.of_below hb hhi3)) (Nat.le_trans hhi3 hb.size) hmd2 hm2 hq2
  unfold valFirstCounter ResL
  obtain ⟨r, hr⟩ : ∃ r, askB z fs xs ys = r := ⟨_, rfl⟩
  simp only [hr] at hask ⊢
  have HA := Lib.hid hask
  cases r with
  | false =>
    simp only [Bool.false_eq_true, if_false]
    clear hv hs hx hq hy hq2 hask hr
    go_enter Try.func30, Try.ntmps30
    go_wp2_with fail
    refine (HA.out _ HB.out).mono ?_
    rintro e w1 ⟨rfl, b1⟩
    have HB1 := Lib.hid (HB.out.trans (b1.mono HB.out.size))
    clear b1
    go_wp2_with fail
    go_ret2
    exact ⟨none, 0, 0, rfl, rfl, OwnsInts.none_ _ _ _, HB1.out⟩
  | true =>
    simp only [if_true]
    have HC := Lib.hid (fun (W : World) (hb : Below w.heap.size w W) => counterOf_any lo hi z ao c n fs lo2 hi2 bo d m xs lo3 hi3 co d2 m2 ys W (hv.kept (Kept.of_below hb hhi)) (Nat.le_trans hhi hb.size) (hx.kept (Kept.of_below hb hhi2)) (Nat.le_trans hhi2 hb.size) hmd hm (hy.kept (Kept.of_below hb hhi3)) (Nat.le_trans hhi3 hb.size) hmd2 hm2 hr)
    obtain ⟨⟨rs, ok⟩, hR⟩ : ∃ R, cntR z fs xs ys = R := ⟨_, rfl⟩
    simp only [hR] at HC ⊢
    unfold ResL at HC
    clear hv hs hx hq hy hq2 hask hr hR
    go_enter Try.func30, Try.ntmps30
    go_wp2_with fail
    refine (HA.out _ HB.out).mono ?_
    rintro e w1 ⟨rfl, b1⟩
    have HB1 := Lib.hid (HB.out.trans (b1.mono HB.out.size))
    have c1 : w1.cell? ⟨w.heap.size, 0, none⟩ = some (.int .i64 z) := cell_b b1 (by go_simp)
    have c2 : w1.cell? ⟨w.heap.size, 1, none⟩ = some (.slice ao n c) := cell_b b1 (by go_simp)
    have c3 : w1.cell? ⟨w.heap.size + 1, 0, none⟩ = some (.slice bo m d) := cell_b b1 (by go_simp)
    have c4 : w1.cell? ⟨w.heap.size + 1, 1, none⟩ = some (.slice co m2 d2) := cell_b b1 (by go_simp)
    clear b1
    go_wp2_with fail
    refine (HC.out _ HB1.out).mono ?_
    rintro e w2 ⟨ga, gn, gc, rfl, hgn, ho, b2⟩
    have HO := Lib.hid (OwnsInts.lo_mono ho HB1.out.size)
    have HB2 := Lib.hid (HB1.out.trans (b2.mono HB1.out.size))
    have HGn := Lib.hid hgn
    clear ho b2 hgn
    go_wp2_with fail
    go_ret2
    exact ⟨ga, gn, gc, rfl, HGn.out, HO.out, HB2.out⟩

end Go.Proofs.Yteealelfghimbaa
