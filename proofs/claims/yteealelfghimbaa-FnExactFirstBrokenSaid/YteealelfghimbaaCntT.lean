/-
  Contracts: l3Holds, DoesHold and FirstCounter of spec. Conditions: the bounds that each theorem names.
-/
import Derived.Test.YteealelfghimbaaCntS
import Derived.Test.YteealelfghimbaaRepd
namespace Go.Proofs.Yteealelfghimbaa
open Go.RowKit
set_option linter.unusedVariables false
set_option linter.unusedSimpArgs false
attribute [local go_sem ↓] Go.wp_at_zero Go.wp_at_succ

theorem ask_and (z : Int) (fs : List OpD) (xs ys : List Int) : askB z fs xs ys = (algOkB z fs && askT z fs xs ys) := by unfold askB askT; rw [Bool.and_assoc]

set_option maxHeartbeats 1000000 in
theorem l3Holds_any (lo hi : Nat) (z : Int) (ao : Option Addr) (c n : Nat) (fs : List OpD) (lo2 hi2 : Nat) (bo : Option Addr) (d m : Nat) (xs : List Int) (lo3 hi3 : Nat) (co : Option Addr) (d2 m2 : Nat) (ys : List Int) (w : World) (hv : OView w lo hi ao n fs) (hhi : hi ≤ w.heap.size)
    (hx : IView w lo2 hi2 bo m xs) (hhi2 : hi2 ≤ w.heap.size) (hmd : m ≤ d) (hm : d ≤ maxLen)
    (hy : IView w lo3 hi3 co m2 ys) (hhi3 : hi3 ≤ w.heap.size) (hmd2 : m2 ≤ d2) (hm2 : d2 ≤ maxLen) (hask : askB z fs xs ys = true) :
    Calls Try.prog 84 #[.agg #[.int .i64 z, .slice ao n c], .agg #[.slice bo m d, .slice co m2 d2]] w fun e w' => e = .returned (.bool (!(cntR z fs xs ys).2)) ∧ Below w.heap.size w w' := by
  have HB := Lib.hid (below_then (below_alloc w (.cells #[.int .i64 z, .slice ao n c] 31)) (below_alloc _ (.cells #[.slice bo m d, .slice co m2 d2] 44)))
  have HC := Lib.hid (fun (W : World) (hb : Below w.heap.size w W) => l3Counter_any lo hi z ao c n fs lo2 hi2 bo d m xs lo3 hi3 co d2 m2 ys W (hv.kept (Kept.of_below hb hhi)) (Nat.le_trans hhi hb.size) (hx.kept (Kept.of_below hb hhi2)) (Nat.le_trans hhi2 hb.size) hmd hm (hy.kept (Kept.of_below hb hhi3)) (Nat.le_trans hhi3 hb.size) hmd2 hm2 hask)
  obtain ⟨⟨rs, ok⟩, hR⟩ : ∃ R, cntR z fs xs ys = R := ⟨_, rfl⟩
  simp only [hR] at HC ⊢
  unfold ResL at HC
  clear hv hx hy hask hR
  go_enter Try.func84, Try.ntmps84
  go_wp2_with fail
  refine (HC.out _ HB.out).mono ?_
  rintro e w2 ⟨ga, gn, gc, rfl, hgn, ho, b2⟩
  have HB2 := Lib.hid (HB.out.trans (b2.mono HB.out.size))
  clear ho b2 hgn
  go_wp2_with fail
  go_ret
  exact ⟨rfl, HB2.out⟩

set_option maxHeartbeats 1000000 in
theorem specDoesHold (lo hi : Nat) (z : Int) (ao : Option Addr) (c n : Nat) (fs : List OpD) (lo2 hi2 : Nat) (bo : Option Addr) (d m : Nat) (xs : List Int) (lo3 hi3 : Nat) (co : Option Addr) (d2 m2 : Nat) (ys : List Int) (w : World) (hv : OView w lo hi ao n fs) (hhi : hi ≤ w.heap.size) (hs : ∀ (j : Nat) (f : OpD), fs[j]? = some f → f.2.length ≤ maxLen)
    (hx : IView w lo2 hi2 bo m xs) (hhi2 : hi2 ≤ w.heap.size) (hmd : m ≤ d) (hm : d ≤ maxLen) (hq : ∀ x, x ∈ xs → (Lit.int .i64 x).wf = true)
    (hy : IView w lo3 hi3 co m2 ys) (hhi3 : hi3 ≤ w.heap.size) (hmd2 : m2 ≤ d2) (hm2 : d2 ≤ maxLen) (hq2 : ∀ x, x ∈ ys → (Lit.int .i64 x).wf = true) :
    Calls Try.prog 25 #[.agg #[.int .i64 z, .slice ao n c], .agg #[.slice bo m d, .slice co m2 d2]] w fun e w' => e = .returned (.tuple #[.bool (valDoesHold z fs xs ys).1, .bool (valDoesHold z fs xs ys).2]) ∧ Below w.heap.size w w' := by
  have HB := Lib.hid (below_then (below_alloc w (.cells #[.int .i64 z, .slice ao n c] 31)) (below_alloc _ (.cells #[.slice bo m d, .slice co m2 d2] 44)))
  have hgood := fun (W : World) (hb : Below w.heap.size w W) => good_any lo hi z ao c n fs W (hv.kept (Kept.of_below hb hhi)) (Nat.le_trans hhi hb.size) hs
  unfold valDoesHold
  have hand := ask_and z fs xs ys
  obtain ⟨r, hr⟩ : ∃ r, algOkB z fs = r := ⟨_, rfl⟩
  simp only [hr] at hgood hand
  have HG := Lib.hid hgood
  cases r with
  | false =>
    rw [Bool.false_and] at hand
    simp only [hand, Bool.false_eq_true, if_false]
    clear hv hs hx hq hy hq2 hgood hr hand
    go_enter Try.func25, Try.ntmps25
    go_wp2_with fail
    refine (HG.out _ HB.out).mono ?_
    rintro e w1 ⟨rfl, b1⟩
    have HB1 := Lib.hid (HB.out.trans (b1.mono HB.out.size))
    clear b1
    go_wp2_with fail
    go_ret2
    exact ⟨rfl, HB1.out⟩
  | true =>
    rw [Bool.true_and] at hand
    have hask := fun (W : World) (hb : Below w.heap.size w W) => l3Asked_any lo hi z ao c n fs lo2 hi2 bo d m xs lo3 hi3 co d2 m2 ys W (hv.kept (Kept.of_below hb hhi)) (Nat.le_trans hhi hb.size) hr (hx.kept (Kept.of_below hb hhi2)) (Nat.le_trans hhi2 hb.size) hmd hm (hy.kept (Kept.of_below hb hhi3)) (Nat.le_trans hhi3 hb.size) hmd2 hm2
    rw [← hand] at hask
    obtain ⟨s, hs2⟩ : ∃ s, askB z fs xs ys = s := ⟨_, rfl⟩
    simp only [hs2] at hask ⊢
    have HA := Lib.hid hask
    cases s with
    | false =>
      simp only [Bool.false_eq_true, if_false]
      clear hv hs hx hq hy hq2 hgood hr hand hask hs2
      go_enter Try.func25, Try.ntmps25
      go_wp2_with fail
      refine (HG.out _ HB.out).mono ?_
      rintro e w1 ⟨rfl, b1⟩
      have HB1 := Lib.hid (HB.out.trans (b1.mono HB.out.size))
      have c1 : w1.cell? ⟨w.heap.size, 0, none⟩ = some (.int .i64 z) := cell_b b1 (by go_simp)
      have c2 : w1.cell? ⟨w.heap.size, 1, none⟩ = some (.slice ao n c) := cell_b b1 (by go_simp)
      have c3 : w1.cell? ⟨w.heap.size + 1, 0, none⟩ = some (.slice bo m d) := cell_b b1 (by go_simp)
      have c4 : w1.cell? ⟨w.heap.size + 1, 1, none⟩ = some (.slice co m2 d2) := cell_b b1 (by go_simp)
      clear b1
      go_wp2_with fail
      refine (HA.out _ HB1.out).mono ?_
      rintro e w2 ⟨rfl, b2⟩
      have HB2 := Lib.hid (HB1.out.trans (b2.mono HB1.out.size))
      clear b2
      go_wp2_with fail
      go_ret2
      exact ⟨rfl, HB2.out⟩
    | true =>
      simp only [if_true]
      have HC := Lib.hid (fun (W : World) (hb : Below w.heap.size w W) => l3Holds_any lo hi z ao c n fs lo2 hi2 bo d m xs lo3 hi3 co d2 m2 ys W (hv.kept (Kept.of_below hb hhi)) (Nat.le_trans hhi hb.size) (hx.kept (Kept.of_below hb hhi2)) (Nat.le_trans hhi2 hb.size) hmd hm (hy.kept (Kept.of_below hb hhi3)) (Nat.le_trans hhi3 hb.size) hmd2 hm2 hs2)
      obtain ⟨⟨rs, ok⟩, hR⟩ : ∃ R, cntR z fs xs ys = R := ⟨_, rfl⟩
      simp only [hR] at HC ⊢
      clear hv hs hx hq hy hq2 hgood hr hand hask hs2 hR
      go_enter Try.func25, Try.ntmps25
      go_wp2_with fail
      refine (HG.out _ HB.out).mono ?_
      rintro e w1 ⟨rfl, b1⟩
      have HB1 := Lib.hid (HB.out.trans (b1.mono HB.out.size))
      have c1 : w1.cell? ⟨w.heap.size, 0, none⟩ = some (.int .i64 z) := cell_b b1 (by go_simp)
      have c2 : w1.cell? ⟨w.heap.size, 1, none⟩ = some (.slice ao n c) := cell_b b1 (by go_simp)
      have c3 : w1.cell? ⟨w.heap.size + 1, 0, none⟩ = some (.slice bo m d) := cell_b b1 (by go_simp)
      have c4 : w1.cell? ⟨w.heap.size + 1, 1, none⟩ = some (.slice co m2 d2) := cell_b b1 (by go_simp)
      clear b1
      go_wp2_with fail
      refine (HA.out _ HB1.out).mono ?_
      rintro e w2 ⟨rfl, b2⟩
      have HB2 := Lib.hid (HB1.out.trans (b2.mono HB1.out.size))
      have d1 := cell_b b2 c1
      have d2_ := cell_b b2 c2
      have d3 := cell_b b2 c3
      have d4 := cell_b b2 c4
      clear b2
      go_wp2_with fail
      refine (HC.out _ HB2.out).mono ?_
      rintro e w3 ⟨rfl, b3⟩
      have HB3 := Lib.hid (HB2.out.trans (b3.mono HB2.out.size))
      clear b3
      go_wp2_with fail
      go_ret2
      exact ⟨rfl, HB3.out⟩

set_option maxHeartbeats 1000000 in
theorem specFirstCounter (lo hi : Nat) (z : Int) (ao : Option Addr) (c n : Nat) (fs : List OpD) (lo2 hi2 : Nat) (bo : Option Addr) (d m : Nat) (xs : List Int) (lo3 hi3 : Nat) (co : Option Addr) (d2 m2 : Nat) (ys : List Int) (w : World) (hv : OView w lo hi ao n fs) (hhi : hi ≤ w.heap.size) (hs : ∀ (j : Nat) (f : OpD), fs[j]? = some f → f.2.length ≤ maxLen)
    (hx : IView w lo2 hi2 bo m xs) (hhi2 : hi2 ≤ w.heap.size) (hmd : m ≤ d) (hm : d ≤ maxLen) (hq : ∀ x, x ∈ xs → (Lit.int .i64 x).wf = true)
    (hy : IView w lo3 hi3 co m2 ys) (hhi3 : hi3 ≤ w.heap.size) (hmd2 : m2 ≤ d2) (hm2 : d2 ≤ maxLen) (hq2 : ∀ x, x ∈ ys → (Lit.int .i64 x).wf = true) :
    Calls Try.prog 29 #[.agg #[.int .i64 z, .slice ao n c], .agg #[.slice bo m d, .slice co m2 d2]] w fun e w' => ResL w w' (valFirstCounter z fs xs ys).1 (valFirstCounter z fs xs ys).2 e := by
  have HB := Lib.hid (below_then (below_alloc w (.cells #[.int .i64 z, .slice ao n c] 31)) (below_alloc _ (.cells #[.slice bo m d, .slice co m2 d2] 44)))
  have hgood := fun (W : World) (hb : Below w.heap.size w W) => good_any lo hi z ao c n fs W (hv.kept (Kept.of_below hb hhi)) (Nat.le_trans hhi hb.size) hs
  unfold valFirstCounter ResL
  have hand := ask_and z fs xs ys
  obtain ⟨r, hr⟩ : ∃ r, algOkB z fs = r := ⟨_, rfl⟩
  simp only [hr] at hgood hand
  have HG := Lib.hid hgood
  cases r with
  | false =>
    rw [Bool.false_and] at hand
    simp only [hand, Bool.false_eq_true, if_false]
    clear hv hs hx hq hy hq2 hgood hr hand
    go_enter Try.func29, Try.ntmps29
    go_wp2_with fail
    refine (HG.out _ HB.out).mono ?_
    rintro e w1 ⟨rfl, b1⟩
    have HB1 := Lib.hid (HB.out.trans (b1.mono HB.out.size))
    clear b1
    go_wp2_with fail
    go_ret2
    exact ⟨_, 0, 0, rfl, rfl, own_nil_res HB1.out, HB1.out.alloc HB1.out.size _⟩
  | true =>
    rw [Bool.true_and] at hand
    have hask := fun (W : World) (hb : Below w.heap.size w W) => l3Asked_any lo hi z ao c n fs lo2 hi2 bo d m xs lo3 hi3 co d2 m2 ys W (hv.kept (Kept.of_below hb hhi)) (Nat.le_trans hhi hb.size) hr (hx.kept (Kept.of_below hb hhi2)) (Nat.le_trans hhi2 hb.size) hmd hm (hy.kept (Kept.of_below hb hhi3)) (Nat.le_trans hhi3 hb.size) hmd2 hm2
    rw [← hand] at hask
    obtain ⟨s, hs2⟩ : ∃ s, askB z fs xs ys = s := ⟨_, rfl⟩
    simp only [hs2] at hask ⊢
    have HA := Lib.hid hask
    cases s with
    | false =>
      simp only [Bool.false_eq_true, if_false]
      clear hv hs hx hq hy hq2 hgood hr hand hask hs2
      go_enter Try.func29, Try.ntmps29
      go_wp2_with fail
      refine (HG.out _ HB.out).mono ?_
      rintro e w1 ⟨rfl, b1⟩
      have HB1 := Lib.hid (HB.out.trans (b1.mono HB.out.size))
      have c1 : w1.cell? ⟨w.heap.size, 0, none⟩ = some (.int .i64 z) := cell_b b1 (by go_simp)
      have c2 : w1.cell? ⟨w.heap.size, 1, none⟩ = some (.slice ao n c) := cell_b b1 (by go_simp)
      have c3 : w1.cell? ⟨w.heap.size + 1, 0, none⟩ = some (.slice bo m d) := cell_b b1 (by go_simp)
      have c4 : w1.cell? ⟨w.heap.size + 1, 1, none⟩ = some (.slice co m2 d2) := cell_b b1 (by go_simp)
      clear b1
      go_wp2_with fail
      refine (HA.out _ HB1.out).mono ?_
      rintro e w2 ⟨rfl, b2⟩
      have HB2 := Lib.hid (HB1.out.trans (b2.mono HB1.out.size))
      clear b2
      go_wp2_with fail
      go_ret2
      exact ⟨_, 0, 0, rfl, rfl, own_nil_res HB2.out, HB2.out.alloc HB2.out.size _⟩
    | true =>
      simp only [if_true]
      have HC := Lib.hid (fun (W : World) (hb : Below w.heap.size w W) => l3Counter_any lo hi z ao c n fs lo2 hi2 bo d m xs lo3 hi3 co d2 m2 ys W (hv.kept (Kept.of_below hb hhi)) (Nat.le_trans hhi hb.size) (hx.kept (Kept.of_below hb hhi2)) (Nat.le_trans hhi2 hb.size) hmd hm (hy.kept (Kept.of_below hb hhi3)) (Nat.le_trans hhi3 hb.size) hmd2 hm2 hs2)
      obtain ⟨⟨rs, ok⟩, hR⟩ : ∃ R, cntR z fs xs ys = R := ⟨_, rfl⟩
      simp only [hR] at HC ⊢
      unfold ResL at HC
      clear hv hs hx hq hy hq2 hgood hr hand hask hs2 hR
      go_enter Try.func29, Try.ntmps29
      go_wp2_with fail
      refine (HG.out _ HB.out).mono ?_
      rintro e w1 ⟨rfl, b1⟩
      have HB1 := Lib.hid (HB.out.trans (b1.mono HB.out.size))
      have c1 : w1.cell? ⟨w.heap.size, 0, none⟩ = some (.int .i64 z) := cell_b b1 (by go_simp)
      have c2 : w1.cell? ⟨w.heap.size, 1, none⟩ = some (.slice ao n c) := cell_b b1 (by go_simp)
      have c3 : w1.cell? ⟨w.heap.size + 1, 0, none⟩ = some (.slice bo m d) := cell_b b1 (by go_simp)
      have c4 : w1.cell? ⟨w.heap.size + 1, 1, none⟩ = some (.slice co m2 d2) := cell_b b1 (by go_simp)
      clear b1
      go_wp2_with fail
      refine (HA.out _ HB1.out).mono ?_
      rintro e w2 ⟨rfl, b2⟩
      have HB2 := Lib.hid (HB1.out.trans (b2.mono HB1.out.size))
      have d1 := cell_b b2 c1
      have d2_ := cell_b b2 c2
      have d3 := cell_b b2 c3
      have d4 := cell_b b2 c4
      clear b2
      go_wp2_with fail
      refine (HC.out _ HB2.out).mono ?_
      rintro e w3 ⟨ga, gn, gc, rfl, hgn, ho, b3⟩
      have HO := Lib.hid (OwnsInts.lo_mono ho HB2.out.size)
      have HB3 := Lib.hid (HB2.out.trans (b3.mono HB2.out.size))
      have HGn := Lib.hid hgn
      clear ho b3 hgn
      go_wp2_with fail
      go_ret2
      exact ⟨ga, gn, gc, rfl, HGn.out, HO.out, HB3.out⟩

end Go.Proofs.Yteealelfghimbaa
