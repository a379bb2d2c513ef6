/-
  Contract: spec.ComposeHoms. Conditions: none beyond the views.
-/
import Derived.Test.YtcioekhlhgkkiaaCmpH
import Derived.Test.YtcioekhlhgkkiaaHomA
namespace Go.Proofs.Ytcioekhlhgkkiaa
open Go.RowKit
set_option linter.unusedVariables false
set_option linter.unusedSimpArgs false

theorem three_heap (w : World) (A B C : Array Value) (T : TypeId) :
    (((w.alloc (.cells A T)).alloc (.cells B T)).alloc (.cells C T)).heap[w.heap.size]? = some (.cells A T (0, 0)) ∧ (((w.alloc (.cells A T)).alloc (.cells B T)).alloc (.cells C T)).heap[w.heap.size + 1]? = some (.cells B T (0, 0)) ∧ (((w.alloc (.cells A T)).alloc (.cells B T)).alloc (.cells C T)).heap[w.heap.size + 1 + 1]? = some (.cells C T (0, 0)) := by
  have s1 : (w.alloc (.cells A T)).heap.size = w.heap.size + 1 := by rw [World.size_alloc]
  have s2 : ((w.alloc (.cells A T)).alloc (.cells B T)).heap.size = w.heap.size + 1 + 1 := by rw [World.size_alloc, s1]
  have h1 := heap_alloc_new w (.cells A T)
  have h2 := heap_alloc_new (w.alloc (.cells A T)) (.cells B T)
  have h3 := heap_alloc_new ((w.alloc (.cells A T)).alloc (.cells B T)) (.cells C T)
  rw [s1] at h2
  rw [s2] at h3
  refine ⟨?_, ?_, h3⟩
  · rw [Below.heap_alloc _ _ _ (by rw [s2]; omega), Below.heap_alloc _ _ _ (by rw [s1]; omega)]; exact h1
  · rw [Below.heap_alloc _ _ _ (by rw [s2]; omega)]; exact h2
theorem homB_same {z z1 : Int} {fs gs : List OpD} {xs : List Int} (h : sameH z z1 fs gs = false) : homB z z1 fs gs xs = false := by
  cases hb : homB z z1 fs gs xs with
  | false => rfl
  | true =>
    have := (mapB_of (homB_of hb).1).1
    rw [h] at this; cases this
theorem smallComposeHoms (z : Int) (fs : List OpD) (z1 : Int) (gs : List OpD) (z2 : Int) (hs : List OpD) (xs ys : List Int) : (valComposeHoms z fs z1 gs z2 hs xs ys).1.length ≤ 4194304 := by
  unfold valComposeHoms
  split
  · rename_i h
    rw [Bool.and_eq_true] at h
    obtain ⟨s1, sl, _⟩ := mapB_of (homB_of h.1).1
    obtain ⟨⟨g1, g2⟩, _⟩ := algOkB_of (sameH_of s1).1
    show (xs.map _).length ≤ _
    rw [List.length_map]
    omega
  · exact Nat.zero_le _
set_option maxHeartbeats 4000000 in
set_option maxRecDepth 100000 in
theorem specComposeHoms (lo hi : Nat) (z : Int) (ao : Option Addr) (c n : Nat) (fs : List OpD) (lo2 hi2 : Nat) (z1 : Int) (bo : Option Addr) (d m : Nat) (gs : List OpD) (lo3 hi3 : Nat) (z2 : Int) (co : Option Addr) (e3 k3 : Nat) (hs3 : List OpD) (lo4 hi4 : Nat) (xo : Option Addr) (e4 l : Nat) (xs : List Int) (lo5 hi5 : Nat) (yo : Option Addr) (e5 l2 : Nat) (ys : List Int) (w : World) (hv : OView w lo hi ao n fs) (hhi : hi ≤ w.heap.size) (ht1 : ∀ (j : Nat) (f : OpD), fs[j]? = some f → f.2.length ≤ maxLen) (hu : OView w lo2 hi2 bo m gs) (hhi2 : hi2 ≤ w.heap.size) (ht2 : ∀ (j : Nat) (f : OpD), gs[j]? = some f → f.2.length ≤ maxLen) (hr : OView w lo3 hi3 co k3 hs3) (hhi3 : hi3 ≤ w.heap.size) (ht3 : ∀ (j : Nat) (f : OpD), hs3[j]? = some f → f.2.length ≤ maxLen) (hx : IView w lo4 hi4 xo l xs) (hhi4 : hi4 ≤ w.heap.size) (hl : l ≤ maxLen) (hy : IView w lo5 hi5 yo l2 ys) (hhi5 : hi5 ≤ w.heap.size) (hl2 : l2 ≤ maxLen) :
    Calls Try.prog 29 #[.agg #[.int .i64 z, .slice ao n c], .agg #[.int .i64 z1, .slice bo m d], .agg #[.int .i64 z2, .slice co k3 e3], .slice xo l e4, .slice yo l2 e5] w fun en w' => ResL w w' (valComposeHoms z fs z1 gs z2 hs3 xs ys).1 (valComposeHoms z fs z1 gs z2 hs3 xs ys).2 en := by
  unfold valComposeHoms
  obtain ⟨w1, hw1⟩ : ∃ w1, w1 = ((w.alloc (.cells #[.int .i64 z, .slice ao n c] 31)).alloc (.cells #[.int .i64 z1, .slice bo m d] 31)).alloc (.cells #[.int .i64 z2, .slice co k3 e3] 31) := ⟨_, rfl⟩
  obtain ⟨wb, hwb, hbx, hsz⟩ := bx2_new w z ao n c z1 bo m d 31
  have hbx1 : Bx2 w w1 z ao n c z1 bo m d := by rw [hw1, ← hwb]; exact hbx.below (below_alloc _ _)
  have hC : w1.heap[w.heap.size + 1 + 1]? = some (.cells #[.int .i64 z2, .slice co k3 e3] 31 (0, 0)) := by
    rw [hw1, ← hwb]
    have h := heap_alloc_new wb (.cells #[.int .i64 z2, .slice co k3 e3] 31)
    rw [hsz] at h
    exact h
  have c4_1 : w1.cell? ⟨w.heap.size + 1 + 1, 0, none⟩ = some (.int .i64 z2) := cell_of_row w1 _ 0 _ _ _ hC
  have c5_1 : w1.cell? ⟨w.heap.size + 1 + 1, 1, none⟩ = some (.slice co k3 e3) := cell_of_row w1 _ 1 _ _ _ hC
  have hT1 := fun (W : World) (hW : Below w.heap.size w W) => two_spec lo hi lo2 hi2 z z1 ao bo c n d m fs gs W (hv.kept (Kept.of_below hW hhi)) (Nat.le_trans hhi hW.size) ht1 (hu.kept (Kept.of_below hW hhi2)) (Nat.le_trans hhi2 hW.size) ht2
  have hT2 := fun (W : World) (hW : Below w.heap.size w W) => two_spec lo2 hi2 lo3 hi3 z1 z2 bo co d m e3 k3 gs hs3 W (hu.kept (Kept.of_below hW hhi2)) (Nat.le_trans hhi2 hW.size) ht2 (hr.kept (Kept.of_below hW hhi3)) (Nat.le_trans hhi3 hW.size) ht3
  have hI1 := fun (W : World) (hW : Below w.heap.size w W) => is_spec lo hi z ao c n fs lo2 hi2 z1 bo d m gs lo4 hi4 xo e4 l xs W (hv.kept (Kept.of_below hW hhi)) (Nat.le_trans hhi hW.size) ht1 (hu.kept (Kept.of_below hW hhi2)) (Nat.le_trans hhi2 hW.size) ht2 (hx.kept (Kept.of_below hW hhi4)) (Nat.le_trans hhi4 hW.size) hl
  have hI2 := fun (W : World) (hW : Below w.heap.size w W) => is_spec lo2 hi2 z1 bo d m gs lo3 hi3 z2 co e3 k3 hs3 lo5 hi5 yo e5 l2 ys W (hu.kept (Kept.of_below hW hhi2)) (Nat.le_trans hhi2 hW.size) ht2 (hr.kept (Kept.of_below hW hhi3)) (Nat.le_trans hhi3 hW.size) ht3 (hy.kept (Kept.of_below hW hhi5)) (Nat.le_trans hhi5 hW.size) hl2
  have HB1 := Lib.hid hbx1.bel
  obtain ⟨c0_1, c1_1, c2_1, c3_1, cB⟩ := hbx1
  obtain ⟨t1, s1⟩ : ∃ t, sameH z z1 fs gs = t := ⟨_, rfl⟩
  obtain ⟨t2, s2⟩ : ∃ t, sameH z1 z2 gs hs3 = t := ⟨_, rfl⟩
  obtain ⟨t3, q1⟩ : ∃ t, homB z z1 fs gs xs = t := ⟨_, rfl⟩
  obtain ⟨t4, q2⟩ : ∃ t, homB z1 z2 gs hs3 ys = t := ⟨_, rfl⟩
  simp only [s1] at hT1
  simp only [s2] at hT2
  have HT1 := Lib.hid hT1
  have HT2 := Lib.hid hT2
  clear hT1 hT2 cB hwb hbx hsz hC
  unfold ResL
  cases t1 with
  | false =>
    rw [homB_same s1, if_neg (by simp)]
    clear hI1 hI2
    clear hv hu hr hx hy ht1 ht2 ht3 q1 q2 s1 s2
    go_enter Try.func29, Try.ntmps29
    go_wp2_with fail
    rw [← hw1]
    clear hw1
    go_wp2_with fail
    refine (HT1.out _ HB1.out).mono ?_
    rintro e w2 ⟨rfl, b_⟩
    have HB2 := Lib.hid (HB1.out.trans (b_.mono HB1.out.size))
    have c0_2 : w2.cell? ⟨w.heap.size, 0, none⟩ = some (.int .i64 z) := cell_b b_ c0_1
    have c1_2 : w2.cell? ⟨w.heap.size, 1, none⟩ = some (.slice ao n c) := cell_b b_ c1_1
    have c2_2 : w2.cell? ⟨w.heap.size + 1, 0, none⟩ = some (.int .i64 z1) := cell_b b_ c2_1
    have c3_2 : w2.cell? ⟨w.heap.size + 1, 1, none⟩ = some (.slice bo m d) := cell_b b_ c3_1
    have c4_2 : w2.cell? ⟨w.heap.size + 1 + 1, 0, none⟩ = some (.int .i64 z2) := cell_b b_ c4_1
    have c5_2 : w2.cell? ⟨w.heap.size + 1 + 1, 1, none⟩ = some (.slice co k3 e3) := cell_b b_ c5_1
    clear b_ c0_1 c1_1 c2_1 c3_1 c4_1 c5_1
    go_wp2_with fail
    go_ret2
    exact ⟨_, _, _, rfl, rfl, OwnsInts.of_row (World.ownsRow_lit (base := w.heap.size) (e := 3) (size := 1) w2 #[] 0 HB2.out.size (by decide) rfl), HB2.out.trans ((below_alloc w2 _).mono HB2.out.size)⟩
  | true =>
    cases t2 with
    | false =>
      rw [homB_same s2, if_neg (by simp)]
      clear hI1 hI2
      clear hv hu hr hx hy ht1 ht2 ht3 q1 q2 s1 s2
      go_enter Try.func29, Try.ntmps29
      go_wp2_with fail
      rw [← hw1]
      clear hw1
      go_wp2_with fail
      refine (HT1.out _ HB1.out).mono ?_
      rintro e w2 ⟨rfl, b_⟩
      have HB2 := Lib.hid (HB1.out.trans (b_.mono HB1.out.size))
      have c0_2 : w2.cell? ⟨w.heap.size, 0, none⟩ = some (.int .i64 z) := cell_b b_ c0_1
      have c1_2 : w2.cell? ⟨w.heap.size, 1, none⟩ = some (.slice ao n c) := cell_b b_ c1_1
      have c2_2 : w2.cell? ⟨w.heap.size + 1, 0, none⟩ = some (.int .i64 z1) := cell_b b_ c2_1
      have c3_2 : w2.cell? ⟨w.heap.size + 1, 1, none⟩ = some (.slice bo m d) := cell_b b_ c3_1
      have c4_2 : w2.cell? ⟨w.heap.size + 1 + 1, 0, none⟩ = some (.int .i64 z2) := cell_b b_ c4_1
      have c5_2 : w2.cell? ⟨w.heap.size + 1 + 1, 1, none⟩ = some (.slice co k3 e3) := cell_b b_ c5_1
      clear b_ c0_1 c1_1 c2_1 c3_1 c4_1 c5_1
      go_wp2_with fail
      refine (HT2.out _ HB2.out).mono ?_
      rintro e w3 ⟨rfl, b_⟩
      have HB3 := Lib.hid (HB2.out.trans (b_.mono HB2.out.size))
      have c0_3 : w3.cell? ⟨w.heap.size, 0, none⟩ = some (.int .i64 z) := cell_b b_ c0_2
      have c1_3 : w3.cell? ⟨w.heap.size, 1, none⟩ = some (.slice ao n c) := cell_b b_ c1_2
      have c2_3 : w3.cell? ⟨w.heap.size + 1, 0, none⟩ = some (.int .i64 z1) := cell_b b_ c2_2
      have c3_3 : w3.cell? ⟨w.heap.size + 1, 1, none⟩ = some (.slice bo m d) := cell_b b_ c3_2
      have c4_3 : w3.cell? ⟨w.heap.size + 1 + 1, 0, none⟩ = some (.int .i64 z2) := cell_b b_ c4_2
      have c5_3 : w3.cell? ⟨w.heap.size + 1 + 1, 1, none⟩ = some (.slice co k3 e3) := cell_b b_ c5_2
      clear b_ c0_2 c1_2 c2_2 c3_2 c4_2 c5_2
      go_wp2_with fail
      go_ret2
      exact ⟨_, _, _, rfl, rfl, OwnsInts.of_row (World.ownsRow_lit (base := w.heap.size) (e := 3) (size := 1) w3 #[] 0 HB3.out.size (by decide) rfl), HB3.out.trans ((below_alloc w3 _).mono HB3.out.size)⟩
    | true =>
      have HI1 := Lib.hid (fun W hW => hI1 W hW s1)
      have HI2 := Lib.hid (fun W hW => hI2 W hW s2)
      clear hI1 hI2
      rw [q1] at HI1 ⊢
      rw [q2] at HI2 ⊢
      cases t3 with
      | false =>
        rw [if_neg (by simp)]
        clear hv hu hr hx hy ht1 ht2 ht3 q1 q2 s1 s2
        go_enter Try.func29, Try.ntmps29
        go_wp2_with fail
        rw [← hw1]
        clear hw1
        go_wp2_with fail
        refine (HT1.out _ HB1.out).mono ?_
        rintro e w2 ⟨rfl, b_⟩
        have HB2 := Lib.hid (HB1.out.trans (b_.mono HB1.out.size))
        have c0_2 : w2.cell? ⟨w.heap.size, 0, none⟩ = some (.int .i64 z) := cell_b b_ c0_1
        have c1_2 : w2.cell? ⟨w.heap.size, 1, none⟩ = some (.slice ao n c) := cell_b b_ c1_1
        have c2_2 : w2.cell? ⟨w.heap.size + 1, 0, none⟩ = some (.int .i64 z1) := cell_b b_ c2_1
        have c3_2 : w2.cell? ⟨w.heap.size + 1, 1, none⟩ = some (.slice bo m d) := cell_b b_ c3_1
        have c4_2 : w2.cell? ⟨w.heap.size + 1 + 1, 0, none⟩ = some (.int .i64 z2) := cell_b b_ c4_1
        have c5_2 : w2.cell? ⟨w.heap.size + 1 + 1, 1, none⟩ = some (.slice co k3 e3) := cell_b b_ c5_1
        clear b_ c0_1 c1_1 c2_1 c3_1 c4_1 c5_1
        go_wp2_with fail
        refine (HT2.out _ HB2.out).mono ?_
        rintro e w3 ⟨rfl, b_⟩
        have HB3 := Lib.hid (HB2.out.trans (b_.mono HB2.out.size))
        have c0_3 : w3.cell? ⟨w.heap.size, 0, none⟩ = some (.int .i64 z) := cell_b b_ c0_2
        have c1_3 : w3.cell? ⟨w.heap.size, 1, none⟩ = some (.slice ao n c) := cell_b b_ c1_2
        have c2_3 : w3.cell? ⟨w.heap.size + 1, 0, none⟩ = some (.int .i64 z1) := cell_b b_ c2_2
        have c3_3 : w3.cell? ⟨w.heap.size + 1, 1, none⟩ = some (.slice bo m d) := cell_b b_ c3_2
        have c4_3 : w3.cell? ⟨w.heap.size + 1 + 1, 0, none⟩ = some (.int .i64 z2) := cell_b b_ c4_2
        have c5_3 : w3.cell? ⟨w.heap.size + 1 + 1, 1, none⟩ = some (.slice co k3 e3) := cell_b b_ c5_2
        clear b_ c0_2 c1_2 c2_2 c3_2 c4_2 c5_2
        go_wp2_with fail
        refine (HI1.out _ HB3.out).mono ?_
        rintro e w4 ⟨rfl, b_⟩
        have HB4 := Lib.hid (HB3.out.trans (b_.mono HB3.out.size))
        have c0_4 : w4.cell? ⟨w.heap.size, 0, none⟩ = some (.int .i64 z) := cell_b b_ c0_3
        have c1_4 : w4.cell? ⟨w.heap.size, 1, none⟩ = some (.slice ao n c) := cell_b b_ c1_3
        have c2_4 : w4.cell? ⟨w.heap.size + 1, 0, none⟩ = some (.int .i64 z1) := cell_b b_ c2_3
        have c3_4 : w4.cell? ⟨w.heap.size + 1, 1, none⟩ = some (.slice bo m d) := cell_b b_ c3_3
        have c4_4 : w4.cell? ⟨w.heap.size + 1 + 1, 0, none⟩ = some (.int .i64 z2) := cell_b b_ c4_3
        have c5_4 : w4.cell? ⟨w.heap.size + 1 + 1, 1, none⟩ = some (.slice co k3 e3) := cell_b b_ c5_3
        clear b_ c0_3 c1_3 c2_3 c3_3 c4_3 c5_3
        go_wp2_with fail
        go_ret2
        exact ⟨_, _, _, rfl, rfl, OwnsInts.of_row (World.ownsRow_lit (base := w.heap.size) (e := 3) (size := 1) w4 #[] 0 HB4.out.size (by decide) rfl), HB4.out.trans ((below_alloc w4 _).mono HB4.out.size)⟩
      | true =>
        cases t4 with
        | false =>
          rw [if_neg (by simp)]
          clear hv hu hr hx hy ht1 ht2 ht3 q1 q2 s1 s2
          go_enter Try.func29, Try.ntmps29
          go_wp2_with fail
          rw [← hw1]
          clear hw1
          go_wp2_with fail
          refine (HT1.out _ HB1.out).mono ?_
          rintro e w2 ⟨rfl, b_⟩
          have HB2 := Lib.hid (HB1.out.trans (b_.mono HB1.out.size))
          have c0_2 : w2.cell? ⟨w.heap.size, 0, none⟩ = some (.int .i64 z) := cell_b b_ c0_1
          have c1_2 : w2.cell? ⟨w.heap.size, 1, none⟩ = some (.slice ao n c) := cell_b b_ c1_1
          have c2_2 : w2.cell? ⟨w.heap.size + 1, 0, none⟩ = some (.int .i64 z1) := cell_b b_ c2_1
          have c3_2 : w2.cell? ⟨w.heap.size + 1, 1, none⟩ = some (.slice bo m d) := cell_b b_ c3_1
          have c4_2 : w2.cell? ⟨w.heap.size + 1 + 1, 0, none⟩ = some (.int .i64 z2) := cell_b b_ c4_1
          have c5_2 : w2.cell? ⟨w.heap.size + 1 + 1, 1, none⟩ = some (.slice co k3 e3) := cell_b b_ c5_1
          clear b_ c0_1 c1_1 c2_1 c3_1 c4_1 c5_1
          go_wp2_with fail
          refine (HT2.out _ HB2.out).mono ?_
          rintro e w3 ⟨rfl, b_⟩
          have HB3 := Lib.hid (HB2.out.trans (b_.mono HB2.out.size))
          have c0_3 : w3.cell? ⟨w.heap.size, 0, none⟩ = some (.int .i64 z) := cell_b b_ c0_2
          have c1_3 : w3.cell? ⟨w.heap.size, 1, none⟩ = some (.slice ao n c) := cell_b b_ c1_2
          have c2_3 : w3.cell? ⟨w.heap.size + 1, 0, none⟩ = some (.int .i64 z1) := cell_b b_ c2_2
          have c3_3 : w3.cell? ⟨w.heap.size + 1, 1, none⟩ = some (.slice bo m d) := cell_b b_ c3_2
          have c4_3 : w3.cell? ⟨w.heap.size + 1 + 1, 0, none⟩ = some (.int .i64 z2) := cell_b b_ c4_2
          have c5_3 : w3.cell? ⟨w.heap.size + 1 + 1, 1, none⟩ = some (.slice co k3 e3) := cell_b b_ c5_2
          clear b_ c0_2 c1_2 c2_2 c3_2 c4_2 c5_2
          go_wp2_with fail
          refine (HI1.out _ HB3.out).mono ?_
          rintro e w4 ⟨rfl, b_⟩
          have HB4 := Lib.hid (HB3.out.trans (b_.mono HB3.out.size))
          have c0_4 : w4.cell? ⟨w.heap.size, 0, none⟩ = some (.int .i64 z) := cell_b b_ c0_3
          have c1_4 : w4.cell? ⟨w.heap.size, 1, none⟩ = some (.slice ao n c) := cell_b b_ c1_3
          have c2_4 : w4.cell? ⟨w.heap.size + 1, 0, none⟩ = some (.int .i64 z1) := cell_b b_ c2_3
          have c3_4 : w4.cell? ⟨w.heap.size + 1, 1, none⟩ = some (.slice bo m d) := cell_b b_ c3_3
          have c4_4 : w4.cell? ⟨w.heap.size + 1 + 1, 0, none⟩ = some (.int .i64 z2) := cell_b b_ c4_3
          have c5_4 : w4.cell? ⟨w.heap.size + 1 + 1, 1, none⟩ = some (.slice co k3 e3) := cell_b b_ c5_3
          clear b_ c0_3 c1_3 c2_3 c3_3 c4_3 c5_3
          go_wp2_with fail
          refine (HI2.out _ HB4.out).mono ?_
          rintro e w5 ⟨rfl, b_⟩
          have HB5 := Lib.hid (HB4.out.trans (b_.mono HB4.out.size))
          have c0_5 : w5.cell? ⟨w.heap.size, 0, none⟩ = some (.int .i64 z) := cell_b b_ c0_4
          have c1_5 : w5.cell? ⟨w.heap.size, 1, none⟩ = some (.slice ao n c) := cell_b b_ c1_4
          have c2_5 : w5.cell? ⟨w.heap.size + 1, 0, none⟩ = some (.int .i64 z1) := cell_b b_ c2_4
          have c3_5 : w5.cell? ⟨w.heap.size + 1, 1, none⟩ = some (.slice bo m d) := cell_b b_ c3_4
          have c4_5 : w5.cell? ⟨w.heap.size + 1 + 1, 0, none⟩ = some (.int .i64 z2) := cell_b b_ c4_4
          have c5_5 : w5.cell? ⟨w.heap.size + 1 + 1, 1, none⟩ = some (.slice co k3 e3) := cell_b b_ c5_4
          clear b_ c0_4 c1_4 c2_4 c3_4 c4_4 c5_4
          go_wp2_with fail
          go_ret2
          exact ⟨_, _, _, rfl, rfl, OwnsInts.of_row (World.ownsRow_lit (base := w.heap.size) (e := 3) (size := 1) w5 #[] 0 HB5.out.size (by decide) rfl), HB5.out.trans ((below_alloc w5 _).mono HB5.out.size)⟩
        | true =>
          rw [if_pos (by simp)]
          obtain ⟨_, sl, sa⟩ := mapB_of (homB_of q1).1
          obtain ⟨_, sl2, _⟩ := mapB_of (homB_of q2).1
          obtain ⟨⟨g1, g2⟩, _⟩ := algOkB_of (sameH_of s1).1
          have hlx := hx.1
          have hly := hy.1
          have HI := Lib.hid (fun (W : World) (hW : Below w.heap.size w W) => images_spec lo5 hi5 lo4 hi4 yo xo e5 l2 e4 l ys xs W (hy.kept (Kept.of_below hW hhi5)) (Nat.le_trans hhi5 hW.size) (hx.kept (Kept.of_below hW hhi4)) (Nat.le_trans hhi4 hW.size) (by rw [show (l2 : Int) = z1 by omega]; exact sa) (by omega))
          unfold imgF ListAt at HI
          clear sl sa sl2 g1 g2 hlx hly
          clear hv hu hr hx hy ht1 ht2 ht3 q1 q2 s1 s2
          go_enter Try.func29, Try.ntmps29
          go_wp2_with fail
          rw [← hw1]
          clear hw1
          go_wp2_with fail
          refine (HT1.out _ HB1.out).mono ?_
          rintro e w2 ⟨rfl, b_⟩
          have HB2 := Lib.hid (HB1.out.trans (b_.mono HB1.out.size))
          have c0_2 : w2.cell? ⟨w.heap.size, 0, none⟩ = some (.int .i64 z) := cell_b b_ c0_1
          have c1_2 : w2.cell? ⟨w.heap.size, 1, none⟩ = some (.slice ao n c) := cell_b b_ c1_1
          have c2_2 : w2.cell? ⟨w.heap.size + 1, 0, none⟩ = some (.int .i64 z1) := cell_b b_ c2_1
          have c3_2 : w2.cell? ⟨w.heap.size + 1, 1, none⟩ = some (.slice bo m d) := cell_b b_ c3_1
          have c4_2 : w2.cell? ⟨w.heap.size + 1 + 1, 0, none⟩ = some (.int .i64 z2) := cell_b b_ c4_1
          have c5_2 : w2.cell? ⟨w.heap.size + 1 + 1, 1, none⟩ = some (.slice co k3 e3) := cell_b b_ c5_1
          clear b_ c0_1 c1_1 c2_1 c3_1 c4_1 c5_1
          go_wp2_with fail
          refine (HT2.out _ HB2.out).mono ?_
          rintro e w3 ⟨rfl, b_⟩
          have HB3 := Lib.hid (HB2.out.trans (b_.mono HB2.out.size))
          have c0_3 : w3.cell? ⟨w.heap.size, 0, none⟩ = some (.int .i64 z) := cell_b b_ c0_2
          have c1_3 : w3.cell? ⟨w.heap.size, 1, none⟩ = some (.slice ao n c) := cell_b b_ c1_2
          have c2_3 : w3.cell? ⟨w.heap.size + 1, 0, none⟩ = some (.int .i64 z1) := cell_b b_ c2_2
          have c3_3 : w3.cell? ⟨w.heap.size + 1, 1, none⟩ = some (.slice bo m d) := cell_b b_ c3_2
          have c4_3 : w3.cell? ⟨w.heap.size + 1 + 1, 0, none⟩ = some (.int .i64 z2) := cell_b b_ c4_2
          have c5_3 : w3.cell? ⟨w.heap.size + 1 + 1, 1, none⟩ = some (.slice co k3 e3) := cell_b b_ c5_2
          clear b_ c0_2 c1_2 c2_2 c3_2 c4_2 c5_2
          go_wp2_with fail
          refine (HI1.out _ HB3.out).mono ?_
          rintro e w4 ⟨rfl, b_⟩
          have HB4 := Lib.hid (HB3.out.trans (b_.mono HB3.out.size))
          have c0_4 : w4.cell? ⟨w.heap.size, 0, none⟩ = some (.int .i64 z) := cell_b b_ c0_3
          have c1_4 : w4.cell? ⟨w.heap.size, 1, none⟩ = some (.slice ao n c) := cell_b b_ c1_3
          have c2_4 : w4.cell? ⟨w.heap.size + 1, 0, none⟩ = some (.int .i64 z1) := cell_b b_ c2_3
          have c3_4 : w4.cell? ⟨w.heap.size + 1, 1, none⟩ = some (.slice bo m d) := cell_b b_ c3_3
          have c4_4 : w4.cell? ⟨w.heap.size + 1 + 1, 0, none⟩ = some (.int .i64 z2) := cell_b b_ c4_3
          have c5_4 : w4.cell? ⟨w.heap.size + 1 + 1, 1, none⟩ = some (.slice co k3 e3) := cell_b b_ c5_3
          clear b_ c0_3 c1_3 c2_3 c3_3 c4_3 c5_3
          go_wp2_with fail
          refine (HI2.out _ HB4.out).mono ?_
          rintro e w5 ⟨rfl, b_⟩
          have HB5 := Lib.hid (HB4.out.trans (b_.mono HB4.out.size))
          have c0_5 : w5.cell? ⟨w.heap.size, 0, none⟩ = some (.int .i64 z) := cell_b b_ c0_4
          have c1_5 : w5.cell? ⟨w.heap.size, 1, none⟩ = some (.slice ao n c) := cell_b b_ c1_4
          have c2_5 : w5.cell? ⟨w.heap.size + 1, 0, none⟩ = some (.int .i64 z1) := cell_b b_ c2_4
          have c3_5 : w5.cell? ⟨w.heap.size + 1, 1, none⟩ = some (.slice bo m d) := cell_b b_ c3_4
          have c4_5 : w5.cell? ⟨w.heap.size + 1 + 1, 0, none⟩ = some (.int .i64 z2) := cell_b b_ c4_4
          have c5_5 : w5.cell? ⟨w.heap.size + 1 + 1, 1, none⟩ = some (.slice co k3 e3) := cell_b b_ c5_4
          clear b_ c0_4 c1_4 c2_4 c3_4 c4_4 c5_4
          go_wp2_with fail
          refine (HI.out _ HB5.out).mono ?_
          rintro e w6 ⟨ga, gn, gc, rfl, r1, r2, b6⟩
          have HF := Lib.hid (And.intro r1 (And.intro r2 b6))
          clear r1 r2 b6
          go_wp2_with fail
          go_ret2
          exact ⟨ga, gn, gc, rfl, by have h := HF.out.1; simpa using h, OwnsInts.of_row (ownsRow_base HF.out.2.1 HB5.out.size), HB5.out.trans (HF.out.2.2.mono HB5.out.size)⟩

end Go.Proofs.Ytcioekhlhgkkiaa
