/-
  Contract: impl.ComposeHoms. Conditions: none beyond the views.
-/
import Derived.Test.YtcioekhlhgkkiaaKerI
namespace Go.Proofs.Ytcioekhlhgkkiaa
open Go.RowKit
set_option linter.unusedVariables false
set_option linter.unusedSimpArgs false

def valComposeHoms (z : Int) (fs : List OpD) (z1 : Int) (gs : List OpD) (z2 : Int) (hs : List OpD) (xs ys : List Int) : List Int × Bool :=
  if (homB z z1 fs gs xs && homB z1 z2 gs hs ys) = true then (xs.map fun x => arrL ys x.toNat, true) else ([], false)

def cmpF (f g : Nat → Int) (k : Nat) : Nat → Int := fun i => if i < k then g (f i).toNat else f i
theorem cmpF_zero (f g : Nat → Int) (l : Nat) : lstP l (cmpF f g 0) = lstP l f := by
  unfold lstP cmpF
  exact List.map_congr_left fun i _ => if_neg (Nat.not_lt_zero i)
theorem cmpF_set {f g : Nat → Int} {l k : Nat} (hk : k < l) : (lstP l (cmpF f g k)).set k (g (f k).toNat) = lstP l (cmpF f g (k + 1)) := by
  apply List.ext_getElem?
  intro i
  rw [List.getElem?_set]
  by_cases hi : i < l
  · rw [lstP_get _ hi, lstP_get _ hi]
    by_cases e : k = i
    · subst e
      rw [if_pos rfl, if_pos (by rw [lstP_len]; exact hi)]
      unfold cmpF; rw [if_pos (Nat.lt_succ_self k)]
    · rw [if_neg e]
      unfold cmpF
      by_cases h2 : i < k
      · rw [if_pos h2, if_pos (by omega)]
      · rw [if_neg h2, if_neg (by omega)]
  · have h1 : (lstP l (cmpF f g k))[i]? = none := List.getElem?_eq_none (by rw [lstP_len]; omega)
    have h2 : (lstP l (cmpF f g (k + 1)))[i]? = none := List.getElem?_eq_none (by rw [lstP_len]; omega)
    rw [h2, if_neg (by omega), h1]
theorem cmpF_all {xs : List Int} {g : Nat → Int} {l : Nat} (h : xs.length = l) : lstP l (cmpF (arrL xs) g l) = xs.map fun x => g x.toNat := by
  apply List.ext_getElem?
  intro i
  by_cases hi : i < l
  · have hx : xs[i]? = some (xs[i]'(by omega)) := List.getElem?_eq_getElem (by omega)
    rw [lstP_get _ hi, List.getElem?_map, hx]
    unfold cmpF
    rw [if_pos hi, arrL_get hx]; rfl
  · rw [List.getElem?_eq_none (by rw [lstP_len]; omega), List.getElem?_eq_none (by simp; omega)]

set_option maxHeartbeats 4000000 in
set_option maxRecDepth 100000 in
theorem implComposeHoms (lo hi : Nat) (z : Int) (ao : Option Addr) (c n : Nat) (fs : List OpD) (lo2 hi2 : Nat) (z1 : Int) (bo : Option Addr) (d m : Nat) (gs : List OpD) (lo3 hi3 : Nat) (z2 : Int) (co : Option Addr) (e3 k3 : Nat) (hs3 : List OpD) (lo4 hi4 : Nat) (xo : Option Addr) (e4 l : Nat) (xs : List Int) (lo5 hi5 : Nat) (yo : Option Addr) (e5 l2 : Nat) (ys : List Int) (w : World) (hv : OView w lo hi ao n fs) (hhi : hi ≤ w.heap.size) (ht1 : ∀ (j : Nat) (f : OpD), fs[j]? = some f → f.2.length ≤ maxLen) (hu : OView w lo2 hi2 bo m gs) (hhi2 : hi2 ≤ w.heap.size) (ht2 : ∀ (j : Nat) (f : OpD), gs[j]? = some f → f.2.length ≤ maxLen) (hr : OView w lo3 hi3 co k3 hs3) (hhi3 : hi3 ≤ w.heap.size) (ht3 : ∀ (j : Nat) (f : OpD), hs3[j]? = some f → f.2.length ≤ maxLen) (hx : IView w lo4 hi4 xo l xs) (hhi4 : hi4 ≤ w.heap.size) (hl : l ≤ maxLen) (hy : IView w lo5 hi5 yo l2 ys) (hhi5 : hi5 ≤ w.heap.size) (hl2 : l2 ≤ maxLen) :
    Calls Try.prog 30 #[.agg #[.int .i64 z, .slice ao n c], .agg #[.int .i64 z1, .slice bo m d], .agg #[.int .i64 z2, .slice co k3 e3], .slice xo l e4, .slice yo l2 e5] w fun en w' => ResL w w' (valComposeHoms z fs z1 gs z2 hs3 xs ys).1 (valComposeHoms z fs z1 gs z2 hs3 xs ys).2 en := by
  unfold valComposeHoms
  obtain ⟨w1, hw1⟩ : ∃ w1, w1 = ((w.alloc (.cells #[.int .i64 z, .slice ao n c] 31)).alloc (.cells #[.int .i64 z1, .slice bo m d] 31)).alloc (.cells #[.int .i64 z2, .slice co k3 e3] 31) := ⟨_, rfl⟩
  obtain ⟨wb, hwb, hbx, hsz⟩ := bx2_new w z ao n c z1 bo m d 31
  have hbx1 : Bx2 w w1 z ao n c z1 bo m d := by rw [hw1, ← hwb]; exact hbx.below (below_alloc _ _)
  have hC : w1.heap[w.heap.size + 1 + 1]? = some (.cells #[.int .i64 z2, .slice co k3 e3] 31 (0, 0)) := by
    rw [hw1, ← hwb]
    have h := heap_alloc_new wb (.cells #[.int .i64 z2, .slice co k3 e3] 31)
    rw [hsz] at h
    exact h
  have cz2 : w1.cell? ⟨w.heap.size + 1 + 1, 0, none⟩ = some (.int .i64 z2) := cell_of_row w1 _ 0 _ _ _ hC
  have ca2 : w1.cell? ⟨w.heap.size + 1 + 1, 1, none⟩ = some (.slice co k3 e3) := cell_of_row w1 _ 1 _ _ _ hC
  have hI1 := fun (W : World) (hW : Below w.heap.size w W) => hom_any lo hi lo2 hi2 lo4 hi4 z z1 ao bo xo c n d m e4 l fs gs xs W (hv.kept (Kept.of_below hW hhi)) (Nat.le_trans hhi hW.size) ht1 (hu.kept (Kept.of_below hW hhi2)) (Nat.le_trans hhi2 hW.size) ht2 (hx.kept (Kept.of_below hW hhi4)) (Nat.le_trans hhi4 hW.size) hl
  have hI2 := fun (W : World) (hW : Below w.heap.size w W) => hom_any lo2 hi2 lo3 hi3 lo5 hi5 z1 z2 bo co yo d m e3 k3 e5 l2 gs hs3 ys W (hu.kept (Kept.of_below hW hhi2)) (Nat.le_trans hhi2 hW.size) ht2 (hr.kept (Kept.of_below hW hhi3)) (Nat.le_trans hhi3 hW.size) ht3 (hy.kept (Kept.of_below hW hhi5)) (Nat.le_trans hhi5 hW.size) hl2
  have HB1 := Lib.hid hbx1.bel
  obtain ⟨cz, ca, cz1, ca1, cB⟩ := hbx1
  obtain ⟨t1, q1⟩ : ∃ t, homB z z1 fs gs xs = t := ⟨_, rfl⟩
  obtain ⟨t2, q2⟩ : ∃ t, homB z1 z2 gs hs3 ys = t := ⟨_, rfl⟩
  obtain ⟨f1, p1⟩ : ∃ f, pmF t1 xs = f := ⟨_, rfl⟩
  obtain ⟨f2, p2⟩ : ∃ f, pmF t2 ys = f := ⟨_, rfl⟩
  simp only [q1, ResPm, p1] at hI1
  simp only [q2, ResPm, p2] at hI2
  rw [q1, q2]
  have HI1 := Lib.hid hI1
  have HI2 := Lib.hid hI2
  clear hI1 hI2 cB hwb hbx hsz hC
  unfold ResL
  cases t1 with
  | false =>
    rw [if_neg (by simp)]
    clear hv hu hr hx hy ht1 ht2 ht3 q1 q2 p1 p2
    go_enter Try.func30, Try.ntmps30
    go_wp2_with fail
    rw [← hw1]
    clear hw1
    go_wp2_with fail
    refine (HI1.out _ HB1.out).mono ?_
    rintro e w2 ⟨rfl, b2⟩
    have HA3 := Lib.hid (ArrAt.new w2 fun _ => 0)
    have hb3 : Below w1.heap.size w1 ((w2.alloc (.cells (arrV fun _ => 0) 57)).setRow w2.heap.size (arrV f1)) := b2.trans ((new_row w2 f1).2.mono b2.size)
    have HB3 := Lib.hid (HB1.out.trans (hb3.mono HB1.out.size))
    have HF3 : Hid (ArrAt ((w2.alloc (.cells (arrV fun _ => 0) 57)).setRow w2.heap.size (arrV f1)) w2.heap.size f1) := (new_row w2 f1).1
    have d0 : ((w2.alloc (.cells (arrV fun _ => 0) 57)).setRow w2.heap.size (arrV f1)).cell? ⟨w.heap.size, 0, none⟩ = some (.int .i64 z) := cell_b hb3 cz
    have d1 : ((w2.alloc (.cells (arrV fun _ => 0) 57)).setRow w2.heap.size (arrV f1)).cell? ⟨w.heap.size + 1, 0, none⟩ = some (.int .i64 z1) := cell_b hb3 cz1
    have d2 : ((w2.alloc (.cells (arrV fun _ => 0) 57)).setRow w2.heap.size (arrV f1)).cell? ⟨w.heap.size + 1, 1, none⟩ = some (.slice bo m d) := cell_b hb3 ca1
    have d3 : ((w2.alloc (.cells (arrV fun _ => 0) 57)).setRow w2.heap.size (arrV f1)).cell? ⟨w.heap.size + 1 + 1, 0, none⟩ = some (.int .i64 z2) := cell_b hb3 cz2
    have d4 : ((w2.alloc (.cells (arrV fun _ => 0) 57)).setRow w2.heap.size (arrV f1)).cell? ⟨w.heap.size + 1 + 1, 1, none⟩ = some (.slice co k3 e3) := cell_b hb3 ca2
    clear b2 cz ca cz1 ca1 cz2 ca2 hb3
    go_wp2_with (refine st8 (w := w2.alloc (.cells (arrV fun _ => 0) 57)) (f' := f1) HA3.out rfl _ _ rfl rfl rfl ?_)
    refine (HI2.out _ HB3.out).mono ?_
    rintro e w4 ⟨rfl, b4⟩
    have HA5 := Lib.hid (ArrAt.new w4 fun _ => 0)
    have hb5 : Below ((w2.alloc (.cells (arrV fun _ => 0) 57)).setRow w2.heap.size (arrV f1)).heap.size ((w2.alloc (.cells (arrV fun _ => 0) 57)).setRow w2.heap.size (arrV f1)) ((w4.alloc (.cells (arrV fun _ => 0) 57)).setRow w4.heap.size (arrV f2)) := b4.trans ((new_row w4 f2).2.mono b4.size)
    have HB5 := Lib.hid (HB3.out.trans (hb5.mono HB3.out.size))
    have HF5 : Hid (ArrAt ((w4.alloc (.cells (arrV fun _ => 0) 57)).setRow w4.heap.size (arrV f2)) w4.heap.size f2) := (new_row w4 f2).1
    have HG5 : Hid (ArrAt ((w4.alloc (.cells (arrV fun _ => 0) 57)).setRow w4.heap.size (arrV f2)) w2.heap.size f1) := HF3.out.below hb5 HF3.out.lt
    have g0 : ((w4.alloc (.cells (arrV fun _ => 0) 57)).setRow w4.heap.size (arrV f2)).cell? ⟨w.heap.size, 0, none⟩ = some (.int .i64 z) := cell_b hb5 d0
    clear b4 d0 d1 d2 d3 d4 hb5
    go_wp2_with (refine st8 (w := w4.alloc (.cells (arrV fun _ => 0) 57)) (f' := f2) HA5.out rfl _ _ rfl rfl rfl ?_)
    go_ret2
    exact ⟨_, _, _, rfl, rfl, OwnsInts.of_row (World.ownsRow_nil _ _ _ _), HB5.out⟩
  | true =>
    cases t2 with
    | false =>
      rw [if_neg (by simp)]
      clear hv hu hr hx hy ht1 ht2 ht3 q1 q2 p1 p2
      go_enter Try.func30, Try.ntmps30
      go_wp2_with fail
      rw [← hw1]
      clear hw1
      go_wp2_with fail
      refine (HI1.out _ HB1.out).mono ?_
      rintro e w2 ⟨rfl, b2⟩
      have HA3 := Lib.hid (ArrAt.new w2 fun _ => 0)
      have hb3 : Below w1.heap.size w1 ((w2.alloc (.cells (arrV fun _ => 0) 57)).setRow w2.heap.size (arrV f1)) := b2.trans ((new_row w2 f1).2.mono b2.size)
      have HB3 := Lib.hid (HB1.out.trans (hb3.mono HB1.out.size))
      have HF3 : Hid (ArrAt ((w2.alloc (.cells (arrV fun _ => 0) 57)).setRow w2.heap.size (arrV f1)) w2.heap.size f1) := (new_row w2 f1).1
      have d0 : ((w2.alloc (.cells (arrV fun _ => 0) 57)).setRow w2.heap.size (arrV f1)).cell? ⟨w.heap.size, 0, none⟩ = some (.int .i64 z) := cell_b hb3 cz
      have d1 : ((w2.alloc (.cells (arrV fun _ => 0) 57)).setRow w2.heap.size (arrV f1)).cell? ⟨w.heap.size + 1, 0, none⟩ = some (.int .i64 z1) := cell_b hb3 cz1
      have d2 : ((w2.alloc (.cells (arrV fun _ => 0) 57)).setRow w2.heap.size (arrV f1)).cell? ⟨w.heap.size + 1, 1, none⟩ = some (.slice bo m d) := cell_b hb3 ca1
      have d3 : ((w2.alloc (.cells (arrV fun _ => 0) 57)).setRow w2.heap.size (arrV f1)).cell? ⟨w.heap.size + 1 + 1, 0, none⟩ = some (.int .i64 z2) := cell_b hb3 cz2
      have d4 : ((w2.alloc (.cells (arrV fun _ => 0) 57)).setRow w2.heap.size (arrV f1)).cell? ⟨w.heap.size + 1 + 1, 1, none⟩ = some (.slice co k3 e3) := cell_b hb3 ca2
      clear b2 cz ca cz1 ca1 cz2 ca2 hb3
      go_wp2_with (refine st8 (w := w2.alloc (.cells (arrV fun _ => 0) 57)) (f' := f1) HA3.out rfl _ _ rfl rfl rfl ?_)
      refine (HI2.out _ HB3.out).mono ?_
      rintro e w4 ⟨rfl, b4⟩
      have HA5 := Lib.hid (ArrAt.new w4 fun _ => 0)
      have hb5 : Below ((w2.alloc (.cells (arrV fun _ => 0) 57)).setRow w2.heap.size (arrV f1)).heap.size ((w2.alloc (.cells (arrV fun _ => 0) 57)).setRow w2.heap.size (arrV f1)) ((w4.alloc (.cells (arrV fun _ => 0) 57)).setRow w4.heap.size (arrV f2)) := b4.trans ((new_row w4 f2).2.mono b4.size)
      have HB5 := Lib.hid (HB3.out.trans (hb5.mono HB3.out.size))
      have HF5 : Hid (ArrAt ((w4.alloc (.cells (arrV fun _ => 0) 57)).setRow w4.heap.size (arrV f2)) w4.heap.size f2) := (new_row w4 f2).1
      have HG5 : Hid (ArrAt ((w4.alloc (.cells (arrV fun _ => 0) 57)).setRow w4.heap.size (arrV f2)) w2.heap.size f1) := HF3.out.below hb5 HF3.out.lt
      have g0 : ((w4.alloc (.cells (arrV fun _ => 0) 57)).setRow w4.heap.size (arrV f2)).cell? ⟨w.heap.size, 0, none⟩ = some (.int .i64 z) := cell_b hb5 d0
      clear b4 d0 d1 d2 d3 d4 hb5
      go_wp2_with (refine st8 (w := w4.alloc (.cells (arrV fun _ => 0) 57)) (f' := f2) HA5.out rfl _ _ rfl rfl rfl ?_)
      go_ret2
      exact ⟨_, _, _, rfl, rfl, OwnsInts.of_row (World.ownsRow_nil _ _ _ _), HB5.out⟩
    | true =>
      rw [if_pos (by simp)]
      obtain ⟨r1, _⟩ := homB_of q1
      obtain ⟨s1, sl, sa⟩ := mapB_of r1
      obtain ⟨o1, o2, _⟩ := sameH_of s1
      obtain ⟨⟨h1, h2⟩, _⟩ := algOkB_of o1
      obtain ⟨⟨k1, k2⟩, _⟩ := algOkB_of o2
      have hlx := hx.1
      obtain rfl : z = (l : Int) := by omega
      have hf1 : f1 = arrL xs := by rw [← p1, pmF_yes]
      have hf2 : f2 = arrL ys := by rw [← p2, pmF_yes]
      have HImg : Hid (∀ k, k < l → 0 ≤ f1 k ∧ f1 k < 8) := fun k hk => by
        have hx' : xs[k]? = some (xs[k]'(by omega)) := List.getElem?_eq_getElem (by omega)
        have h := allIn_get sa hx'
        rw [hf1, arrL_get hx']
        exact ⟨h.1, by omega⟩
      have HM := Lib.hid (fun W => listM_any f1 l W (by omega) (by omega))
      unfold NewInts at HM
      have HAll : Hid (lstP l (cmpF f1 f2 l) = xs.map fun x => arrL ys x.toNat) := by unfold Hid; rw [hf1, hf2]; exact cmpF_all hlx
      have hlen : (xs.map fun x => arrL ys x.toNat).length = l := by rw [List.length_map]; exact hlx
      have HLen := Lib.hid hlen
      have HLx := Lib.hid hlx
      have hl8 : l ≤ 8 := by omega
      clear hv hu hr hx hy ht1 ht2 ht3 q1 q2 p1 p2 r1 s1 sl sa o1 o2 hlx hf1 hf2 hlen h1 h2 k1 k2
      go_enter Try.func30, Try.ntmps30
      go_wp2_with fail
      rw [← hw1]
      clear hw1
      go_wp2_with fail
      refine (HI1.out _ HB1.out).mono ?_
      rintro e w2 ⟨rfl, b2⟩
      have HA3 := Lib.hid (ArrAt.new w2 fun _ => 0)
      have hb3 : Below w1.heap.size w1 ((w2.alloc (.cells (arrV fun _ => 0) 57)).setRow w2.heap.size (arrV f1)) := b2.trans ((new_row w2 f1).2.mono b2.size)
      have HB3 := Lib.hid (HB1.out.trans (hb3.mono HB1.out.size))
      have HF3 : Hid (ArrAt ((w2.alloc (.cells (arrV fun _ => 0) 57)).setRow w2.heap.size (arrV f1)) w2.heap.size f1) := (new_row w2 f1).1
      have d0 : ((w2.alloc (.cells (arrV fun _ => 0) 57)).setRow w2.heap.size (arrV f1)).cell? ⟨w.heap.size, 0, none⟩ = some (.int .i64 (l : Int)) := cell_b hb3 cz
      have d1 : ((w2.alloc (.cells (arrV fun _ => 0) 57)).setRow w2.heap.size (arrV f1)).cell? ⟨w.heap.size + 1, 0, none⟩ = some (.int .i64 z1) := cell_b hb3 cz1
      have d2 : ((w2.alloc (.cells (arrV fun _ => 0) 57)).setRow w2.heap.size (arrV f1)).cell? ⟨w.heap.size + 1, 1, none⟩ = some (.slice bo m d) := cell_b hb3 ca1
      have d3 : ((w2.alloc (.cells (arrV fun _ => 0) 57)).setRow w2.heap.size (arrV f1)).cell? ⟨w.heap.size + 1 + 1, 0, none⟩ = some (.int .i64 z2) := cell_b hb3 cz2
      have d4 : ((w2.alloc (.cells (arrV fun _ => 0) 57)).setRow w2.heap.size (arrV f1)).cell? ⟨w.heap.size + 1 + 1, 1, none⟩ = some (.slice co k3 e3) := cell_b hb3 ca2
      clear b2 cz ca cz1 ca1 cz2 ca2 hb3
      go_wp2_with (refine st8 (w := w2.alloc (.cells (arrV fun _ => 0) 57)) (f' := f1) HA3.out rfl _ _ rfl rfl rfl ?_)
      refine (HI2.out _ HB3.out).mono ?_
      rintro e w4 ⟨rfl, b4⟩
      have HA5 := Lib.hid (ArrAt.new w4 fun _ => 0)
      have hb5 : Below ((w2.alloc (.cells (arrV fun _ => 0) 57)).setRow w2.heap.size (arrV f1)).heap.size ((w2.alloc (.cells (arrV fun _ => 0) 57)).setRow w2.heap.size (arrV f1)) ((w4.alloc (.cells (arrV fun _ => 0) 57)).setRow w4.heap.size (arrV f2)) := b4.trans ((new_row w4 f2).2.mono b4.size)
      have HB5 := Lib.hid (HB3.out.trans (hb5.mono HB3.out.size))
      have HF5 : Hid (ArrAt ((w4.alloc (.cells (arrV fun _ => 0) 57)).setRow w4.heap.size (arrV f2)) w4.heap.size f2) := (new_row w4 f2).1
      have HG5 : Hid (ArrAt ((w4.alloc (.cells (arrV fun _ => 0) 57)).setRow w4.heap.size (arrV f2)) w2.heap.size f1) := HF3.out.below hb5 HF3.out.lt
      have g0 : ((w4.alloc (.cells (arrV fun _ => 0) 57)).setRow w4.heap.size (arrV f2)).cell? ⟨w.heap.size, 0, none⟩ = some (.int .i64 (l : Int)) := cell_b hb5 d0
      clear b4 d0 d1 d2 d3 d4 hb5
      go_wp2_with (first | (refine st8 (w := w4.alloc (.cells (arrV fun _ => 0) 57)) (f' := f2) HA5.out rfl _ _ rfl rfl rfl ?_) | (refine ld8 HG5.out rfl _ rfl rfl ?_) | fail)
      refine (HM.out _).mono ?_
      rintro e w6 ⟨g, dd, rfl, ho6, b6⟩
      have gne : w4.heap.size ≠ g := by have e1 := (ho6.lt g rfl).1; have e2 := HF5.out.lt; omega
      have gw : w.heap.size ≤ g := Nat.le_trans HB5.out.size (ho6.lt g rfl).1
      have hcap : l ≤ dd ∧ dd ≤ maxLen := by
        rcases ho6.2 with ⟨e1, _⟩ | ⟨_, _, _, e1, _, _, q1, q2, _⟩
        · cases e1
        · cases e1; exact ⟨q1, q2⟩
      obtain ⟨hcap, _⟩ := hcap
      have HR6 : Hid (w6.ownsRow w.heap.size 3 1 (.slice (some ⟨g, 0, none⟩) l dd) l ((lstP l (cmpF f1 f2 0)).map (Value.int .i64))) := by unfold Hid; rw [cmpF_zero]; exact ownsRow_base ho6 HB5.out.size
      have HF6 : Hid (ArrAt w6 w4.heap.size f2) := HF5.out.below b6 HF5.out.lt
      have HB6 : Hid (Below w.heap.size w w6) := HB5.out.trans (b6.mono HB5.out.size)
      clear ho6 b6 g0
      go_wp2_with fail
      go_loopw [45] (fun i wr => ∃ k : Nat, k ≤ l ∧ i = .int .i64 (k : Int) ∧ Hid (wr.ownsRow w.heap.size 3 1 (.slice (some ⟨g, 0, none⟩) l dd) l ((lstP l (cmpF f1 f2 k)).map (Value.int .i64))) ∧ Hid (ArrAt wr w4.heap.size f2) ∧ Hid (Below w.heap.size w wr)) (fun i _ => l - (intOf i).toNat)
      case atStart => exact ⟨0, Nat.zero_le _, rfl, HR6, HF6, HB6⟩
      case round =>
        obtain ⟨k, hk, rfl, HR, HF, HB⟩ := hrel
        by_cases hlt : k < l
        · have hkl : (k : Int) < (l : Int) := by omega
          obtain ⟨y0, y1⟩ := HImg.out k hlt
          have e1 : wr.cell? ⟨g, k, none⟩ = some (.int .i64 (f1 k)) := by
            rw [HR.out.cellAt k (by omega), List.getElem?_map, lstP_get _ hlt]
            unfold cmpF
            rw [if_neg (Nat.lt_irrefl k)]; rfl
          obtain ⟨yn, hyn⟩ : ∃ yn : Nat, f1 k = (yn : Int) := ⟨(f1 k).toNat, by omega⟩
          have e2 : wr.cell? ⟨w4.heap.size, yn, none⟩ = some (.int .i64 (f2 yn)) := HF.out.cell (by omega)
          have hfr : wr.frozen? ⟨g, k, none⟩ = false := HR.out.frozenAt k
          have hst := HR.out.stored k (.int .i64 (f2 yn))
          have hset : ((lstP l (cmpF f1 f2 k)).map (Value.int .i64)).set k (.int .i64 (f2 yn)) = (lstP l (cmpF f1 f2 (k + 1))).map (Value.int .i64) := by
            rw [← cmpF_set hlt, hyn, Int.toNat_natCast, List.map_set]
          rw [hset] at hst
          have HST := Lib.hid hst.1
          have HFn : Hid (ArrAt (wr.setCell ⟨g, k, none⟩ (.int .i64 (f2 yn))) w4.heap.size f2) := HF.out.setOther gne k _
          have HBn := Lib.hid (HB.out.setCell (p := ⟨g, k, none⟩) gw (.int .i64 (f2 yn)))
          have hy8 : (yn : Int) < 8 := by omega
          rw [hyn] at e1
          clear y0 y1 hyn hst hset
          go_wp2_with fail
          go_roundw
          case rel => exact ⟨k + 1, by omega, by go_num, HST, HFn, HBn⟩
          case measure => simp [intOf]; omega
        · have hkl : ¬ (k : Int) < (l : Int) := by omega
          obtain rfl : k = l := by omega
          go_wp2_with fail
          go_ret2
          exact ⟨_, _, _, rfl, by first | exact HLx.out.symm | exact HLen.out.symm, by rw [← HAll.out]; exact OwnsInts.of_row HR.out, HB.out⟩

end Go.Proofs.Ytcioekhlhgkkiaa
