/-
  Contracts: spec.l7One, FirstEmbedding, FirstOnto, FirstIso, AreIsomorphic. Conditions: none beyond the views.
-/
import Derived.Test.YtcioekhlhgkkiaaOneI
namespace Go.Proofs.Ytcioekhlhgkkiaa
open Go.RowKit Go.Shelf
set_option linter.unusedVariables false
set_option linter.unusedSimpArgs false

set_option maxHeartbeats 1000000 in
theorem one_spec (lo hi : Nat) (l : Nat) (ao : Option Addr) (c n : Nat) (fs : List OpD) (lo2 hi2 : Nat) (zb : Nat) (bo : Option Addr) (d m : Nat) (gs : List OpD) (into onto : Bool) (w : World) (hv : OView w lo hi ao n fs) (hhi : hi ≤ w.heap.size) (hu : OView w lo2 hi2 bo m gs) (hhi2 : hi2 ≤ w.heap.size) (hok : algOkB (l : Int) fs = true) (hok2 : algOkB (zb : Int) gs = true) (hty : typeV fs = typeV gs) :
    Calls Try.prog 79 #[.agg #[.int .i64 (l : Int), .slice ao n c], .agg #[.int .i64 (zb : Int), .slice bo m d], .bool into, .bool onto] w fun e w' => ResL w w' (oneV (srchS l zb fs gs (leadB into) (wantB l zb onto) 1)).1 (oneV (srchS l zb fs gs (leadB into) (wantB l zb onto) 1)).2 e := by
  obtain ⟨w1, hw1, hbx, hsz⟩ := bx2_new w (l : Int) ao n c (zb : Int) bo m d 31
  have HBx := Lib.hid hbx
  have hI := fun (W : World) (hW : Bx2 w W (l : Int) ao n c (zb : Int) bo m d) => find_spec lo hi lo2 hi2 l zb ao bo c n d m fs gs into onto 1 W (hv.kept (Kept.of_below hW.bel hhi)) (Nat.le_trans hhi hW.bel.size) (hu.kept (Kept.of_below hW.bel hhi2)) (Nat.le_trans hhi2 hW.bel.size) hok hok2 hty (by omega) (by omega)
  have hgd := srch_good l zb fs gs (leadB into) (wantB l zb onto)
  obtain ⟨cz, ca, cz1, ca1, cB⟩ := hbx
  obtain ⟨rs, hrs⟩ : ∃ rs, srchS l zb fs gs (leadB into) (wantB l zb onto) 1 = rs := ⟨_, rfl⟩
  simp only [hrs] at hI hgd
  rw [hrs]
  obtain ⟨t, ms⟩ := rs
  obtain ⟨ok, hok_⟩ : ∃ ok, decide (t ≤ 5000) = ok := ⟨_, rfl⟩
  have HI := Lib.hid hI
  have HGd := Lib.hid hgd
  have HOk := Lib.hid hok_
  clear hI cB hv hu hrs hok_ hgd hok hok2 hty
  unfold ResL
  cases ok with
  | false =>
    have HE : Hid (oneV (t, ms) = ([], false)) := oneV_over (of_decide_eq_false HOk.out) ms
    rw [HE.out]
    go_enter Try.func79, Try.ntmps79
    go_wp2_with fail
    rw [← hw1]
    clear hw1
    go_wp2_with fail
    refine (HI.out _ HBx.out).mono ?_
    rintro e w2 ⟨fa, fc, vals, rfl, f1, f2, f3⟩
    have HB2 := Lib.hid (HBx.out.bel.trans (f3.mono HBx.out.bel.size))
    have hdo : decide (t ≤ 5000) = false := HOk.out
    simp only [hdo]
    clear f1 f2 f3 cz ca cz1 ca1 hdo
    go_wp2_with fail
    have HOn : Hid ((w2.alloc (.cells #[] 3)).ownsRow w.heap.size 3 1 (.slice (some ⟨w2.heap.size, 0, none⟩) 0 0) 0 (([] : List Int).map (Value.int .i64))) := World.ownsRow_lit (base := w.heap.size) (e := 3) (size := 1) w2 #[] 0 HB2.out.size (by decide) rfl
    go_wp2_with fail
    go_ret2
    exact ⟨_, _, _, rfl, rfl, OwnsInts.of_row HOn.out, HB2.out.trans ((below_alloc w2 _).mono HB2.out.size)⟩
  | true =>
    have ht := of_decide_eq_true HOk.out
    cases ms with
    | nil =>
      have HE : Hid (oneV (t, []) = ([], false)) := oneV_no t _ rfl
      rw [HE.out]
      clear ht
      go_enter Try.func79, Try.ntmps79
      go_wp2_with fail
      rw [← hw1]
      clear hw1
      go_wp2_with fail
      refine (HI.out _ HBx.out).mono ?_
      rintro e w2 ⟨fa, fc, vals, rfl, f1, f2, f3⟩
      have HB2 := Lib.hid (HBx.out.bel.trans (f3.mono HBx.out.bel.size))
      have hdo : decide (t ≤ 5000) = true := HOk.out
      simp only [hdo]
      clear f1 f2 f3 cz ca cz1 ca1 hdo
      go_wp2_with fail
      have HOn : Hid ((w2.alloc (.cells #[] 3)).ownsRow w.heap.size 3 1 (.slice (some ⟨w2.heap.size, 0, none⟩) 0 0) 0 (([] : List Int).map (Value.int .i64))) := World.ownsRow_lit (base := w.heap.size) (e := 3) (size := 1) w2 #[] 0 HB2.out.size (by decide) rfl
      go_wp2_with fail
      go_ret2
      exact ⟨_, _, _, rfl, rfl, OwnsInts.of_row HOn.out, HB2.out.trans ((below_alloc w2 _).mono HB2.out.size)⟩
    | cons xs rest =>
      have HE : Hid (oneV (t, xs :: rest) = (xs, true)) := oneV_yes ht rest
      rw [HE.out]
      clear ht
      go_enter Try.func79, Try.ntmps79
      go_wp2_with fail
      rw [← hw1]
      clear hw1
      go_wp2_with fail
      refine (HI.out _ HBx.out).mono ?_
      rintro e w2 ⟨fa, fc, vals, rfl, f1, f2, f3⟩
      have HB2 := Lib.hid (HBx.out.bel.trans (f3.mono HBx.out.bel.size))
      have hdo : decide (t ≤ 5000) = true := HOk.out
      simp only [hdo]
      obtain ⟨g, gd, hv0, hx1, hx2⟩ := f2 0 xs rfl
      have hlen : (t, xs :: rest).2.length = rest.length + 1 := rfl
      rw [hlen] at f1 ⊢
      obtain ⟨g2, cap, hsl⟩ := ownsRow_succ f1
      injection hsl with e1 e2 e3
      subst e1 e3
      clear e2
      have hgd2 := f1.cellAt 0 (by omega)
      rw [hv0] at hgd2
      have HX := Lib.hid (ownsRow_base hx2 HBx.out.bel.size)
      have HX1 := Lib.hid hx1
      have hcl : rest.length + 1 ≤ fc ∧ fc ≤ maxLen := by
        rcases f1.2 with ⟨h1, _⟩ | ⟨_, _, _, h1, _, _, q1, q2, _⟩
        · cases h1
        · cases h1; exact ⟨q1, q2⟩
      obtain ⟨hcl1, hcl2⟩ := hcl
      unfold maxLen at hcl2
      have hr0 : rest.length + 1 = 1 := by
        have := HGd.out.2.1
        have h2 : (t, xs :: rest).2.length = rest.length + 1 := rfl
        omega
      rw [hr0]
      have hcell : w2.cell? ⟨g2, 0, none⟩ = some (.slice (some ⟨g, 0, none⟩) l gd) := hgd2
      clear f1 f2 f3 cz ca cz1 ca1 hdo hv0 hx1 hx2 hgd2 hlen
      go_wp2_with fail
      go_ret2
      exact ⟨_, _, _, rfl, HX1.out.symm, OwnsInts.of_row HX.out, HB2.out⟩

set_option maxHeartbeats 1000000 in
theorem specFirstEmbedding (lo hi : Nat) (z : Int) (ao : Option Addr) (c n : Nat) (fs : List OpD) (lo2 hi2 : Nat) (z1 : Int) (bo : Option Addr) (d m : Nat) (gs : List OpD) (w : World) (hv : OView w lo hi ao n fs) (hhi : hi ≤ w.heap.size) (hs : ∀ (j : Nat) (f : OpD), fs[j]? = some f → f.2.length ≤ maxLen) (hu : OView w lo2 hi2 bo m gs) (hhi2 : hi2 ≤ w.heap.size) (hs2 : ∀ (j : Nat) (f : OpD), gs[j]? = some f → f.2.length ≤ maxLen) :
    Calls Try.prog 42 #[.agg #[.int .i64 z, .slice ao n c], .agg #[.int .i64 z1, .slice bo m d]] w fun e w' => ResL w w' (valFirstEmbedding z fs z1 gs).1 (valFirstEmbedding z fs z1 gs).2 e := by
  obtain ⟨w1, hw1, hbx, hsz⟩ := bx2_new w z ao n c z1 bo m d 31
  have HBx := Lib.hid hbx
  have hT := fun (W : World) (hW : Bx2 w W z ao n c z1 bo m d) => two_spec lo hi lo2 hi2 z z1 ao bo c n d m fs gs W (hv.kept (Kept.of_below hW.bel hhi)) (Nat.le_trans hhi hW.bel.size) hs (hu.kept (Kept.of_below hW.bel hhi2)) (Nat.le_trans hhi2 hW.bel.size) hs2
  obtain ⟨cz, ca, cz1, ca1, cB⟩ := hbx
  obtain ⟨st, hst⟩ : ∃ st, sameH z z1 fs gs = st := ⟨_, rfl⟩
  simp only [hst] at hT
  have HT := Lib.hid hT
  unfold ResL
  clear hT cB
  cases st with
  | false =>
    have HE : Hid (valFirstEmbedding z fs z1 gs = ([], false)) := by
      have hr : runV true false z fs z1 gs = (5001, []) := by unfold runV; rw [hst, if_neg (by simp)]
      unfold Hid valFirstEmbedding; rw [hr]; rfl
    rw [HE.out]
    clear hv hu hs hs2 hst
    go_enter Try.func42, Try.ntmps42
    go_wp2_with fail
    rw [← hw1]
    clear hw1
    go_wp2_with fail
    refine (HT.out _ HBx.out).mono ?_
    rintro e w2 ⟨rfl, b2⟩
    have HBx2 := Lib.hid (HBx.out.below b2)
    clear b2 cz ca cz1 ca1
    have HOn : Hid ((w2.alloc (.cells #[] 3)).ownsRow w.heap.size 3 1 (.slice (some ⟨w2.heap.size, 0, none⟩) 0 0) 0 (([] : List Int).map (Value.int .i64))) := World.ownsRow_lit (base := w.heap.size) (e := 3) (size := 1) w2 #[] 0 HBx2.out.bel.size (by decide) rfl
    go_wp2_with fail
    go_ret2
    exact ⟨_, _, _, rfl, rfl, OwnsInts.of_row HOn.out, HBx2.out.bel.trans ((below_alloc w2 _).mono HBx2.out.bel.size)⟩
  | true =>
    obtain ⟨hok, hok2, hty⟩ := sameH_of hst
    obtain ⟨⟨h1, h2⟩, _⟩ := algOkB_of hok
    obtain ⟨⟨k1, k2⟩, _⟩ := algOkB_of hok2
    have hr : runV true false z fs z1 gs = srchS z.toNat z1.toNat fs gs (leadB true) (wantB z.toNat z1.toNat false) 1 := by unfold runV; rw [hst, if_pos rfl]
    obtain ⟨l, rfl⟩ : ∃ l : Nat, z = (l : Int) := ⟨z.toNat, by omega⟩
    obtain ⟨zb, rfl⟩ : ∃ zb : Nat, z1 = (zb : Int) := ⟨z1.toNat, by omega⟩
    simp only [Int.toNat_natCast] at hr
    have hI := fun (W : World) (hW : Bx2 w W (l : Int) ao n c (zb : Int) bo m d) => one_spec lo hi l ao c n fs lo2 hi2 zb bo d m gs true false W (hv.kept (Kept.of_below hW.bel hhi)) (Nat.le_trans hhi hW.bel.size) (hu.kept (Kept.of_below hW.bel hhi2)) (Nat.le_trans hhi2 hW.bel.size) hok hok2 hty
    obtain ⟨rs, hrs⟩ : ∃ rs, oneV (srchS l zb fs gs (leadB true) (wantB l zb false) 1) = rs := ⟨_, rfl⟩
    simp only [hrs, ResL] at hI
    have HE : Hid (valFirstEmbedding (l : Int) fs (zb : Int) gs = rs) := by unfold Hid valFirstEmbedding; rw [hr, hrs]
    rw [HE.out]
    have HI := Lib.hid hI
    clear hI hv hu hs hs2 hst hok hok2 hty hr hrs h1 h2 k1 k2
    go_enter Try.func42, Try.ntmps42
    go_wp2_with fail
    rw [← hw1]
    clear hw1
    go_wp2_with fail
    refine (HT.out _ HBx.out).mono ?_
    rintro e w2 ⟨rfl, b2⟩
    have HBx2 := Lib.hid (HBx.out.below b2)
    clear b2 cz ca cz1 ca1
    obtain ⟨cz, ca, cz1, ca1, cB⟩ := HBx2.out
    clear cB
    go_wp2_with fail
    refine (HI.out _ HBx2.out).mono ?_
    rintro e w3 ⟨ga, gn, gc, rfl, g1, g2, b3⟩
    have HF := Lib.hid (And.intro g1 (And.intro g2 b3))
    clear g1 g2 b3 cz ca cz1 ca1
    go_wp2_with fail
    go_ret2
    exact ⟨ga, gn, gc, rfl, HF.out.1, OwnsInts.of_row (ownsRow_base HF.out.2.1.row HBx2.out.bel.size), HBx2.out.bel.trans (HF.out.2.2.mono HBx2.out.bel.size)⟩

set_option maxHeartbeats 1000000 in
theorem specFirstOnto (lo hi : Nat) (z : Int) (ao : Option Addr) (c n : Nat) (fs : List OpD) (lo2 hi2 : Nat) (z1 : Int) (bo : Option Addr) (d m : Nat) (gs : List OpD) (w : World) (hv : OView w lo hi ao n fs) (hhi : hi ≤ w.heap.size) (hs : ∀ (j : Nat) (f : OpD), fs[j]? = some f → f.2.length ≤ maxLen) (hu : OView w lo2 hi2 bo m gs) (hhi2 : hi2 ≤ w.heap.size) (hs2 : ∀ (j : Nat) (f : OpD), gs[j]? = some f → f.2.length ≤ maxLen) :
    Calls Try.prog 44 #[.agg #[.int .i64 z, .slice ao n c], .agg #[.int .i64 z1, .slice bo m d]] w fun e w' => ResL w w' (valFirstOnto z fs z1 gs).1 (valFirstOnto z fs z1 gs).2 e := by
  obtain ⟨w1, hw1, hbx, hsz⟩ := bx2_new w z ao n c z1 bo m d 31
  have HBx := Lib.hid hbx
  have hT := fun (W : World) (hW : Bx2 w W z ao n c z1 bo m d) => two_spec lo hi lo2 hi2 z z1 ao bo c n d m fs gs W (hv.kept (Kept.of_below hW.bel hhi)) (Nat.le_trans hhi hW.bel.size) hs (hu.kept (Kept.of_below hW.bel hhi2)) (Nat.le_trans hhi2 hW.bel.size) hs2
  obtain ⟨cz, ca, cz1, ca1, cB⟩ := hbx
  obtain ⟨st, hst⟩ : ∃ st, sameH z z1 fs gs = st := ⟨_, rfl⟩
  simp only [hst] at hT
  have HT := Lib.hid hT
  unfold ResL
  clear hT cB
  cases st with
  | false =>
    have HE : Hid (valFirstOnto z fs z1 gs = ([], false)) := by
      have hr : runV false true z fs z1 gs = (5001, []) := by unfold runV; rw [hst, if_neg (by simp)]
      unfold Hid valFirstOnto; rw [hr]; rfl
    rw [HE.out]
    clear hv hu hs hs2 hst
    go_enter Try.func44, Try.ntmps44
    go_wp2_with fail
    rw [← hw1]
    clear hw1
    go_wp2_with fail
    refine (HT.out _ HBx.out).mono ?_
    rintro e w2 ⟨rfl, b2⟩
    have HBx2 := Lib.hid (HBx.out.below b2)
    clear b2 cz ca cz1 ca1
    have HOn : Hid ((w2.alloc (.cells #[] 3)).ownsRow w.heap.size 3 1 (.slice (some ⟨w2.heap.size, 0, none⟩) 0 0) 0 (([] : List Int).map (Value.int .i64))) := World.ownsRow_lit (base := w.heap.size) (e := 3) (size := 1) w2 #[] 0 HBx2.out.bel.size (by decide) rfl
    go_wp2_with fail
    go_ret2
    exact ⟨_, _, _, rfl, rfl, OwnsInts.of_row HOn.out, HBx2.out.bel.trans ((below_alloc w2 _).mono HBx2.out.bel.size)⟩
  | true =>
    obtain ⟨hok, hok2, hty⟩ := sameH_of hst
    obtain ⟨⟨h1, h2⟩, _⟩ := algOkB_of hok
    obtain ⟨⟨k1, k2⟩, _⟩ := algOkB_of hok2
    have hr : runV false true z fs z1 gs = srchS z.toNat z1.toNat fs gs (leadB false) (wantB z.toNat z1.toNat true) 1 := by unfold runV; rw [hst, if_pos rfl]
    obtain ⟨l, rfl⟩ : ∃ l : Nat, z = (l : Int) := ⟨z.toNat, by omega⟩
    obtain ⟨zb, rfl⟩ : ∃ zb : Nat, z1 = (zb : Int) := ⟨z1.toNat, by omega⟩
    simp only [Int.toNat_natCast] at hr
    have hI := fun (W : World) (hW : Bx2 w W (l : Int) ao n c (zb : Int) bo m d) => one_spec lo hi l ao c n fs lo2 hi2 zb bo d m gs false true W (hv.kept (Kept.of_below hW.bel hhi)) (Nat.le_trans hhi hW.bel.size) (hu.kept (Kept.of_below hW.bel hhi2)) (Nat.le_trans hhi2 hW.bel.size) hok hok2 hty
    obtain ⟨rs, hrs⟩ : ∃ rs, oneV (srchS l zb fs gs (leadB false) (wantB l zb true) 1) = rs := ⟨_, rfl⟩
    simp only [hrs, ResL] at hI
    have HE : Hid (valFirstOnto (l : Int) fs (zb : Int) gs = rs) := by unfold Hid valFirstOnto; rw [hr, hrs]
    rw [HE.out]
    have HI := Lib.hid hI
    clear hI hv hu hs hs2 hst hok hok2 hty hr hrs h1 h2 k1 k2
    go_enter Try.func44, Try.ntmps44
    go_wp2_with fail
    rw [← hw1]
    clear hw1
    go_wp2_with fail
    refine (HT.out _ HBx.out).mono ?_
    rintro e w2 ⟨rfl, b2⟩
    have HBx2 := Lib.hid (HBx.out.below b2)
    clear b2 cz ca cz1 ca1
    obtain ⟨cz, ca, cz1, ca1, cB⟩ := HBx2.out
    clear cB
    go_wp2_with fail
    refine (HI.out _ HBx2.out).mono ?_
    rintro e w3 ⟨ga, gn, gc, rfl, g1, g2, b3⟩
    have HF := Lib.hid (And.intro g1 (And.intro g2 b3))
    clear g1 g2 b3 cz ca cz1 ca1
    go_wp2_with fail
    go_ret2
    exact ⟨ga, gn, gc, rfl, HF.out.1, OwnsInts.of_row (ownsRow_base HF.out.2.1.row HBx2.out.bel.size), HBx2.out.bel.trans (HF.out.2.2.mono HBx2.out.bel.size)⟩

set_option maxHeartbeats 1000000 in
theorem specFirstIso (lo hi : Nat) (z : Int) (ao : Option Addr) (c n : Nat) (fs : List OpD) (lo2 hi2 : Nat) (z1 : Int) (bo : Option Addr) (d m : Nat) (gs : List OpD) (w : World) (hv : OView w lo hi ao n fs) (hhi : hi ≤ w.heap.size) (hs : ∀ (j : Nat) (f : OpD), fs[j]? = some f → f.2.length ≤ maxLen) (hu : OView w lo2 hi2 bo m gs) (hhi2 : hi2 ≤ w.heap.size) (hs2 : ∀ (j : Nat) (f : OpD), gs[j]? = some f → f.2.length ≤ maxLen) :
    Calls Try.prog 46 #[.agg #[.int .i64 z, .slice ao n c], .agg #[.int .i64 z1, .slice bo m d]] w fun e w' => ResL w w' (valFirstIso z fs z1 gs).1 (valFirstIso z fs z1 gs).2 e := by
  obtain ⟨w1, hw1, hbx, hsz⟩ := bx2_new w z ao n c z1 bo m d 31
  have HBx := Lib.hid hbx
  have hT := fun (W : World) (hW : Bx2 w W z ao n c z1 bo m d) => two_spec lo hi lo2 hi2 z z1 ao bo c n d m fs gs W (hv.kept (Kept.of_below hW.bel hhi)) (Nat.le_trans hhi hW.bel.size) hs (hu.kept (Kept.of_below hW.bel hhi2)) (Nat.le_trans hhi2 hW.bel.size) hs2
  obtain ⟨cz, ca, cz1, ca1, cB⟩ := hbx
  obtain ⟨st, hst⟩ : ∃ st, sameH z z1 fs gs = st := ⟨_, rfl⟩
  simp only [hst] at hT
  have HT := Lib.hid hT
  unfold ResL
  clear hT cB
  cases st with
  | false =>
    have HE : Hid (valFirstIso z fs z1 gs = ([], false)) := by
      have hr : runV true false z fs z1 gs = (5001, []) := by unfold runV; rw [hst, if_neg (by simp)]
      unfold Hid valFirstIso; rw [hr]; split <;> rfl
    rw [HE.out]
    clear hv hu hs hs2 hst
    go_enter Try.func46, Try.ntmps46
    go_wp2_with fail
    rw [← hw1]
    clear hw1
    go_wp2_with fail
    refine (HT.out _ HBx.out).mono ?_
    rintro e w2 ⟨rfl, b2⟩
    have HBx2 := Lib.hid (HBx.out.below b2)
    clear b2 cz ca cz1 ca1
    have HOn : Hid ((w2.alloc (.cells #[] 3)).ownsRow w.heap.size 3 1 (.slice (some ⟨w2.heap.size, 0, none⟩) 0 0) 0 (([] : List Int).map (Value.int .i64))) := World.ownsRow_lit (base := w.heap.size) (e := 3) (size := 1) w2 #[] 0 HBx2.out.bel.size (by decide) rfl
    go_wp2_with fail
    go_ret2
    exact ⟨_, _, _, rfl, rfl, OwnsInts.of_row HOn.out, HBx2.out.bel.trans ((below_alloc w2 _).mono HBx2.out.bel.size)⟩
  | true =>
    obtain ⟨hok, hok2, hty⟩ := sameH_of hst
    obtain ⟨⟨h1, h2⟩, _⟩ := algOkB_of hok
    obtain ⟨⟨k1, k2⟩, _⟩ := algOkB_of hok2
    have hr : runV true false z fs z1 gs = srchS z.toNat z1.toNat fs gs (leadB true) (wantB z.toNat z1.toNat false) 1 := by unfold runV; rw [hst, if_pos rfl]
    obtain ⟨l, rfl⟩ : ∃ l : Nat, z = (l : Int) := ⟨z.toNat, by omega⟩
    obtain ⟨zb, rfl⟩ : ∃ zb : Nat, z1 = (zb : Int) := ⟨z1.toNat, by omega⟩
    simp only [Int.toNat_natCast] at hr
    by_cases hzz : (l : Int) = (zb : Int)
    · have hne : ((l : Int) != (zb : Int)) = false := by simp only [hzz]; simp
      have hI := fun (W : World) (hW : Bx2 w W (l : Int) ao n c (zb : Int) bo m d) => one_spec lo hi l ao c n fs lo2 hi2 zb bo d m gs true false W (hv.kept (Kept.of_below hW.bel hhi)) (Nat.le_trans hhi hW.bel.size) (hu.kept (Kept.of_below hW.bel hhi2)) (Nat.le_trans hhi2 hW.bel.size) hok hok2 hty
      obtain ⟨rs, hrs⟩ : ∃ rs, oneV (srchS l zb fs gs (leadB true) (wantB l zb false) 1) = rs := ⟨_, rfl⟩
      simp only [hrs, ResL] at hI
      have HE : Hid (valFirstIso (l : Int) fs (zb : Int) gs = rs) := by unfold Hid valFirstIso; rw [if_pos hzz, hr, hrs]
      rw [HE.out]
      have HI := Lib.hid hI
      clear hI hv hu hs hs2 hst hok hok2 hty hr hrs h1 h2 k1 k2 hzz
      go_enter Try.func46, Try.ntmps46
      go_wp2_with fail
      rw [← hw1]
      clear hw1
      go_wp2_with fail
      refine (HT.out _ HBx.out).mono ?_
      rintro e w2 ⟨rfl, b2⟩
      have HBx2 := Lib.hid (HBx.out.below b2)
      clear b2 cz ca cz1 ca1
      obtain ⟨cz, ca, cz1, ca1, cB⟩ := HBx2.out
      clear cB
      go_wp2_with fail
      refine (HI.out _ HBx2.out).mono ?_
      rintro e w3 ⟨ga, gn, gc, rfl, g1, g2, b3⟩
      have HF := Lib.hid (And.intro g1 (And.intro g2 b3))
      clear g1 g2 b3 cz ca cz1 ca1
      go_wp2_with fail
      go_ret2
      exact ⟨ga, gn, gc, rfl, HF.out.1, OwnsInts.of_row (ownsRow_base HF.out.2.1.row HBx2.out.bel.size), HBx2.out.bel.trans (HF.out.2.2.mono HBx2.out.bel.size)⟩
    · have hne : ((l : Int) != (zb : Int)) = true := by rw [bne_iff_ne]; exact hzz
      have HE : Hid (valFirstIso (l : Int) fs (zb : Int) gs = ([], false)) := by unfold Hid valFirstIso; rw [if_neg hzz]
      rw [HE.out]
      clear hv hu hs hs2 hst hok hok2 hty hr h1 h2 k1 k2 hzz
      go_enter Try.func46, Try.ntmps46
      go_wp2_with fail
      rw [← hw1]
      clear hw1
      go_wp2_with fail
      refine (HT.out _ HBx.out).mono ?_
      rintro e w2 ⟨rfl, b2⟩
      have HBx2 := Lib.hid (HBx.out.below b2)
      clear cz ca cz1 ca1
      obtain ⟨cz, ca, cz1, ca1, cB⟩ := HBx2.out
      clear b2 cB
      have HOn : Hid ((w2.alloc (.cells #[] 3)).ownsRow w.heap.size 3 1 (.slice (some ⟨w2.heap.size, 0, none⟩) 0 0) 0 (([] : List Int).map (Value.int .i64))) := World.ownsRow_lit (base := w.heap.size) (e := 3) (size := 1) w2 #[] 0 HBx2.out.bel.size (by decide) rfl
      go_wp2_with fail
      go_ret2
      exact ⟨_, _, _, rfl, rfl, OwnsInts.of_row HOn.out, HBx2.out.bel.trans ((below_alloc w2 _).mono HBx2.out.bel.size)⟩

set_option maxHeartbeats 1000000 in
theorem specAreIsomorphic (lo hi : Nat) (z : Int) (ao : Option Addr) (c n : Nat) (fs : List OpD) (lo2 hi2 : Nat) (z1 : Int) (bo : Option Addr) (d m : Nat) (gs : List OpD) (w : World) (hv : OView w lo hi ao n fs) (hhi : hi ≤ w.heap.size) (hs : ∀ (j : Nat) (f : OpD), fs[j]? = some f → f.2.length ≤ maxLen) (hu : OView w lo2 hi2 bo m gs) (hhi2 : hi2 ≤ w.heap.size) (hs2 : ∀ (j : Nat) (f : OpD), gs[j]? = some f → f.2.length ≤ maxLen) :
    Calls Try.prog 48 #[.agg #[.int .i64 z, .slice ao n c], .agg #[.int .i64 z1, .slice bo m d]] w fun e w' => e = .returned (.tuple #[.bool (valAreIsomorphic z fs z1 gs).1, .bool (valAreIsomorphic z fs z1 gs).2]) ∧ Below w.heap.size w w' := by
  obtain ⟨w1, hw1, hbx, hsz⟩ := bx2_new w z ao n c z1 bo m d 31
  have HBx := Lib.hid hbx
  have hT := fun (W : World) (hW : Bx2 w W z ao n c z1 bo m d) => two_spec lo hi lo2 hi2 z z1 ao bo c n d m fs gs W (hv.kept (Kept.of_below hW.bel hhi)) (Nat.le_trans hhi hW.bel.size) hs (hu.kept (Kept.of_below hW.bel hhi2)) (Nat.le_trans hhi2 hW.bel.size) hs2
  obtain ⟨cz, ca, cz1, ca1, cB⟩ := hbx
  obtain ⟨st, hst⟩ : ∃ st, sameH z z1 fs gs = st := ⟨_, rfl⟩
  simp only [hst] at hT
  have HT := Lib.hid hT
  obtain ⟨p, hp⟩ : ∃ p, valAreIsomorphic z fs z1 gs = p := ⟨_, rfl⟩
  have HP0 : Hid (valAreIsomorphic z fs z1 gs = p) := hp
  unfold valAreIsomorphic at HP0
  rw [hst] at HP0
  rw [hp]
  clear hT cB hp
  cases st with
  | false =>
    have HE : Hid (p = (false, false)) := by unfold Hid; rw [← HP0.out, if_neg (by simp)]
    clear hv hu hs hs2 hst HP0
    go_enter Try.func48, Try.ntmps48
    go_wp2_with fail
    rw [← hw1]
    clear hw1
    go_wp2_with fail
    refine (HT.out _ HBx.out).mono ?_
    rintro e w2 ⟨rfl, b2⟩
    have HBx2 := Lib.hid (HBx.out.below b2)
    clear b2 cz ca cz1 ca1
    go_wp2_with fail
    go_ret2
    exact ⟨by rw [HE.out]; rfl, HBx2.out.bel⟩
  | true =>
    obtain ⟨hok, hok2, hty⟩ := sameH_of hst
    obtain ⟨⟨h1, h2⟩, _⟩ := algOkB_of hok
    obtain ⟨⟨k1, k2⟩, _⟩ := algOkB_of hok2
    have hr : runV true false z fs z1 gs = srchS z.toNat z1.toNat fs gs (leadB true) (wantB z.toNat z1.toNat false) 1 := by unfold runV; rw [hst, if_pos rfl]
    obtain ⟨l, rfl⟩ : ∃ l : Nat, z = (l : Int) := ⟨z.toNat, by omega⟩
    obtain ⟨zb, rfl⟩ : ∃ zb : Nat, z1 = (zb : Int) := ⟨z1.toNat, by omega⟩
    simp only [Int.toNat_natCast] at hr
    by_cases hzz : (l : Int) = (zb : Int)
    · have hne : ((l : Int) != (zb : Int)) = false := by simp only [hzz]; simp
      have hI := fun (W : World) (hW : Bx2 w W (l : Int) ao n c (zb : Int) bo m d) => find_spec lo hi lo2 hi2 l zb ao bo c n d m fs gs true false 1 W (hv.kept (Kept.of_below hW.bel hhi)) (Nat.le_trans hhi hW.bel.size) (hu.kept (Kept.of_below hW.bel hhi2)) (Nat.le_trans hhi2 hW.bel.size) hok hok2 hty (by omega) (by omega)
      obtain ⟨rs, hrs⟩ : ∃ rs, srchS l zb fs gs (leadB true) (wantB l zb false) 1 = rs := ⟨_, rfl⟩
      simp only [hrs] at hI
      rw [hr, hrs, if_pos rfl, if_pos hzz] at HP0
      obtain ⟨t, ms⟩ := rs
      obtain ⟨ok, hok_⟩ : ∃ ok, decide (t ≤ 5000) = ok := ⟨_, rfl⟩
      have HI := Lib.hid hI
      have HOk := Lib.hid hok_
      clear hI hv hu hs hs2 hst hok hok2 hty hr hrs h1 h2 k1 k2 hzz hok_
      go_enter Try.func48, Try.ntmps48
      go_wp2_with fail
      rw [← hw1]
      clear hw1
      go_wp2_with fail
      refine (HT.out _ HBx.out).mono ?_
      rintro e w2 ⟨rfl, b2⟩
      have HBx2 := Lib.hid (HBx.out.below b2)
      clear b2 cz ca cz1 ca1
      obtain ⟨cz, ca, cz1, ca1, cB⟩ := HBx2.out
      clear cB
      go_wp2_with fail
      refine (HI.out _ HBx2.out).mono ?_
      rintro e w3 ⟨fa, fc, vals, rfl, f1, f2, f3⟩
      have HB3 := Lib.hid (HBx2.out.bel.trans (f3.mono HBx2.out.bel.size))
      have hdo : decide ((t, ms).1 ≤ 5000) = ok := HOk.out
      rw [hdo]
      clear f1 f2 f3 cz ca cz1 ca1 hdo
      cases ok with
      | false =>
        have HE : Hid (p = (false, false)) := by
          unfold Hid; rw [← HP0.out, oneV_over (of_decide_eq_false HOk.out)]
          show (false, decide (t ≤ 5000)) = _
          rw [HOk.out]
        go_wp2_with fail
        go_ret2
        exact ⟨by rw [HE.out]; rfl, HB3.out⟩
      | true =>
        have ht := of_decide_eq_true HOk.out
        cases ms with
        | nil =>
          have HE : Hid (p = (false, true)) := by
            unfold Hid; rw [← HP0.out, oneV_no t _ rfl]
            show (false, decide (t ≤ 5000)) = _
            rw [HOk.out]
          clear ht
          go_wp2_with fail
          go_ret2
          exact ⟨by rw [HE.out]; rfl, HB3.out⟩
        | cons xs rest =>
          have HE : Hid (p = (true, true)) := by
            unfold Hid; rw [← HP0.out, oneV_yes ht]
            show (true, decide (t ≤ 5000)) = _
            rw [HOk.out]
          have hlen : (t, xs :: rest).2.length = rest.length + 1 := rfl
          rw [hlen]
          clear ht hlen
          have hgt : decide (((rest.length + 1 : Nat) : Int) > 0) = true := decide_eq_true (by omega)
          go_wp2_with fail
          go_ret2
          exact ⟨by rw [HE.out]; first | rfl | simp | (simp; omega), HB3.out⟩
    · have hne : ((l : Int) != (zb : Int)) = true := by rw [bne_iff_ne]; exact hzz
      have HE : Hid (p = (false, true)) := by unfold Hid; rw [← HP0.out, if_pos rfl, if_neg hzz]
      clear hv hu hs hs2 hst hok hok2 hty hr h1 h2 k1 k2 hzz HP0
      go_enter Try.func48, Try.ntmps48
      go_wp2_with fail
      rw [← hw1]
      clear hw1
      go_wp2_with fail
      refine (HT.out _ HBx.out).mono ?_
      rintro e w2 ⟨rfl, b2⟩
      have HBx2 := Lib.hid (HBx.out.below b2)
      clear cz ca cz1 ca1
      obtain ⟨cz, ca, cz1, ca1, cB⟩ := HBx2.out
      clear b2 cB
      go_wp2_with fail
      go_ret2
      exact ⟨by rw [HE.out]; rfl, HBx2.out.bel⟩

end Go.Proofs.Ytcioekhlhgkkiaa
