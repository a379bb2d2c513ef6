/-
  Contracts: spec.l7Is, IsHom and HomFault of both sides. Conditions: the bounds that each theorem names.
-/
import Derived.Test.YtcioekhlhgkkiaaHmS
namespace Go.Proofs.Ytcioekhlhgkkiaa
open Go.RowKit
set_option linter.unusedVariables false
set_option linter.unusedSimpArgs false

theorem mapB_no {z z1 : Int} {fs gs : List OpD} (xs : List Int) (h : sameH z z1 fs gs = false) : mapB z z1 fs gs xs = false := by rw [mapB, h]; rfl
theorem mapB_yes {z z1 : Int} {fs gs : List OpD} {xs : List Int} {l : Nat} (hl : xs.length = l) (h : sameH z z1 fs gs = true) : mapB z z1 fs gs xs = (decide ((l : Int) = z) && allIn z1 xs) := by rw [mapB, h, hl]; rfl
theorem homB_no {z z1 : Int} {fs gs : List OpD} {xs : List Int} (h : mapB z z1 fs gs xs = false) : homB z z1 fs gs xs = false := by rw [homB, h]; rfl
theorem homB_yes {z z1 : Int} {fs gs : List OpD} {xs : List Int} (h : mapB z z1 fs gs xs = true) : homB z z1 fs gs xs = !(faultV z z1 fs gs (arrL xs)).isSome := by
  rw [homB, h, Bool.true_and]; cases faultV z z1 fs gs (arrL xs) <;> rfl
def valIsHom (z : Int) (fs : List OpD) (z1 : Int) (gs : List OpD) (xs : List Int) : Bool × Bool := (homB z z1 fs gs xs, sameH z z1 fs gs)
def fltIf (z z1 : Int) (fs gs : List OpD) (xs : List Int) : Option (Nat × Nat) := if mapB z z1 fs gs xs = true then faultV z z1 fs gs (arrL xs) else none
def valHomFault (z : Int) (fs : List OpD) (z1 : Int) (gs : List OpD) (xs : List Int) : (Int × List Int) × Bool := (((fltK (fltIf z z1 fs gs xs) : Int), fltL z fs (fltIf z z1 fs gs xs)), (fltIf z z1 fs gs xs).isSome)

set_option maxHeartbeats 1000000 in
theorem is_spec (lo hi : Nat) (z : Int) (ao : Option Addr) (c n : Nat) (fs : List OpD) (lo2 hi2 : Nat) (z1 : Int) (bo : Option Addr) (d m : Nat) (gs : List OpD) (lo3 hi3 : Nat) (co : Option Addr) (e l : Nat) (xs : List Int) (w : World) (hv : OView w lo hi ao n fs) (hhi : hi ≤ w.heap.size) (hs : ∀ (j : Nat) (f : OpD), fs[j]? = some f → f.2.length ≤ maxLen) (hu : OView w lo2 hi2 bo m gs) (hhi2 : hi2 ≤ w.heap.size) (hs2 : ∀ (j : Nat) (f : OpD), gs[j]? = some f → f.2.length ≤ maxLen) (hx : IView w lo3 hi3 co l xs) (hhi3 : hi3 ≤ w.heap.size) (hl : l ≤ maxLen) (hsm : sameH z z1 fs gs = true) :
    Calls Try.prog 52 #[.agg #[.int .i64 z, .slice ao n c], .agg #[.int .i64 z1, .slice bo m d], .slice co l e] w fun en w' => en = .returned (.bool (homB z z1 fs gs xs)) ∧ Below w.heap.size w w' := by
  obtain ⟨hok, hok2, hty⟩ := sameH_of hsm
  obtain ⟨⟨h1, h2⟩, _⟩ := algOkB_of hok
  obtain ⟨⟨k1, k2⟩, _⟩ := algOkB_of hok2
  have hlx := hx.1
  obtain ⟨w1, hw1, hbx, hsz⟩ := bx2_new w z ao n c z1 bo m d 31
  have HBx := Lib.hid hbx
  have hM := fun (W : World) (hW : Bx2 w W z ao n c z1 bo m d) => map_spec lo3 hi3 z z1 ao bo co c n d m e l xs W (by omega) (by omega) (hx.kept (Kept.of_below hW.bel hhi3)) (Nat.le_trans hhi3 hW.bel.size) hl
  have hF := fun (W : World) (hW : Bx2 w W z ao n c z1 bo m d) => fault_spec lo hi lo2 hi2 lo3 hi3 z z1 ao bo co c n d m e l fs gs xs W (hv.kept (Kept.of_below hW.bel hhi)) (Nat.le_trans hhi hW.bel.size) (hu.kept (Kept.of_below hW.bel hhi2)) (Nat.le_trans hhi2 hW.bel.size) (hx.kept (Kept.of_below hW.bel hhi3)) (Nat.le_trans hhi3 hW.bel.size) hok hok2 hty
  rw [← mapB_yes hlx hsm] at hM
  obtain ⟨cz, ca, cz1, ca1, cB⟩ := hbx
  obtain ⟨t, ht⟩ : ∃ t, mapB z z1 fs gs xs = t := ⟨_, rfl⟩
  rw [ht] at hM
  have HM := Lib.hid hM
  clear hM cB
  cases t with
  | false =>
    rw [homB_no ht]
    clear hv hu hx hs hs2 hF ht hlx hok hok2 hty hsm
    go_enter Try.func52, Try.ntmps52
    go_wp2_with fail
    rw [← hw1]
    clear hw1
    go_wp2_with fail
    refine (HM.out _ HBx.out).mono ?_
    rintro e w2 ⟨rfl, b2⟩
    have HBx2 := Lib.hid (HBx.out.below b2)
    clear b2 cz ca cz1 ca1
    go_wp2_with fail
    go_ret
    exact ⟨rfl, HBx2.out.bel⟩
  | true =>
    rw [homB_yes ht]
    obtain ⟨q1, q2, q3⟩ := mapB_of ht
    have HF := Lib.hid (fun W hW => hF W hW (by rw [← hlx]; exact q2) q3)
    obtain ⟨fl, hfl⟩ : ∃ fl, faultV z z1 fs gs (arrL xs) = fl := ⟨_, rfl⟩
    rw [hfl] at HF ⊢
    obtain ⟨u, hu_⟩ : ∃ u, fl.isSome = u := ⟨_, rfl⟩
    rw [hu_] at HF ⊢
    clear hv hu hx hs hs2 hF ht hlx hok hok2 hty hsm q1 q2 q3 hfl hu_
    go_enter Try.func52, Try.ntmps52
    go_wp2_with fail
    rw [← hw1]
    clear hw1
    go_wp2_with fail
    refine (HM.out _ HBx.out).mono ?_
    rintro e w2 ⟨rfl, b2⟩
    have HBx2 := Lib.hid (HBx.out.below b2)
    clear cz ca cz1 ca1
    obtain ⟨cz, ca, cz1, ca1, cB⟩ := HBx2.out
    clear b2 cB
    go_wp2_with fail
    refine (HF.out _ HBx2.out).mono ?_
    rintro e w3 ⟨fa, fn, fc, rfl, _, _, b3⟩
    have HB3 := Lib.hid (HBx2.out.below b3).bel
    clear b3
    go_wp2_with fail
    go_ret
    exact ⟨rfl, HB3.out⟩

set_option maxHeartbeats 1000000 in
theorem specIsHom (lo hi : Nat) (z : Int) (ao : Option Addr) (c n : Nat) (fs : List OpD) (lo2 hi2 : Nat) (z1 : Int) (bo : Option Addr) (d m : Nat) (gs : List OpD) (lo3 hi3 : Nat) (co : Option Addr) (e l : Nat) (xs : List Int) (w : World) (hv : OView w lo hi ao n fs) (hhi : hi ≤ w.heap.size) (hs : ∀ (j : Nat) (f : OpD), fs[j]? = some f → f.2.length ≤ maxLen) (hu : OView w lo2 hi2 bo m gs) (hhi2 : hi2 ≤ w.heap.size) (hs2 : ∀ (j : Nat) (f : OpD), gs[j]? = some f → f.2.length ≤ maxLen) (hx : IView w lo3 hi3 co l xs) (hhi3 : hi3 ≤ w.heap.size) (hl : l ≤ maxLen) :
    Calls Try.prog 16 #[.agg #[.int .i64 z, .slice ao n c], .agg #[.int .i64 z1, .slice bo m d], .slice co l e] w fun en w' => en = .returned (.tuple #[.bool (valIsHom z fs z1 gs xs).1, .bool (valIsHom z fs z1 gs xs).2]) ∧ Below w.heap.size w w' := by
  unfold valIsHom
  obtain ⟨w1, hw1, hbx, hsz⟩ := bx2_new w z ao n c z1 bo m d 31
  have HBx := Lib.hid hbx
  have hT := fun (W : World) (hW : Bx2 w W z ao n c z1 bo m d) => two_spec lo hi lo2 hi2 z z1 ao bo c n d m fs gs W (hv.kept (Kept.of_below hW.bel hhi)) (Nat.le_trans hhi hW.bel.size) hs (hu.kept (Kept.of_below hW.bel hhi2)) (Nat.le_trans hhi2 hW.bel.size) hs2
  obtain ⟨cz, ca, cz1, ca1, cB⟩ := hbx
  obtain ⟨t, ht⟩ : ∃ t, sameH z z1 fs gs = t := ⟨_, rfl⟩
  rw [ht] at hT ⊢
  have HT := Lib.hid hT
  clear hT cB
  cases t with
  | false =>
    rw [homB_no (mapB_no xs ht)]
    clear hv hu hx hs hs2 ht
    go_enter Try.func16, Try.ntmps16
    go_wp2_with fail
    rw [← hw1]
    clear hw1
    go_wp2_with fail
    refine (HT.out _ HBx.out).mono ?_
    rintro e w2 ⟨rfl, b2⟩
    have HBx2 := Lib.hid (HBx.out.below b2)
    clear b2 cz ca cz1 ca1
    go_wp2_with fail
    go_ret2
    exact ⟨rfl, HBx2.out.bel⟩
  | true =>
    have HI := Lib.hid (fun (W : World) (hW : Bx2 w W z ao n c z1 bo m d) => is_spec lo hi z ao c n fs lo2 hi2 z1 bo d m gs lo3 hi3 co e l xs W (hv.kept (Kept.of_below hW.bel hhi)) (Nat.le_trans hhi hW.bel.size) hs (hu.kept (Kept.of_below hW.bel hhi2)) (Nat.le_trans hhi2 hW.bel.size) hs2 (hx.kept (Kept.of_below hW.bel hhi3)) (Nat.le_trans hhi3 hW.bel.size) hl ht)
    obtain ⟨r, hr⟩ : ∃ r, homB z z1 fs gs xs = r := ⟨_, rfl⟩
    rw [hr] at HI ⊢
    clear hv hu hx hs hs2 ht hr
    go_enter Try.func16, Try.ntmps16
    go_wp2_with fail
    rw [← hw1]
    clear hw1
    go_wp2_with fail
    refine (HT.out _ HBx.out).mono ?_
    rintro e w2 ⟨rfl, b2⟩
    have HBx2 := Lib.hid (HBx.out.below b2)
    clear cz ca cz1 ca1
    obtain ⟨cz, ca, cz1, ca1, cB⟩ := HBx2.out
    clear b2 cB
    go_wp2_with fail
    refine (HI.out _ HBx2.out).mono ?_
    rintro e w3 ⟨rfl, b3⟩
    have HBx3 := Lib.hid (HBx2.out.below b3)
    clear b3 cz ca cz1 ca1
    go_wp2_with fail
    go_ret2
    exact ⟨rfl, HBx3.out.bel⟩

set_option maxHeartbeats 1000000 in
set_option maxRecDepth 100000 in
theorem implIsHom (lo hi : Nat) (z : Int) (ao : Option Addr) (c n : Nat) (fs : List OpD) (lo2 hi2 : Nat) (z1 : Int) (bo : Option Addr) (d m : Nat) (gs : List OpD) (lo3 hi3 : Nat) (co : Option Addr) (e l : Nat) (xs : List Int) (w : World) (hv : OView w lo hi ao n fs) (hhi : hi ≤ w.heap.size) (hs : ∀ (j : Nat) (f : OpD), fs[j]? = some f → f.2.length ≤ maxLen) (hu : OView w lo2 hi2 bo m gs) (hhi2 : hi2 ≤ w.heap.size) (hs2 : ∀ (j : Nat) (f : OpD), gs[j]? = some f → f.2.length ≤ maxLen) (hx : IView w lo3 hi3 co l xs) (hhi3 : hi3 ≤ w.heap.size) (hl : l ≤ maxLen) :
    Calls Try.prog 19 #[.agg #[.int .i64 z, .slice ao n c], .agg #[.int .i64 z1, .slice bo m d], .slice co l e] w fun en w' => en = .returned (.tuple #[.bool (valIsHom z fs z1 gs xs).1, .bool (valIsHom z fs z1 gs xs).2]) ∧ Below w.heap.size w w' := by
  unfold valIsHom
  obtain ⟨w1, hw1, hbx, hsz⟩ := bx2_new w z ao n c z1 bo m d 31
  have HBx := Lib.hid hbx
  have hT := fun (W : World) (hW : Bx2 w W z ao n c z1 bo m d) => implSameType lo hi z ao c n fs lo2 hi2 z1 bo d m gs W (hv.kept (Kept.of_below hW.bel hhi)) (Nat.le_trans hhi hW.bel.size) hs (hu.kept (Kept.of_below hW.bel hhi2)) (Nat.le_trans hhi2 hW.bel.size) hs2
  have HI := Lib.hid (fun (W : World) (hW : Bx2 w W z ao n c z1 bo m d) => hom_any lo hi lo2 hi2 lo3 hi3 z z1 ao bo co c n d m e l fs gs xs W (hv.kept (Kept.of_below hW.bel hhi)) (Nat.le_trans hhi hW.bel.size) hs (hu.kept (Kept.of_below hW.bel hhi2)) (Nat.le_trans hhi2 hW.bel.size) hs2 (hx.kept (Kept.of_below hW.bel hhi3)) (Nat.le_trans hhi3 hW.bel.size) hl)
  obtain ⟨cz, ca, cz1, ca1, cB⟩ := hbx
  obtain ⟨t, ht⟩ : ∃ t, sameH z z1 fs gs = t := ⟨_, rfl⟩
  obtain ⟨t2, ht2⟩ : ∃ t, (valSameType z fs z1 gs).2 = t := ⟨_, rfl⟩
  have ht1 : (valSameType z fs z1 gs).1 = t := ht
  simp only [ht1, ht2] at hT
  rw [ht]
  have HT := Lib.hid hT
  clear hT cB ht1 ht2
  cases t with
  | false =>
    rw [homB_no (mapB_no xs ht)]
    clear hv hu hx hs hs2 ht
    go_enter Try.func19, Try.ntmps19
    go_wp2_with fail
    rw [← hw1]
    clear hw1
    go_wp2_with fail
    refine (HT.out _ HBx.out).mono ?_
    rintro e w2 ⟨rfl, b2⟩
    have HBx2 := Lib.hid (HBx.out.below b2)
    clear b2 cz ca cz1 ca1
    go_wp2_with fail
    go_ret2
    exact ⟨rfl, HBx2.out.bel⟩
  | true =>
    obtain ⟨r, hr⟩ : ∃ r, homB z z1 fs gs xs = r := ⟨_, rfl⟩
    rw [hr] at HI ⊢
    obtain ⟨f, hf⟩ : ∃ f, pmF r xs = f := ⟨_, rfl⟩
    unfold ResPm at HI
    rw [hf] at HI
    clear hv hu hx hs hs2 ht hr hf
    go_enter Try.func19, Try.ntmps19
    go_wp2_with fail
    rw [← hw1]
    clear hw1
    go_wp2_with fail
    refine (HT.out _ HBx.out).mono ?_
    rintro e w2 ⟨rfl, b2⟩
    have HBx2 := Lib.hid (HBx.out.below b2)
    clear cz ca cz1 ca1
    obtain ⟨cz, ca, cz1, ca1, cB⟩ := HBx2.out
    clear b2 cB
    go_wp2_with fail
    refine (HI.out _ HBx2.out).mono ?_
    rintro e w3 ⟨rfl, b3⟩
    have HBx3 := Lib.hid (HBx2.out.below b3)
    clear b3 cz ca cz1 ca1
    have HA3 := Lib.hid (ArrAt.new w3 fun _ => 0)
    have HB4 := Lib.hid (HBx3.out.bel.trans ((new_row w3 f).2.mono HBx3.out.bel.size))
    go_wp2_with (refine st8 (w := w3.alloc (.cells (arrV fun _ => 0) 57)) (f' := f) HA3.out rfl _ _ rfl rfl rfl ?_)
    go_ret2
    exact ⟨rfl, HB4.out⟩

/-- The arguments of a fault, in memory of the call's own. -/
def ResFB (w w' : World) (v : (Int × List Int) × Bool) (e : Ending) : Prop := ResF w w' v.1.1 v.1.2 v.2 e

set_option maxHeartbeats 2000000 in
theorem specHomFault (lo hi : Nat) (z : Int) (ao : Option Addr) (c n : Nat) (fs : List OpD) (lo2 hi2 : Nat) (z1 : Int) (bo : Option Addr) (d m : Nat) (gs : List OpD) (lo3 hi3 : Nat) (co : Option Addr) (e l : Nat) (xs : List Int) (w : World) (hv : OView w lo hi ao n fs) (hhi : hi ≤ w.heap.size) (hs : ∀ (j : Nat) (f : OpD), fs[j]? = some f → f.2.length ≤ maxLen) (hu : OView w lo2 hi2 bo m gs) (hhi2 : hi2 ≤ w.heap.size) (hs2 : ∀ (j : Nat) (f : OpD), gs[j]? = some f → f.2.length ≤ maxLen) (hx : IView w lo3 hi3 co l xs) (hhi3 : hi3 ≤ w.heap.size) (hl : l ≤ maxLen) :
    Calls Try.prog 22 #[.agg #[.int .i64 z, .slice ao n c], .agg #[.int .i64 z1, .slice bo m d], .slice co l e] w fun en w' => ResFB w w' (valHomFault z fs z1 gs xs) en := by
  unfold ResFB valHomFault fltIf
  obtain ⟨w1, hw1, hbx, hsz⟩ := bx2_new w z ao n c z1 bo m d 31
  have HBx := Lib.hid hbx
  have hT := fun (W : World) (hW : Bx2 w W z ao n c z1 bo m d) => two_spec lo hi lo2 hi2 z z1 ao bo c n d m fs gs W (hv.kept (Kept.of_below hW.bel hhi)) (Nat.le_trans hhi hW.bel.size) hs (hu.kept (Kept.of_below hW.bel hhi2)) (Nat.le_trans hhi2 hW.bel.size) hs2
  have hlx := hx.1
  obtain ⟨cz, ca, cz1, ca1, cB⟩ := hbx
  obtain ⟨t, ht⟩ : ∃ t, sameH z z1 fs gs = t := ⟨_, rfl⟩
  rw [ht] at hT
  have HT := Lib.hid hT
  clear hT cB
  cases t with
  | false =>
    rw [if_neg (by rw [mapB_no xs ht]; simp)]
    clear hv hu hx hs hs2 ht hlx
    unfold ResF
    go_enter Try.func22, Try.ntmps22
    go_wp2_with fail
    rw [← hw1]
    clear hw1
    go_wp2_with fail
    refine (HT.out _ HBx.out).mono ?_
    rintro e w2 ⟨rfl, b2⟩
    have HBx2 := Lib.hid (HBx.out.below b2)
    clear b2 cz ca cz1 ca1
    have HOn : Hid ((w2.alloc (.cells #[] 3)).ownsRow w.heap.size 3 1 (.slice (some ⟨w2.heap.size, 0, none⟩) 0 0) 0 (([] : List Int).map (Value.int .i64))) := World.ownsRow_lit (base := w.heap.size) (e := 3) (size := 1) w2 #[] 0 HBx2.out.bel.size (by decide) rfl
    go_wp2_with fail
    go_ret3
    exact ⟨_, _, _, rfl, rfl, OwnsInts.of_row HOn.out, HBx2.out.bel.trans ((below_alloc w2 _).mono HBx2.out.bel.size)⟩
  | true =>
    obtain ⟨hok, hok2, hty⟩ := sameH_of ht
    obtain ⟨⟨h1, h2⟩, _⟩ := algOkB_of hok
    obtain ⟨⟨k1, k2⟩, _⟩ := algOkB_of hok2
    have hM := fun (W : World) (hW : Bx2 w W z ao n c z1 bo m d) => map_spec lo3 hi3 z z1 ao bo co c n d m e l xs W (by omega) (by omega) (hx.kept (Kept.of_below hW.bel hhi3)) (Nat.le_trans hhi3 hW.bel.size) hl
    have hF := fun (W : World) (hW : Bx2 w W z ao n c z1 bo m d) => fault_spec lo hi lo2 hi2 lo3 hi3 z z1 ao bo co c n d m e l fs gs xs W (hv.kept (Kept.of_below hW.bel hhi)) (Nat.le_trans hhi hW.bel.size) (hu.kept (Kept.of_below hW.bel hhi2)) (Nat.le_trans hhi2 hW.bel.size) (hx.kept (Kept.of_below hW.bel hhi3)) (Nat.le_trans hhi3 hW.bel.size) hok hok2 hty
    rw [← mapB_yes hlx ht] at hM
    obtain ⟨r, hr⟩ : ∃ r, mapB z z1 fs gs xs = r := ⟨_, rfl⟩
    rw [hr] at hM ⊢
    have HM := Lib.hid hM
    clear hM
    cases r with
    | false =>
      rw [if_neg (by simp)]
      clear hv hu hx hs hs2 ht hlx hF hr hok hok2 hty
      unfold ResF
      go_enter Try.func22, Try.ntmps22
      go_wp2_with fail
      rw [← hw1]
      clear hw1
      go_wp2_with fail
      refine (HT.out _ HBx.out).mono ?_
      rintro e w2 ⟨rfl, b2⟩
      have HBx2 := Lib.hid (HBx.out.below b2)
      clear cz ca cz1 ca1
      obtain ⟨cz, ca, cz1, ca1, cB⟩ := HBx2.out
      clear b2 cB
      go_wp2_with fail
      refine (HM.out _ HBx2.out).mono ?_
      rintro e w3 ⟨rfl, b3⟩
      have HBx3 := Lib.hid (HBx2.out.below b3)
      clear b3 cz ca cz1 ca1
      have HOn : Hid ((w3.alloc (.cells #[] 3)).ownsRow w.heap.size 3 1 (.slice (some ⟨w3.heap.size, 0, none⟩) 0 0) 0 (([] : List Int).map (Value.int .i64))) := World.ownsRow_lit (base := w.heap.size) (e := 3) (size := 1) w3 #[] 0 HBx3.out.bel.size (by decide) rfl
      go_wp2_with fail
      go_ret3
      exact ⟨_, _, _, rfl, rfl, OwnsInts.of_row HOn.out, HBx3.out.bel.trans ((below_alloc w3 _).mono HBx3.out.bel.size)⟩
    | true =>
      rw [if_pos rfl]
      obtain ⟨q1, q2, q3⟩ := mapB_of hr
      have HF := Lib.hid (fun W hW => hF W hW (by rw [← hlx]; exact q2) q3)
      obtain ⟨fl, hfl⟩ : ∃ fl, faultV z z1 fs gs (arrL xs) = fl := ⟨_, rfl⟩
      rw [hfl] at HF ⊢
      obtain ⟨fk, hfk⟩ : ∃ k : Nat, fltK fl = k := ⟨_, rfl⟩
      obtain ⟨fx, hfx⟩ : ∃ x, fltL z fs fl = x := ⟨_, rfl⟩
      obtain ⟨u, hu_⟩ : ∃ u, fl.isSome = u := ⟨_, rfl⟩
      rw [hfk, hfx, hu_] at HF ⊢
      clear hv hu hx hs hs2 ht hlx hF hr hok hok2 hty q1 q2 q3 hfl hfk hfx hu_
      unfold ResF at HF ⊢
      go_enter Try.func22, Try.ntmps22
      go_wp2_with fail
      rw [← hw1]
      clear hw1
      go_wp2_with fail
      refine (HT.out _ HBx.out).mono ?_
      rintro e w2 ⟨rfl, b2⟩
      have HBx2 := Lib.hid (HBx.out.below b2)
      clear cz ca cz1 ca1
      obtain ⟨cz, ca, cz1, ca1, cB⟩ := HBx2.out
      clear b2 cB
      go_wp2_with fail
      refine (HM.out _ HBx2.out).mono ?_
      rintro e w3 ⟨rfl, b3⟩
      have HBx3 := Lib.hid (HBx2.out.below b3)
      clear cz ca cz1 ca1
      obtain ⟨cz, ca, cz1, ca1, cB⟩ := HBx3.out
      clear b3 cB
      go_wp2_with fail
      refine (HF.out _ HBx3.out).mono ?_
      rintro e w4 ⟨fa, fn, fc, rfl, hfn, ho, b4⟩
      have HO : Hid (OwnsInts w4 w.heap.size w4.heap.size fa fn fc fx) := ⟨ownsRow_base ho.row HBx3.out.bel.size, ho.lt⟩
      have HB4 := Lib.hid (HBx3.out.below b4).bel
      have HFn := Lib.hid hfn
      clear b4 ho hfn
      go_wp2_with fail
      go_ret3
      exact ⟨fa, fn, fc, rfl, HFn.out, HO.out, HB4.out⟩

set_option maxHeartbeats 2000000 in
set_option maxRecDepth 100000 in
theorem implHomFault (lo hi : Nat) (z : Int) (ao : Option Addr) (c n : Nat) (fs : List OpD) (lo2 hi2 : Nat) (z1 : Int) (bo : Option Addr) (d m : Nat) (gs : List OpD) (lo3 hi3 : Nat) (co : Option Addr) (e l : Nat) (xs : List Int) (w : World) (hv : OView w lo hi ao n fs) (hhi : hi ≤ w.heap.size) (hs : ∀ (j : Nat) (f : OpD), fs[j]? = some f → f.2.length ≤ maxLen) (hu : OView w lo2 hi2 bo m gs) (hhi2 : hi2 ≤ w.heap.size) (hs2 : ∀ (j : Nat) (f : OpD), gs[j]? = some f → f.2.length ≤ maxLen) (hx : IView w lo3 hi3 co l xs) (hhi3 : hi3 ≤ w.heap.size) (hl : l ≤ maxLen) :
    Calls Try.prog 23 #[.agg #[.int .i64 z, .slice ao n c], .agg #[.int .i64 z1, .slice bo m d], .slice co l e] w fun en w' => ResFB w w' (valHomFault z fs z1 gs xs) en := by
  unfold ResFB valHomFault fltIf
  obtain ⟨w1, hw1, hbx, hsz⟩ := bx2_new w z ao n c z1 bo m d 31
  have HBx := Lib.hid hbx
  have hI := fun (W : World) (hW : Bx2 w W z ao n c z1 bo m d) => map_any lo hi lo2 hi2 lo3 hi3 z z1 ao bo co c n d m e l fs gs xs W (hv.kept (Kept.of_below hW.bel hhi)) (Nat.le_trans hhi hW.bel.size) hs (hu.kept (Kept.of_below hW.bel hhi2)) (Nat.le_trans hhi2 hW.bel.size) hs2 (hx.kept (Kept.of_below hW.bel hhi3)) (Nat.le_trans hhi3 hW.bel.size) hl
  obtain ⟨cz, ca, cz1, ca1, cB⟩ := hbx
  obtain ⟨t, ht⟩ : ∃ t, mapB z z1 fs gs xs = t := ⟨_, rfl⟩
  obtain ⟨f, hf⟩ : ∃ f, pmF t xs = f := ⟨_, rfl⟩
  simp only [ht, ResPm, hf] at hI
  rw [ht]
  have HI := Lib.hid hI
  have HFx := Lib.hid hf
  clear hI cB hf
  cases t with
  | false =>
    rw [if_neg (by simp)]
    clear hv hu hx hs hs2 ht
    unfold ResF
    go_enter Try.func23, Try.ntmps23
    go_wp2_with fail
    rw [← hw1]
    clear hw1
    go_wp2_with fail
    refine (HI.out _ HBx.out).mono ?_
    rintro e w2 ⟨rfl, b2⟩
    have HBx2 := Lib.hid (HBx.out.below b2)
    clear b2 cz ca cz1 ca1
    have HA3 := Lib.hid (ArrAt.new w2 fun _ => 0)
    have HB4 := Lib.hid (HBx2.out.bel.trans ((new_row w2 f).2.mono HBx2.out.bel.size))
    go_wp2_with (refine st8 (w := w2.alloc (.cells (arrV fun _ => 0) 57)) (f' := f) HA3.out rfl _ _ rfl rfl rfl ?_)
    go_ret3
    exact ⟨_, _, _, rfl, rfl, OwnsInts.of_row (World.ownsRow_nil _ _ _ _), HB4.out⟩
  | true =>
    rw [if_pos rfl]
    obtain ⟨q1, q2, q3⟩ := mapB_of ht
    obtain ⟨hok, hok2, hty⟩ := sameH_of q1
    obtain ⟨⟨h1, h2⟩, _, hall⟩ := algOkB_of hok
    have hfe : f = arrL xs := by rw [← HFx.out, pmF_yes]
    have hfull := full_of q2 q3
    rw [← hfe] at hfull ⊢
    have HF := Lib.hid (fun (W : World) (hW : Bx2 w W z ao n c z1 bo m d) => fault_impl lo hi lo2 hi2 z z1 ao bo c n d m fs gs f W (hv.kept (Kept.of_below hW.bel hhi)) (Nat.le_trans hhi hW.bel.size) hok (hu.kept (Kept.of_below hW.bel hhi2)) (Nat.le_trans hhi2 hW.bel.size) hok2 hty hfull)
    obtain ⟨fl, hfl⟩ : ∃ fl, faultV z z1 fs gs f = fl := ⟨_, rfl⟩
    rw [hfl] at HF ⊢
    unfold fltV at HF
    cases fl with
    | none =>
      have HF2 : Hid (∀ (W : World) (hW : Bx2 w W z ao n c z1 bo m d), Calls Try.prog 60 #[.agg (arrV f), .agg #[.int .i64 z, .slice ao n c], .agg #[.int .i64 z1, .slice bo m d]] W fun e w' => e = .returned (.tuple #[.int .i64 0, .int .i64 0, .bool false]) ∧ Below W.heap.size W w') := HF.out
      clear hv hu hx hs hs2 ht q1 q2 q3 hok hok2 hty hall hfe hfull hfl HF h1 h2
      unfold ResF
      go_enter Try.func23, Try.ntmps23
      go_wp2_with fail
      rw [← hw1]
      clear hw1
      go_wp2_with fail
      refine (HI.out _ HBx.out).mono ?_
      rintro e w2 ⟨rfl, b2⟩
      have HBx2 := Lib.hid (HBx.out.below b2)
      clear b2 cz ca cz1 ca1
      have HA3 := Lib.hid (ArrAt.new w2 fun _ => 0)
      obtain ⟨w3, hw3⟩ : ∃ w3, w3 = (w2.alloc (.cells (arrV fun _ => 0) 57)).setRow w2.heap.size (arrV f) := ⟨_, rfl⟩
      have HA4 : Hid (ArrAt w3 w2.heap.size f) := by unfold Hid; rw [hw3]; exact (new_row w2 f).1
      have HBx4 : Hid (Bx2 w w3 z ao n c z1 bo m d) := by unfold Hid; rw [hw3]; exact HBx2.out.below (new_row w2 f).2
      obtain ⟨cz, ca, cz1, ca1, cB⟩ := HBx4.out
      have HW3 := Lib.hid hw3
      clear hw3 cB
      go_wp2_with (first | (refine st8 (w := w2.alloc (.cells (arrV fun _ => 0) 57)) HA3.out rfl _ _ rfl rfl rfl ?_; rw [← HW3.out]) | (refine ld8 HA4.out rfl _ rfl rfl ?_))
      refine (HF2.out _ HBx4.out).mono ?_
      rintro e w5 ⟨rfl, b5⟩
      have HB5 := Lib.hid (HBx4.out.below b5).bel
      clear b5
      go_wp2_with fail
      go_ret3
      exact ⟨_, _, _, rfl, rfl, OwnsInts.of_row (World.ownsRow_nil _ _ _ _), HB5.out⟩
    | some p =>
      obtain ⟨fk, fx⟩ := p
      obtain ⟨F, hFk, hfx⟩ := faultV_of hfl
      obtain ⟨hm5, hf1, hf3⟩ := place_bd h1 h2 (hall F (List.mem_of_getElem? hFk))
      obtain ⟨r, hr⟩ : ∃ r, F.1.toNat = r := ⟨_, rfl⟩
      rw [hr] at hf1 hf3
      have hfkn : fk < n := by have := (List.getElem?_eq_some_iff.1 hFk).1; have := hv.1; omega
      obtain ⟨b, o, rfl, _, hbh, hc⟩ := hv.at_ (by omega)
      obtain ⟨a, q, c1, c0, _⟩ := hc fk F hFk
      rw [hf1] at c0
      have HC0 := Lib.hid c0
      have hbw : b < w.heap.size := by omega
      have HEo : Hid (fltL z fs (some (fk, fx)) = digs z r (fx : Int)) := by unfold Hid; show digs z (opAt fs fk).1.toNat (fx : Int) = _; rw [opAt_get hFk, hr]
      have HAr := Lib.hid (fun w => argsImpl_any z (fx : Int) r hf3 w h1 h2 (by omega) (by omega))
      have hr3 := hf3
      have hfkn' : (fk : Int) < (n : Int) := by omega
      rw [HEo.out]
      have HF2 : Hid (∀ (W : World) (hW : Bx2 w W z (some ⟨b, o, none⟩) n c z1 bo m d), Calls Try.prog 60 #[.agg (arrV f), .agg #[.int .i64 z, .slice (some ⟨b, o, none⟩) n c], .agg #[.int .i64 z1, .slice bo m d]] W fun e w' => e = .returned (.tuple #[.int .i64 (fk : Int), .int .i64 (fx : Int), .bool true]) ∧ Below W.heap.size W w') := HF.out
      show Calls _ _ _ _ fun en w' => ResF w w' (fk : Int) (digs z r (fx : Int)) true en
      clear hv hu hx hs hs2 ht q1 q2 q3 hok hok2 hty hall hfe hfull hfl HF hc c0 hFk hr hfx hf1 hf3
      unfold ResF
      go_enter Try.func23, Try.ntmps23
      go_wp2_with fail
      rw [← hw1]
      clear hw1
      go_wp2_with fail
      refine (HI.out _ HBx.out).mono ?_
      rintro e w2 ⟨rfl, b2⟩
      have HBx2 := Lib.hid (HBx.out.below b2)
      clear b2 cz ca cz1 ca1
      have HA3 := Lib.hid (ArrAt.new w2 fun _ => 0)
      obtain ⟨w3, hw3⟩ : ∃ w3, w3 = (w2.alloc (.cells (arrV fun _ => 0) 57)).setRow w2.heap.size (arrV f) := ⟨_, rfl⟩
      have HA4 : Hid (ArrAt w3 w2.heap.size f) := by unfold Hid; rw [hw3]; exact (new_row w2 f).1
      have HBx4 : Hid (Bx2 w w3 z (some ⟨b, o, none⟩) n c z1 bo m d) := by unfold Hid; rw [hw3]; exact HBx2.out.below (new_row w2 f).2
      obtain ⟨cz, ca, cz1, ca1, cB⟩ := HBx4.out
      have HW3 := Lib.hid hw3
      clear hw3 cB
      go_wp2_with (first | (refine st8 (w := w2.alloc (.cells (arrV fun _ => 0) 57)) HA3.out rfl _ _ rfl rfl rfl ?_; rw [← HW3.out]) | (refine ld8 HA4.out rfl _ rfl rfl ?_))
      refine (HF2.out _ HBx4.out).mono ?_
      rintro e w5 ⟨rfl, b5⟩
      have HBx5 := Lib.hid (HBx4.out.below b5)
      clear b5 cz ca cz1 ca1
      obtain ⟨cz, ca, cz1, ca1, cB⟩ := HBx5.out
      have e0 : w5.cell? ⟨b, o + fk * 2, none⟩ = some (.int .i64 (r : Int)) := (HBx5.out.bel.cell (p := ⟨b, o + fk * 2, none⟩) hbw).trans HC0.out
      clear cB
      go_wp2_with fail
      refine wp_region_noPanic ?_
      refine wp_region_held_drew (S := fun W => W.cell? ⟨w.heap.size, 0, none⟩ = some (.int .i64 z) ∧ W.cell? ⟨w.heap.size, 1, none⟩ = some (.slice (some ⟨b, o, none⟩) n c) ∧ W.cell? ⟨b, o + fk * 2, none⟩ = some (.int .i64 (r : Int))) (by kernel_rfl) ?_ (fun hHeld => ?_)
      · exact ⟨cz, ca, e0⟩
      refine wpAnyH_take (i := 0) (oi := ⟨_, _, _, _, _, _⟩) (v := ?_) rfl (by kernel_rfl) (by kernel_rfl) (by kernel_rfl) (fun _ _ _ h => h) (Or.inl ⟨rfl, ?_⟩) (by assumption) ?_
      rotate_left 1
      · intro w_ hSw; (try dsimp only at hSw); go_simp; (try with_reducible rfl)
      (try simp only [Act.put, List.setIfInBounds_toArray, List.set_cons_zero, List.set_cons_succ])
      refine wpAnyH_take (i := 1) (oi := ⟨_, _, _, _, _, _⟩) (v := ?_) rfl (by kernel_rfl) (by kernel_rfl) (by kernel_rfl) (fun _ _ _ h => h) (Or.inl ⟨rfl, ?_⟩) (by assumption) ?_
      rotate_left 1
      · intro w_ hSw; (try dsimp only at hSw); go_simp; (try with_reducible rfl)
      (try simp only [Act.put, List.setIfInBounds_toArray, List.set_cons_zero, List.set_cons_succ])
      refine wpAnyH_take (i := 2) (oi := ⟨_, _, _, _, _, _⟩) (v := ?_) rfl (by kernel_rfl) (by kernel_rfl) (by kernel_rfl) (fun _ _ _ h => h) (Or.inl ⟨rfl, ?_⟩) (by assumption) ?_
      rotate_left 1
      · intro w_ hSw; (try dsimp only at hSw); go_simp; (try with_reducible rfl)
      (try simp only [Act.put, List.setIfInBounds_toArray, List.set_cons_zero, List.set_cons_succ])
      refine wpAnyH_take (i := 3) (oi := ⟨_, _, _, _, _, _⟩) (v := ?_) rfl (by kernel_rfl) (by kernel_rfl) (by kernel_rfl) (fun _ _ _ h => h) (Or.inl ⟨rfl, ?_⟩) (by assumption) ?_
      rotate_left 1
      · intro w_ hSw; (try dsimp only at hSw); go_simp; (try with_reducible rfl)
      (try simp only [Act.put, List.setIfInBounds_toArray, List.set_cons_zero, List.set_cons_succ])
      refine wpAnyH_take (i := 4) (oi := ⟨_, _, _, _, _, _⟩) (v := ?_) rfl (by kernel_rfl) (by kernel_rfl) (by kernel_rfl) (fun _ _ _ h => h) (Or.inl ⟨rfl, ?_⟩) (by assumption) ?_
      rotate_left 1
      · intro w_ hSw; (try dsimp only at hSw); go_simp; (try with_reducible rfl)
      (try simp only [Act.put, List.setIfInBounds_toArray, List.set_cons_zero, List.set_cons_succ])
      refine wpAnyH_take (i := 5) (oi := ⟨_, _, _, _, _, _⟩) (v := ?_) rfl (by kernel_rfl) (by kernel_rfl) (by kernel_rfl) (fun _ _ _ h => h) (Or.inl ⟨rfl, ?_⟩) (by assumption) ?_
      rotate_left 1
      · intro w_ hSw; (try dsimp only at hSw); go_simp; (try with_reducible rfl)
      (try simp only [Act.put, List.setIfInBounds_toArray, List.set_cons_zero, List.set_cons_succ])
      refine wpAnyH_take (i := 6) (oi := ⟨_, _, _, _, _, _⟩) (v := ?_) rfl (by kernel_rfl) (by kernel_rfl) (by kernel_rfl) (fun _ _ _ h => h) (Or.inl ⟨rfl, ?_⟩) (by assumption) ?_
      rotate_left 1
      · intro w_ hSw; (try dsimp only at hSw); go_simp; (try with_reducible rfl)
      (try simp only [Act.put, List.setIfInBounds_toArray, List.set_cons_zero, List.set_cons_succ])
      refine wpAnyH_take (i := 7) (oi := ⟨_, _, _, _, _, _⟩) (v := ?_) rfl (by kernel_rfl) (by kernel_rfl) (by kernel_rfl) (fun _ _ _ h => h) (Or.inl ⟨rfl, ?_⟩) (by assumption) ?_
      rotate_left 1
      · intro w_ hSw; (try dsimp only at hSw); go_simp; (try with_reducible rfl)
      (try simp only [Act.put, List.setIfInBounds_toArray, List.set_cons_zero, List.set_cons_succ])
      refine wpAnyH_take (i := 8) (oi := ⟨_, _, _, _, _, _⟩) (v := ?_) rfl (by kernel_rfl) (by kernel_rfl) (by kernel_rfl) (fun _ _ _ h => h) (Or.inl ⟨rfl, ?_⟩) (by assumption) ?_
      rotate_left 1
      · intro w_ hSw; (try dsimp only at hSw); go_simp; (try with_reducible rfl)
      (try simp only [Act.put, List.setIfInBounds_toArray, List.set_cons_zero, List.set_cons_succ])
      refine wpAnyH_take (i := 9) (oi := ⟨_, _, _, _, _, _⟩) (v := ?_) rfl (by kernel_rfl) (by kernel_rfl) (by kernel_rfl) (fun _ _ _ h => h) (Or.inl ⟨rfl, ?_⟩) (by assumption) ?_
      rotate_left 1
      · intro w_ hSw; (try dsimp only at hSw); go_simp; (try with_reducible rfl)
      (try simp only [Act.put, List.setIfInBounds_toArray, List.set_cons_zero, List.set_cons_succ])
      refine wpAnyH_ready (rs := [10]) (by kernel_rfl) (by simp) ?_
      refine AllReadyH.cons (o := ⟨_, _, _, _, _, _⟩) rfl (fun K hK => ?_) AllReadyH.nil
      go_simp
      go_at_call 61
      refine (HAr.out _).mono ?_
      rintro e wA ⟨rfl, hwA⟩
      have bA : Below w5.heap.size w5 wA := by rw [hwA]; exact below_then (below_drew w5) (below_alloc _ _)
      have HO : Hid (OwnsInts wA w.heap.size wA.heap.size (some ⟨w5.heap.size, 0, none⟩) r r (digs z r (fx : Int))) := by
        unfold Hid; rw [hwA]
        exact OwnsInts.of_row (ownsRow_base (digs_own _ z r (fx : Int) hr3) HBx5.out.bel.size)
      have HBA := Lib.hid (HBx5.out.below bA)
      have zA := HBA.out.z0
      have aA := HBA.out.a0
      have eA := cell_b bA e0
      clear hwA bA e0 cz ca cz1 ca1
      go_wp2_with fail
      refine hK.out _ _ ?_ (fun hHeld => ?_)
      · exact ⟨zA, aA, eA⟩
      clear hK K
      (try simp only [Act.put, List.setIfInBounds_toArray, List.set_cons_zero, List.set_cons_succ])
      refine wpAnyH_take (i := 11) (oi := ⟨_, _, _, _, _, _⟩) (v := ?_) rfl (by kernel_rfl) (by kernel_rfl) (by kernel_rfl) (fun _ _ _ h => h) (Or.inl ⟨rfl, ?_⟩) (by assumption) ?_
      rotate_left 1
      · intro w_ hSw; (try dsimp only at hSw); go_simp; (try with_reducible rfl)
      (try simp only [Act.put, List.setIfInBounds_toArray, List.set_cons_zero, List.set_cons_succ])
      refine wpAnyH_take (i := 12) (oi := ⟨_, _, _, _, _, _⟩) (v := ?_) rfl (by kernel_rfl) (by kernel_rfl) (by kernel_rfl) (fun _ _ _ h => h) (Or.inl ⟨rfl, ?_⟩) (by assumption) ?_
      rotate_left 1
      · intro w_ hSw; (try dsimp only at hSw); go_simp; (try with_reducible rfl)
      (try simp only [Act.put, List.setIfInBounds_toArray, List.set_cons_zero, List.set_cons_succ])
      refine wpAnyH_take (i := 13) (oi := ⟨_, _, _, _, _, _⟩) (v := ?_) rfl (by kernel_rfl) (by kernel_rfl) (by kernel_rfl) (fun _ _ _ h => h) (Or.inl ⟨rfl, ?_⟩) (by assumption) ?_
      rotate_left 1
      · intro w_ hSw; (try dsimp only at hSw); go_simp; (try with_reducible rfl)
      (try simp only [Act.put, List.setIfInBounds_toArray, List.set_cons_zero, List.set_cons_succ])
      refine wpAnyH_done (by kernel_rfl) ?_ _
      refine NoPanic.normal ?_
      go_wp2_with fail
      go_ret3
      exact ⟨_, _, _, rfl, (digs_len _ _ _).symm, HO.out, HBA.out.bel⟩

end Go.Proofs.Ytcioekhlhgkkiaa
