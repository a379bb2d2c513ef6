/-
  Contracts: spec.l7Is, IsHom and HomFault of both sides. Conditions: the bounds that each theorem names.
-/
import Derived.Test.YtcmjkfcgekmomaaHmS
namespace Go.Proofs.Ytcmjkfcgekmomaa
open Go.RowKit
set_option linter.unusedVariables false
set_option linter.unusedSimpArgs false

theorem mapB_no {z z1 : Int} {fs gs : List OpD} (xs : List Int) (h : sameH z z1 fs gs = false) : mapB z z1 fs gs xs = false := by rw [mapB, h]; rfl
theorem mapB_yes {z z1 : Int} {fs gs : List OpD} {xs : List Int} {l : Nat} (hl : xs.length = l) (h : sameH z z1 fs gs = true) : mapB z z1 fs gs xs = (decide ((l : Int) = z) && allIn z1 xs) := by rw [mapB, h, hl]; rfl
theorem homB_no {z z1 : Int} {fs gs : List OpD} {xs : List Int} (h : mapB z z1 fs gs xs = false) : homB z z1 fs gs xs = false := by rw [homB, h]; rfl
theorem homB_yes {z z1 : Int} {fs gs : List OpD} {xs : List Int} (h : mapB z z1 fs gs xs = true) : homB z z1 fs gs xs = !(faultV z z1 fs gs (arrL xs)).isSome := by
  rw [homB, h, Bool.true_and]; cases faultV z z1 fs gs (arrL xs) <;> rfl
def valIsHom (z : Int) (fs : List OpD) (z1 : Int) (gs : List OpD) (xs : List Int) : Bool × Bool := (homB z z1 fs gs xs, sameH z z1 fs gs)
def fltIf (z z1 : Int) (fs gs : List OpD) (xs : List Int) : Option (Nat × Nat) := if mapB z z1 fs gs xs = true then faultV z z1 fs gs (arrL xs) else none
def valHomFault (z : Int) (fs : List OpD) (z1 : Int) (gs : List OpD) (xs : List Int) : (Int × List Int) × Bool := (((fltK (fltIf z z1 fs gs xs) : Int), fltL z fs (fltIf z z1 fs gs xs)), (fltIf z z1 fs gs xs).isSome)

set_option maxHeartbeats 1000000 in
theorem is_spec (lo hi : Nat) (z : Int) (ao : Option Addr) (c n : Nat) (fs : List OpD) (lo2 hi2 : Nat) (z1 : Int) (bo : Option Addr) (d m : Nat) (gs : List OpD) (lo3 hi3 : Nat) (co : Option Addr) (e l : Nat) (xs : List Int) (w : World) (hv : OView w lo hi ao n fs) (hhi : hi ≤ w.heap.size) (hs : ∀ (j : Nat) (f : OpD), fs[j]? = some f → f.2.length ≤ maxLen) (hu : OView w lo2 hi2 bo m gs) (hhi2 : hi2 ≤ w.heap.size) (hs2 : ∀ (j : Nat) (f : OpD), gs[j]? = some f → f.2.length ≤ maxLen) (hx : IView w lo3 hi3 co l xs) (hhi3 : hi3 ≤ w.heap.size) (hl : l ≤ maxLen) (hsm : sameH z z1 fs gs = true) :
    Calls Try.prog 50 #[.agg #[.int .i64 z, .slice ao n c], .agg #[.int .i64 z1, .slice bo m d], .slice co l e] w fun en w' => en = .returned (.bool (homB z z1 fs gs xs)) ∧ Below w.heap.size w w' := by
  obtain ⟨hok, hok2, hty⟩ := sameH_of hsm
  obtain ⟨⟨h1, h2⟩, _⟩ := algOkB_of hok
  obtain ⟨⟨k1, k2⟩, _⟩ := algOkB_of hok2
  have hlx := hx.1
  obtain ⟨w1, hw1, hbx, hsz⟩ := bx2_new w z ao n c z1 bo m d 31
  have HBx := Lib.hid hbx
  have hM := fun (W : World) (hW : Bx2 w W z ao n c z1 bo m d) => map_spec lo3 hi3 z z1 ao bo co c n d m e l xs W (by omega) (by omega) (hx.kept (Kept.of_below hW.bel hhi3)) (Nat.le_trans hhi3 hW.bel.size) hl
  have hF := fun (W : World) (hW : Bx2 w W z ao n c z1 bo m d) => fault_spec lo hi lo2 hi2 lo3 hi3 z z1 ao bo co c n d m e l fs gs xs W (hv.kept (Kept.of_below hW.bel hhi)) (Nat.le_trans hhi hW.bel.size) (hu.kept (Kept.of_below hW.bel hhi2)) (Nat.le_trans hhi2 hW.bel.size) (hx.kept (Kept.of_below hW.bel hhi3)) (Nat.le_trans hhi3 hW.bel.size) hok hok2 hty
  rw [← mapB_yes hlx hsm] at hM
  obtain ⟨cz, ca, cz1, ca1, cB⟩ := hbx
  obtain ⟨t, ht⟩ : ∃ t, mapB z z1 fs gs xs = t := ⟨_, rfl⟩
  rw [ht] at hM
  have HM := Lib.hid hM
  clear hM cB
  cases t with
  | false =>
    rw [homB_no ht]
    clear hv hu hx hs hs2 hF ht hlx hok hok2 hty hsm
    go_enter Try.func50, Try.ntmps50
    go_wp2_with fail
    rw [← hw1]
    clear hw1
    go_wp2_with fail
    refine (HM.out _ HBx.out).mono ?_
    rintro e w2 ⟨rfl, b2⟩
    have HBx2 := Lib.hid (HBx.out.below b2)
    clear b2 cz ca cz1 ca1
    go_wp2_with fail
    go_ret
    exact ⟨rfl, HBx2.out.bel⟩
  | true =>
    rw [homB_yes ht]
    obtain ⟨q1, q2, q3⟩ := mapB_of ht
    have HF := Lib.hid (fun W hW => hF W hW (by rw [← hlx]; exact q2) q3)
    obtain ⟨fl, hfl⟩ : ∃ fl, faultV z z1 fs gs (arrL xs) = fl := ⟨_, rfl⟩
    rw [hfl] at HF ⊢
    obtain ⟨u, hu_⟩ : ∃ u, fl.isSome = u := ⟨_, rfl⟩
    rw [hu_] at HF ⊢
    clear hv hu hx hs hs2 hF ht hlx hok hok2 hty hsm q1 q2 q3 hfl hu_
    go_enter Try.func50, Try.ntmps50
    go_wp2_with fail
    rw [← hw1]
    clear hw1
    go_wp2_with fail
    refine (HM.out _ HBx.out).mono ?_
    rintro e w2 ⟨rfl, b2⟩
    have HBx2 := Lib.hid (HBx.out.below b2)
    clear cz ca cz1 ca1
    obtain ⟨cz, ca, cz1, ca1, cB⟩ := HBx2.out
    clear b2 cB
    go_wp2_with fail
    refine (HF.out _ HBx2.out).mono ?_
    rintro e w3 ⟨fa, fn, fc, rfl, _, _, b3⟩
    have HB3 := Lib.hid (HBx2.out.below b3).bel
    clear b3
    go_wp2_with fail
    go_ret
    exact ⟨rfl, HB3.out⟩



/-- The arguments of a fault, in memory of the call's own. -/
def ResFB (w w' : World) (v : (Int × List Int) × Bool) (e : Ending) : Prop := ResF w w' v.1.1 v.1.2 v.2 e



end Go.Proofs.Ytcmjkfcgekmomaa
