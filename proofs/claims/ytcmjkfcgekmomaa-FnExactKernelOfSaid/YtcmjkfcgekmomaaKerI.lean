/-
  Contracts: the methods list and images of impl.partialMap, impl.KernelOf, ImageOf, InverseIso. Conditions: the bounds that each theorem names.
-/
import Derived.Test.YtcmjkfcgekmomaaKerM
import Derived.Test.YtcmjkfcgekmomaaClone
import Derived.Test.YtcmjkfcgekmomaaPlc
import Derived.Test.YtcmjkfcgekmomaaPvI
import Derived.Test.YtcmjkfcgekmomaaPermC
namespace Go.Proofs.Ytcmjkfcgekmomaa
open Go.RowKit
set_option linter.unusedVariables false
set_option linter.unusedSimpArgs false

theorem arr_view {w : World} {g n : Nat} {f : Nat → Int} (h : ArrAt w g f) (hn : n ≤ 8) : IView w g (g + 1) (some ⟨g, 0, none⟩) n (lstP n f) :=
  ⟨lstP_len n f, .inr ⟨g, 0, rfl, Nat.le_refl _, by omega, fun j x hx => by
    have hj : j < n := by have := (List.getElem?_eq_some_iff.1 hx).1; rw [lstP_len] at this; exact this
    rw [lstP_get f hj] at hx
    rw [Nat.zero_add, h.cell (by omega)]
    simpa using hx⟩⟩



set_option maxHeartbeats 2000000 in
set_option maxRecDepth 100000 in
theorem implKernelOf (lo hi : Nat) (z : Int) (ao : Option Addr) (c n : Nat) (fs : List OpD) (lo2 hi2 : Nat) (z1 : Int) (bo : Option Addr) (d m : Nat) (gs : List OpD) (lo3 hi3 : Nat) (co : Option Addr) (e_ l : Nat) (xs : List Int) (w : World) (hv : OView w lo hi ao n fs) (hhi : hi ≤ w.heap.size) (hs : ∀ (j : Nat) (f : OpD), fs[j]? = some f → f.2.length ≤ maxLen) (hu : OView w lo2 hi2 bo m gs) (hhi2 : hi2 ≤ w.heap.size) (hs2 : ∀ (j : Nat) (f : OpD), gs[j]? = some f → f.2.length ≤ maxLen) (hx : IView w lo3 hi3 co l xs) (hhi3 : hi3 ≤ w.heap.size) (hl : l ≤ maxLen) :
    Calls Try.prog 19 #[.agg #[.int .i64 z, .slice ao n c], .agg #[.int .i64 z1, .slice bo m d], .slice co l e_] w fun en w' => ResL w w' (valKernelOf z fs z1 gs xs).1 (valKernelOf z fs z1 gs xs).2 en := by
  unfold valKernelOf
  obtain ⟨w1, hw1, hbx, hsz⟩ := bx2_new w z ao n c z1 bo m d 31
  have HBx := Lib.hid hbx
  have hI := fun (W : World) (hW : Bx2 w W z ao n c z1 bo m d) => hom_any lo hi lo2 hi2 lo3 hi3 z z1 ao bo co c n d m e_ l fs gs xs W (hv.kept (Kept.of_below hW.bel hhi)) (Nat.le_trans hhi hW.bel.size) hs (hu.kept (Kept.of_below hW.bel hhi2)) (Nat.le_trans hhi2 hW.bel.size) hs2 (hx.kept (Kept.of_below hW.bel hhi3)) (Nat.le_trans hhi3 hW.bel.size) hl
  obtain ⟨cz, ca, cz1, ca1, cB⟩ := hbx
  obtain ⟨t, ht⟩ : ∃ t, homB z z1 fs gs xs = t := ⟨_, rfl⟩
  obtain ⟨f, hf⟩ : ∃ f, pmF t xs = f := ⟨_, rfl⟩
  simp only [ht, ResPm, hf] at hI
  rw [ht]
  have HI := Lib.hid hI
  have HFx := Lib.hid hf
  clear hI cB hf
  cases t with
  | false =>
    rw [if_neg (by simp)]
    clear hv hu hx hs hs2 ht
    unfold ResL
    go_enter Try.func19, Try.ntmps19
    go_wp2_with fail
    rw [← hw1]
    clear hw1
    go_wp2_with fail
    refine (HI.out _ HBx.out).mono ?_
    rintro e w2 ⟨rfl, b2⟩
    have HBx2 := Lib.hid (HBx.out.below b2)
    clear b2 cz ca cz1 ca1
    have HA3 := Lib.hid (ArrAt.new w2 fun _ => 0)
    have HB4 := Lib.hid (HBx2.out.bel.trans ((new_row w2 f).2.mono HBx2.out.bel.size))
    go_wp2_with (refine st8 (w := w2.alloc (.cells (arrV fun _ => 0) 53)) (f' := f) HA3.out rfl _ _ rfl rfl rfl ?_)
    go_ret2
    exact ⟨_, _, _, rfl, rfl, OwnsInts.of_row (World.ownsRow_nil _ _ _ _), HB4.out⟩
  | true =>
    rw [if_pos rfl]
    obtain ⟨q0, _⟩ := homB_of ht
    obtain ⟨q1, q2, q3⟩ := mapB_of q0
    obtain ⟨hok, hok2, hty⟩ := sameH_of q1
    obtain ⟨⟨h1, h2⟩, _⟩ := algOkB_of hok
    obtain ⟨⟨k1, k2⟩, _⟩ := algOkB_of hok2
    have hlx := hx.1
    have HFe : Hid (f = arrL xs) := by unfold Hid; rw [← HFx.out, pmF_yes]
    have HLx := Lib.hid hlx
    have HIn := Lib.hid q3
    have hl1 : 1 ≤ l := by omega
    have hP := fun (W : World) (hW : Below w.heap.size w W) => pov_any lo3 hi3 co e_ l xs W (hx.kept (Kept.of_below hW hhi3)) (Nat.le_trans hhi3 hW.size) hl1 (by omega)
    simp only [NewInts] at hP
    have HP := Lib.hid hP
    clear hv hu hx hs hs2 ht q0 q1 q2 q3 hok hok2 hty hlx hP
    unfold ResL
    go_enter Try.func19, Try.ntmps19
    go_wp2_with fail
    rw [← hw1]
    clear hw1
    go_wp2_with fail
    refine (HI.out _ HBx.out).mono ?_
    rintro e w2 ⟨rfl, b2⟩
    have HBx2 := Lib.hid (HBx.out.below b2)
    clear b2 cz ca cz1 ca1
    have HA3 := Lib.hid (ArrAt.new w2 fun _ => 0)
    obtain ⟨w3, hw3⟩ : ∃ w3, w3 = (w2.alloc (.cells (arrV fun _ => 0) 53)).setRow w2.heap.size (arrV f) := ⟨_, rfl⟩
    have HA4 : Hid (ArrAt w3 w2.heap.size f) := by unfold Hid; rw [hw3]; exact (new_row w2 f).1
    have HBx4 : Hid (Bx2 w w3 z ao n c z1 bo m d) := by unfold Hid; rw [hw3]; exact HBx2.out.below (new_row w2 f).2
    obtain ⟨cz, ca, cz1, ca1, cB⟩ := HBx4.out
    have HW3 := Lib.hid hw3
    clear hw3 cB
    go_wp2_with (first | (refine st8 (w := w2.alloc (.cells (arrV fun _ => 0) 53)) HA3.out rfl _ _ rfl rfl rfl ?_; rw [← HW3.out]) | (refine ld8 HA4.out rfl _ rfl rfl ?_))
    refine (HP.out _ HBx4.out.bel).mono ?_
    rintro e w5 ⟨g, dd, rfl, ho, b5⟩
    have HB5 := Lib.hid (HBx4.out.below b5).bel
    have HO5 := Lib.hid (ownsRow_base ho HBx4.out.bel.size)
    clear ho b5 cz ca cz1 ca1
    go_wp2_with fail
    go_ret2
    exact ⟨_, _, _, rfl, by rw [kerL_len]; exact HLx.out.symm, OwnsInts.of_row HO5.out, HB5.out⟩



end Go.Proofs.Ytcmjkfcgekmomaa
