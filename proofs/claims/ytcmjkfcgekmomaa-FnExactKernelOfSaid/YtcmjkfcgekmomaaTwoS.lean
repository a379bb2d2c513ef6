/-
  Contract: spec.l7Two. Conditions: the bounds that it names.
-/
import Derived.Test.YtcmjkfcgekmomaaBx2
namespace Go.Proofs.Ytcmjkfcgekmomaa
open Go.RowKit
set_option linter.unusedVariables false
set_option linter.unusedSimpArgs false

theorem sameH_no1 {z z1 : Int} {fs gs : List OpD} (h : algOkB z fs = false) : sameH z z1 fs gs = false := by rw [sameH, same_no1 h]
theorem sameH_no2 {z z1 : Int} {fs gs : List OpD} (h : algOkB z1 gs = false) : sameH z z1 fs gs = false := by rw [sameH, same_no2 h]
theorem sameH_yes {z z1 : Int} {fs gs : List OpD} (h : algOkB z fs = true) (h1 : algOkB z1 gs = true) : sameH z z1 fs gs = sameL (typeV fs) (typeV gs) := by rw [sameH, same_yes h h1]

section
variable (lo hi lo2 hi2 lo3 hi3 : Nat) (z z1 : Int) (ao bo co : Option Addr) (c n d m e l : Nat) (fs gs : List OpD) (xs : List Int) (w : World)

set_option maxHeartbeats 1000000 in
theorem two_spec (hv : OView w lo hi ao n fs) (hhi : hi ≤ w.heap.size) (hs : ∀ (j : Nat) (f : OpD), fs[j]? = some f → f.2.length ≤ maxLen) (hu : OView w lo2 hi2 bo m gs) (hhi2 : hi2 ≤ w.heap.size) (hs2 : ∀ (j : Nat) (f : OpD), gs[j]? = some f → f.2.length ≤ maxLen) :
    Calls Try.prog 49 #[.agg #[.int .i64 z, .slice ao n c], .agg #[.int .i64 z1, .slice bo m d]] w fun en w' => en = .returned (.bool (sameH z z1 fs gs)) ∧ Below w.heap.size w w' := by
  obtain ⟨w1, hw1, hbx, hsz⟩ := bx2_new w z ao n c z1 bo m d 31
  have HBx := Lib.hid hbx
  have hG1 := fun (W : World) (hW : Bx2 w W z ao n c z1 bo m d) => good_any lo hi z ao c n fs W (hv.kept (Kept.of_below hW.bel hhi)) (Nat.le_trans hhi hW.bel.size) hs
  have hG2 := fun (W : World) (hW : Bx2 w W z ao n c z1 bo m d) => good_any lo2 hi2 z1 bo d m gs W (hu.kept (Kept.of_below hW.bel hhi2)) (Nat.le_trans hhi2 hW.bel.size) hs2
  obtain ⟨t, ht⟩ : ∃ t, algOkB z fs = t := ⟨_, rfl⟩
  obtain ⟨t2, ht2⟩ : ∃ t, algOkB z1 gs = t := ⟨_, rfl⟩
  rw [ht] at hG1
  rw [ht2] at hG2
  have HG1 := Lib.hid hG1
  have HG2 := Lib.hid hG2
  clear hG1 hG2
  obtain ⟨cz, ca, cz1, ca1, cB⟩ := hbx
  cases t with
  | false =>
    rw [sameH_no1 ht]
    clear hs hv ht hu hs2 ht2 cB
    go_enter Try.func49, Try.ntmps49
    go_wp2_with fail
    rw [← hw1]
    clear hw1
    go_wp2_with fail
    refine (HG1.out _ HBx.out).mono ?_
    rintro e w2 ⟨rfl, b2⟩
    have HB2 := Lib.hid (HBx.out.below b2).bel
    clear b2
    go_wp2_with fail
    go_ret
    exact ⟨rfl, HB2.out⟩
  | true =>
    cases t2 with
    | false =>
      rw [sameH_no2 ht2]
      clear hs hv ht hu hs2 ht2 cB
      go_enter Try.func49, Try.ntmps49
      go_wp2_with fail
      rw [← hw1]
      clear hw1
      go_wp2_with fail
      refine (HG1.out _ HBx.out).mono ?_
      rintro e w2 ⟨rfl, b2⟩
      have HBx2 := Lib.hid (HBx.out.below b2)
      clear cz ca cz1 ca1
      obtain ⟨cz, ca, cz1, ca1, cB⟩ := HBx2.out
      clear b2 cB
      go_wp2_with fail
      refine (HG2.out _ HBx2.out).mono ?_
      rintro e w3 ⟨rfl, b3⟩
      have HB3 := Lib.hid (HBx2.out.below b3).bel
      clear b3
      go_wp2_with fail
      go_ret
      exact ⟨rfl, HB3.out⟩
    | true =>
      rw [sameH_yes ht ht2]
      have hn4 : n ≤ 4 := by have := (algOkB_of ht).2.1; have := hv.1; omega
      have hm4 : m ≤ 4 := by have := (algOkB_of ht2).2.1; have := hu.1; omega
      have HS := Lib.hid (fun (W : World) (hW : Bx2 w W z ao n c z1 bo m d) => l2Same_any lo hi lo2 hi2 z z1 ao bo c n d m fs gs W (hv.kept (Kept.of_below hW.bel hhi)) (Nat.le_trans hhi hW.bel.size) hn4 (hu.kept (Kept.of_below hW.bel hhi2)) (Nat.le_trans hhi2 hW.bel.size) hm4)
      obtain ⟨r, hr⟩ : ∃ r, sameL (typeV fs) (typeV gs) = r := ⟨_, rfl⟩
      rw [hr] at HS ⊢
      clear hs hv ht hu hs2 ht2 hr cB
      go_enter Try.func49, Try.ntmps49
      go_wp2_with fail
      rw [← hw1]
      clear hw1
      go_wp2_with fail
      refine (HG1.out _ HBx.out).mono ?_
      rintro e w2 ⟨rfl, b2⟩
      have HBx2 := Lib.hid (HBx.out.below b2)
      clear cz ca cz1 ca1
      obtain ⟨cz, ca, cz1, ca1, cB⟩ := HBx2.out
      clear b2 cB
      go_wp2_with fail
      refine (HG2.out _ HBx2.out).mono ?_
      rintro e w3 ⟨rfl, b3⟩
      have HBx3 := Lib.hid (HBx2.out.below b3)
      clear cz ca cz1 ca1
      obtain ⟨cz, ca, cz1, ca1, cB⟩ := HBx3.out
      clear b3 cB
      go_wp2_with fail
      refine (HS.out _ HBx3.out).mono ?_
      rintro e w4 ⟨rfl, b4⟩
      have HB4 := Lib.hid (HBx3.out.below b4).bel
      clear b4
      go_wp2_with fail
      go_ret
      exact ⟨rfl, HB4.out⟩

end
end Go.Proofs.Ytcmjkfcgekmomaa
