/-
  Contracts: spec.l7Two, l7Map, l7Images, l7Fault, l7Is. Conditions: the bounds that each theorem names.
-/
import Derived.Test.YtmlimbjpehjfnaaHmI
import Derived.Test.YtmlimbjpehjfnaaDigs
import Derived.Test.YtmlimbjpehjfnaaIdxV
import Derived.Test.YtmlimbjpehjfnaaElems
import Derived.Test.YtmlimbjpehjfnaaSetQ
import Derived.Deep.RegionHeld3
namespace Go.Proofs.Ytmlimbjpehjfnaa
open Go.RowKit
set_option linter.unusedVariables false
set_option linter.unusedSimpArgs false

theorem sameH_no1 {z z1 : Int} {fs gs : List OpD} (h : algOkB z fs = false) : sameH z z1 fs gs = false := by rw [sameH, same_no1 h]
theorem sameH_no2 {z z1 : Int} {fs gs : List OpD} (h : algOkB z1 gs = false) : sameH z z1 fs gs = false := by rw [sameH, same_no2 h]
theorem sameH_yes {z z1 : Int} {fs gs : List OpD} (h : algOkB z fs = true) (h1 : algOkB z1 gs = true) : sameH z z1 fs gs = sameL (typeV fs) (typeV gs) := by rw [sameH, same_yes h h1]

section
variable (lo hi lo2 hi2 lo3 hi3 : Nat) (z z1 : Int) (ao bo co : Option Addr) (c n d m e l : Nat) (fs gs : List OpD) (xs : List Int) (w : World)

set_option maxHeartbeats 1000000 in
theorem two_spec (hv : OView w lo hi ao n fs) (hhi : hi ≤ w.heap.size) (hs : ∀ (j : Nat) (f : OpD), fs[j]? = some f → f.2.length ≤ maxLen) (hu : OView w lo2 hi2 bo m gs) (hhi2 : hi2 ≤ w.heap.size) (hs2 : ∀ (j : Nat) (f : OpD), gs[j]? = some f → f.2.length ≤ maxLen) :
    Calls Try.prog 45 #[.agg #[.int .i64 z, .slice ao n c], .agg #[.int .i64 z1, .slice bo m d]] w fun en w' => en = .returned (.bool (sameH z z1 fs gs)) ∧ Below w.heap.size w w' := by
  obtain ⟨w1, hw1, hbx, hsz⟩ := bx2_new w z ao n c z1 bo m d 31
  have HBx := Lib.hid hbx
  have hG1 := fun (W : World) (hW : Bx2 w W z ao n c z1 bo m d) => good_any lo hi z ao c n fs W (hv.kept (Kept.of_below hW.bel hhi)) (Nat.le_trans hhi hW.bel.size) hs
  have hG2 := fun (W : World) (hW : Bx2 w W z ao n c z1 bo m d) => good_any lo2 hi2 z1 bo d m gs W (hu.kept (Kept.of_below hW.bel hhi2)) (Nat.le_trans hhi2 hW.bel.size) hs2
  obtain ⟨t, ht⟩ : ∃ t, algOkB z fs = t := ⟨_, rfl⟩
  obtain ⟨t2, ht2⟩ : ∃ t, algOkB z1 gs = t := ⟨_, rfl⟩
  rw [ht] at hG1
  rw [ht2] at hG2
  have HG1 := Lib.hid hG1
  have HG2 := Lib.hid hG2
  clear hG1 hG2
  obtain ⟨cz, ca, cz1, ca1, cB⟩ := hbx
  cases t with
  | false =>
    rw [sameH_no1 ht]
    clear hs hv ht hu hs2 ht2 cB
    go_enter Try.func45, Try.ntmps45
    go_wp2_with fail
    rw [← hw1]
    clear hw1
    go_wp2_with fail
    refine (HG1.out _ HBx.out).mono ?_
    rintro e w2 ⟨rfl, b2⟩
    have HB2 := Lib.hid (HBx.out.below b2).bel
    clear b2
    go_wp2_with fail
    go_ret
    exact ⟨rfl, HB2.out⟩
  | true =>
    cases t2 with
    | false =>
      rw [sameH_no2 ht2]
      clear hs hv ht hu hs2 ht2 cB
      go_enter Try.func45, Try.ntmps45
      go_wp2_with fail
      rw [← hw1]
      clear hw1
      go_wp2_with fail
      refine (HG1.out _ HBx.out).mono ?_
      rintro e w2 ⟨rfl, b2⟩
      have HBx2 := Lib.hid (HBx.out.below b2)
      clear cz ca cz1 ca1
      obtain ⟨cz, ca, cz1, ca1, cB⟩ := HBx2.out
      clear b2 cB
      go_wp2_with fail
      refine (HG2.out _ HBx2.out).mono ?_
      rintro e w3 ⟨rfl, b3⟩
      have HB3 := Lib.hid (HBx2.out.below b3).bel
      clear b3
      go_wp2_with fail
      go_ret
      exact ⟨rfl, HB3.out⟩
    | true =>
      rw [sameH_yes ht ht2]
      have hn4 : n ≤ 4 := by have := (algOkB_of ht).2.1; have := hv.1; omega
      have hm4 : m ≤ 4 := by have := (algOkB_of ht2).2.1; have := hu.1; omega
      have HS := Lib.hid (fun (W : World) (hW : Bx2 w W z ao n c z1 bo m d) => l2Same_any lo hi lo2 hi2 z z1 ao bo c n d m fs gs W (hv.kept (Kept.of_below hW.bel hhi)) (Nat.le_trans hhi hW.bel.size) hn4 (hu.kept (Kept.of_below hW.bel hhi2)) (Nat.le_trans hhi2 hW.bel.size) hm4)
      obtain ⟨r, hr⟩ : ∃ r, sameL (typeV fs) (typeV gs) = r := ⟨_, rfl⟩
      rw [hr] at HS ⊢
      clear hs hv ht hu hs2 ht2 hr cB
      go_enter Try.func45, Try.ntmps45
      go_wp2_with fail
      rw [← hw1]
      clear hw1
      go_wp2_with fail
      refine (HG1.out _ HBx.out).mono ?_
      rintro e w2 ⟨rfl, b2⟩
      have HBx2 := Lib.hid (HBx.out.below b2)
      clear cz ca cz1 ca1
      obtain ⟨cz, ca, cz1, ca1, cB⟩ := HBx2.out
      clear b2 cB
      go_wp2_with fail
      refine (HG2.out _ HBx2.out).mono ?_
      rintro e w3 ⟨rfl, b3⟩
      have HBx3 := Lib.hid (HBx2.out.below b3)
      clear cz ca cz1 ca1
      obtain ⟨cz, ca, cz1, ca1, cB⟩ := HBx3.out
      clear b3 cB
      go_wp2_with fail
      refine (HS.out _ HBx3.out).mono ?_
      rintro e w4 ⟨rfl, b4⟩
      have HB4 := Lib.hid (HBx3.out.below b4).bel
      clear b4
      go_wp2_with fail
      go_ret
      exact ⟨rfl, HB4.out⟩

end

set_option maxHeartbeats 1000000 in
theorem images_spec (lo hi lo2 hi2 : Nat) (co go : Option Addr) (e l q p : Nat) (xs args : List Int) (w : World) (hx : IView w lo hi co l xs) (hhi : hi ≤ w.heap.size) (hy : IView w lo2 hi2 go p args) (hhi2 : hi2 ≤ w.heap.size) (ha : allIn (l : Int) args = true) (hp : p ≤ 1048576) :
    Calls Try.prog 39 #[.slice co l e, .slice go p q] w fun en w' => ListAt w w' (imgF (arrL xs) args) en := by
  obtain ⟨i0, hi0, hz0, hz1, hz2⟩ := info_parts Try.infoInt
  have HX := Lib.hid hx
  have HY := Lib.hid hy
  have HA := Lib.hid ha
  have HB0 := Lib.hid (below_alloc w (.cells #[] 3))
  have HO0 : Hid ((w.alloc (.cells #[] 3)).ownsRow w.heap.size 3 1 (.slice (some ⟨w.heap.size, 0, none⟩) 0 0) 0 ((imgF (arrL xs) (args.take 0)).map (Value.int .i64))) := World.ownsRow_lit (base := w.heap.size) (e := 3) (size := 1) w #[] 0 (Nat.le_refl _) (by decide) rfl
  clear hx hy ha
  unfold ListAt
  go_enter Try.func39, Try.ntmps39
  go_wp2_with fail
  go_loopw [5, 6] (fun v i wr => ∃ (j vc g : Nat), j ≤ p ∧ i = .int .i64 (j : Int) ∧ v = .slice (some ⟨g, 0, none⟩) j vc ∧ Hid (wr.ownsRow w.heap.size 3 1 (.slice (some ⟨g, 0, none⟩) j vc) j ((imgF (arrL xs) (args.take j)).map (Value.int .i64))) ∧ Hid (Below w.heap.size w wr)) (fun _ i _ => p - (intOf i).toNat)
  case atStart => exact ⟨0, 0, w.heap.size, Nat.zero_le _, rfl, rfl, HO0, HB0⟩
  case round =>
    obtain ⟨j, vc, g, hj, rfl, rfl, HR, HBr⟩ := hrel
    by_cases hjp : j < p
    · have hjn : (j : Int) < (p : Int) := by omega
      obtain ⟨b2, o2, rfl, _, hb2, hc2⟩ := HY.out.at_ (by omega)
      obtain ⟨y, hy⟩ := get_of_lt HY.out.1 hjp
      obtain ⟨y0, y1⟩ := allIn_get HA.out hy
      obtain ⟨yn, rfl⟩ : ∃ yn : Nat, y = (yn : Int) := ⟨y.toNat, by omega⟩
      have hyn : yn < l := by omega
      obtain ⟨b, o, rfl, _, hb, hc⟩ := HX.out.at_ (by omega)
      obtain ⟨x, hx⟩ := get_of_lt HX.out.1 hyn
      have e1 : wr.cell? ⟨b2, o2 + j, none⟩ = some (.int .i64 (yn : Int)) := (HBr.out.cell (p := ⟨b2, o2 + j, none⟩) (by show b2 < _; omega)).trans (hc2 j _ hy)
      have e2 : wr.cell? ⟨b, o + yn, none⟩ = some (.int .i64 x) := (HBr.out.cell (p := ⟨b, o + yn, none⟩) (by show b < _; omega)).trans (hc yn x hx)
      have HN : Hid (imgF (arrL xs) (args.take (j + 1)) = imgF (arrL xs) (args.take j) ++ [x]) := by unfold Hid; rw [imgF_succ hy, Int.toNat_natCast, arrL_get hx]
      clear hc hc2 hx hy
      go_wp2_with (at_builtin; refine wpList_append_own _ rfl _ _ 42 rfl w.heap.size 3 i0 (.int .i64 0) 1 8 Try.underlying42 hi0 hz0 hz1 hz2 rfl (by decide) (.slice (some ⟨g, 0, none⟩) j vc) j ((imgF (arrL xs) (args.take j)).map (Value.int .i64)) rfl (HR.out.alloc _) ⟨wr.heap.size, 0, none⟩ 1 1 [.int .i64 x] rfl rfl (cell_one_new _ _ _) (fun x hx => by simp at hx; subst hx; rfl) (by unfold maxLen; omega) (by omega) (by have := HBr.out.size; simp; omega) ?_; intro v' w3 hown' hgrow' hnil')
      obtain ⟨g2, cap, rfl⟩ := ownsRow_succ hown'
      have HB3 := Lib.hid ((HBr.out.alloc HBr.out.size (.cells #[.int .i64 x] 3)).grown hgrow' (by have := HBr.out.size; simp; omega) (fun q hq => (HR.out.lt q hq).1))
      have HO3 : Hid (w3.ownsRow w.heap.size 3 1 (.slice (some ⟨g2, 0, none⟩) (j + 1) cap) (j + 1) ((imgF (arrL xs) (args.take (j + 1))).map (Value.int .i64))) := by
        unfold Hid
        rw [HN.out, List.map_append]
        exact hown'
      clear hown' hgrow' hnil'
      go_wp2_with fail
      go_roundw
      case rel => exact ⟨j + 1, cap, g2, by omega, by go_num, rfl, HO3, HB3⟩
      case measure => simp [intOf]; omega
    · have hjn : ¬ (j : Int) < (p : Int) := by omega
      obtain rfl : j = p := by omega
      have HE : Hid (args.take j = args) := List.take_of_length_le (by have := HY.out.1; omega)
      unfold Hid at HR
      rw [HE.out] at HR
      have HR := Lib.hid HR
      go_wp2
      go_ret
      exact ⟨_, _, _, rfl, by rw [imgF_len]; exact HY.out.1.symm, HR.out, HBr.out⟩

theorem digs_own (w : World) (z : Int) (m : Nat) (at_ : Int) (hm : m ≤ 3) : (w.alloc (.cells (digsArr z m at_) 3)).ownsRow w.heap.size 3 1 (.slice (some ⟨w.heap.size, 0, none⟩) m m) m ((digs z m at_).map (Value.int .i64)) := by
  refine ⟨by simp [digs_len], .inr ⟨w.heap.size, m, digsArr z m at_, rfl, Nat.le_refl _, heap_alloc_new _ _, Nat.le_refl _, ?_, by simp [digsArr, digs_len], ?_⟩⟩
  · unfold maxLen; omega
  · rw [List.take_of_length_le (by simp [digsArr, digs_len])]; simp [digsArr]
theorem OwnsInts.up {w : World} {lo hi hi' n c : Nat} {ao : Option Addr} {xs : List Int} (h : OwnsInts w lo hi ao n c xs) (hh : hi ≤ hi') : OwnsInts w lo hi' ao n c xs := ⟨h.row, fun k hk => Nat.lt_of_lt_of_le (h.lt k hk) hh⟩

/-- The arguments of a fault. -/
def fltL (z : Int) (fs : List OpD) (o : Option (Nat × Nat)) : List Int := match o with
  | some p => digs z (opAt fs p.1).1.toNat (p.2 : Int)
  | none => []
/-- A number, a list of integers and a bool. -/
def ResF (w w' : World) (k : Int) (xs : List Int) (ok : Bool) (e : Ending) : Prop :=
  ∃ ao n c, e = .returned (.tuple #[.int .i64 k, .slice ao n c, .bool ok]) ∧ n = xs.length ∧ OwnsInts w' w.heap.size w'.heap.size ao n c xs ∧ Below w.heap.size w w'


end Go.Proofs.Ytmlimbjpehjfnaa
