/-
  Contracts: spec.l7Kernel, l7Image, l7Into, KernelOf, ImageOf, InverseIso. Conditions: the bounds that each theorem names.
-/
import Derived.Test.YtcmjkfcgekmomaaKerM
import Derived.Test.YtcmjkfcgekmomaaHasL
import Derived.Deep.RegionHeld3
namespace Go.Proofs.Ytcmjkfcgekmomaa
open Go.RowKit
set_option linter.unusedVariables false
set_option linter.unusedSimpArgs false

theorem IView.take {w : World} {lo hi b o n k : Nat} {xs : List Int} (h : IView w lo hi (some ⟨b, o, none⟩) n xs) (hk : k ≤ n) : IView w lo hi (some ⟨b, o, none⟩) k (xs.take k) := by
  obtain ⟨h1, h2⟩ := h
  refine ⟨by rw [List.length_take]; omega, ?_⟩
  by_cases h0 : k = 0
  · exact .inl h0
  · rcases h2 with h2 | ⟨b2, o2, he, hl, hh, hc⟩
    · omega
    · cases he
      refine .inr ⟨b, o, rfl, hl, hh, fun j x hx => ?_⟩
      rw [List.getElem?_take] at hx
      split at hx
      · exact hc j x hx
      · cases hx

set_option maxHeartbeats 1000000 in
theorem kernel_spec (lo hi : Nat) (co : Option Addr) (e_ l : Nat) (xs : List Int) (w : World) (hx : IView w lo hi co l xs) (hhi : hi ≤ w.heap.size) (hl : l ≤ 1048576) :
    Calls Try.prog 51 #[.slice co l e_] w fun en w' => ListAt w w' (kerL xs) en := by
  obtain ⟨i0, hi0, hz0, hz1, hz2⟩ := info_parts Try.infoInt
  have HX := Lib.hid hx
  have HB0 := Lib.hid (below_alloc w (.cells #[] 3))
  have HO0 : Hid ((w.alloc (.cells #[] 3)).ownsRow w.heap.size 3 1 (.slice (some ⟨w.heap.size, 0, none⟩) 0 0) 0 (((kerL xs).take 0).map (Value.int .i64))) := World.ownsRow_lit (base := w.heap.size) (e := 3) (size := 1) w #[] 0 (Nat.le_refl _) (by decide) rfl
  clear hx
  unfold ListAt
  go_enter Try.func51, Try.ntmps51
  go_wp2_with fail
  go_loopw [3, 4] (fun v i wr => ∃ (j vc g : Nat), j ≤ l ∧ i = .int .i64 (j : Int) ∧ v = .slice (some ⟨g, 0, none⟩) j vc ∧ Hid (wr.ownsRow w.heap.size 3 1 (.slice (some ⟨g, 0, none⟩) j vc) j (((kerL xs).take j).map (Value.int .i64))) ∧ Hid (Below w.heap.size w wr)) (fun _ i _ => l - (intOf i).toNat)
  case atStart => exact ⟨0, 0, w.heap.size, Nat.zero_le _, rfl, rfl, HO0, HB0⟩
  case round =>
    obtain ⟨j, vc, g, hj, rfl, rfl, HR, HBr⟩ := hrel
    clear HO0
    by_cases hjp : j < l
    · have hjn : (j : Int) < (l : Int) := by omega
      obtain ⟨b, o, rfl, _, hb, hc⟩ := HX.out.at_ (by omega)
      obtain ⟨x, hx⟩ := get_of_lt HX.out.1 hjp
      have HC := Lib.hid hc
      have hbw : b < w.heap.size := by omega
      have HXj := Lib.hid hx
      clear hc hx
      obtain ⟨wo, hwo⟩ : ∃ wo : World, wo = wr := ⟨_, rfl⟩
      rw [← hwo]
      rw [← hwo] at HR HBr
      clear hwo
      go_wp2_with fail
      go_loopw [5] (fun i wi => ∃ q : Nat, q ≤ j ∧ i = .int .i64 (q : Int) ∧ Hid (¬ x ∈ xs.take q) ∧ Hid (wi.ownsRow w.heap.size 3 1 (.slice (some ⟨g, 0, none⟩) j vc) j (((kerL xs).take j).map (Value.int .i64))) ∧ Hid (Below w.heap.size w wi)) (fun i _ => j - (intOf i).toNat)
      case atStart => exact ⟨0, Nat.zero_le _, rfl, by unfold Hid; simp, HR, HBr⟩
      case round =>
        rename World => wi
        obtain ⟨q, hq, rfl, HN, HRi, HBi⟩ := hrel
        have hql : (q : Int) < (l : Int) := by omega
        obtain ⟨y, hy⟩ := get_of_lt HX.out.1 (show q < l by omega)
        have e1 : wi.drew.cell? ⟨b, o + j, none⟩ = some (.int .i64 x) := (HBi.out.drew.cell (p := ⟨b, o + j, none⟩) hbw).trans (HC.out j x HXj.out)
        have e2 : wi.drew.cell? ⟨b, o + q, none⟩ = some (.int .i64 y) := (HBi.out.drew.cell (p := ⟨b, o + q, none⟩) hbw).trans (HC.out q y hy)
        have HBd := Lib.hid HBi.out.drew
        have HRd : Hid (wi.drew.ownsRow w.heap.size 3 1 (.slice (some ⟨g, 0, none⟩) j vc) j (((kerL xs).take j).map (Value.int .i64))) := HRi.out
        have HY := Lib.hid hy
        clear hy
        by_cases hyx : y = x
        · have n1 : (y != x) = false := by simp [hyx]
          have HV : Hid (plI xs x = (q : Int)) := plI_hit (by rw [HY.out, hyx]) HN.out
          have HNx : Hid ((kerL xs).take (j + 1) = (kerL xs).take j ++ [(q : Int)]) := by unfold Hid; rw [List.take_add_one, kerL_get HXj.out, HV.out]; rfl
          clear hyx
          go_wp2_with fail
          go_region
          obtain ⟨wd, hwd⟩ : ∃ wd : World, wd = wi.drew := ⟨_, rfl⟩
          rw [← hwd] at HRd HBd ⊢
          clear hwd e1 e2
          go_wp2_with (at_builtin; refine wpList_append_own _ rfl _ _ 25 rfl w.heap.size 3 i0 (.int .i64 0) 1 8 Try.underlying25 hi0 hz0 hz1 hz2 rfl (by decide) (.slice (some ⟨g, 0, none⟩) j vc) j (((kerL xs).take j).map (Value.int .i64)) rfl (HRd.out.alloc _) ⟨wd.heap.size, 0, none⟩ 1 1 [.int .i64 (q : Int)] rfl rfl (cell_one_new _ _ _) (fun x hx => by simp at hx; subst hx; rfl) (by unfold maxLen; omega) (by omega) (by have := HBd.out.size; simp; omega) ?_; intro v' w3 hown' hgrow' hnil')
          obtain ⟨g2, cap, rfl⟩ := ownsRow_succ hown'
          have HB3 := Lib.hid ((HBd.out.alloc HBd.out.size (.cells #[.int .i64 (q : Int)] 3)).grown hgrow' (by have := HBd.out.size; simp; omega) (fun q hq => (HRd.out.lt q hq).1))
          have HO3 : Hid (w3.ownsRow w.heap.size 3 1 (.slice (some ⟨g2, 0, none⟩) (j + 1) cap) (j + 1) (((kerL xs).take (j + 1)).map (Value.int .i64))) := by
            unfold Hid
            rw [HNx.out, List.map_append]
            exact hown'
          clear hown' hgrow' hnil'
          go_wp2_with fail
          go_roundw
          case rel => exact ⟨j + 1, cap, g2, by omega, by go_num, rfl, HO3, HB3⟩
          case measure => simp [intOf]; omega
        · have n1 : (y != x) = true := by simp [hyx]
          have hqj : q < j := by
            rcases Nat.lt_or_ge q j with h | h
            · exact h
            · obtain rfl : q = j := by omega
              exact absurd (Option.some.inj (HY.out.symm.trans HXj.out)) hyx
          have HN2 : Hid (¬ x ∈ xs.take (q + 1)) := by
            unfold Hid
            rw [List.take_add_one, HY.out, List.mem_append]
            rintro (h | h)
            · exact HN.out h
            · simp at h; exact hyx h.symm
          clear hyx
          go_wp2_with fail
          go_region
          go_wp2_with fail
          go_roundw
          case rel => exact ⟨q + 1, by omega, by go_num, HN2, HRd, HBd⟩
          case measure => simp [intOf]; omega
    · have hjn : ¬ (j : Int) < (l : Int) := by omega
      obtain rfl : j = l := by omega
      have HE : Hid ((kerL xs).take j = kerL xs) := List.take_of_length_le (by rw [kerL_len]; have := HX.out.1; omega)
      unfold Hid at HR
      rw [HE.out] at HR
      have HR := Lib.hid HR
      go_wp2
      go_ret
      exact ⟨_, _, _, rfl, by rw [kerL_len]; exact HX.out.1.symm, HR.out, HBr.out⟩



set_option maxHeartbeats 2000000 in
theorem specKernelOf (lo hi : Nat) (z : Int) (ao : Option Addr) (c n : Nat) (fs : List OpD) (lo2 hi2 : Nat) (z1 : Int) (bo : Option Addr) (d m : Nat) (gs : List OpD) (lo3 hi3 : Nat) (co : Option Addr) (e_ l : Nat) (xs : List Int) (w : World) (hv : OView w lo hi ao n fs) (hhi : hi ≤ w.heap.size) (hs : ∀ (j : Nat) (f : OpD), fs[j]? = some f → f.2.length ≤ maxLen) (hu : OView w lo2 hi2 bo m gs) (hhi2 : hi2 ≤ w.heap.size) (hs2 : ∀ (j : Nat) (f : OpD), gs[j]? = some f → f.2.length ≤ maxLen) (hx : IView w lo3 hi3 co l xs) (hhi3 : hi3 ≤ w.heap.size) (hl : l ≤ maxLen) :
    Calls Try.prog 16 #[.agg #[.int .i64 z, .slice ao n c], .agg #[.int .i64 z1, .slice bo m d], .slice co l e_] w fun en w' => ResL w w' (valKernelOf z fs z1 gs xs).1 (valKernelOf z fs z1 gs xs).2 en := by
  unfold valKernelOf
  obtain ⟨w1, hw1, hbx, hsz⟩ := bx2_new w z ao n c z1 bo m d 31
  have HBx := Lib.hid hbx
  have hT := fun (W : World) (hW : Bx2 w W z ao n c z1 bo m d) => two_spec lo hi lo2 hi2 z z1 ao bo c n d m fs gs W (hv.kept (Kept.of_below hW.bel hhi)) (Nat.le_trans hhi hW.bel.size) hs (hu.kept (Kept.of_below hW.bel hhi2)) (Nat.le_trans hhi2 hW.bel.size) hs2
  have hlx := hx.1
  obtain ⟨cz, ca, cz1, ca1, cB⟩ := hbx
  obtain ⟨t, ht⟩ : ∃ t, sameH z z1 fs gs = t := ⟨_, rfl⟩
  rw [ht] at hT
  have HT := Lib.hid hT
  clear hT cB
  cases t with
  | false =>
    rw [if_neg (by rw [homB_no (mapB_no xs ht)]; simp)]
    clear hv hu hx hs hs2 ht hlx
    unfold ResL
    go_enter Try.func16, Try.ntmps16
    go_wp2_with fail
    rw [← hw1]
    clear hw1
    go_wp2_with fail
    refine (HT.out _ HBx.out).mono ?_
    rintro e w2 ⟨rfl, b2⟩
    have HBx2 := Lib.hid (HBx.out.below b2)
    clear b2 cz ca cz1 ca1
    have HOn : Hid ((w2.alloc (.cells #[] 3)).ownsRow w.heap.size 3 1 (.slice (some ⟨w2.heap.size, 0, none⟩) 0 0) 0 (([] : List Int).map (Value.int .i64))) := World.ownsRow_lit (base := w.heap.size) (e := 3) (size := 1) w2 #[] 0 HBx2.out.bel.size (by decide) rfl
    go_wp2_with fail
    go_ret2
    exact ⟨_, _, _, rfl, rfl, OwnsInts.of_row HOn.out, HBx2.out.bel.trans ((below_alloc w2 _).mono HBx2.out.bel.size)⟩
  | true =>
    have hI := fun (W : World) (hW : Bx2 w W z ao n c z1 bo m d) => is_spec lo hi z ao c n fs lo2 hi2 z1 bo d m gs lo3 hi3 co e_ l xs W (hv.kept (Kept.of_below hW.bel hhi)) (Nat.le_trans hhi hW.bel.size) hs (hu.kept (Kept.of_below hW.bel hhi2)) (Nat.le_trans hhi2 hW.bel.size) hs2 (hx.kept (Kept.of_below hW.bel hhi3)) (Nat.le_trans hhi3 hW.bel.size) hl ht
    obtain ⟨r, hr⟩ : ∃ r, homB z z1 fs gs xs = r := ⟨_, rfl⟩
    rw [hr] at hI ⊢
    have HI := Lib.hid hI
    clear hI
    cases r with
    | false =>
      rw [if_neg (by simp)]
      clear hv hu hx hs hs2 ht hlx hr
      unfold ResL
      go_enter Try.func16, Try.ntmps16
      go_wp2_with fail
      rw [← hw1]
      clear hw1
      go_wp2_with fail
      refine (HT.out _ HBx.out).mono ?_
      rintro e w2 ⟨rfl, b2⟩
      have HBx2 := Lib.hid (HBx.out.below b2)
      clear cz ca cz1 ca1
      obtain ⟨cz, ca, cz1, ca1, cB⟩ := HBx2.out
      clear b2 cB
      go_wp2_with fail
      refine (HI.out _ HBx2.out).mono ?_
      rintro e w3 ⟨rfl, b3⟩
      have HBx3 := Lib.hid (HBx2.out.below b3)
      clear b3 cz ca cz1 ca1
      have HOn : Hid ((w3.alloc (.cells #[] 3)).ownsRow w.heap.size 3 1 (.slice (some ⟨w3.heap.size, 0, none⟩) 0 0) 0 (([] : List Int).map (Value.int .i64))) := World.ownsRow_lit (base := w.heap.size) (e := 3) (size := 1) w3 #[] 0 HBx3.out.bel.size (by decide) rfl
      go_wp2_with fail
      go_ret2
      exact ⟨_, _, _, rfl, rfl, OwnsInts.of_row HOn.out, HBx3.out.bel.trans ((below_alloc w3 _).mono HBx3.out.bel.size)⟩
    | true =>
      rw [if_pos rfl]
      obtain ⟨q0, _⟩ := homB_of hr
      obtain ⟨q1, q2, q3⟩ := mapB_of q0
      obtain ⟨⟨h1, h2⟩, _⟩ := algOkB_of (sameH_of q1).1
      obtain ⟨⟨k1, k2⟩, _⟩ := algOkB_of (sameH_of q1).2.1
      have HK := Lib.hid (fun (W : World) (hW : Bx2 w W z ao n c z1 bo m d) => kernel_spec lo3 hi3 co e_ l xs W (hx.kept (Kept.of_below hW.bel hhi3)) (Nat.le_trans hhi3 hW.bel.size) (by omega))
      clear hv hu hx hs hs2 ht hlx hr q0 q1 q2 q3
      unfold ResL
      unfold ListAt at HK
      go_enter Try.func16, Try.ntmps16
      go_wp2_with fail
      rw [← hw1]
      clear hw1
      go_wp2_with fail
      refine (HT.out _ HBx.out).mono ?_
      rintro e w2 ⟨rfl, b2⟩
      have HBx2 := Lib.hid (HBx.out.below b2)
      clear cz ca cz1 ca1
      obtain ⟨cz, ca, cz1, ca1, cB⟩ := HBx2.out
      clear b2 cB
      go_wp2_with fail
      refine (HI.out _ HBx2.out).mono ?_
      rintro e w3 ⟨rfl, b3⟩
      have HBx3 := Lib.hid (HBx2.out.below b3)
      clear cz ca cz1 ca1
      obtain ⟨cz, ca, cz1, ca1, cB⟩ := HBx3.out
      clear b3 cB
      go_wp2_with fail
      refine (HK.out _ HBx3.out).mono ?_
      rintro e w4 ⟨ga, gm, gd, rfl, hgm, ho, b4⟩
      have HO := Lib.hid (ownsRow_base ho HBx3.out.bel.size)
      have HB4 := Lib.hid (HBx3.out.below b4).bel
      have HGm := Lib.hid hgm
      clear b4 ho hgm
      go_wp2_with fail
      go_ret2
      exact ⟨ga, gm, gd, rfl, HGm.out, OwnsInts.of_row HO.out, HB4.out⟩


end Go.Proofs.Ytcmjkfcgekmomaa
