/-
  Contracts: both MeetSubs and both JoinSubs. Conditions: the bounds that each theorem names.
-/
import Derived.Test.YtmhlkopkcgmpjaaIsu

import Derived.Deep.RegionHeld3
namespace Go.Proofs.Ytmhlkopkcgmpjaa
open Go.RowKit
set_option linter.unusedVariables false
set_option linter.unusedSimpArgs false

theorem setN_app (xs ys : List Int) : setN (xs ++ ys) = setN xs ||| setN ys := by
  apply Nat.eq_of_testBit_eq
  intro k
  rw [Nat.testBit_or, setN_bit, setN_bit, setN_bit, List.any_append]
def meetL (xs ys : List Int) : List Int := xs.filter fun x => decide (x ∈ ys)
theorem meetL_yes {xs ys : List Int} {k : Nat} {x : Int} (hx : xs[k]? = some x) (h : decide (x ∈ ys) = true) : meetL (xs.take (k + 1)) ys = meetL (xs.take k) ys ++ [x] := by
  unfold meetL
  rw [List.take_add_one, hx, Option.toList_some, List.filter_append]
  simp [of_decide_eq_true h]
theorem meetL_no {xs ys : List Int} {k : Nat} {x : Int} (hx : xs[k]? = some x) (h : decide (x ∈ ys) = false) : meetL (xs.take (k + 1)) ys = meetL (xs.take k) ys := by
  unfold meetL
  rw [List.take_add_one, hx, Option.toList_some, List.filter_append]
  simp [of_decide_eq_false h]
theorem listK_and (s t n : Nat) : listK (s &&& t) n = (listK s n).filter fun x => t.testBit x.toNat := by
  induction n with
  | zero => rfl
  | succ n ih =>
    cases hb : s.testBit n with
    | false => rw [listK_no hb, listK_no (by rw [Nat.testBit_and, hb]; rfl), ih]
    | true =>
      rw [listK_yes hb, List.filter_append, ← ih]
      cases hc : t.testBit n with
      | true => rw [listK_yes (by rw [Nat.testBit_and, hb, hc]; rfl)]; simp [hc]
      | false => rw [listK_no (by rw [Nat.testBit_and, hb, hc]; rfl)]; simp [hc]
theorem meetL_eq {z : Int} {xs ys : List Int} (hya : allIn z ys = true) (hxl : listK (setN xs) 8 = xs) (hyl : listK (setN ys) 8 = ys) (hz : z ≤ 8) : meetL xs ys = listK (setN xs &&& setN ys) 8 := by
  rw [listK_and, hxl]
  unfold meetL
  apply List.filter_congr
  intro x hx
  rw [← hxl] at hx
  obtain ⟨j, hj, rfl, hb⟩ := (mem_listK _ _ _).1 hx
  rw [Int.toNat_natCast]
  have h1 := setN_bit_iff hya j
  cases hc : (setN ys).testBit j with
  | true => exact decide_eq_true (h1.1 hc)
  | false => exact decide_eq_false fun h2 => by rw [h1.2 h2] at hc; cases hc

theorem cells_of {w : World} {lo hi : Nat} {ad : Addr} {n : Nat} {xs : List Int} (h : IView w lo hi (some ad) n xs) : ∀ j y, xs[j]? = some y → w.cell? (ad.add j) = some (.int .i64 y) := by
  intro j y hj
  have hl := h.1
  have hjl : j < xs.length := (List.getElem?_eq_some_iff.1 hj).1
  obtain ⟨b, o, he, _, _, hc⟩ := h.at_ (by omega)
  injection he with he
  subst he
  rw [WideShapes.add_plain]
  exact hc j y hj
/-- A copy in memory of the call's own, of an empty list too. -/
theorem own_all (lo hi : Nat) (ad : Addr) (n c : Nat) (xs : List Int) (B : Nat) (w : World) (h : IView w lo hi (some ad) n xs) (hn : n ≤ 1048576) (hB : B ≤ w.heap.size) :
    Calls Try.prog 67 #[.slice (some ad) n c] w fun e w' => ∃ g d, e = .returned (.slice (some ⟨g, 0, none⟩) n d) ∧ w'.ownsRow B 3 1 (.slice (some ⟨g, 0, none⟩) n d) n (xs.map (Value.int .i64)) ∧ Below w.heap.size w w' := by
  have hl := h.1
  obtain ⟨i0, hi0, hz0, hz1, hz2⟩ := info_parts Try.infoInt
  have HO := Lib.hid (World.ownsRow_lit (base := w.heap.size) (e := 3) (size := 1) w #[] 0 (Nat.le_refl _) (by decide) rfl)
  have HB := Lib.hid (below_alloc w (.cells #[] 3))
  have hcells : ∀ j u, (xs.map (Value.int .i64))[j]? = some u → (w.alloc (.cells #[] 3)).cell? (ad.add j) = some u := by
    intro j u hu
    rw [List.getElem?_map] at hu
    obtain ⟨x, hx, rfl⟩ := Option.map_eq_some_iff.1 hu
    exact cell_b HB.out (cells_of h j x hx)
  have HC := Lib.hid hcells
  have HL := Lib.hid hl
  clear hcells hl h
  go_enter Try.func67, Try.ntmps67
  go_wp2_with (at_builtin; refine wpList_append_own _ rfl _ _ 25 rfl w.heap.size 3 i0 (.int .i64 0) 1 8 Try.underlying25 hi0 hz0 hz1 hz2 rfl (by decide) (.slice (some ⟨w.heap.size, 0, none⟩) 0 0) 0 [] rfl HO.out ad n c (xs.map (Value.int .i64)) rfl (by rw [List.length_map, HL.out]; omega) HC.out (fun x hx => by obtain ⟨y, _, rfl⟩ := List.mem_map.1 hx; rfl) (by unfold maxLen; omega) (by omega) HB.out.size ?_; intro v' w3 hown' hgrow' hnil')
  rw [Nat.zero_add, List.nil_append] at hown'
  obtain ⟨g, cap, rfl⟩ := own_some (g := 0) (c := 0) hown' (fun e => by cases (hnil'.1 e).1)
  have HO3 := Lib.hid (ownsRow_base hown' hB)
  have HB3 := Lib.hid (HB.out.grown hgrow' HB.out.size (fun q hq => by have h_ : w.heap.size = q := (by simpa [Value.ownBlock] using hq); omega))
  clear hown' hgrow' hnil'
  go_wp2
  go_ret
  exact ⟨g, cap, rfl, HO3.out, HB3.out⟩

def valMeetSubs (z : Int) (fs : List OpD) (xs ys : List Int) : List Int × Bool := if (subuB z fs xs && subuB z fs ys) then (listK (setN xs &&& setN ys) 8, true) else ([], false)
theorem valMeetSubs_no {z : Int} {fs : List OpD} {xs ys : List Int} (h : (subuB z fs xs && subuB z fs ys) = false) : valMeetSubs z fs xs ys = ([], false) := by simp [valMeetSubs, h]
theorem valMeetSubs_yes {z : Int} {fs : List OpD} {xs ys : List Int} (h : (subuB z fs xs && subuB z fs ys) = true) : valMeetSubs z fs xs ys = (listK (setN xs &&& setN ys) 8, true) := by simp [valMeetSubs, h]
theorem smallMeetSubs (z : Int) (fs : List OpD) (xs ys : List Int) : (valMeetSubs z fs xs ys).1.length ≤ 4194304 := by
  unfold valMeetSubs
  split
  · exact Nat.le_trans (listK_le _ 8) (by decide)
  · simp
def valJoinSubs (z : Int) (fs : List OpD) (xs ys : List Int) : List Int × Bool := if (subuB z fs xs && subuB z fs ys) then (listK (closeN z fs (setN xs ||| setN ys)) 8, true) else ([], false)
theorem valJoinSubs_no {z : Int} {fs : List OpD} {xs ys : List Int} (h : (subuB z fs xs && subuB z fs ys) = false) : valJoinSubs z fs xs ys = ([], false) := by simp [valJoinSubs, h]
theorem valJoinSubs_yes {z : Int} {fs : List OpD} {xs ys : List Int} (h : (subuB z fs xs && subuB z fs ys) = true) : valJoinSubs z fs xs ys = (listK (closeN z fs (setN xs ||| setN ys)) 8, true) := by simp [valJoinSubs, h]
theorem smallJoinSubs (z : Int) (fs : List OpD) (xs ys : List Int) : (valJoinSubs z fs xs ys).1.length ≤ 4194304 := by
  unfold valJoinSubs
  split
  · exact Nat.le_trans (listK_le _ 8) (by decide)
  · simp

set_option maxRecDepth 100000 in
set_option maxHeartbeats 4000000 in
theorem specMeetSubs (lo hi : Nat) (z : Int) (ao : Option Addr) (c n : Nat) (fs : List OpD) (lo2 hi2 : Nat) (bo : Addr) (d m : Nat) (xs : List Int) (lo3 hi3 : Nat) (co : Addr) (d3 m3 : Nat) (ys : List Int) (w : World) (hv : OView w lo hi ao n fs) (hhi : hi ≤ w.heap.size) (hs : ∀ (j : Nat) (f : OpD), fs[j]? = some f → f.2.length ≤ maxLen)
    (hx : IView w lo2 hi2 (some bo) m xs) (hhi2 : hi2 ≤ w.heap.size) (hm : m ≤ maxLen) (hy : IView w lo3 hi3 (some co) m3 ys) (hhi3 : hi3 ≤ w.heap.size) (hm3 : m3 ≤ maxLen) :
    Calls Try.prog 33 #[.agg #[.int .i64 z, .slice ao n c], .slice (some bo) m d, .slice (some co) m3 d3] w fun e w' => ResL w w' (valMeetSubs z fs xs ys).1 (valMeetSubs z fs xs ys).2 e := by
  have hB := below_alloc w (.cells #[.int .i64 z, .slice ao n c] 31)
  have HB := Lib.hid hB
  have HX := Lib.hid hx
  have HY := Lib.hid hy
  have HV := Lib.hid hv
  have cz : (w.alloc (.cells #[.int .i64 z, .slice ao n c] 31)).cell? ⟨w.heap.size, 0, none⟩ = some (.int .i64 z) := by simp
  have ca : (w.alloc (.cells #[.int .i64 z, .slice ao n c] 31)).cell? ⟨w.heap.size, 1, none⟩ = some (.slice ao n c) := by simp
  have hs0 := hB.size
  have hB0 := below_then hB (below_alloc (w.alloc (.cells #[.int .i64 z, .slice ao n c] 31)) (.cells #[] 3))
  have HB0 := Lib.hid hB0
  have cz0 := cell_b (below_alloc (w.alloc (.cells #[.int .i64 z, .slice ao n c] 31)) (.cells #[] 3)) cz
  have ca0 := cell_b (below_alloc (w.alloc (.cells #[.int .i64 z, .slice ao n c] 31)) (.cells #[] 3)) ca
  have HO0 : Hid (((w.alloc (.cells #[.int .i64 z, .slice ao n c] 31)).alloc (.cells #[] 3)).ownsRow w.heap.size 3 1 (.slice (some ⟨w.heap.size + 1, 0, none⟩) 0 0) 0 (([] : List Int).map (Value.int .i64))) := by
    have h_ := World.ownsRow_lit (base := w.heap.size) (e := 3) (size := 1) (w.alloc (.cells #[.int .i64 z, .slice ao n c] 31)) #[] 0 hs0 (by decide) rfl
    simp only [World.size_alloc] at h_
    exact h_
  have hC := good_any lo hi z ao c n fs _ (hv.kept (Kept.of_below hB0 hhi)) (Nat.le_trans hhi hB0.size) hs
  obtain ⟨r, hr⟩ : ∃ r, algOkB z fs = r := ⟨_, rfl⟩
  rw [hr] at hC
  have HC := Lib.hid hC
  unfold ResL
  cases r with
  | false =>
    rw [valMeetSubs_no (by rw [subuB_alg hr]; rfl)]
    clear hv hs hx hy hB hC hr
    go_enter Try.func33, Try.ntmps33
    go_wp2_with fail
    refine HC.out.mono ?_
    rintro e w1 ⟨rfl, b1⟩
    have HB1 := Lib.hid (below_then HB0.out b1)
    have cz1 := cell_b b1 cz0
    have ca1 := cell_b b1 ca0
    have HV1 := Lib.hid (HV.out.kept (Kept.of_below HB1.out hhi))
    have HX1 := Lib.hid (HX.out.kept (Kept.of_below HB1.out hhi2))
    have HY1 := Lib.hid (HY.out.kept (Kept.of_below HB1.out hhi3))
    have hs1 := HB1.out.size
    have HO1 := Lib.hid (HO0.out.kept (grown_of_below b1 none) (own_em _))
    clear b1
    go_wp2_with fail
    go_ret2
    exact ⟨_, 0, 0, rfl, rfl, OwnsInts.of_row HO1.out, HB1.out⟩
  | true =>
    have HOk := Lib.hid hr
    obtain ⟨hz1, hz2⟩ := alg_dom hr
    obtain ⟨t1, ht1⟩ : ∃ t, isSubB z fs xs = t := ⟨_, rfl⟩
    obtain ⟨t2, ht2⟩ : ∃ t, isSubB z fs ys = t := ⟨_, rfl⟩
    have HT1 := Lib.hid ht1
    have HT2 := Lib.hid ht2
    cases t1 with
    | false =>
      rw [valMeetSubs_no (by rw [subuB_ok hr, ht1]; rfl)]
      clear hv hs hx hy hB hC hr ht1 ht2
      go_enter Try.func33, Try.ntmps33
      go_wp2_with fail
      refine HC.out.mono ?_
      rintro e w1 ⟨rfl, b1⟩
      have HB1 := Lib.hid (below_then HB0.out b1)
      have cz1 := cell_b b1 cz0
      have ca1 := cell_b b1 ca0
      have HV1 := Lib.hid (HV.out.kept (Kept.of_below HB1.out hhi))
      have HX1 := Lib.hid (HX.out.kept (Kept.of_below HB1.out hhi2))
      have HY1 := Lib.hid (HY.out.kept (Kept.of_below HB1.out hhi3))
      have hs1 := HB1.out.size
      have HO1 := Lib.hid (HO0.out.kept (grown_of_below b1 none) (own_em _))
      clear b1
      have hI1 := l5Is_any lo hi z ao c n fs lo2 hi2 (some bo) d m xs w1 HV1.out (Nat.le_trans hhi hs1) HOk.out HX1.out (Nat.le_trans hhi2 hs1) hm
      rw [HT1.out] at hI1
      have HI1 := Lib.hid hI1
      clear hI1
      go_wp2_with fail
      refine HI1.out.mono ?_
      rintro e w2 ⟨rfl, b2⟩
      have HB2 := Lib.hid (HB1.out.trans (b2.mono HB1.out.size))
      have HO2 := Lib.hid (HO1.out.kept (grown_of_below b2 none) (own_em _))
      clear b2
      go_wp2_with fail
      go_ret2
      exact ⟨_, 0, 0, rfl, rfl, OwnsInts.of_row HO2.out, HB2.out⟩
    | true =>
      have hI1 := fun W (hb : Below w.heap.size w W) => l5Is_any lo hi z ao c n fs lo2 hi2 (some bo) d m xs W (HV.out.kept (Kept.of_below hb hhi)) (Nat.le_trans hhi hb.size) HOk.out (HX.out.kept (Kept.of_below hb hhi2)) (Nat.le_trans hhi2 hb.size) hm
      have hI2 := fun W (hb : Below w.heap.size w W) => l5Is_any lo hi z ao c n fs lo3 hi3 (some co) d3 m3 ys W (HV.out.kept (Kept.of_below hb hhi)) (Nat.le_trans hhi hb.size) HOk.out (HY.out.kept (Kept.of_below hb hhi3)) (Nat.le_trans hhi3 hb.size) hm3
      simp only [ht1] at hI1
      simp only [ht2] at hI2
      have HI1 := Lib.hid hI1
      have HI2 := Lib.hid hI2
      cases t2 with
      | false =>
        rw [valMeetSubs_no (by rw [subuB_ok hr, subuB_ok hr, ht1, ht2]; rfl)]
        clear hv hs hx hy hB hC hr ht1 ht2 hI1 hI2
        go_enter Try.func33, Try.ntmps33
        go_wp2_with fail
        refine HC.out.mono ?_
        rintro e w1 ⟨rfl, b1⟩
        have HB1 := Lib.hid (below_then HB0.out b1)
        have cz1 := cell_b b1 cz0
        have ca1 := cell_b b1 ca0
        have HV1 := Lib.hid (HV.out.kept (Kept.of_below HB1.out hhi))
        have HX1 := Lib.hid (HX.out.kept (Kept.of_below HB1.out hhi2))
        have HY1 := Lib.hid (HY.out.kept (Kept.of_below HB1.out hhi3))
        have hs1 := HB1.out.size
        have HO1 := Lib.hid (HO0.out.kept (grown_of_below b1 none) (own_em _))
        clear b1
        go_wp2_with fail
        refine (HI1.out _ HB1.out).mono ?_
        rintro e w2 ⟨rfl, b2⟩
        have HB2 := Lib.hid (HB1.out.trans (b2.mono HB1.out.size))
        have cz2 := cell_b b2 cz1
        have ca2 := cell_b b2 ca1
        have HO2 := Lib.hid (HO1.out.kept (grown_of_below b2 none) (own_em _))
        clear b2
        go_wp2_with fail
        refine (HI2.out _ HB2.out).mono ?_
        rintro e w3 ⟨rfl, b3⟩
        have HB3 := Lib.hid (HB2.out.trans (b3.mono HB2.out.size))
        have HO3 := Lib.hid (HO2.out.kept (grown_of_below b3 none) (own_em _))
        clear b3
        go_wp2_with fail
        go_ret2
        exact ⟨_, 0, 0, rfl, rfl, OwnsInts.of_row HO3.out, HB3.out⟩
      | true =>
        rw [valMeetSubs_yes (by rw [subuB_ok hr, subuB_ok hr, ht1, ht2]; rfl)]
        obtain ⟨hxa, hxl, hxs⟩ := isSubB_of ht1
        obtain ⟨hya, hyl, hys⟩ := isSubB_of ht2
        have HXa := Lib.hid hxa
        have HYa := Lib.hid hya
        have HXl := Lib.hid hxl
        have HYl := Lib.hid hyl
        clear hv hs hx hy hB hC hr ht1 ht2 hI1 hI2 hxa hxl hxs hya hyl hys
        go_enter Try.func33, Try.ntmps33
        go_wp2_with fail
        refine HC.out.mono ?_
        rintro e w1 ⟨rfl, b1⟩
        have HB1 := Lib.hid (below_then HB0.out b1)
        have cz1 := cell_b b1 cz0
        have ca1 := cell_b b1 ca0
        have HV1 := Lib.hid (HV.out.kept (Kept.of_below HB1.out hhi))
        have HX1 := Lib.hid (HX.out.kept (Kept.of_below HB1.out hhi2))
        have HY1 := Lib.hid (HY.out.kept (Kept.of_below HB1.out hhi3))
        have hs1 := HB1.out.size
        have HO1 := Lib.hid (HO0.out.kept (grown_of_below b1 none) (own_em _))
        clear b1
        go_wp2_with fail
        refine (HI1.out _ HB1.out).mono ?_
        rintro e w2 ⟨rfl, b2⟩
        have HB2 := Lib.hid (HB1.out.trans (b2.mono HB1.out.size))
        have cz2 := cell_b b2 cz1
        have ca2 := cell_b b2 ca1
        have HO2 := Lib.hid (HO1.out.kept (grown_of_below b2 none) (own_em _))
        clear b2
        go_wp2_with fail
        refine (HI2.out _ HB2.out).mono ?_
        rintro e w3 ⟨rfl, b3⟩
        have HB3 := Lib.hid (HB2.out.trans (b3.mono HB2.out.size))
        have cz3 := cell_b b3 cz2
        have ca3 := cell_b b3 ca2
        have HO3 := Lib.hid (HO2.out.kept (grown_of_below b3 none) (own_em _))
        clear b3 HV1 HX1 HY1
        obtain ⟨i0, hi0, hzz0, hzz1, hzz2⟩ := info_parts Try.infoInt
        have hm20 : m ≤ 8 := by rw [← HX.out.1, ← HXl.out]; exact listK_le _ _
        have HRes : Hid (meetL xs ys = listK (setN xs &&& setN ys) 8) := meetL_eq HYa.out HXl.out HYl.out hz2
        go_wp2_with fail
        go_loopw [8, 9] (fun v i wr => ∃ (k t vc g : Nat), k ≤ m ∧ i = .int .i64 (k : Int) ∧ v = .slice (some ⟨g, 0, none⟩) t vc ∧ t ≤ k ∧ Hid (wr.ownsRow w.heap.size 3 1 (.slice (some ⟨g, 0, none⟩) t vc) t ((meetL (xs.take k) ys).map (Value.int .i64))) ∧ Hid (Below w.heap.size w wr)) (fun _ i _ => m - (intOf i).toNat)
        case atStart => exact ⟨0, 0, 0, _, Nat.zero_le _, rfl, rfl, Nat.le_refl _, HO3, HB3⟩
        case round =>
          obtain ⟨k, t, vc, g, hk, rfl, rfl, htk, HR, HBr⟩ := hrel
          clear cz1 ca1 cz2 ca2 cz3 ca3
          by_cases hkm : k < m
          · have HXr := Lib.hid (HX.out.kept (Kept.of_below HBr.out hhi2))
            obtain ⟨b, o, hbo, _, _, hc⟩ := HXr.out.at_ (by omega)
            injection hbo with hbo
            subst hbo
            obtain ⟨x, hx⟩ := get_of_lt HXr.out.1 hkm
            have hcell := hc k x hx
            have HXk := Lib.hid hx
            have hHas := l1Has_any lo3 hi3 (some co) d3 m3 ys x wr (HY.out.kept (Kept.of_below HBr.out hhi3)) hm3
            obtain ⟨u, hu⟩ : ∃ u, decide (x ∈ ys) = u := ⟨_, rfl⟩
            rw [hu] at hHas
            have HHas := Lib.hid hHas
            have HU := Lib.hid hu
            have hkm' : (k : Int) < (m : Int) := by omega
            clear hc hx hHas hu
            cases u with
            | true =>
              go_wp2_with fail
              refine HHas.out.mono ?_
              rintro e w' ⟨rfl, rfl⟩
              go_wp2_with (at_builtin; refine wpList_append_own _ rfl _ _ 25 rfl w.heap.size 3 i0 (.int .i64 0) 1 8 Try.underlying25 hi0 hzz0 hzz1 hzz2 rfl (by decide) (.slice (some ⟨g, 0, none⟩) t vc) t ((meetL (xs.take k) ys).map (Value.int .i64)) rfl (HR.out.alloc _) ⟨wr.heap.size, 0, none⟩ 1 1 [.int .i64 x] rfl rfl (cell_one_new _ _ _) (fun x hx => by simp at hx; subst hx; rfl) (by unfold maxLen; omega) (by omega) (by have := HBr.out.size; simp; omega) ?_; intro v' w5 hown' hgrow' hnil')
              obtain ⟨g5, cap, rfl⟩ := ownsRow_succ hown'
              have HB5 := Lib.hid ((HBr.out.alloc HBr.out.size (.cells #[.int .i64 x] 3)).grown hgrow' (by have := HBr.out.size; simp; omega) (fun q hq => (HR.out.lt q hq).1))
              have HO5 : Hid (w5.ownsRow w.heap.size 3 1 (.slice (some ⟨g5, 0, none⟩) (t + 1) cap) (t + 1) ((meetL (xs.take (k + 1)) ys).map (Value.int .i64))) := by
                unfold Hid
                rw [meetL_yes HXk.out HU.out, List.map_append]
                exact hown'
              clear hown' hgrow' hnil'
              go_wp2_with fail
              go_roundw
              case rel => exact ⟨k + 1, t + 1, cap, g5, by omega, by go_num, rfl, by omega, HO5, HB5⟩
              case measure => simp [intOf]; omega
            | false =>
              have HO5 : Hid (wr.ownsRow w.heap.size 3 1 (.slice (some ⟨g, 0, none⟩) t vc) t ((meetL (xs.take (k + 1)) ys).map (Value.int .i64))) := by
                unfold Hid; rw [meetL_no HXk.out HU.out]; exact HR.out
              go_wp2_with fail
              refine HHas.out.mono ?_
              rintro e w' ⟨rfl, rfl⟩
              go_wp2_with fail
              go_roundw
              case rel => exact ⟨k + 1, t, vc, g, by omega, by go_num, rfl, by omega, HO5, HBr⟩
              case measure => simp [intOf]; omega
          · have hkm' : ¬ (k : Int) < (m : Int) := by omega
            go_wp2_with fail
            go_ret2
            have hR := HR.out
            rw [List.take_of_length_le (by have := HX.out.1; omega)] at hR
            rw [HRes.out] at hR
            exact ⟨some ⟨g, 0, none⟩, t, vc, rfl, by have h_ := hR.1; simp at h_; exact h_.symm, OwnsInts.of_row hR, HBr.out⟩

set_option maxRecDepth 100000 in
set_option maxHeartbeats 4000000 in
theorem specJoinSubs (lo hi : Nat) (z : Int) (ao : Option Addr) (c n : Nat) (fs : List OpD) (lo2 hi2 : Nat) (bo : Addr) (d m : Nat) (xs : List Int) (lo3 hi3 : Nat) (co : Addr) (d3 m3 : Nat) (ys : List Int) (w : World) (hv : OView w lo hi ao n fs) (hhi : hi ≤ w.heap.size) (hs : ∀ (j : Nat) (f : OpD), fs[j]? = some f → f.2.length ≤ maxLen)
    (hx : IView w lo2 hi2 (some bo) m xs) (hhi2 : hi2 ≤ w.heap.size) (hm : m ≤ maxLen) (hy : IView w lo3 hi3 (some co) m3 ys) (hhi3 : hi3 ≤ w.heap.size) (hm3 : m3 ≤ maxLen) :
    Calls Try.prog 35 #[.agg #[.int .i64 z, .slice ao n c], .slice (some bo) m d, .slice (some co) m3 d3] w fun e w' => ResL w w' (valJoinSubs z fs xs ys).1 (valJoinSubs z fs xs ys).2 e := by
  have hB := below_alloc w (.cells #[.int .i64 z, .slice ao n c] 31)
  have HB := Lib.hid hB
  have HX := Lib.hid hx
  have HY := Lib.hid hy
  have HV := Lib.hid hv
  have cz : (w.alloc (.cells #[.int .i64 z, .slice ao n c] 31)).cell? ⟨w.heap.size, 0, none⟩ = some (.int .i64 z) := by simp
  have ca : (w.alloc (.cells #[.int .i64 z, .slice ao n c] 31)).cell? ⟨w.heap.size, 1, none⟩ = some (.slice ao n c) := by simp
  have hs0 := hB.size
  have hC := good_any lo hi z ao c n fs _ (hv.kept (Kept.of_below hB hhi)) (Nat.le_trans hhi hB.size) hs
  obtain ⟨r, hr⟩ : ∃ r, algOkB z fs = r := ⟨_, rfl⟩
  rw [hr] at hC
  have HC := Lib.hid hC
  unfold ResL
  cases r with
  | false =>
    rw [valJoinSubs_no (by rw [subuB_alg hr]; rfl)]
    clear hv hs hx hy hB hC hr
    go_enter Try.func35, Try.ntmps35
    go_wp2_with fail
    refine HC.out.mono ?_
    rintro e w1 ⟨rfl, b1⟩
    have HB1 := Lib.hid (below_then HB.out b1)
    have cz1 := cell_b b1 cz
    have ca1 := cell_b b1 ca
    have HV1 := Lib.hid (HV.out.kept (Kept.of_below HB1.out hhi))
    have HX1 := Lib.hid (HX.out.kept (Kept.of_below HB1.out hhi2))
    have HY1 := Lib.hid (HY.out.kept (Kept.of_below HB1.out hhi3))
    have hs1 := HB1.out.size
    clear b1
    go_wp2_with fail
    go_ret2
    exact ⟨_, 0, 0, rfl, rfl, own_nil_res HB1.out, HB1.out.alloc HB1.out.size _⟩
  | true =>
    have HOk := Lib.hid hr
    obtain ⟨hz1, hz2⟩ := alg_dom hr
    obtain ⟨t1, ht1⟩ : ∃ t, isSubB z fs xs = t := ⟨_, rfl⟩
    obtain ⟨t2, ht2⟩ : ∃ t, isSubB z fs ys = t := ⟨_, rfl⟩
    have HT1 := Lib.hid ht1
    have HT2 := Lib.hid ht2
    cases t1 with
    | false =>
      rw [valJoinSubs_no (by rw [subuB_ok hr, ht1]; rfl)]
      clear hv hs hx hy hB hC hr ht1 ht2
      go_enter Try.func35, Try.ntmps35
      go_wp2_with fail
      refine HC.out.mono ?_
      rintro e w1 ⟨rfl, b1⟩
      have HB1 := Lib.hid (below_then HB.out b1)
      have cz1 := cell_b b1 cz
      have ca1 := cell_b b1 ca
      have HV1 := Lib.hid (HV.out.kept (Kept.of_below HB1.out hhi))
      have HX1 := Lib.hid (HX.out.kept (Kept.of_below HB1.out hhi2))
      have HY1 := Lib.hid (HY.out.kept (Kept.of_below HB1.out hhi3))
      have hs1 := HB1.out.size
      clear b1
      have hI1 := l5Is_any lo hi z ao c n fs lo2 hi2 (some bo) d m xs w1 HV1.out (Nat.le_trans hhi hs1) HOk.out HX1.out (Nat.le_trans hhi2 hs1) hm
      rw [HT1.out] at hI1
      have HI1 := Lib.hid hI1
      clear hI1
      go_wp2_with fail
      refine HI1.out.mono ?_
      rintro e w2 ⟨rfl, b2⟩
      have HB2 := Lib.hid (HB1.out.trans (b2.mono HB1.out.size))
      clear b2
      go_wp2_with fail
      go_ret2
      exact ⟨_, 0, 0, rfl, rfl, own_nil_res HB2.out, HB2.out.alloc HB2.out.size _⟩
    | true =>
      have hI1 := fun W (hb : Below w.heap.size w W) => l5Is_any lo hi z ao c n fs lo2 hi2 (some bo) d m xs W (HV.out.kept (Kept.of_below hb hhi)) (Nat.le_trans hhi hb.size) HOk.out (HX.out.kept (Kept.of_below hb hhi2)) (Nat.le_trans hhi2 hb.size) hm
      have hI2 := fun W (hb : Below w.heap.size w W) => l5Is_any lo hi z ao c n fs lo3 hi3 (some co) d3 m3 ys W (HV.out.kept (Kept.of_below hb hhi)) (Nat.le_trans hhi hb.size) HOk.out (HY.out.kept (Kept.of_below hb hhi3)) (Nat.le_trans hhi3 hb.size) hm3
      simp only [ht1] at hI1
      simp only [ht2] at hI2
      have HI1 := Lib.hid hI1
      have HI2 := Lib.hid hI2
      cases t2 with
      | false =>
        rw [valJoinSubs_no (by rw [subuB_ok hr, subuB_ok hr, ht1, ht2]; rfl)]
        clear hv hs hx hy hB hC hr ht1 ht2 hI1 hI2
        go_enter Try.func35, Try.ntmps35
        go_wp2_with fail
        refine HC.out.mono ?_
        rintro e w1 ⟨rfl, b1⟩
        have HB1 := Lib.hid (below_then HB.out b1)
        have cz1 := cell_b b1 cz
        have ca1 := cell_b b1 ca
        have HV1 := Lib.hid (HV.out.kept (Kept.of_below HB1.out hhi))
        have HX1 := Lib.hid (HX.out.kept (Kept.of_below HB1.out hhi2))
        have HY1 := Lib.hid (HY.out.kept (Kept.of_below HB1.out hhi3))
        have hs1 := HB1.out.size
        clear b1
        go_wp2_with fail
        refine (HI1.out _ HB1.out).mono ?_
        rintro e w2 ⟨rfl, b2⟩
        have HB2 := Lib.hid (HB1.out.trans (b2.mono HB1.out.size))
        have cz2 := cell_b b2 cz1
        have ca2 := cell_b b2 ca1
        clear b2
        go_wp2_with fail
        refine (HI2.out _ HB2.out).mono ?_
        rintro e w3 ⟨rfl, b3⟩
        have HB3 := Lib.hid (HB2.out.trans (b3.mono HB2.out.size))
        clear b3
        go_wp2_with fail
        go_ret2
        exact ⟨_, 0, 0, rfl, rfl, own_nil_res HB3.out, HB3.out.alloc HB3.out.size _⟩
      | true =>
        rw [valJoinSubs_yes (by rw [subuB_ok hr, subuB_ok hr, ht1, ht2]; rfl)]
        obtain ⟨hxa, hxl, hxs⟩ := isSubB_of ht1
        obtain ⟨hya, hyl, hys⟩ := isSubB_of ht2
        have HXa := Lib.hid hxa
        have HYa := Lib.hid hya
        have HXl := Lib.hid hxl
        have HYl := Lib.hid hyl
        clear hv hs hx hy hB hC hr ht1 ht2 hI1 hI2 hxa hxl hxs hya hyl hys
        go_enter Try.func35, Try.ntmps35
        go_wp2_with fail
        refine HC.out.mono ?_
        rintro e w1 ⟨rfl, b1⟩
        have HB1 := Lib.hid (below_then HB.out b1)
        have cz1 := cell_b b1 cz
        have ca1 := cell_b b1 ca
        have HV1 := Lib.hid (HV.out.kept (Kept.of_below HB1.out hhi))
        have HX1 := Lib.hid (HX.out.kept (Kept.of_below HB1.out hhi2))
        have HY1 := Lib.hid (HY.out.kept (Kept.of_below HB1.out hhi3))
        have hs1 := HB1.out.size
        clear b1
        go_wp2_with fail
        refine (HI1.out _ HB1.out).mono ?_
        rintro e w2 ⟨rfl, b2⟩
        have HB2 := Lib.hid (HB1.out.trans (b2.mono HB1.out.size))
        have cz2 := cell_b b2 cz1
        have ca2 := cell_b b2 ca1
        clear b2
        go_wp2_with fail
        refine (HI2.out _ HB2.out).mono ?_
        rintro e w3 ⟨rfl, b3⟩
        have HB3 := Lib.hid (HB2.out.trans (b3.mono HB2.out.size))
        have cz3 := cell_b b3 cz2
        have ca3 := cell_b b3 ca2
        clear b3 HV1 HX1 HY1
        have hm20 : m ≤ 8 := by rw [← HX.out.1, ← HXl.out]; exact listK_le _ _
        have hm320 : m3 ≤ 8 := by rw [← HY.out.1, ← HYl.out]; exact listK_le _ _
        have hyl3 := HY.out.1
        have HOwn := Lib.hid (fun W (hb : Below w3.heap.size w3 W) => own_all lo2 hi2 bo m d xs w3.heap.size W (HX.out.kept (Kept.of_below (HB3.out.trans (hb.mono HB3.out.size)) hhi2)) (by omega) hb.size)
        have HSe : Hid (setN (xs ++ ys) = setN xs ||| setN ys) := setN_app xs ys
        have HAa : Hid (allIn z (xs ++ ys) = true) := by unfold Hid allIn; rw [List.all_append, Bool.and_eq_true]; exact ⟨HXa.out, HYa.out⟩
        go_wp2_with fail
        refine wp_region_noPanic ?_
        refine wp_region_held_drew (S := fun W => W.cell? ⟨w.heap.size, 0, none⟩ = some (.int .i64 z) ∧ W.cell? ⟨w.heap.size, 1, none⟩ = some (.slice ao n c)) (by kernel_rfl) ?_ (fun hHeld => ?_)
        · exact ⟨cz3, ca3⟩
        refine wpAnyH_take (i := 0) (oi := ⟨_, _, _, _, _, _⟩) (v := ?_) rfl (by kernel_rfl) (by kernel_rfl) (by kernel_rfl) (fun _ _ _ h => h) (Or.inl ⟨rfl, ?_⟩) (by assumption) ?_
        rotate_left 1
        · intro w_ hSw; (try dsimp only at hSw); go_simp; (try with_reducible rfl)
        (try simp only [Act.put, List.setIfInBounds_toArray, List.set_cons_zero, List.set_cons_succ])
        refine wpAnyH_take (i := 1) (oi := ⟨_, _, _, _, _, _⟩) (v := ?_) rfl (by kernel_rfl) (by kernel_rfl) (by kernel_rfl) (fun _ _ _ h => h) (Or.inl ⟨rfl, ?_⟩) (by assumption) ?_
        rotate_left 1
        · intro w_ hSw; (try dsimp only at hSw); go_simp; (try with_reducible rfl)
        (try simp only [Act.put, List.setIfInBounds_toArray, List.set_cons_zero, List.set_cons_succ])
        refine wpAnyH_take (i := 3) (oi := ⟨_, _, _, _, _, _⟩) (v := ?_) rfl (by kernel_rfl) (by kernel_rfl) (by kernel_rfl) (fun _ _ _ h => h) (Or.inl ⟨rfl, ?_⟩) (by assumption) ?_
        rotate_left 1
        · intro w_ hSw; (try dsimp only at hSw); go_simp; (try with_reducible rfl)
        (try simp only [Act.put, List.setIfInBounds_toArray, List.set_cons_zero, List.set_cons_succ])
        refine wpAnyH_ready (rs := [2]) (by kernel_rfl) (by simp) ?_
        refine AllReadyH.cons (o := ⟨_, _, _, _, _, _⟩) rfl (fun K hK => ?_) AllReadyH.nil
        go_simp
        go_at_call 67
        refine (HOwn.out _ (below_drew w3)).mono ?_
        rintro e w4 ⟨g4, d4, rfl, ho4, b4⟩
        have bD := below_then (below_drew w3) b4
        have HB4 := Lib.hid (HB3.out.trans (bD.mono HB3.out.size))
        have cz4 := cell_b bD cz3
        have ca4 := cell_b bD ca3
        have HO4 : Hid (w4.ownsRow w3.heap.size 3 1 (.slice (some ⟨g4, 0, none⟩) m d4) m (xs.map (Value.int .i64))) := ho4
        have HY4 := Lib.hid (HY.out.kept (Kept.of_below HB4.out hhi3))
        have hw4 : w3.heap.size ≤ w4.heap.size := bD.size
        clear b4 bD ho4
        go_wp2_with fail
        refine hK.out _ _ ?_ (fun hHeld => ?_)
        · exact ⟨cz4, ca4⟩
        clear hK K
        (try simp only [Act.put, List.setIfInBounds_toArray, List.set_cons_zero, List.set_cons_succ])
        refine wpAnyH_ready (rs := [4]) (by kernel_rfl) (by simp) ?_
        refine AllReadyH.cons (o := ⟨_, _, _, _, _, _⟩) rfl (fun K hK => ?_) AllReadyH.nil
        refine step_append_ints ?_ _ _ rfl w3.heap.size g4 m d4 xs ?_ ?_ co m3 d3 ys ?_ hyl3 ?_ ?_ ?_ ?_
        · rfl
        · rfl
        · exact HO4.out
        · rfl
        · exact cells_of HY4.out
        · omega
        · exact hw4
        intro gC cC wC hC hgC hatC
        have hgl := (HO4.out.lt g4 rfl).1
        have hbC : Below w3.heap.size w4 wC := (Below.refl _ _).grown hgC hw4 (by intro q hq; cases hq; exact hgl)
        have cz5 : wC.cell? ⟨w.heap.size, 0, none⟩ = some (.int .i64 z) := (hbC.cell (p := ⟨w.heap.size, 0, none⟩) (World.block_lt_of_cell? w3 _ cz3)).trans cz4
        have ca5 : wC.cell? ⟨w.heap.size, 1, none⟩ = some (.slice ao n c) := (hbC.cell (p := ⟨w.heap.size, 1, none⟩) (World.block_lt_of_cell? w3 _ ca3)).trans ca4
        have HB5 := Lib.hid (HB4.out.trans (hbC.mono HB3.out.size))
        have hV5 : IView wC w3.heap.size wC.heap.size (some ⟨gC, 0, none⟩) (m + m3) (xs ++ ys) := (OwnsInts.of_row hC).view
        have hCl := l5Close_any lo hi w3.heap.size wC.heap.size z ao (some ⟨gC, 0, none⟩) c n cC (m + m3) fs (xs ++ ys) wC (HV.out.kept (Kept.of_below HB5.out hhi)) (Nat.le_trans hhi HB5.out.size) HOk.out hV5 (Nat.le_refl _) (by unfold maxLen; omega) HAa.out
        rw [HSe.out] at hCl
        have HCl := Lib.hid hCl
        clear hC hgC hatC hgl hbC hV5 hCl
        refine hK.out _ _ ?_ (fun hHeld => ?_)
        · exact ⟨cz5, ca5⟩
        clear hK K
        (try simp only [Act.put, List.setIfInBounds_toArray, List.set_cons_zero, List.set_cons_succ])
        refine wpAnyH_ready (rs := [5]) (by kernel_rfl) (by simp) ?_
        refine AllReadyH.cons (o := ⟨_, _, _, _, _, _⟩) rfl (fun K hK => ?_) AllReadyH.nil
        go_simp
        go_at_call 53
        refine HCl.out.mono ?_
        rintro e w6 ⟨a6, m6, d6, rfl, hm6, ho6, b6⟩
        have HB6 := Lib.hid (HB5.out.trans (b6.mono HB5.out.size))
        have HO6 := Lib.hid (ownsRow_base ho6 HB5.out.size)
        have HM6 := Lib.hid hm6
        have cz6 := cell_b b6 cz5
        have ca6 := cell_b b6 ca5
        clear b6 ho6 hm6
        go_wp2_with fail
        refine hK.out _ _ ?_ (fun hHeld => ?_)
        · exact ⟨cz6, ca6⟩
        clear hK K
        (try simp only [Act.put, List.setIfInBounds_toArray, List.set_cons_zero, List.set_cons_succ])
        refine wpAnyH_take (i := 6) (oi := ⟨_, _, _, _, _, _⟩) (v := ?_) rfl (by kernel_rfl) (by kernel_rfl) (by kernel_rfl) (fun _ _ _ h => h) (Or.inl ⟨rfl, ?_⟩) (by assumption) ?_
        rotate_left 1
        · intro w_ hSw; (try dsimp only at hSw); go_simp; (try with_reducible rfl)
        (try simp only [Act.put, List.setIfInBounds_toArray, List.set_cons_zero, List.set_cons_succ])
        refine wpAnyH_take (i := 7) (oi := ⟨_, _, _, _, _, _⟩) (v := ?_) rfl (by kernel_rfl) (by kernel_rfl) (by kernel_rfl) (fun _ _ _ h => h) (Or.inl ⟨rfl, ?_⟩) (by assumption) ?_
        rotate_left 1
        · intro w_ hSw; (try dsimp only at hSw); go_simp; (try with_reducible rfl)
        (try simp only [Act.put, List.setIfInBounds_toArray, List.set_cons_zero, List.set_cons_succ])
        refine wpAnyH_done (by kernel_rfl) ?_ _
        refine NoPanic.normal ?_
        go_wp2_with fail
        go_ret2
        exact ⟨a6, m6, d6, rfl, HM6.out, OwnsInts.of_row HO6.out, HB6.out⟩

set_option maxHeartbeats 2000000 in
theorem implMeetSubs (lo hi : Nat) (z : Int) (ao : Option Addr) (c n : Nat) (fs : List OpD) (lo2 hi2 : Nat) (bo : Option Addr) (d m : Nat) (xs : List Int) (lo3 hi3 : Nat) (co : Option Addr) (d3 m3 : Nat) (ys : List Int) (w : World) (hv : OView w lo hi ao n fs) (hhi : hi ≤ w.heap.size) (hs : ∀ (j : Nat) (f : OpD), fs[j]? = some f → f.2.length ≤ maxLen)
    (hx : IView w lo2 hi2 bo m xs) (hhi2 : hi2 ≤ w.heap.size) (hm : m ≤ maxLen) (hy : IView w lo3 hi3 co m3 ys) (hhi3 : hi3 ≤ w.heap.size) (hm3 : m3 ≤ maxLen) :
    Calls Try.prog 34 #[.agg #[.int .i64 z, .slice ao n c], .slice bo m d, .slice co m3 d3] w fun e w' => ResL w w' (valMeetSubs z fs xs ys).1 (valMeetSubs z fs xs ys).2 e := by
  have hB := below_alloc w (.cells #[.int .i64 z, .slice ao n c] 31)
  have HB := Lib.hid hB
  have HX := Lib.hid hx
  have HY := Lib.hid hy
  have HV := Lib.hid hv
  have cz : (w.alloc (.cells #[.int .i64 z, .slice ao n c] 31)).cell? ⟨w.heap.size, 0, none⟩ = some (.int .i64 z) := by simp
  have ca : (w.alloc (.cells #[.int .i64 z, .slice ao n c] 31)).cell? ⟨w.heap.size, 1, none⟩ = some (.slice ao n c) := by simp
  have hs0 := hB.size
  have hC := subOf_any lo hi z ao c n fs lo2 hi2 bo d m xs _ (hv.kept (Kept.of_below hB hhi)) (Nat.le_trans hhi hB.size) hs (hx.kept (Kept.of_below hB hhi2)) (Nat.le_trans hhi2 hB.size) hm
  have hC2 := fun W (hb : Below w.heap.size w W) => subOf_any lo hi z ao c n fs lo3 hi3 co d3 m3 ys W (HV.out.kept (Kept.of_below hb hhi)) (Nat.le_trans hhi hb.size) hs (HY.out.kept (Kept.of_below hb hhi3)) (Nat.le_trans hhi3 hb.size) hm3
  have hsx : (if subuB z fs xs then setN xs else 0) < 2 ^ 8 := by
    split
    · rename_i h_
      exact setN_lt (isSubB_of (subuB_of h_).2).1 (alg_dom (subuB_of h_).1).2
    · decide
  have hsy : (if subuB z fs ys then setN ys else 0) < 2 ^ 8 := by
    split
    · rename_i h_
      exact setN_lt (isSubB_of (subuB_of h_).2).1 (alg_dom (subuB_of h_).1).2
    · decide
  obtain ⟨S, hS⟩ : ∃ S : Nat, (if subuB z fs xs then setN xs else 0) = S := ⟨_, rfl⟩
  obtain ⟨T, hT⟩ : ∃ S : Nat, (if subuB z fs ys then setN ys else 0) = S := ⟨_, rfl⟩
  obtain ⟨t1, ht1⟩ : ∃ t, subuB z fs xs = t := ⟨_, rfl⟩
  obtain ⟨t2, ht2⟩ : ∃ t, subuB z fs ys = t := ⟨_, rfl⟩
  rw [hS] at hC hsx
  simp only [hT] at hC2 hsy
  rw [ht1] at hC
  simp only [ht2] at hC2
  have HSx := Lib.hid hsx
  have HSy := Lib.hid hsy
  have HC := Lib.hid hC
  have HC2 := Lib.hid hC2
  unfold ResL
  cases t1 with
  | false =>
    rw [valMeetSubs_no (by rw [ht1]; rfl)]
    clear hv hs hx hy hB hC hC2 hS hT ht1 ht2 hsx hsy
    go_enter Try.func34, Try.ntmps34
    go_wp2_with fail
    refine HC.out.mono ?_
    rintro e w1 ⟨rfl, b1⟩
    have HB1 := Lib.hid (below_then HB.out b1)
    have cz1 := cell_b b1 cz
    have ca1 := cell_b b1 ca
    clear b1
    go_wp2_with fail
    refine (HC2.out _ HB1.out).mono ?_
    rintro e w2 ⟨rfl, b2⟩
    have HB2 := Lib.hid (HB1.out.trans (b2.mono HB1.out.size))
    clear b2
    go_wp2_with fail
    go_ret2
    exact ⟨none, 0, 0, rfl, rfl, OwnsInts.none_ _ _ _, HB2.out⟩
  | true =>
    cases t2 with
    | false =>
      rw [valMeetSubs_no (by rw [ht1, ht2]; rfl)]
      clear hv hs hx hy hB hC hC2 hS hT ht1 ht2 hsx hsy
      go_enter Try.func34, Try.ntmps34
      go_wp2_with fail
      refine HC.out.mono ?_
      rintro e w1 ⟨rfl, b1⟩
      have HB1 := Lib.hid (below_then HB.out b1)
      have cz1 := cell_b b1 cz
      have ca1 := cell_b b1 ca
      clear b1
      go_wp2_with fail
      refine (HC2.out _ HB1.out).mono ?_
      rintro e w2 ⟨rfl, b2⟩
      have HB2 := Lib.hid (HB1.out.trans (b2.mono HB1.out.size))
      clear b2
      go_wp2_with fail
      go_ret2
      exact ⟨none, 0, 0, rfl, rfl, OwnsInts.none_ _ _ _, HB2.out⟩
    | true =>
      rw [valMeetSubs_yes (by rw [ht1, ht2]; rfl)]
      obtain ⟨hok, hsub1⟩ := subuB_of ht1
      have HOk := Lib.hid hok
      obtain ⟨hz1, hz2⟩ := alg_dom hok
      rw [ht1] at hS
      rw [ht2] at hT
      simp only [if_true] at hS hT
      have HXS : Hid (setN xs < 2 ^ z.toNat) := setN_lt (isSubB_of hsub1).1 (by omega)
      have HYS : Hid (setN ys < 2 ^ z.toNat) := setN_lt (isSubB_of (subuB_of ht2).2).1 (by omega)
      rw [hS] at HXS ⊢
      rw [hT] at HYS ⊢
      clear hv hs hx hy hB hC hC2 hS hT ht1 ht2 hsx hsy hok hsub1
      go_enter Try.func34, Try.ntmps34
      go_wp2_with fail
      refine HC.out.mono ?_
      rintro e w1 ⟨rfl, b1⟩
      have HB1 := Lib.hid (below_then HB.out b1)
      have cz1 := cell_b b1 cz
      have ca1 := cell_b b1 ca
      clear b1
      go_wp2_with fail
      refine (HC2.out _ HB1.out).mono ?_
      rintro e w2 ⟨rfl, b2⟩
      have HB2 := Lib.hid (HB1.out.trans (b2.mono HB1.out.size))
      have cz2 := cell_b b2 cz1
      have ca2 := cell_b b2 ca1
      clear b2
      have hand : bits .and .u64 (S : Int) (T : Int) = ((S &&& T : Nat) : Int) := bits_and_set HSx.out HSy.out
      have HLi := Lib.hid (list_any (S &&& T) w2 (Nat.and_lt_two_pow _ HSy.out))
      go_wp2_with fail
      refine HLi.out.mono ?_
      rintro e w4 ⟨a4, m4, d4, rfl, hm4, ho4, b4⟩
      have HB4 := Lib.hid (HB2.out.trans (b4.mono HB2.out.size))
      have HO4 := Lib.hid (ownsRow_base ho4 HB2.out.size)
      have HM4 := Lib.hid hm4
      clear b4 ho4 hm4
      go_wp2_with fail
      go_ret2
      exact ⟨a4, m4, d4, rfl, HM4.out, OwnsInts.of_row HO4.out, HB4.out⟩
set_option maxHeartbeats 2000000 in
theorem implJoinSubs (lo hi : Nat) (z : Int) (ao : Option Addr) (c n : Nat) (fs : List OpD) (lo2 hi2 : Nat) (bo : Option Addr) (d m : Nat) (xs : List Int) (lo3 hi3 : Nat) (co : Option Addr) (d3 m3 : Nat) (ys : List Int) (w : World) (hv : OView w lo hi ao n fs) (hhi : hi ≤ w.heap.size) (hs : ∀ (j : Nat) (f : OpD), fs[j]? = some f → f.2.length ≤ maxLen)
    (hx : IView w lo2 hi2 bo m xs) (hhi2 : hi2 ≤ w.heap.size) (hm : m ≤ maxLen) (hy : IView w lo3 hi3 co m3 ys) (hhi3 : hi3 ≤ w.heap.size) (hm3 : m3 ≤ maxLen) :
    Calls Try.prog 36 #[.agg #[.int .i64 z, .slice ao n c], .slice bo m d, .slice co m3 d3] w fun e w' => ResL w w' (valJoinSubs z fs xs ys).1 (valJoinSubs z fs xs ys).2 e := by
  have hB := below_alloc w (.cells #[.int .i64 z, .slice ao n c] 31)
  have HB := Lib.hid hB
  have HX := Lib.hid hx
  have HY := Lib.hid hy
  have HV := Lib.hid hv
  have cz : (w.alloc (.cells #[.int .i64 z, .slice ao n c] 31)).cell? ⟨w.heap.size, 0, none⟩ = some (.int .i64 z) := by simp
  have ca : (w.alloc (.cells #[.int .i64 z, .slice ao n c] 31)).cell? ⟨w.heap.size, 1, none⟩ = some (.slice ao n c) := by simp
  have hs0 := hB.size
  have hC := subOf_any lo hi z ao c n fs lo2 hi2 bo d m xs _ (hv.kept (Kept.of_below hB hhi)) (Nat.le_trans hhi hB.size) hs (hx.kept (Kept.of_below hB hhi2)) (Nat.le_trans hhi2 hB.size) hm
  have hC2 := fun W (hb : Below w.heap.size w W) => subOf_any lo hi z ao c n fs lo3 hi3 co d3 m3 ys W (HV.out.kept (Kept.of_below hb hhi)) (Nat.le_trans hhi hb.size) hs (HY.out.kept (Kept.of_below hb hhi3)) (Nat.le_trans hhi3 hb.size) hm3
  have hsx : (if subuB z fs xs then setN xs else 0) < 2 ^ 8 := by
    split
    · rename_i h_
      exact setN_lt (isSubB_of (subuB_of h_).2).1 (alg_dom (subuB_of h_).1).2
    · decide
  have hsy : (if subuB z fs ys then setN ys else 0) < 2 ^ 8 := by
    split
    · rename_i h_
      exact setN_lt (isSubB_of (subuB_of h_).2).1 (alg_dom (subuB_of h_).1).2
    · decide
  obtain ⟨S, hS⟩ : ∃ S : Nat, (if subuB z fs xs then setN xs else 0) = S := ⟨_, rfl⟩
  obtain ⟨T, hT⟩ : ∃ S : Nat, (if subuB z fs ys then setN ys else 0) = S := ⟨_, rfl⟩
  obtain ⟨t1, ht1⟩ : ∃ t, subuB z fs xs = t := ⟨_, rfl⟩
  obtain ⟨t2, ht2⟩ : ∃ t, subuB z fs ys = t := ⟨_, rfl⟩
  rw [hS] at hC hsx
  simp only [hT] at hC2 hsy
  rw [ht1] at hC
  simp only [ht2] at hC2
  have HSx := Lib.hid hsx
  have HSy := Lib.hid hsy
  have HC := Lib.hid hC
  have HC2 := Lib.hid hC2
  unfold ResL
  cases t1 with
  | false =>
    rw [valJoinSubs_no (by rw [ht1]; rfl)]
    clear hv hs hx hy hB hC hC2 hS hT ht1 ht2 hsx hsy
    go_enter Try.func36, Try.ntmps36
    go_wp2_with fail
    refine HC.out.mono ?_
    rintro e w1 ⟨rfl, b1⟩
    have HB1 := Lib.hid (below_then HB.out b1)
    have cz1 := cell_b b1 cz
    have ca1 := cell_b b1 ca
    clear b1
    go_wp2_with fail
    refine (HC2.out _ HB1.out).mono ?_
    rintro e w2 ⟨rfl, b2⟩
    have HB2 := Lib.hid (HB1.out.trans (b2.mono HB1.out.size))
    clear b2
    go_wp2_with fail
    go_ret2
    exact ⟨none, 0, 0, rfl, rfl, OwnsInts.none_ _ _ _, HB2.out⟩
  | true =>
    cases t2 with
    | false =>
      rw [valJoinSubs_no (by rw [ht1, ht2]; rfl)]
      clear hv hs hx hy hB hC hC2 hS hT ht1 ht2 hsx hsy
      go_enter Try.func36, Try.ntmps36
      go_wp2_with fail
      refine HC.out.mono ?_
      rintro e w1 ⟨rfl, b1⟩
      have HB1 := Lib.hid (below_then HB.out b1)
      have cz1 := cell_b b1 cz
      have ca1 := cell_b b1 ca
      clear b1
      go_wp2_with fail
      refine (HC2.out _ HB1.out).mono ?_
      rintro e w2 ⟨rfl, b2⟩
      have HB2 := Lib.hid (HB1.out.trans (b2.mono HB1.out.size))
      clear b2
      go_wp2_with fail
      go_ret2
      exact ⟨none, 0, 0, rfl, rfl, OwnsInts.none_ _ _ _, HB2.out⟩
    | true =>
      rw [valJoinSubs_yes (by rw [ht1, ht2]; rfl)]
      obtain ⟨hok, hsub1⟩ := subuB_of ht1
      have HOk := Lib.hid hok
      obtain ⟨hz1, hz2⟩ := alg_dom hok
      rw [ht1] at hS
      rw [ht2] at hT
      simp only [if_true] at hS hT
      have HXS : Hid (setN xs < 2 ^ z.toNat) := setN_lt (isSubB_of hsub1).1 (by omega)
      have HYS : Hid (setN ys < 2 ^ z.toNat) := setN_lt (isSubB_of (subuB_of ht2).2).1 (by omega)
      rw [hS] at HXS ⊢
      rw [hT] at HYS ⊢
      clear hv hs hx hy hB hC hC2 hS hT ht1 ht2 hsx hsy hok hsub1
      go_enter Try.func36, Try.ntmps36
      go_wp2_with fail
      refine HC.out.mono ?_
      rintro e w1 ⟨rfl, b1⟩
      have HB1 := Lib.hid (below_then HB.out b1)
      have cz1 := cell_b b1 cz
      have ca1 := cell_b b1 ca
      clear b1
      go_wp2_with fail
      refine (HC2.out _ HB1.out).mono ?_
      rintro e w2 ⟨rfl, b2⟩
      have HB2 := Lib.hid (HB1.out.trans (b2.mono HB1.out.size))
      have cz2 := cell_b b2 cz1
      have ca2 := cell_b b2 ca1
      clear b2
      have hor : bits .or .u64 (S : Int) (T : Int) = ((S ||| T : Nat) : Int) := bits_or_set HSx.out HSy.out
      have HG := Lib.hid (generated_any lo hi z ao c n fs (S ||| T) w2 (HV.out.kept (Kept.of_below HB2.out hhi)) (Nat.le_trans hhi HB2.out.size) HOk.out (or_lt HXS.out HYS.out))
      have HCl8 := Lib.hid (closeN_lt (fs := fs) (n := 8) HOk.out hz2 (or_lt HSx.out HSy.out))
      go_wp2_with fail
      refine HG.out.mono ?_
      rintro e w3 ⟨rfl, b3⟩
      have HB3 := Lib.hid (HB2.out.trans (b3.mono HB2.out.size))
      have HLi := Lib.hid (list_any (closeN z fs (S ||| T)) w3 HCl8.out)
      clear b3
      go_wp2_with fail
      refine HLi.out.mono ?_
      rintro e w4 ⟨a4, m4, d4, rfl, hm4, ho4, b4⟩
      have HB4 := Lib.hid (HB3.out.trans (b4.mono HB3.out.size))
      have HO4 := Lib.hid (ownsRow_base ho4 HB3.out.size)
      have HM4 := Lib.hid hm4
      clear b4 ho4 hm4
      go_wp2_with fail
      go_ret2
      exact ⟨a4, m4, d4, rfl, HM4.out, OwnsInts.of_row HO4.out, HB4.out⟩

end Go.Proofs.Ytmhlkopkcgmpjaa
