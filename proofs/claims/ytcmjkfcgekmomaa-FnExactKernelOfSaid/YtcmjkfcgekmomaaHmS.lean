/-
  Contracts: spec.l7Two, l7Map, l7Images, l7Fault, l7Is. Conditions: the bounds that each theorem names.
-/
import Derived.Test.YtcmjkfcgekmomaaHmI
import Derived.Test.YtcmjkfcgekmomaaTwoS
import Derived.Test.YtcmjkfcgekmomaaDigs
import Derived.Test.YtcmjkfcgekmomaaIdxV
import Derived.Test.YtcmjkfcgekmomaaElems
import Derived.Test.YtcmjkfcgekmomaaSetQ
import Derived.Deep.RegionHeld3
namespace Go.Proofs.Ytcmjkfcgekmomaa
open Go.RowKit
set_option linter.unusedVariables false
set_option linter.unusedSimpArgs false

section
variable (lo hi lo2 hi2 lo3 hi3 : Nat) (z z1 : Int) (ao bo co : Option Addr) (c n d m e l : Nat) (fs gs : List OpD) (xs : List Int) (w : World)

set_option maxHeartbeats 1000000 in
theorem map_spec (hz1 : -9223372036854775807 ≤ z1) (hz2 : z1 ≤ 9223372036854775807) (hx : IView w lo3 hi3 co l xs) (hhi3 : hi3 ≤ w.heap.size) (hl : l ≤ maxLen) :
    Calls Try.prog 91 #[.agg #[.int .i64 z, .slice ao n c], .agg #[.int .i64 z1, .slice bo m d], .slice co l e] w fun en w' => en = .returned (.bool (decide ((l : Int) = z) && allIn z1 xs)) ∧ Below w.heap.size w w' := by
  obtain ⟨w1, hw1, hbx, hsz⟩ := bx2_new w z ao n c z1 bo m d 31
  have HBx := Lib.hid hbx
  have HE := Lib.hid (fun (W : World) (hW : Bx2 w W z ao n c z1 bo m d) => elems_spec lo3 hi3 z1 co e l xs W (hx.kept (Kept.of_below hW.bel hhi3)) hz1 hz2 hl)
  obtain ⟨cz, ca, cz1, ca1, cB⟩ := hbx
  obtain ⟨r, hr⟩ : ∃ r, allIn z1 xs = r := ⟨_, rfl⟩
  rw [hr] at HE ⊢
  unfold maxLen at hl
  clear hx hr cB
  by_cases hlz : (l : Int) = z
  · have hne : ((l : Int) == z) = true := by simp [hlz]
    rw [decide_eq_true hlz, Bool.true_and]
    clear hlz
    go_enter Try.func91, Try.ntmps91
    go_wp2_with fail
    rw [← hw1]
    clear hw1
    go_wp2_with fail
    refine (HE.out _ HBx.out).mono ?_
    rintro e w2 ⟨rfl, rfl⟩
    go_wp2_with fail
    go_ret
    exact ⟨rfl, HBx.out.bel⟩
  · have hne : ((l : Int) == z) = false := by simp [hlz]
    rw [decide_eq_false hlz, Bool.false_and]
    clear hlz HE
    go_enter Try.func91, Try.ntmps91
    go_wp2_with fail
    rw [← hw1]
    clear hw1
    go_wp2_with fail
    go_ret
    exact ⟨rfl, HBx.out.bel⟩
end

set_option maxHeartbeats 1000000 in
theorem images_spec (lo hi lo2 hi2 : Nat) (co go : Option Addr) (e l q p : Nat) (xs args : List Int) (w : World) (hx : IView w lo hi co l xs) (hhi : hi ≤ w.heap.size) (hy : IView w lo2 hi2 go p args) (hhi2 : hi2 ≤ w.heap.size) (ha : allIn (l : Int) args = true) (hp : p ≤ 1048576) :
    Calls Try.prog 129 #[.slice co l e, .slice go p q] w fun en w' => ListAt w w' (imgF (arrL xs) args) en := by
  obtain ⟨i0, hi0, hz0, hz1, hz2⟩ := info_parts Try.infoInt
  have HX := Lib.hid hx
  have HY := Lib.hid hy
  have HA := Lib.hid ha
  have HB0 := Lib.hid (below_alloc w (.cells #[] 3))
  have HO0 : Hid ((w.alloc (.cells #[] 3)).ownsRow w.heap.size 3 1 (.slice (some ⟨w.heap.size, 0, none⟩) 0 0) 0 ((imgF (arrL xs) (args.take 0)).map (Value.int .i64))) := World.ownsRow_lit (base := w.heap.size) (e := 3) (size := 1) w #[] 0 (Nat.le_refl _) (by decide) rfl
  clear hx hy ha
  unfold ListAt
  go_enter Try.func129, Try.ntmps129
  go_wp2_with fail
  go_loopw [5, 6] (fun v i wr => ∃ (j vc g : Nat), j ≤ p ∧ i = .int .i64 (j : Int) ∧ v = .slice (some ⟨g, 0, none⟩) j vc ∧ Hid (wr.ownsRow w.heap.size 3 1 (.slice (some ⟨g, 0, none⟩) j vc) j ((imgF (arrL xs) (args.take j)).map (Value.int .i64))) ∧ Hid (Below w.heap.size w wr)) (fun _ i _ => p - (intOf i).toNat)
  case atStart => exact ⟨0, 0, w.heap.size, Nat.zero_le _, rfl, rfl, HO0, HB0⟩
  case round =>
    obtain ⟨j, vc, g, hj, rfl, rfl, HR, HBr⟩ := hrel
    by_cases hjp : j < p
    · have hjn : (j : Int) < (p : Int) := by omega
      obtain ⟨b2, o2, rfl, _, hb2, hc2⟩ := HY.out.at_ (by omega)
      obtain ⟨y, hy⟩ := get_of_lt HY.out.1 hjp
      obtain ⟨y0, y1⟩ := allIn_get HA.out hy
      obtain ⟨yn, rfl⟩ : ∃ yn : Nat, y = (yn : Int) := ⟨y.toNat, by omega⟩
      have hyn : yn < l := by omega
      obtain ⟨b, o, rfl, _, hb, hc⟩ := HX.out.at_ (by omega)
      obtain ⟨x, hx⟩ := get_of_lt HX.out.1 hyn
      have e1 : wr.cell? ⟨b2, o2 + j, none⟩ = some (.int .i64 (yn : Int)) := (HBr.out.cell (p := ⟨b2, o2 + j, none⟩) (by show b2 < _; omega)).trans (hc2 j _ hy)
      have e2 : wr.cell? ⟨b, o + yn, none⟩ = some (.int .i64 x) := (HBr.out.cell (p := ⟨b, o + yn, none⟩) (by show b < _; omega)).trans (hc yn x hx)
      have HN : Hid (imgF (arrL xs) (args.take (j + 1)) = imgF (arrL xs) (args.take j) ++ [x]) := by unfold Hid; rw [imgF_succ hy, Int.toNat_natCast, arrL_get hx]
      clear hc hc2 hx hy
      go_wp2_with (at_builtin; refine wpList_append_own _ rfl _ _ 25 rfl w.heap.size 3 i0 (.int .i64 0) 1 8 Try.underlying25 hi0 hz0 hz1 hz2 rfl (by decide) (.slice (some ⟨g, 0, none⟩) j vc) j ((imgF (arrL xs) (args.take j)).map (Value.int .i64)) rfl (HR.out.alloc _) ⟨wr.heap.size, 0, none⟩ 1 1 [.int .i64 x] rfl rfl (cell_one_new _ _ _) (fun x hx => by simp at hx; subst hx; rfl) (by unfold maxLen; omega) (by omega) (by have := HBr.out.size; simp; omega) ?_; intro v' w3 hown' hgrow' hnil')
      obtain ⟨g2, cap, rfl⟩ := ownsRow_succ hown'
      have HB3 := Lib.hid ((HBr.out.alloc HBr.out.size (.cells #[.int .i64 x] 3)).grown hgrow' (by have := HBr.out.size; simp; omega) (fun q hq => (HR.out.lt q hq).1))
      have HO3 : Hid (w3.ownsRow w.heap.size 3 1 (.slice (some ⟨g2, 0, none⟩) (j + 1) cap) (j + 1) ((imgF (arrL xs) (args.take (j + 1))).map (Value.int .i64))) := by
        unfold Hid
        rw [HN.out, List.map_append]
        exact hown'
      clear hown' hgrow' hnil'
      go_wp2_with fail
      go_roundw
      case rel => exact ⟨j + 1, cap, g2, by omega, by go_num, rfl, HO3, HB3⟩
      case measure => simp [intOf]; omega
    · have hjn : ¬ (j : Int) < (p : Int) := by omega
      obtain rfl : j = p := by omega
      have HE : Hid (args.take j = args) := List.take_of_length_le (by have := HY.out.1; omega)
      unfold Hid at HR
      rw [HE.out] at HR
      have HR := Lib.hid HR
      go_wp2
      go_ret
      exact ⟨_, _, _, rfl, by rw [imgF_len]; exact HY.out.1.symm, HR.out, HBr.out⟩

theorem digs_own (w : World) (z : Int) (m : Nat) (at_ : Int) (hm : m ≤ 3) : (w.alloc (.cells (digsArr z m at_) 3)).ownsRow w.heap.size 3 1 (.slice (some ⟨w.heap.size, 0, none⟩) m m) m ((digs z m at_).map (Value.int .i64)) := by
  refine ⟨by simp [digs_len], .inr ⟨w.heap.size, m, digsArr z m at_, rfl, Nat.le_refl _, heap_alloc_new _ _, Nat.le_refl _, ?_, by simp [digsArr, digs_len], ?_⟩⟩
  · unfold maxLen; omega
  · rw [List.take_of_length_le (by simp [digsArr, digs_len])]; simp [digsArr]
theorem OwnsInts.up {w : World} {lo hi hi' n c : Nat} {ao : Option Addr} {xs : List Int} (h : OwnsInts w lo hi ao n c xs) (hh : hi ≤ hi') : OwnsInts w lo hi' ao n c xs := ⟨h.row, fun k hk => Nat.lt_of_lt_of_le (h.lt k hk) hh⟩

/-- The arguments of a fault. -/
def fltL (z : Int) (fs : List OpD) (o : Option (Nat × Nat)) : List Int := match o with
  | some p => digs z (opAt fs p.1).1.toNat (p.2 : Int)
  | none => []
/-- A number, a list of integers and a bool. -/
def ResF (w w' : World) (k : Int) (xs : List Int) (ok : Bool) (e : Ending) : Prop :=
  ∃ ao n c, e = .returned (.tuple #[.int .i64 k, .slice ao n c, .bool ok]) ∧ n = xs.length ∧ OwnsInts w' w.heap.size w'.heap.size ao n c xs ∧ Below w.heap.size w w'

set_option maxRecDepth 100000 in
set_option maxHeartbeats 4000000 in
theorem fault_spec (lo hi lo2 hi2 lo3 hi3 : Nat) (z z1 : Int) (ao bo co : Option Addr) (c n d m e_ l : Nat) (fs gs : List OpD) (xs : List Int) (w : World) (hv : OView w lo hi ao n fs) (hhi : hi ≤ w.heap.size) (hu : OView w lo2 hi2 bo m gs) (hhi2 : hi2 ≤ w.heap.size) (hx : IView w lo3 hi3 co l xs) (hhi3 : hi3 ≤ w.heap.size)
    (hok : algOkB z fs = true) (hok2 : algOkB z1 gs = true) (ht : typeV fs = typeV gs) (hlz : (l : Int) = z) (ha : allIn z1 xs = true) :
    Calls Try.prog 92 #[.agg #[.int .i64 z, .slice ao n c], .agg #[.int .i64 z1, .slice bo m d], .slice co l e_] w fun en w' => ResF w w' (fltK (faultV z z1 fs gs (arrL xs))) (fltL z fs (faultV z z1 fs gs (arrL xs))) (faultV z z1 fs gs (arrL xs)).isSome en := by
  obtain ⟨⟨h1, h2⟩, hn4, hall⟩ := algOkB_of hok
  obtain ⟨⟨k1, k2⟩, hm4, hall2⟩ := algOkB_of hok2
  obtain ⟨w1, hw1, hbx, hsz⟩ := bx2_new w z ao n c z1 bo m d 31
  have hxl := hx.1
  have HF := Lib.hid (full_of (z := z) (z1 := z1) (xs := xs) (by rw [hxl]; exact hlz) ha)
  have HBx := Lib.hid hbx
  obtain ⟨cz, ca, cz1, ca1, cB⟩ := hbx
  have HV := Lib.hid hv
  have HU := Lib.hid hu
  have HX := Lib.hid hx
  have HAx := Lib.hid ha
  have HAll := Lib.hid hall
  have HAll2 := Lib.hid hall2
  have HOk2 := Lib.hid hok2
  have HTy := Lib.hid ht
  have hl := hv.1
  rw [hl] at hn4
  have HL := Lib.hid hl
  have HLz := Lib.hid hlz
  have hl8 : l ≤ 8 := by omega
  clear hv hu hx hok hok2 ht ha hall hall2 hl hxl cB hlz
  unfold ResF
  go_enter Try.func92, Try.ntmps92
  go_wp2_with fail
  rw [← hw1]
  clear hw1
  go_wp2_with fail
  go_loopw [9] (fun i wr => ∃ k : Nat, k ≤ n ∧ i = .int .i64 (k : Int) ∧ Hid (∀ j, j < k → badIn z z1 (arrL xs) (opAt fs j) (opAt gs j) = none) ∧ Hid (Bx2 w wr z ao n c z1 bo m d)) (fun i _ => n - (intOf i).toNat)
  case atStart => exact ⟨0, Nat.zero_le _, rfl, fun j hj => by omega, HBx⟩
  case round =>
    obtain ⟨k, hk, rfl, HN, HBo⟩ := hrel
    clear cz ca cz1 ca1
    obtain ⟨cz, ca, cz1, ca1, cB⟩ := HBo.out
    clear cB
    by_cases hlt : k < n
    · have hkn : (k : Int) < (n : Int) := by omega
      obtain ⟨F, hF⟩ := get_of_lt HL.out hlt
      obtain ⟨G, hG, hGF⟩ := same_op HTy.out hF
      obtain ⟨hm5, hf1, hf3⟩ := place_bd h1 h2 (HAll.out F (List.mem_of_getElem? hF))
      obtain ⟨r, hr⟩ : ∃ r, F.1.toNat = r := ⟨_, rfl⟩
      rw [hr] at hf1 hf3
      obtain ⟨b, o, rfl, _, hbh, hc⟩ := HV.out.at_ (by omega)
      obtain ⟨a, q, c1, c0, c01, _, _, hvt⟩ := hc k F hF
      have hml : F.2.length = q := hvt.1
      rw [hml] at hm5
      rw [hf1] at c0
      have HC0 := Lib.hid c0
      have HC1 := Lib.hid c01
      have HT := Lib.hid hvt
      have HFk := Lib.hid hF
      have HGk := Lib.hid hG
      have HGF := Lib.hid hGF
      have HR := Lib.hid hr
      have HML := Lib.hid hml
      have HEo : Hid (opAt fs k = F ∧ opAt gs k = G) := ⟨opAt_get hF, opAt_get hG⟩
      have hbw : b < w.heap.size := by omega
      clear hc c0 c01 hvt hF hG hGF hr hml hf1
      obtain ⟨wo, hwo⟩ : ∃ wo : World, wo = wr := ⟨_, rfl⟩
      rw [← hwo]
      rw [← hwo] at HBo cz ca cz1 ca1
      clear hwo
      go_wp2_with fail
      go_loopw [10] (fun i wi => ∃ j : Nat, j ≤ q ∧ i = .int .i64 (j : Int) ∧ Hid (∀ l, l < j → badAt z z1 (arrL xs) F G l = false) ∧ Hid (Bx2 w wi z (some ⟨b, o, none⟩) n c z1 bo m d)) (fun i _ => q - (intOf i).toNat)
      case atStart => exact ⟨0, Nat.zero_le _, rfl, fun j hj => by omega, HBo⟩
      case round =>
        rename World => wi
        obtain ⟨j, hj, rfl, HM, HBi⟩ := hrel
        clear cz ca cz1 ca1
        obtain ⟨y0, y1, y2, y3, yB⟩ := HBi.out
        clear yB
        have e0 : wi.cell? ⟨b, o + k * 2, none⟩ = some (.int .i64 (r : Int)) := (HBi.out.bel.cell (p := ⟨b, o + k * 2, none⟩) hbw).trans HC0.out
        have e1 : wi.cell? ⟨b, o + k * 2 + 1, none⟩ = some (.slice a q c1) := (HBi.out.bel.cell (p := ⟨b, o + k * 2 + 1, none⟩) hbw).trans HC1.out
        by_cases hjq : j < q
        · have hjq' : (j : Int) < (q : Int) := by omega
          obtain ⟨bt, ot, rfl, _, hbth, hct⟩ := HT.out.at_ (by omega)
          obtain ⟨x, hx⟩ := get_of_lt HT.out.1 hjq
          obtain ⟨x0, x1⟩ := allIn_get (opOkB_of (HAll.out F (List.mem_of_getElem? HFk.out))).2.2 hx
          obtain ⟨xn, rfl⟩ : ∃ xn : Nat, x = (xn : Int) := ⟨x.toNat, by omega⟩
          have hxl : xn < l := by have := HLz.out; omega
          have hxl' : (xn : Int) < (l : Int) := by omega
          obtain ⟨bx, ox, rfl, _, hbxh, hcx⟩ := HX.out.at_ (by omega)
          obtain ⟨u, hux⟩ := get_of_lt HX.out.1 hxl
          have hu1 : arrL xs xn = u := arrL_get hux
          have HT0 := Lib.hid (hct j _ hx)
          have HT1 := Lib.hid (hcx xn u hux)
          have hdin := digs_in h1 r (j : Int)
          have hig := img_full HF.out hdin
          have hG1 : (r : Int) = G.1 := by rw [HGF.out]; have := (place_bd h1 h2 (HAll.out F (List.mem_of_getElem? HFk.out))).2.1; rw [HR.out] at this; exact this.symm
          have HAr := Lib.hid (fun w => argsSpec_any z (j : Int) r hf3 w h1 h2 (by omega) (by omega))
          have HIm := Lib.hid (fun (W : World) (hW : Bx2 w W z (some ⟨b, o, none⟩) n c z1 bo m d) (hD : OwnsInts W w.heap.size W.heap.size (some ⟨wi.heap.size, 0, none⟩) r r (digs z r (j : Int))) => images_spec lo3 hi3 w.heap.size W.heap.size (some ⟨bx, ox, none⟩) (some ⟨wi.heap.size, 0, none⟩) e_ l r r xs (digs z r (j : Int)) W (HX.out.kept (Kept.of_below hW.bel hhi3)) (Nat.le_trans hhi3 hW.bel.size) hD.view (Nat.le_refl _) (by rw [HLz.out]; exact hdin) (by omega))
          obtain ⟨ys, hys⟩ : ∃ ys, imgF (arrL xs) (digs z r (j : Int)) = ys := ⟨_, rfl⟩
          rw [hys] at HIm hig
          obtain ⟨y, hy⟩ : ∃ y, atA z1 G ys = y := ⟨_, rfl⟩
          have hyl : ys.length = r := by rw [← hys, imgF_len, digs_len]
          have HVl := Lib.hid (fun (W : World) (hW : Bx2 w W z (some ⟨b, o, none⟩) n c z1 bo m d) (ga : Option Addr) (gm gd : Nat) (lo4 hi4 : Nat) (hI : IView W lo4 hi4 ga gm ys) (hhi4 : hi4 ≤ W.heap.size) (hgm : gm = ys.length) => value_spec lo2 hi2 lo4 hi4 z1 bo ga d m gd gm k gs G ys W (HU.out.kept (Kept.of_below hW.bel hhi2)) (Nat.le_trans hhi2 hW.bel.size) HOk2.out HGk.out hI hhi4 hig (by rw [hgm, hyl]; exact hG1))
          rw [hy] at HVl
          have hval : F.2.getD j 0 = (xn : Int) := by rw [List.getD_eq_getElem?_getD, hx]; rfl
          have HBad : Hid (badAt z z1 (arrL xs) F G j = !decide (u = y)) := by unfold Hid; rw [badAt, hval, HR.out, hys, hy, Int.toNat_natCast, hu1]
          have HDg : Hid (digs z (opAt fs k).1.toNat (j : Int) = digs z r (j : Int)) := by unfold Hid; rw [HEo.out.1, HR.out]
          clear hct hcx hx hux hu1 hdin hig hG1 hys hy hyl hval x0 x1
          go_wp2_with fail
          refine wp_region_noPanic ?_
          refine wp_region_held_drew (S := fun W => W.cell? ⟨w.heap.size, 0, none⟩ = some (.int .i64 z) ∧ W.cell? ⟨w.heap.size, 1, none⟩ = some (.slice (some ⟨b, o, none⟩) n c) ∧ W.cell? ⟨b, o + k * 2, none⟩ = some (.int .i64 (r : Int))) (by kernel_rfl) ?_ (fun hHeld => ?_)
          · exact ⟨y0, y1, e0⟩
          refine wpAnyH_take (i := 0) (oi := ⟨_, _, _, _, _, _⟩) (v := ?_) rfl (by kernel_rfl) (by kernel_rfl) (by kernel_rfl) (fun _ _ _ h => h) (Or.inl ⟨rfl, ?_⟩) (by assumption) ?_
          rotate_left 1
          · intro w_ hSw; (try dsimp only at hSw); go_simp; (try with_reducible rfl)
          (try simp only [Act.put, List.setIfInBounds_toArray, List.set_cons_zero, List.set_cons_succ])
          refine wpAnyH_take (i := 1) (oi := ⟨_, _, _, _, _, _⟩) (v := ?_) rfl (by kernel_rfl) (by kernel_rfl) (by kernel_rfl) (fun _ _ _ h => h) (Or.inl ⟨rfl, ?_⟩) (by assumption) ?_
          rotate_left 1
          · intro w_ hSw; (try dsimp only at hSw); go_simp; (try with_reducible rfl)
          (try simp only [Act.put, List.setIfInBounds_toArray, List.set_cons_zero, List.set_cons_succ])
          refine wpAnyH_take (i := 2) (oi := ⟨_, _, _, _, _, _⟩) (v := ?_) rfl (by kernel_rfl) (by kernel_rfl) (by kernel_rfl) (fun _ _ _ h => h) (Or.inl ⟨rfl, ?_⟩) (by assumption) ?_
          rotate_left 1
          · intro w_ hSw; (try dsimp only at hSw); go_simp; (try with_reducible rfl)
          (try simp only [Act.put, List.setIfInBounds_toArray, List.set_cons_zero, List.set_cons_succ])
          refine wpAnyH_take (i := 3) (oi := ⟨_, _, _, _, _, _⟩) (v := ?_) rfl (by kernel_rfl) (by kernel_rfl) (by kernel_rfl) (fun _ _ _ h => h) (Or.inl ⟨rfl, ?_⟩) (by assumption) ?_
          rotate_left 1
          · intro w_ hSw; (try dsimp only at hSw); go_simp; (try with_reducible rfl)
          (try simp only [Act.put, List.setIfInBounds_toArray, List.set_cons_zero, List.set_cons_succ])
          refine wpAnyH_take (i := 4) (oi := ⟨_, _, _, _, _, _⟩) (v := ?_) rfl (by kernel_rfl) (by kernel_rfl) (by kernel_rfl) (fun _ _ _ h => h) (Or.inl ⟨rfl, ?_⟩) (by assumption) ?_
          rotate_left 1
          · intro w_ hSw; (try dsimp only at hSw); go_simp; (try with_reducible rfl)
          (try simp only [Act.put, List.setIfInBounds_toArray, List.set_cons_zero, List.set_cons_succ])
          refine wpAnyH_take (i := 5) (oi := ⟨_, _, _, _, _, _⟩) (v := ?_) rfl (by kernel_rfl) (by kernel_rfl) (by kernel_rfl) (fun _ _ _ h => h) (Or.inl ⟨rfl, ?_⟩) (by assumption) ?_
          rotate_left 1
          · intro w_ hSw; (try dsimp only at hSw); go_simp; (try with_reducible rfl)
          (try simp only [Act.put, List.setIfInBounds_toArray, List.set_cons_zero, List.set_cons_succ])
          refine wpAnyH_take (i := 6) (oi := ⟨_, _, _, _, _, _⟩) (v := ?_) rfl (by kernel_rfl) (by kernel_rfl) (by kernel_rfl) (fun _ _ _ h => h) (Or.inl ⟨rfl, ?_⟩) (by assumption) ?_
          rotate_left 1
          · intro w_ hSw; (try dsimp only at hSw); go_simp; (try with_reducible rfl)
          (try simp only [Act.put, List.setIfInBounds_toArray, List.set_cons_zero, List.set_cons_succ])
          refine wpAnyH_take (i := 7) (oi := ⟨_, _, _, _, _, _⟩) (v := ?_) rfl (by kernel_rfl) (by kernel_rfl) (by kernel_rfl) (fun _ _ _ h => h) (Or.inl ⟨rfl, ?_⟩) (by assumption) ?_
          rotate_left 1
          · intro w_ hSw; (try dsimp only at hSw); go_simp; (try with_reducible rfl)
          (try simp only [Act.put, List.setIfInBounds_toArray, List.set_cons_zero, List.set_cons_succ])
          refine wpAnyH_take (i := 8) (oi := ⟨_, _, _, _, _, _⟩) (v := ?_) rfl (by kernel_rfl) (by kernel_rfl) (by kernel_rfl) (fun _ _ _ h => h) (Or.inl ⟨rfl, ?_⟩) (by assumption) ?_
          rotate_left 1
          · intro w_ hSw; (try dsimp only at hSw); go_simp; (try with_reducible rfl)
          (try simp only [Act.put, List.setIfInBounds_toArray, List.set_cons_zero, List.set_cons_succ])
          refine wpAnyH_ready (rs := [9]) (by kernel_rfl) (by simp) ?_
          refine AllReadyH.cons (o := ⟨_, _, _, _, _, _⟩) rfl (fun K hK => ?_) AllReadyH.nil
          go_simp
          go_at_call 103
          refine (HAr.out _).mono ?_
          rintro e wA ⟨rfl, hwA⟩
          have bA : Below wi.heap.size wi wA := by rw [hwA]; exact below_then (below_drew wi) (below_alloc _ _)
          have HDo : Hid (OwnsInts wA w.heap.size wA.heap.size (some ⟨wi.heap.size, 0, none⟩) r r (digs z r (j : Int))) := by
            unfold Hid; rw [hwA]
            exact OwnsInts.of_row (ownsRow_base (digs_own _ z r (j : Int) hf3) HBi.out.bel.size)
          have HBA := Lib.hid (HBi.out.below bA)
          have zA := HBA.out.z0
          have aA := HBA.out.a0
          have z1A := HBA.out.z1
          have a1A := HBA.out.a1
          have eA := cell_b bA e0
          have fA := cell_b bA e1
          have gA : wA.cell? ⟨bt, ot + j, none⟩ = some (.int .i64 (xn : Int)) := (HBA.out.bel.cell (p := ⟨bt, ot + j, none⟩) (by show bt < _; omega)).trans HT0.out
          have hA_ : wA.cell? ⟨bx, ox + xn, none⟩ = some (.int .i64 u) := (HBA.out.bel.cell (p := ⟨bx, ox + xn, none⟩) (by show bx < _; omega)).trans HT1.out
          clear hwA bA y0 y1 y2 y3 e0 e1
          go_wp2_with fail
          refine hK.out _ _ ?_ (fun hHeld => ?_)
          · exact ⟨zA, aA, eA⟩
          clear hK K
          (try simp only [Act.put, List.setIfInBounds_toArray, List.set_cons_zero, List.set_cons_succ])
          refine wpAnyH_take (i := 10) (oi := ⟨_, _, _, _, _, _⟩) (v := ?_) rfl (by kernel_rfl) (by kernel_rfl) (by kernel_rfl) (fun _ _ _ h => h) (Or.inl ⟨rfl, ?_⟩) (by assumption) ?_
          rotate_left 1
          · intro w_ hSw; (try dsimp only at hSw); go_simp; (try with_reducible rfl)
          (try simp only [Act.put, List.setIfInBounds_toArray, List.set_cons_zero, List.set_cons_succ])
          refine wpAnyH_done (by kernel_rfl) ?_ _
          refine NoPanic.normal ?_
          go_wp2_with fail
          by_cases huy : u = y
          · have n1 : (u != y) = false := by rw [huy]; simp
            have HN1 : Hid (badAt z z1 (arrL xs) F G j = false) := by unfold Hid; rw [HBad.out, huy]; simp
            clear huy
            refine wp_region_noPanic ?_
            refine wp_region_held_drew (S := fun W => (W.cell? ⟨w.heap.size, 1, none⟩ = some (.slice (some ⟨b, o, none⟩) n c) ∧ W.cell? ⟨b, o + k * 2 + 1, none⟩ = some (.slice (some ⟨bt, ot, none⟩) q c1)) ∧ (W.cell? ⟨bt, ot + j, none⟩ = some (.int .i64 (xn : Int)) ∧ W.cell? ⟨bx, ox + xn, none⟩ = some (.int .i64 u)) ∧ (W.cell? ⟨w.heap.size + 1, 0, none⟩ = some (.int .i64 z1) ∧ W.cell? ⟨w.heap.size + 1, 1, none⟩ = some (.slice bo m d))) (by kernel_rfl) ?_ (fun hHeld => ?_)
            · exact ⟨⟨aA, fA⟩, ⟨gA, hA_⟩, z1A, a1A⟩
            refine wpAnyH_take (i := 0) (oi := ⟨_, _, _, _, _, _⟩) (v := ?_) rfl (by kernel_rfl) (by kernel_rfl) (by kernel_rfl) (fun _ _ _ h => h) (Or.inl ⟨rfl, ?_⟩) (by assumption) ?_
            rotate_left 1
            · intro w_ hSw; (try dsimp only at hSw); go_simp; (try with_reducible rfl)
            (try simp only [Act.put, List.setIfInBounds_toArray, List.set_cons_zero, List.set_cons_succ])
            refine wpAnyH_take (i := 1) (oi := ⟨_, _, _, _, _, _⟩) (v := ?_) rfl (by kernel_rfl) (by kernel_rfl) (by kernel_rfl) (fun _ _ _ h => h) (Or.inl ⟨rfl, ?_⟩) (by assumption) ?_
            rotate_left 1
            · intro w_ hSw; (try dsimp only at hSw); go_simp; (try with_reducible rfl)
            (try simp only [Act.put, List.setIfInBounds_toArray, List.set_cons_zero, List.set_cons_succ])
            refine wpAnyH_take (i := 2) (oi := ⟨_, _, _, _, _, _⟩) (v := ?_) rfl (by kernel_rfl) (by kernel_rfl) (by kernel_rfl) (fun _ _ _ h => h) (Or.inl ⟨rfl, ?_⟩) (by assumption) ?_
            rotate_left 1
            · intro w_ hSw; (try dsimp only at hSw); go_simp; (try with_reducible rfl)
            (try simp only [Act.put, List.setIfInBounds_toArray, List.set_cons_zero, List.set_cons_succ])
            refine wpAnyH_take (i := 3) (oi := ⟨_, _, _, _, _, _⟩) (v := ?_) rfl (by kernel_rfl) (by kernel_rfl) (by kernel_rfl) (fun _ _ _ h => h) (Or.inl ⟨rfl, ?_⟩) (by assumption) ?_
            rotate_left 1
            · intro w_ hSw; (try dsimp only at hSw); go_simp; (try with_reducible rfl)
            (try simp only [Act.put, List.setIfInBounds_toArray, List.set_cons_zero, List.set_cons_succ])
            refine wpAnyH_take (i := 4) (oi := ⟨_, _, _, _, _, _⟩) (v := ?_) rfl (by kernel_rfl) (by kernel_rfl) (by kernel_rfl) (fun _ _ _ h => h) (Or.inl ⟨rfl, ?_⟩) (by assumption) ?_
            rotate_left 1
            · intro w_ hSw; (try dsimp only at hSw); go_simp; (try with_reducible rfl)
            (try simp only [Act.put, List.setIfInBounds_toArray, List.set_cons_zero, List.set_cons_succ])
            refine wpAnyH_take (i := 5) (oi := ⟨_, _, _, _, _, _⟩) (v := ?_) rfl (by kernel_rfl) (by kernel_rfl) (by kernel_rfl) (fun _ _ _ h => h) (Or.inl ⟨rfl, ?_⟩) (by assumption) ?_
            rotate_left 1
            · intro w_ hSw; (try dsimp only at hSw); go_simp; (try with_reducible rfl)
            (try simp only [Act.put, List.setIfInBounds_toArray, List.set_cons_zero, List.set_cons_succ])
            refine wpAnyH_take (i := 6) (oi := ⟨_, _, _, _, _, _⟩) (v := ?_) rfl (by kernel_rfl) (by kernel_rfl) (by kernel_rfl) (fun _ _ _ h => h) (Or.inl ⟨rfl, ?_⟩) (by assumption) ?_
            rotate_left 1
            · intro w_ hSw; (try dsimp only at hSw); go_simp; (try with_reducible rfl)
            (try simp only [Act.put, List.setIfInBounds_toArray, List.set_cons_zero, List.set_cons_succ])
            refine wpAnyH_take (i := 7) (oi := ⟨_, _, _, _, _, _⟩) (v := ?_) rfl (by kernel_rfl) (by kernel_rfl) (by kernel_rfl) (fun _ _ _ h => h) (Or.inl ⟨rfl, ?_⟩) (by assumption) ?_
            rotate_left 1
            · intro w_ hSw; (try dsimp only at hSw); go_simp; (try with_reducible rfl)
            (try simp only [Act.put, List.setIfInBounds_toArray, List.set_cons_zero, List.set_cons_succ])
            refine wpAnyH_take (i := 8) (oi := ⟨_, _, _, _, _, _⟩) (v := ?_) rfl (by kernel_rfl) (by kernel_rfl) (by kernel_rfl) (fun _ _ _ h => h) (Or.inl ⟨rfl, ?_⟩) (by assumption) ?_
            rotate_left 1
            · intro w_ hSw; (try dsimp only at hSw); go_simp; (try with_reducible rfl)
            (try simp only [Act.put, List.setIfInBounds_toArray, List.set_cons_zero, List.set_cons_succ])
            refine wpAnyH_take (i := 9) (oi := ⟨_, _, _, _, _, _⟩) (v := ?_) rfl (by kernel_rfl) (by kernel_rfl) (by kernel_rfl) (fun _ _ _ h => h) (Or.inl ⟨rfl, ?_⟩) (by assumption) ?_
            rotate_left 1
            · intro w_ hSw; (try dsimp only at hSw); go_simp; (try with_reducible rfl)
            (try simp only [Act.put, List.setIfInBounds_toArray, List.set_cons_zero, List.set_cons_succ])
            refine wpAnyH_take (i := 10) (oi := ⟨_, _, _, _, _, _⟩) (v := ?_) rfl (by kernel_rfl) (by kernel_rfl) (by kernel_rfl) (fun _ _ _ h => h) (Or.inl ⟨rfl, ?_⟩) (by assumption) ?_
            rotate_left 1
            · intro w_ hSw; (try dsimp only at hSw); go_simp; (try with_reducible rfl)
            (try simp only [Act.put, List.setIfInBounds_toArray, List.set_cons_zero, List.set_cons_succ])
            refine wpAnyH_take (i := 11) (oi := ⟨_, _, _, _, _, _⟩) (v := ?_) rfl (by kernel_rfl) (by kernel_rfl) (by kernel_rfl) (fun _ _ _ h => h) (Or.inl ⟨rfl, ?_⟩) (by assumption) ?_
            rotate_left 1
            · intro w_ hSw; (try dsimp only at hSw); go_simp; (try with_reducible rfl)
            (try simp only [Act.put, List.setIfInBounds_toArray, List.set_cons_zero, List.set_cons_succ])
            refine wpAnyH_take (i := 12) (oi := ⟨_, _, _, _, _, _⟩) (v := ?_) rfl (by kernel_rfl) (by kernel_rfl) (by kernel_rfl) (fun _ _ _ h => h) (Or.inl ⟨rfl, ?_⟩) (by assumption) ?_
            rotate_left 1
            · intro w_ hSw; (try dsimp only at hSw); go_simp; (try with_reducible rfl)
            (try simp only [Act.put, List.setIfInBounds_toArray, List.set_cons_zero, List.set_cons_succ])
            refine wpAnyH_take (i := 13) (oi := ⟨_, _, _, _, _, _⟩) (v := ?_) rfl (by kernel_rfl) (by kernel_rfl) (by kernel_rfl) (fun _ _ _ h => h) (Or.inl ⟨rfl, ?_⟩) (by assumption) ?_
            rotate_left 1
            · intro w_ hSw; (try dsimp only at hSw); go_simp; (try with_reducible rfl)
            (try simp only [Act.put, List.setIfInBounds_toArray, List.set_cons_zero, List.set_cons_succ])
            refine wpAnyH_take (i := 14) (oi := ⟨_, _, _, _, _, _⟩) (v := ?_) rfl (by kernel_rfl) (by kernel_rfl) (by kernel_rfl) (fun _ _ _ h => h) (Or.inl ⟨rfl, ?_⟩) (by assumption) ?_
            rotate_left 1
            · intro w_ hSw; (try dsimp only at hSw); go_simp; (try with_reducible rfl)
            (try simp only [Act.put, List.setIfInBounds_toArray, List.set_cons_zero, List.set_cons_succ])
            refine wpAnyH_take (i := 15) (oi := ⟨_, _, _, _, _, _⟩) (v := ?_) rfl (by kernel_rfl) (by kernel_rfl) (by kernel_rfl) (fun _ _ _ h => h) (Or.inl ⟨rfl, ?_⟩) (by assumption) ?_
            rotate_left 1
            · intro w_ hSw; (try dsimp only at hSw); go_simp; (try with_reducible rfl)
            (try simp only [Act.put, List.setIfInBounds_toArray, List.set_cons_zero, List.set_cons_succ])
            refine wpAnyH_ready (rs := [16]) (by kernel_rfl) (by simp) ?_
            refine AllReadyH.cons (o := ⟨_, _, _, _, _, _⟩) rfl (fun K hK => ?_) AllReadyH.nil
            go_simp
            go_at_call 129
            refine (HIm.out _ (by exact HBA.out.far ((Below.refl _ _).drew)) (by exact HDo.out.kept (Kept.drewN wA 1))).mono ?_
            rintro e wB ⟨ga, gm, gd, rfl, hgm, hgo, b2⟩
            have b2' : Below wA.heap.size wA wB := (below_drew wA).trans b2
            have HBB := Lib.hid (HBA.out.below b2')
            have HGo := Lib.hid (OwnsInts.of_row hgo)
            have HDoB : Hid (OwnsInts wB w.heap.size wA.heap.size (some ⟨wi.heap.size, 0, none⟩) r r (digs z r (j : Int))) := HDo.out.kept (Kept.of_below b2' (Nat.le_refl _))
            have HGm := Lib.hid hgm
            have HszB : Hid (wA.heap.size ≤ wB.heap.size) := b2'.size
            have hB1 := HBB.out.a0
            have hB2 := cell_b b2' fA
            have hB3 := cell_b b2' gA
            have hB4 := cell_b b2' hA_
            have hB5 := HBB.out.z1
            have hB6 := HBB.out.a1
            clear b2 b2' hgo hgm
            go_wp2_with fail
            refine hK.out _ _ ?_ (fun hHeld => ?_)
            · exact ⟨⟨hB1, hB2⟩, ⟨hB3, hB4⟩, hB5, hB6⟩
            clear hK K
            (try simp only [Act.put, List.setIfInBounds_toArray, List.set_cons_zero, List.set_cons_succ])
            refine wpAnyH_ready (rs := [17]) (by kernel_rfl) (by simp) ?_
            refine AllReadyH.cons (o := ⟨_, _, _, _, _, _⟩) rfl (fun K hK => ?_) AllReadyH.nil
            go_simp
            go_at_call 105
            refine (HVl.out _ HBB.out ga gm gd _ _ HGo.out.view (Nat.le_refl _) HGm.out).mono ?_
            rintro e wC ⟨rfl, b3⟩
            have HBC := Lib.hid (HBB.out.below b3)
            have HDoC : Hid (OwnsInts wC w.heap.size wA.heap.size (some ⟨wi.heap.size, 0, none⟩) r r (digs z r (j : Int))) := HDoB.out.kept (Kept.of_below b3 HszB.out)
            have hC1 := HBC.out.a0
            have hC2 := cell_b b3 hB2
            have hC3 := cell_b b3 hB3
            have hC4 := cell_b b3 hB4
            have hC5 := HBC.out.z1
            have hC6 := HBC.out.a1
            have HszC : Hid (wA.heap.size ≤ wC.heap.size) := Nat.le_trans HszB.out b3.size
            clear b3
            go_wp2_with fail
            refine hK.out _ _ ?_ (fun hHeld => ?_)
            · exact ⟨⟨hC1, hC2⟩, ⟨hC3, hC4⟩, hC5, hC6⟩
            clear hK K
            (try simp only [Act.put, List.setIfInBounds_toArray, List.set_cons_zero, List.set_cons_succ])
            refine wpAnyH_take (i := 18) (oi := ⟨_, _, _, _, _, _⟩) (v := ?_) rfl (by kernel_rfl) (by kernel_rfl) (by kernel_rfl) (fun _ _ _ h => h) (Or.inl ⟨rfl, ?_⟩) (by assumption) ?_
            rotate_left 1
            · intro w_ hSw; (try dsimp only at hSw); go_simp; (try with_reducible rfl)
            (try simp only [Act.put, List.setIfInBounds_toArray, List.set_cons_zero, List.set_cons_succ])
            refine wpAnyH_done (by kernel_rfl) ?_ _
            refine NoPanic.normal ?_
            go_wp2_with fail
            go_roundw
            case rel =>
              refine ⟨j + 1, by omega, by go_num, fun l hl => ?_, HBC⟩
              by_cases h_ : l = j
              · rw [h_]; exact HN1.out
              · exact HM.out l (by omega)
            case measure => simp [intOf]; omega
          · have n1 : (u != y) = true := by simp [huy]
            have HN1 : Hid (badAt z z1 (arrL xs) F G j = true) := by unfold Hid; rw [HBad.out]; simp [huy]
            clear huy
            refine wp_region_noPanic ?_
            refine wp_region_held_drew (S := fun W => (W.cell? ⟨w.heap.size, 1, none⟩ = some (.slice (some ⟨b, o, none⟩) n c) ∧ W.cell? ⟨b, o + k * 2 + 1, none⟩ = some (.slice (some ⟨bt, ot, none⟩) q c1)) ∧ (W.cell? ⟨bt, ot + j, none⟩ = some (.int .i64 (xn : Int)) ∧ W.cell? ⟨bx, ox + xn, none⟩ = some (.int .i64 u)) ∧ (W.cell? ⟨w.heap.size + 1, 0, none⟩ = some (.int .i64 z1) ∧ W.cell? ⟨w.heap.size + 1, 1, none⟩ = some (.slice bo m d))) (by kernel_rfl) ?_ (fun hHeld => ?_)
            · exact ⟨⟨aA, fA⟩, ⟨gA, hA_⟩, z1A, a1A⟩
            refine wpAnyH_take (i := 0) (oi := ⟨_, _, _, _, _, _⟩) (v := ?_) rfl (by kernel_rfl) (by kernel_rfl) (by kernel_rfl) (fun _ _ _ h => h) (Or.inl ⟨rfl, ?_⟩) (by assumption) ?_
            rotate_left 1
            · intro w_ hSw; (try dsimp only at hSw); go_simp; (try with_reducible rfl)
            (try simp only [Act.put, List.setIfInBounds_toArray, List.set_cons_zero, List.set_cons_succ])
            refine wpAnyH_take (i := 1) (oi := ⟨_, _, _, _, _, _⟩) (v := ?_) rfl (by kernel_rfl) (by kernel_rfl) (by kernel_rfl) (fun _ _ _ h => h) (Or.inl ⟨rfl, ?_⟩) (by assumption) ?_
            rotate_left 1
            · intro w_ hSw; (try dsimp only at hSw); go_simp; (try with_reducible rfl)
            (try simp only [Act.put, List.setIfInBounds_toArray, List.set_cons_zero, List.set_cons_succ])
            refine wpAnyH_take (i := 2) (oi := ⟨_, _, _, _, _, _⟩) (v := ?_) rfl (by kernel_rfl) (by kernel_rfl) (by kernel_rfl) (fun _ _ _ h => h) (Or.inl ⟨rfl, ?_⟩) (by assumption) ?_
            rotate_left 1
            · intro w_ hSw; (try dsimp only at hSw); go_simp; (try with_reducible rfl)
            (try simp only [Act.put, List.setIfInBounds_toArray, List.set_cons_zero, List.set_cons_succ])
            refine wpAnyH_take (i := 3) (oi := ⟨_, _, _, _, _, _⟩) (v := ?_) rfl (by kernel_rfl) (by kernel_rfl) (by kernel_rfl) (fun _ _ _ h => h) (Or.inl ⟨rfl, ?_⟩) (by assumption) ?_
            rotate_left 1
            · intro w_ hSw; (try dsimp only at hSw); go_simp; (try with_reducible rfl)
            (try simp only [Act.put, List.setIfInBounds_toArray, List.set_cons_zero, List.set_cons_succ])
            refine wpAnyH_take (i := 4) (oi := ⟨_, _, _, _, _, _⟩) (v := ?_) rfl (by kernel_rfl) (by kernel_rfl) (by kernel_rfl) (fun _ _ _ h => h) (Or.inl ⟨rfl, ?_⟩) (by assumption) ?_
            rotate_left 1
            · intro w_ hSw; (try dsimp only at hSw); go_simp; (try with_reducible rfl)
            (try simp only [Act.put, List.setIfInBounds_toArray, List.set_cons_zero, List.set_cons_succ])
            refine wpAnyH_take (i := 5) (oi := ⟨_, _, _, _, _, _⟩) (v := ?_) rfl (by kernel_rfl) (by kernel_rfl) (by kernel_rfl) (fun _ _ _ h => h) (Or.inl ⟨rfl, ?_⟩) (by assumption) ?_
            rotate_left 1
            · intro w_ hSw; (try dsimp only at hSw); go_simp; (try with_reducible rfl)
            (try simp only [Act.put, List.setIfInBounds_toArray, List.set_cons_zero, List.set_cons_succ])
            refine wpAnyH_take (i := 6) (oi := ⟨_, _, _, _, _, _⟩) (v := ?_) rfl (by kernel_rfl) (by kernel_rfl) (by kernel_rfl) (fun _ _ _ h => h) (Or.inl ⟨rfl, ?_⟩) (by assumption) ?_
            rotate_left 1
            · intro w_ hSw; (try dsimp only at hSw); go_simp; (try with_reducible rfl)
            (try simp only [Act.put, List.setIfInBounds_toArray, List.set_cons_zero, List.set_cons_succ])
            refine wpAnyH_take (i := 7) (oi := ⟨_, _, _, _, _, _⟩) (v := ?_) rfl (by kernel_rfl) (by kernel_rfl) (by kernel_rfl) (fun _ _ _ h => h) (Or.inl ⟨rfl, ?_⟩) (by assumption) ?_
            rotate_left 1
            · intro w_ hSw; (try dsimp only at hSw); go_simp; (try with_reducible rfl)
            (try simp only [Act.put, List.setIfInBounds_toArray, List.set_cons_zero, List.set_cons_succ])
            refine wpAnyH_take (i := 8) (oi := ⟨_, _, _, _, _, _⟩) (v := ?_) rfl (by kernel_rfl) (by kernel_rfl) (by kernel_rfl) (fun _ _ _ h => h) (Or.inl ⟨rfl, ?_⟩) (by assumption) ?_
            rotate_left 1
            · intro w_ hSw; (try dsimp only at hSw); go_simp; (try with_reducible rfl)
            (try simp only [Act.put, List.setIfInBounds_toArray, List.set_cons_zero, List.set_cons_succ])
            refine wpAnyH_take (i := 9) (oi := ⟨_, _, _, _, _, _⟩) (v := ?_) rfl (by kernel_rfl) (by kernel_rfl) (by kernel_rfl) (fun _ _ _ h => h) (Or.inl ⟨rfl, ?_⟩) (by assumption) ?_
            rotate_left 1
            · intro w_ hSw; (try dsimp only at hSw); go_simp; (try with_reducible rfl)
            (try simp only [Act.put, List.setIfInBounds_toArray, List.set_cons_zero, List.set_cons_succ])
            refine wpAnyH_take (i := 10) (oi := ⟨_, _, _, _, _, _⟩) (v := ?_) rfl (by kernel_rfl) (by kernel_rfl) (by kernel_rfl) (fun _ _ _ h => h) (Or.inl ⟨rfl, ?_⟩) (by assumption) ?_
            rotate_left 1
            · intro w_ hSw; (try dsimp only at hSw); go_simp; (try with_reducible rfl)
            (try simp only [Act.put, List.setIfInBounds_toArray, List.set_cons_zero, List.set_cons_succ])
            refine wpAnyH_take (i := 11) (oi := ⟨_, _, _, _, _, _⟩) (v := ?_) rfl (by kernel_rfl) (by kernel_rfl) (by kernel_rfl) (fun _ _ _ h => h) (Or.inl ⟨rfl, ?_⟩) (by assumption) ?_
            rotate_left 1
            · intro w_ hSw; (try dsimp only at hSw); go_simp; (try with_reducible rfl)
            (try simp only [Act.put, List.setIfInBounds_toArray, List.set_cons_zero, List.set_cons_succ])
            refine wpAnyH_take (i := 12) (oi := ⟨_, _, _, _, _, _⟩) (v := ?_) rfl (by kernel_rfl) (by kernel_rfl) (by kernel_rfl) (fun _ _ _ h => h) (Or.inl ⟨rfl, ?_⟩) (by assumption) ?_
            rotate_left 1
            · intro w_ hSw; (try dsimp only at hSw); go_simp; (try with_reducible rfl)
            (try simp only [Act.put, List.setIfInBounds_toArray, List.set_cons_zero, List.set_cons_succ])
            refine wpAnyH_take (i := 13) (oi := ⟨_, _, _, _, _, _⟩) (v := ?_) rfl (by kernel_rfl) (by kernel_rfl) (by kernel_rfl) (fun _ _ _ h => h) (Or.inl ⟨rfl, ?_⟩) (by assumption) ?_
            rotate_left 1
            · intro w_ hSw; (try dsimp only at hSw); go_simp; (try with_reducible rfl)
            (try simp only [Act.put, List.setIfInBounds_toArray, List.set_cons_zero, List.set_cons_succ])
            refine wpAnyH_take (i := 14) (oi := ⟨_, _, _, _, _, _⟩) (v := ?_) rfl (by kernel_rfl) (by kernel_rfl) (by kernel_rfl) (fun _ _ _ h => h) (Or.inl ⟨rfl, ?_⟩) (by assumption) ?_
            rotate_left 1
            · intro w_ hSw; (try dsimp only at hSw); go_simp; (try with_reducible rfl)
            (try simp only [Act.put, List.setIfInBounds_toArray, List.set_cons_zero, List.set_cons_succ])
            refine wpAnyH_take (i := 15) (oi := ⟨_, _, _, _, _, _⟩) (v := ?_) rfl (by kernel_rfl) (by kernel_rfl) (by kernel_rfl) (fun _ _ _ h => h) (Or.inl ⟨rfl, ?_⟩) (by assumption) ?_
            rotate_left 1
            · intro w_ hSw; (try dsimp only at hSw); go_simp; (try with_reducible rfl)
            (try simp only [Act.put, List.setIfInBounds_toArray, List.set_cons_zero, List.set_cons_succ])
            refine wpAnyH_ready (rs := [16]) (by kernel_rfl) (by simp) ?_
            refine AllReadyH.cons (o := ⟨_, _, _, _, _, _⟩) rfl (fun K hK => ?_) AllReadyH.nil
            go_simp
            go_at_call 129
            refine (HIm.out _ (by exact HBA.out.far ((Below.refl _ _).drew)) (by exact HDo.out.kept (Kept.drewN wA 1))).mono ?_
            rintro e wB ⟨ga, gm, gd, rfl, hgm, hgo, b2⟩
            have b2' : Below wA.heap.size wA wB := (below_drew wA).trans b2
            have HBB := Lib.hid (HBA.out.below b2')
            have HGo := Lib.hid (OwnsInts.of_row hgo)
            have HDoB : Hid (OwnsInts wB w.heap.size wA.heap.size (some ⟨wi.heap.size, 0, none⟩) r r (digs z r (j : Int))) := HDo.out.kept (Kept.of_below b2' (Nat.le_refl _))
            have HGm := Lib.hid hgm
            have HszB : Hid (wA.heap.size ≤ wB.heap.size) := b2'.size
            have hB1 := HBB.out.a0
            have hB2 := cell_b b2' fA
            have hB3 := cell_b b2' gA
            have hB4 := cell_b b2' hA_
            have hB5 := HBB.out.z1
            have hB6 := HBB.out.a1
            clear b2 b2' hgo hgm
            go_wp2_with fail
            refine hK.out _ _ ?_ (fun hHeld => ?_)
            · exact ⟨⟨hB1, hB2⟩, ⟨hB3, hB4⟩, hB5, hB6⟩
            clear hK K
            (try simp only [Act.put, List.setIfInBounds_toArray, List.set_cons_zero, List.set_cons_succ])
            refine wpAnyH_ready (rs := [17]) (by kernel_rfl) (by simp) ?_
            refine AllReadyH.cons (o := ⟨_, _, _, _, _, _⟩) rfl (fun K hK => ?_) AllReadyH.nil
            go_simp
            go_at_call 105
            refine (HVl.out _ HBB.out ga gm gd _ _ HGo.out.view (Nat.le_refl _) HGm.out).mono ?_
            rintro e wC ⟨rfl, b3⟩
            have HBC := Lib.hid (HBB.out.below b3)
            have HDoC : Hid (OwnsInts wC w.heap.size wA.heap.size (some ⟨wi.heap.size, 0, none⟩) r r (digs z r (j : Int))) := HDoB.out.kept (Kept.of_below b3 HszB.out)
            have hC1 := HBC.out.a0
            have hC2 := cell_b b3 hB2
            have hC3 := cell_b b3 hB3
            have hC4 := cell_b b3 hB4
            have hC5 := HBC.out.z1
            have hC6 := HBC.out.a1
            have HszC : Hid (wA.heap.size ≤ wC.heap.size) := Nat.le_trans HszB.out b3.size
            clear b3
            go_wp2_with fail
            refine hK.out _ _ ?_ (fun hHeld => ?_)
            · exact ⟨⟨hC1, hC2⟩, ⟨hC3, hC4⟩, hC5, hC6⟩
            clear hK K
            (try simp only [Act.put, List.setIfInBounds_toArray, List.set_cons_zero, List.set_cons_succ])
            refine wpAnyH_take (i := 18) (oi := ⟨_, _, _, _, _, _⟩) (v := ?_) rfl (by kernel_rfl) (by kernel_rfl) (by kernel_rfl) (fun _ _ _ h => h) (Or.inl ⟨rfl, ?_⟩) (by assumption) ?_
            rotate_left 1
            · intro w_ hSw; (try dsimp only at hSw); go_simp; (try with_reducible rfl)
            (try simp only [Act.put, List.setIfInBounds_toArray, List.set_cons_zero, List.set_cons_succ])
            refine wpAnyH_done (by kernel_rfl) ?_ _
            refine NoPanic.normal ?_
            go_wp2_with fail
            go_ret3
            have hfl : faultV z z1 fs gs (arrL xs) = some (k, j) := faultV_some (by have := HL.out; omega) (by rw [HEo.out.1, HEo.out.2]; exact badIn_some (by have := HML.out; omega) HN1.out HM.out) HN.out
            rw [hfl]
            exact ⟨_, _, _, rfl, by show r = (digs z (opAt fs k).1.toNat (j : Int)).length; rw [HDg.out, digs_len], by show OwnsInts _ _ _ _ _ _ (digs z (opAt fs k).1.toNat (j : Int)); rw [HDg.out]; exact HDoC.out.up HszC.out, HBC.out.bel⟩
        · have hjq' : ¬ (j : Int) < (q : Int) := by omega
          obtain rfl : j = q := by omega
          go_wp2_with fail
          go_roundw
          case rel =>
            refine ⟨k + 1, by omega, by go_num, fun l hl => ?_, HBi⟩
            by_cases h_ : l = k
            · rw [h_, HEo.out.1, HEo.out.2]; exact badIn_none fun i hi => HM.out i (by have := HML.out; omega)
            · exact HN.out l (by omega)
          case measure => simp [intOf]; omega
    · have hkn : ¬ (k : Int) < (n : Int) := by omega
      obtain rfl : k = n := by omega
      have HOn : Hid ((wr.alloc (.cells #[] 3)).ownsRow w.heap.size 3 1 (.slice (some ⟨wr.heap.size, 0, none⟩) 0 0) 0 (([] : List Int).map (Value.int .i64))) := World.ownsRow_lit (base := w.heap.size) (e := 3) (size := 1) wr #[] 0 HBo.out.bel.size (by decide) rfl
      go_wp2_with fail
      go_ret3
      have hfl : faultV z z1 fs gs (arrL xs) = none := faultV_none (by rw [HL.out]; exact HN.out)
      rw [hfl]
      exact ⟨_, _, _, rfl, rfl, OwnsInts.of_row HOn.out, HBo.out.bel.trans ((below_alloc wr _).mono HBo.out.bel.size)⟩

end Go.Proofs.Ytcmjkfcgekmomaa
