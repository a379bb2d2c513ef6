/-
  Contracts: spec.l5Sub and spec.SubalgebraOf. Conditions: the bounds that each theorem names.
-/
import Derived.Test.YtcmjkfcgekmomaaIdxV
import Derived.Test.YtcmjkfcgekmomaaOpF
import Derived.Test.YtcmjkfcgekmomaaPlc
namespace Go.Proofs.Ytcmjkfcgekmomaa
open Go.RowKit
set_option linter.unusedVariables false
set_option linter.unusedSimpArgs false

/-- An algebra in new memory. -/
def NewAlg (w w' : World) (z : Int) (fs : List OpD) (e : Ending) : Prop := ∃ a n c G C, e = .returned (.agg #[.int .i64 z, .slice a n c]) ∧ n = fs.length ∧ OwnsOps w' w.heap.size w'.heap.size (.slice a n c) n G C (fun j => fs.getD j (0, [])) ∧ Below w.heap.size w w'

set_option maxRecDepth 100000 in
set_option maxHeartbeats 8000000 in
theorem l5Sub_any (lo hi zn : Nat) (ao : Option Addr) (c n : Nat) (fs : List OpD) (lo2 hi2 b3 o3 d m : Nat) (xs : List Int) (w : World) (hv : OView w lo hi ao n fs) (hhi : hi ≤ w.heap.size) (hok : algOkB (zn : Int) fs = true)
    (hx : IView w lo2 hi2 (some ⟨b3, o3, none⟩) m xs) (hhi2 : hi2 ≤ w.heap.size) (ha : allIn (zn : Int) xs = true) (hm1 : 1 ≤ m) (hm8 : m ≤ 8) :
    Calls Try.prog 59 #[.agg #[.int .i64 (zn : Int), .slice ao n c], .slice (some ⟨b3, o3, none⟩) m d] w fun e w' => NewAlg w w' (m : Int) (fs.map (sbO (zn : Int) xs)) e := by
  obtain ⟨⟨hw1, hw2⟩, hn4_, hall⟩ := algOkB_of hok
  have hB := ((((Below.refl w.heap.size w).alloc (Nat.le_refl _) (.cells #[.int .i64 (zn : Int), .slice ao n c] 31)).alloc (by simp) (.cells #[.int .i64 0, .slice none 0 0] 31))).alloc (by simp; omega) (.cells #[.int .i64 (m : Int), .slice none 0 0] 31)
  have HB2 := Lib.hid hB
  have hR2 : Hid ((((w.alloc (.cells #[.int .i64 (zn : Int), .slice ao n c] 31)).alloc (.cells #[.int .i64 0, .slice none 0 0] 31)).alloc (.cells #[.int .i64 (m : Int), .slice none 0 0] 31)).heap[w.heap.size + 1]? = some (.cells #[.int .i64 0, .slice none 0 0] 31 (0, 0))) := by
    unfold Hid
    rw [Below.heap_alloc _ _ _ (by simp)]
    have h := heap_alloc_new (w.alloc (.cells #[.int .i64 (zn : Int), .slice ao n c] 31)) (.cells #[.int .i64 0, .slice none 0 0] 31)
    rw [World.size_alloc] at h
    exact h
  have hO2 : Hid ((((w.alloc (.cells #[.int .i64 (zn : Int), .slice ao n c] 31)).alloc (.cells #[.int .i64 0, .slice none 0 0] 31)).alloc (.cells #[.int .i64 (m : Int), .slice none 0 0] 31)).heap[w.heap.size + 1 + 1]? = some (.cells #[.int .i64 (m : Int), .slice none 0 0] 31 (0, 0))) := by
    have h := heap_alloc_new ((w.alloc (.cells #[.int .i64 (zn : Int), .slice ao n c] 31)).alloc (.cells #[.int .i64 0, .slice none 0 0] 31)) (.cells #[.int .i64 (m : Int), .slice none 0 0] 31)
    rw [World.size_alloc, World.size_alloc] at h
    exact h
  have cz2 : (((w.alloc (.cells #[.int .i64 (zn : Int), .slice ao n c] 31)).alloc (.cells #[.int .i64 0, .slice none 0 0] 31)).alloc (.cells #[.int .i64 (m : Int), .slice none 0 0] 31)).cell? ⟨w.heap.size, 0, none⟩ = some (.int .i64 (zn : Int)) := cell_b (below_alloc _ _) (cell_b (below_alloc _ _) (by simp))
  have ca2 : (((w.alloc (.cells #[.int .i64 (zn : Int), .slice ao n c] 31)).alloc (.cells #[.int .i64 0, .slice none 0 0] 31)).alloc (.cells #[.int .i64 (m : Int), .slice none 0 0] 31)).cell? ⟨w.heap.size, 1, none⟩ = some (.slice ao n c) := cell_b (below_alloc _ _) (cell_b (below_alloc _ _) (by simp))
  have hxl := hx.1
  have hn4 : n ≤ 4 := by have := hv.1; omega
  have hzn1 : 1 ≤ zn := by omega
  have hzn8 : zn ≤ 8 := by omega
  obtain ⟨F, hF⟩ : ∃ F : Nat → OpD, F = fun j => sbO (zn : Int) xs (fs.getD j (0, [])) := ⟨_, rfl⟩
  have HFk := Lib.hid (fun (k : Nat) (f : OpD) (hf : fs[k]? = some f) => show F k = sbO (zn : Int) xs f by rw [hF]; dsimp only; rw [List.getD_eq_getElem?_getD, hf]; rfl)
  have HFf := Lib.hid (fun (j : Nat) (hj : j < fs.length) => show F j = (fs.map (sbO (zn : Int) xs)).getD j (0, []) by
    have hf : fs[j]? = some (fs[j]'hj) := List.getElem?_eq_getElem hj
    rw [HFk.out j _ hf, List.getD_eq_getElem?_getD, List.getElem?_map, hf]; rfl)
  have HV := Lib.hid hv
  have HX := Lib.hid hx
  have HOk := Lib.hid hok
  have HAl := Lib.hid hall
  have HA := Lib.hid ha
  have HXl := Lib.hid hxl
  obtain ⟨i0, hi0, hz0, hz1, hz2⟩ := info_parts Try.infoOp
  obtain ⟨j0, hj0, hy0, hy1, hy2⟩ := info_parts Try.infoInt
  unfold NewAlg
  clear hv hx hok hall ha hB hF hxl hn4_ hw1 hw2
  go_enter Try.func59, Try.ntmps59
  go_wp2_with fail
  go_loopw [6, 7, 8, 9, 10] (fun i s7 s8 s9 s10 wr => ∃ (k : Nat) (v : Value), k ≤ n ∧ i = .int .i64 (k : Int) ∧ Hid (Built wr (w.heap.size + 1 + 1 + 1) v k F) ∧ Hid (wr.heap[w.heap.size + 1 + 1]? = some (.cells #[.int .i64 (m : Int), v] 31 (0, 0))) ∧ Hid (wr.heap[w.heap.size + 1]? = some (.cells #[.int .i64 0, .slice none 0 0] 31 (0, 0))) ∧ wr.cell? ⟨w.heap.size, 0, none⟩ = some (.int .i64 (zn : Int)) ∧ wr.cell? ⟨w.heap.size, 1, none⟩ = some (.slice ao n c) ∧ Hid (Below w.heap.size w wr) ∧ w.heap.size + 1 + 1 < wr.heap.size) (fun i _ _ _ _ _ => n - (intOf i).toNat)
  case atStart => exact ⟨0, _, Nat.zero_le _, rfl, Built.nil _ _ _, hO2, hR2, cz2, ca2, HB2, by simp⟩
  case round =>
    obtain ⟨k, v, hk, rfl, HBu, HO, HR, dz, da, HBr, hsr⟩ := hrel
    clear cz2 ca2 hO2 hR2
    obtain ⟨wo, hwo⟩ : ∃ wo : World, wo = wr := ⟨_, rfl⟩
    rw [← hwo]
    rw [← hwo] at HBu HO HR dz da HBr hsr
    clear hwo
    by_cases hlt : k < n
    · obtain ⟨f, hf⟩ := get_of_lt HV.out.1 hlt
      obtain ⟨b2, o2, rfl, _, hb2, hc⟩ := HV.out.at_ (by omega)
      obtain ⟨ta, tm, tc, c0, c1, htm, htc, hvt⟩ := hc k _ hf
      have e0 : wo.cell? ⟨b2, o2 + k * 2, none⟩ = some (.int .i64 f.1) := cell_b HBr.out c0
      have hfo := HAl.out f (List.mem_of_getElem? hf)
      obtain ⟨r, hr, hr3⟩ : ∃ r : Nat, f.1 = (r : Int) ∧ r ≤ 3 := by
        obtain ⟨_, r, _, h1, _, _, h2, _, _⟩ := op_nat2 (show (1 : Int) ≤ zn by omega) (by omega) hfo
        exact ⟨r, h1, h2⟩
      rw [hr] at e0
      obtain ⟨hp, hn1, hn2⟩ := sbL_bd (f := f) (xs := xs) (z := (zn : Int)) (by rw [HXl.out]; exact hm1) (by rw [HXl.out]; exact hm8) hfo
      rw [HXl.out, hr, Int.toNat_natCast] at hp
      have hkn : (k : Int) < (n : Int) := by omega
      have hsz := HBr.out.size
      have HFe : Hid (F k = ((r : Int), sbT (zn : Int) xs f (sbL xs f))) := by unfold Hid; rw [HFk.out k f hf, sbO, hr]
      obtain ⟨nq, hnq⟩ : ∃ nq, sbL xs f = nq := ⟨_, rfl⟩
      rw [hnq] at hp hn1 hn2 HFe
      have HPw := Lib.hid (fun W : World => pow_any (m : Int) r W (by omega) (by omega) hr3)
      rw [hp] at HPw
      have HRr := Lib.hid hr
      have HFf_ := Lib.hid hf
      have HFo := Lib.hid hfo
      have hB1 := below_alloc wo (.cells #[.int .i64 (r : Int), .slice none 0 0] 66)
      have HX0 : Hid ((wo.alloc (.cells #[.int .i64 (r : Int), .slice none 0 0] 66)).heap[wo.heap.size]? = some (.cells #[.int .i64 (r : Int), .slice none 0 0] 66 (0, 0))) := heap_alloc_new _ _
      have HT0 : Hid ((wo.alloc (.cells #[.int .i64 (r : Int), .slice none 0 0] 66)).ownsRow (wo.heap.size + 1) 3 1 (.slice none 0 0) 0 ((sbT (zn : Int) xs f 0).map (Value.int .i64))) := World.ownsRow_nil _ _ _ _
      have HB0 := Lib.hid hB1
      clear hc c0 c1 hvt hf hfo hr hp hnq hB1
      obtain ⟨d0_, d1_, df_⟩ := box_cells HO.out
      go_wp2_with fail
      go_loopw [8, 9, 10] (fun i s9 s10 wi => ∃ (q : Nat) (va : Option Addr) (vc : Nat), q ≤ nq ∧ i = .int .i64 (q : Int) ∧ Hid (wi.heap[wo.heap.size]? = some (.cells #[.int .i64 (r : Int), .slice va q vc] 66 (0, 0))) ∧ Hid (wi.ownsRow (wo.heap.size + 1) 3 1 (.slice va q vc) q ((sbT (zn : Int) xs f q).map (Value.int .i64))) ∧ Hid (Below wo.heap.size wo wi) ∧ wo.heap.size < wi.heap.size) (fun i _ _ _ => nq - (intOf i).toNat)
      case atStart => exact ⟨0, none, 0, Nat.zero_le _, rfl, HX0, HT0, HB0, by simp⟩
      case round =>
        obtain ⟨q, va, vc, hq, rfl, HXb, HTb, HBi, hsi⟩ := hrel
        clear HX0 HT0 HB0 d0_ d1_ df_
        obtain ⟨wi, hwi⟩ : ∃ wi : World, wi = wr := ⟨_, rfl⟩
        rw [← hwi]
        rw [← hwi] at HXb HTb HBi hsi
        clear hwi
        have iz : wi.cell? ⟨w.heap.size, 0, none⟩ = some (.int .i64 (zn : Int)) := cell_b HBi.out dz
        have ia : wi.cell? ⟨w.heap.size, 1, none⟩ = some (.slice (some ⟨b2, o2, none⟩) n c) := cell_b HBi.out da
        obtain ⟨x0, x1, xf⟩ := box_cells HXb.out
        by_cases hltq : q < nq
        · have HAr := Lib.hid (argsSpec_any (m : Int) (q : Int) r hr3 wi (by omega) (by omega) (by omega) (by omega))
          have hltq' : (q : Int) < (nq : Int) := by omega
          go_wp2_with fail
          refine (HPw.out _).mono ?_
          rintro e_ wp_ ⟨rfl, rfl⟩
          go_wp2_with fail
          refine HAr.out.mono ?_
          rintro e_ w5 ⟨rfl, hw5⟩
          have B5 : Hid (Below wi.heap.size wi w5) := by rw [hw5]; exact below_alloc _ _
          have HD5 : Hid (w5.ownsRow wi.heap.size 3 1 (.slice (some ⟨wi.heap.size, 0, none⟩) r r) r ((mixI ((digs (m : Int) r (q : Int)).map (nmP xs)) (digs (m : Int) r (q : Int)) 0).map (Value.int .i64))) := by
            rw [mixI_zero, hw5]; exact digs_row wi _ r _ hr3
          clear hw5 x0 x1 xf
          go_wp2_with fail
          go_loopw [10] (fun i wq => ∃ j : Nat, j ≤ r ∧ i = .int .i64 (j : Int) ∧ Hid (wq.ownsRow wi.heap.size 3 1 (.slice (some ⟨wi.heap.size, 0, none⟩) r r) r ((mixI ((digs (m : Int) r (q : Int)).map (nmP xs)) (digs (m : Int) r (q : Int)) j).map (Value.int .i64))) ∧ Hid (Below wi.heap.size wi wq)) (fun i _ => r - (intOf i).toNat)
          case atStart => exact ⟨0, Nat.zero_le _, rfl, HD5, B5⟩
          case round =>
            obtain ⟨j, hj, rfl, HD, HBj⟩ := hrel
            clear HD5 B5
            have hlen : ((digs (m : Int) r (q : Int)).map (nmP xs)).length = (digs (m : Int) r (q : Int)).length := by rw [List.length_map]
            have hdl := digs_len (m : Int) r (q : Int)
            have hBo := HBr.out.trans (HBi.out.mono HBr.out.size)
            have hBB := hBo.trans (HBj.out.mono hBo.size)
            by_cases hltj : j < r
            · obtain ⟨x, hx⟩ : ∃ x, (digs (m : Int) r (q : Int))[j]? = some x := ⟨_, List.getElem?_eq_getElem (by omega)⟩
              obtain ⟨x0, x1⟩ := allIn_get (digs_in (z := (m : Int)) (by omega) r (q : Int)) hx
              obtain ⟨xn, rfl⟩ : ∃ xn : Nat, x = (xn : Int) := ⟨x.toNat, by omega⟩
              have hnm := nmP_get (xs := xs) x0 (by rw [HXl.out]; exact x1)
              obtain ⟨u, hu⟩ : ∃ u, u = nmP xs (xn : Int) := ⟨_, rfl⟩
              rw [← hu, Int.toNat_natCast] at hnm
              obtain ⟨b', o', he', _, _, hcx⟩ := HX.out.at_ (by omega)
              cases he'
              have en : wr.cell? ⟨b3, o3 + xn, none⟩ = some (.int .i64 u) := cell_b hBB (hcx xn u hnm)
              have hcj := HD.out.cellAt j (by omega)
              rw [List.getElem?_map, mixI_get hlen (by omega), hx] at hcj
              have hcj2 : wr.cell? ⟨wi.heap.size, j, none⟩ = some (.int .i64 (xn : Int)) := hcj
              have hfr := HD.out.frozenAt j
              have hst := HD.out.stored j (.int .i64 u)
              rw [← List.map_set, mixI_set hlen (by omega) (by rw [List.getElem?_map, hx, hu]; rfl)] at hst
              have HST := Lib.hid hst
              have hxn : (xn : Int) < (m : Int) := by omega
              have hltj' : (j : Int) < (r : Int) := by omega
              clear hx hnm hu hlen hdl hst hcx hBB hBo hcj
              go_wp2_with fail
              go_roundw
              case rel => exact ⟨j + 1, by omega, by go_num, HST.out.1, HBj.out.grown HST.out.2 HBj.out.size (by intro b hb; cases hb; exact Nat.le_refl _)⟩
              case measure => simp [intOf]; omega
            · have hjr : j = r := by omega
              have hltj' : ¬ (j : Int) < (r : Int) := by omega
              have hD := HD.out
              rw [mixI_all hlen (by omega)] at hD
              have hv4 := (OwnsInts.of_row hD).view
              have hall := at_in (z := (zn : Int)) (xs := xs) (f := f) (q := q) (by rw [HXl.out]; exact hm1) HA.out
              rw [HXl.out, HRr.out, Int.toNat_natCast] at hall
              obtain ⟨wq, hwq⟩ : ∃ wq : World, wq = wr := ⟨_, rfl⟩
              rw [← hwq] at hD hv4 hBB HBj ⊢
              have hVal := fun (W : World) (hW : Below wq.heap.size wq W) => value_spec lo hi _ _ (zn : Int) _ _ c n r r k fs f _ W (HV.out.kept (Kept.of_below (hBB.trans (hW.mono hBB.size)) hhi)) (Nat.le_trans (Nat.le_trans hhi hBB.size) hW.size) HOk.out HFf_.out (hv4.kept (Kept.of_below hW (Nat.le_refl _))) hW.size hall HRr.out.symm
              obtain ⟨y, hy⟩ : ∃ y, atA (zn : Int) f ((digs (m : Int) r (q : Int)).map (nmP xs)) = y := ⟨_, rfl⟩
              simp only [hy] at hVal
              have HVal := Lib.hid hVal
              have hPl := fun (W : World) (hW : Below w.heap.size w W) => place_spec lo2 hi2 m d (some ⟨b3, o3, none⟩) xs y W (HX.out.kept (Kept.of_below hW hhi2)) (by omega)
              obtain ⟨v, hvE⟩ : ∃ v, plI xs y = v := ⟨_, rfl⟩
              simp only [hvE] at hPl
              have HPl := Lib.hid hPl
              have HE : Hid (sbE (zn : Int) xs f q = v) := by unfold Hid sbE; rw [HXl.out, HRr.out, Int.toNat_natCast, hy, hvE]
              have HOq := Lib.hid ((HBj.out.block _ hsi).trans HXb.out)
              obtain ⟨d0, d1, df⟩ := box_cells HOq.out
              have jz : wq.cell? ⟨w.heap.size, 0, none⟩ = some (.int .i64 (zn : Int)) := cell_b HBj.out iz
              have ja : wq.cell? ⟨w.heap.size, 1, none⟩ = some (.slice (some ⟨b2, o2, none⟩) n c) := cell_b HBj.out ia
              have HRow_ := Lib.hid (HTb.out.kept (grown_of_below HBj.out none) (own_em _))
              have hsq : wo.heap.size < wq.heap.size := by have := HBj.out.size; omega
              have HBq := Lib.hid hBB
              have HBoq := Lib.hid (HBi.out.trans (HBj.out.mono HBi.out.size))
              have hbd : Below wq.heap.size wq wq.drew := below_drew _
              clear hVal hPl hy hvE hD hv4 hall hlen hdl hBB hBo hwq d0 df hjr
              go_wp2_with fail
              go_region_law ((first | (refine step_append_lies _ rfl _ _ _ rfl (wo.heap.size + 1) 3 j0 _ 1 8 Try.underlying25 hj0 hy0 hy1 hy2 rfl (by decide) (.slice va q vc) q ((sbT (zn : Int) xs f q).map (Value.int .i64)) rfl ((HRow_.out.kept (grown_of_below HB6.out none) (own_em _)).alloc _) ⟨w7.heap.size, 0, none⟩ 1 1 [.int .i64 v] rfl rfl (cell_one_new _ _ _) (by simp [Value.oneCell']) (by decide) (by unfold maxLen; omega) (by omega) (by simp; omega) _ rfl ?_; intro g4 cap4 w4 hown4 hgrow4 hat4 hlt4; have HO4 : Hid (w4.heap[wo.heap.size]? = some (.cells #[.int .i64 (r : Int), .slice va q vc] 66 (0, 0))) := (hgrow4.block _ (by simp; omega) (fun e => by have h_ := (HRow_.out.lt wo.heap.size e.symm).1; omega)).trans ((Below.heap_alloc _ _ _ (by omega)).trans HO6b.out); have d14 := (box_cells HO4.out).2.1; have f14 := (box_cells HO4.out).2.2 1; have HOwn4 := Lib.hid hown4; have HGrow4 := Lib.hid hgrow4; clear hown4 hgrow4 hat4) | (go_simp; go_at_call 105; refine (HVal.out _ ?_).mono ?_; exact below_drew _; rintro e w6 ⟨rfl, b6⟩; have B6 : Below wq.heap.size wq w6 := below_then (below_drew _) b6; have d16 : w6.cell? ⟨wo.heap.size, 1, none⟩ = some (.slice va q vc) := cell_b B6 d1; have z6 : wq.heap.size ≤ w6.heap.size := B6.size; have zO6 : wo.heap.size < w6.heap.size := (by omega); have HB6 := Lib.hid B6; have HO6b : Hid (w6.heap[wo.heap.size]? = some (.cells #[.int .i64 (r : Int), .slice va q vc] 66 (0, 0))) := (B6.block _ hsq).trans HOq.out; have HBw6 := Lib.hid (HBq.out.trans (B6.mono HBq.out.size)); clear b6 B6) | (go_simp; go_at_call 104; refine (HPl.out _ ?_).mono ?_; exact HBw6.out; rintro e w7 ⟨rfl, rfl⟩)))
              all_goals
                have HT6 : Hid ((w4.setCell ⟨wo.heap.size, 1, none⟩ (.slice (some ⟨g4, 0, none⟩) (q + 1) cap4)).ownsRow (wo.heap.size + 1) 3 1 (.slice (some ⟨g4, 0, none⟩) (q + 1) cap4) (q + 1) ((sbT (zn : Int) xs f (q + 1)).map (Value.int .i64))) := by
                  unfold Hid
                  rw [sbT_succ, List.map_append, List.map_cons, List.map_nil, HE.out]
                  exact ownsRow_setCell_below HOwn4.out (by show wo.heap.size < _; omega) _
                have HX6 := Lib.hid (box_set1 (v := .slice (some ⟨g4, 0, none⟩) (q + 1) cap4) HO4.out)
                have hz5 : wo.heap.size < w4.heap.size := by have := HGrow4.out.size; simp at this; omega
                have HB7 : Hid (Below wo.heap.size wo (w4.setCell ⟨wo.heap.size, 1, none⟩ (.slice (some ⟨g4, 0, none⟩) (q + 1) cap4))) :=
                  (((HBoq.out.trans (HB6.out.mono (Nat.le_of_lt hsq))).alloc (by omega) _).grown HGrow4.out (by simp; omega) (fun b hb => by have h_ := (HRow_.out.lt b hb).1; omega)).setCell (Nat.le_refl _) _
                have hz6 : wo.heap.size < (w4.setCell ⟨wo.heap.size, 1, none⟩ (.slice (some ⟨g4, 0, none⟩) (q + 1) cap4)).heap.size := by simpa [World.setCell] using hz5
                obtain ⟨w5_, hw5_⟩ : ∃ w5_, w5_ = w4.setCell ⟨wo.heap.size, 1, none⟩ (.slice (some ⟨g4, 0, none⟩) (q + 1) cap4) := ⟨_, rfl⟩
                rw [← hw5_] at HT6 HX6 HB7 hz6 ⊢
                clear hw5_ d14 f14 d16 d1 jz ja
                go_wp2_with fail
                go_roundw
                case rel => exact ⟨q + 1, _, _, by omega, by go_num, HX6, HT6, HB7, hz6⟩
                case measure => simp [intOf]; omega
        · obtain rfl : q = nq := by omega
          obtain ⟨g, rfl⟩ : ∃ g, va = some ⟨g, 0, none⟩ := by
            rcases HTb.out.2 with ⟨_, h_⟩ | ⟨g, cap, _, h_, _⟩
            · omega
            · injection h_ with h_ _ _; exact ⟨g, h_⟩
          obtain ⟨G, C, HTt, HRow⟩ := HBu.out
          obtain ⟨ua, uc, hvv⟩ := own_form HRow
          have HTt_ := Lib.hid HTt
          have HRow_ := Lib.hid HRow
          have HRi := Lib.hid (HRow.kept (grown_of_below HBi.out none) (own_em _))
          have HOi := Lib.hid ((HBi.out.block _ hsr).trans HO.out)
          clear HTt HRow
          subst hvv
          obtain ⟨d0, d1, df⟩ := box_cells HOi.out
          have HLn : Hid (q = (sbT (zn : Int) xs f q).length) := by unfold Hid; rw [sbT_len]
          have HTl := Lib.hid (ownsRow_base HTb.out (Nat.le_succ _))
          have hBo := HBr.out.trans (HBi.out.mono HBr.out.size)
          have HBo := Lib.hid hBo
          clear hBo xf df d0
          go_wp2_with fail
          refine (HPw.out _).mono ?_
          rintro e_ wp_ ⟨rfl, rfl⟩
          go_wp2_with (at_builtin; refine wpList_append_own _ rfl _ _ 29 rfl (w.heap.size + 1 + 1 + 1) 66 i0 (.agg #[.int .i64 0, .slice none 0 0]) 2 32 Try.underlying29 hi0 hz0 hz1 hz2 rfl (by decide) (.slice ua k uc) k (flatN k G C F) rfl (HRi.out.alloc _) ⟨wi.heap.size, 0, none⟩ 1 1 [.int .i64 (r : Int), .slice (some ⟨g, 0, none⟩) q vc] rfl rfl (news_two _ _ _) (by simp [Value.oneCell']) (by unfold maxLen; omega) (by omega) (by simp; omega) ?_; intro v' w5 hown' hgrow' hnil'; obtain ⟨g5, cap5, rfl⟩ := ownsRow_succ hown'; have HO5 : Hid (w5.heap[w.heap.size + 1 + 1]? = some (.cells #[.int .i64 (m : Int), .slice ua k uc] 31 (0, 0))) := (hgrow'.block _ (by simp; omega) (fun e => by have h_ := (HRi.out.lt _ e.symm).1; omega)).trans ((Below.heap_alloc _ _ _ (by omega)).trans HOi.out); have d15 := (box_cells HO5.out).2.1; have f15 := (box_cells HO5.out).2.2 1; have HOwn5 := Lib.hid hown'; have HGrow5 := Lib.hid hgrow'; clear hown' hgrow' hnil')
          have HNew : Hid (Built (w5.setCell ⟨w.heap.size + 1 + 1, 1, none⟩ (.slice (some ⟨g5, 0, none⟩) (k + 1) cap5)) (w.heap.size + 1 + 1 + 1) (.slice (some ⟨g5, 0, none⟩) (k + 1) cap5) (k + 1) F) :=
            (Built.push HTt_.out HRow_.out HBi.out (by omega) HLn.out HTl.out HFe.out HOwn5.out HGrow5.out).setFar (by show w.heap.size + 1 + 1 < _; omega) _
          have HO6 := Lib.hid (box_set1 (v := .slice (some ⟨g5, 0, none⟩) (k + 1) cap5) HO5.out)
          have hz5 : w.heap.size + 1 + 1 < w5.heap.size := by have := HGrow5.out.size; simp at this; omega
          have hfar : ∀ b, b < w.heap.size + 1 + 1 → (w5.setCell ⟨w.heap.size + 1 + 1, 1, none⟩ (.slice (some ⟨g5, 0, none⟩) (k + 1) cap5)).heap[b]? = wi.heap[b]? := fun b hb => by
            rw [Below.heap_setCell _ _ _ _ (by show b ≠ w.heap.size + 1 + 1; omega), HGrow5.out.block b (by simp; omega) (fun e => by have h_ := (HRi.out.lt b e.symm).1; omega), Below.heap_alloc _ _ _ (by omega)]
          have HR6 : Hid ((w5.setCell ⟨w.heap.size + 1 + 1, 1, none⟩ (.slice (some ⟨g5, 0, none⟩) (k + 1) cap5)).heap[w.heap.size + 1]? = some (.cells #[.int .i64 0, .slice none 0 0] 31 (0, 0))) := (hfar _ (by omega)).trans ((HBi.out.block _ (by omega)).trans HR.out)
          have dz6 : (w5.setCell ⟨w.heap.size + 1 + 1, 1, none⟩ (.slice (some ⟨g5, 0, none⟩) (k + 1) cap5)).cell? ⟨w.heap.size, 0, none⟩ = some (.int .i64 (zn : Int)) := (World.cell?_of_block (a := ⟨w.heap.size, 0, none⟩) (hfar w.heap.size (by omega))).trans iz
          have da6 : (w5.setCell ⟨w.heap.size + 1 + 1, 1, none⟩ (.slice (some ⟨g5, 0, none⟩) (k + 1) cap5)).cell? ⟨w.heap.size, 1, none⟩ = some (.slice (some ⟨b2, o2, none⟩) n c) := (World.cell?_of_block (a := ⟨w.heap.size, 1, none⟩) (hfar w.heap.size (by omega))).trans ia
          have HB6 : Hid (Below w.heap.size w (w5.setCell ⟨w.heap.size + 1 + 1, 1, none⟩ (.slice (some ⟨g5, 0, none⟩) (k + 1) cap5))) :=
            ((HBo.out.alloc (by omega) _).grown HGrow5.out (by simp; omega) (fun b hb => by have h_ := (HRi.out.lt b hb).1; omega)).setCell (by show _ ≤ w.heap.size + 1 + 1; omega) _
          have hz6 : w.heap.size + 1 + 1 < (w5.setCell ⟨w.heap.size + 1 + 1, 1, none⟩ (.slice (some ⟨g5, 0, none⟩) (k + 1) cap5)).heap.size := by simpa [World.setCell] using hz5
          obtain ⟨w6, hw6⟩ : ∃ w6, w6 = w5.setCell ⟨w.heap.size + 1 + 1, 1, none⟩ (.slice (some ⟨g5, 0, none⟩) (k + 1) cap5) := ⟨_, rfl⟩
          rw [← hw6] at HNew HO6 HR6 dz6 da6 HB6 hz6 ⊢
          clear hw6 hfar d15 f15 d1 iz ia
          go_wp2_with fail
          go_roundw
          case rel => exact ⟨k + 1, _, by omega, by go_num, HNew, HO6, HR6, dz6, da6, HB6, hz6⟩
          case measure => simp [intOf]; omega
    · obtain rfl : k = n := by omega
      obtain ⟨_, hrow, _⟩ := HBu.out.row
      obtain ⟨va, vc, rfl⟩ := own_form hrow
      obtain ⟨d0, d1, _⟩ := box_cells HO.out
      obtain ⟨r0, r1, rf⟩ := box_cells HR.out
      obtain ⟨G, C, hops⟩ := HBu.out.ops (fs := fs.map (sbO (zn : Int) xs)) (fun j hj => HFf.out j (by have := HV.out.1; omega))
      have HOps := Lib.hid hops
      have HLen : Hid (k = (fs.map (sbO (zn : Int) xs)).length) := by unfold Hid; rw [List.length_map, HV.out.1]
      clear hrow hops
      go_wp2_with fail
      have hK : ∀ (v1 v2 : Value), Kept (w.heap.size + 1 + 1 + 1) wo.heap.size wo ((wo.setCell ⟨w.heap.size + 1, 0, none⟩ v1).setCell ⟨w.heap.size + 1, 1, none⟩ v2) := by
        intro v1 v2 q h1 h2
        rw [Below.heap_setCell _ _ _ _ (by show q ≠ w.heap.size + 1; omega), Below.heap_setCell _ _ _ _ (by show q ≠ w.heap.size + 1; omega)]
      refine bodyPost_ret (v := .agg #[.int .i64 (m : Int), .slice va k vc]) (by simp [results, Try.results59, go_sem, r0, r1]) rfl ⟨va, k, vc, G, C, rfl, HLen.out, ((HOps.out.kept (hK _ _)).lo_mono (by omega)).hi_mono (by simp [World.setCell]), (HBr.out.setCell (by show _ ≤ _; simp) _).setCell (by show _ ≤ _; simp) _⟩

end Go.Proofs.Ytcmjkfcgekmomaa
