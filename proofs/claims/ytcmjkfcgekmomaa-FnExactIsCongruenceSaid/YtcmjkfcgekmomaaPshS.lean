/-
  Contract: spec.l6Push. Conditions: the bounds that it names.
-/
import Derived.Test.YtcmjkfcgekmomaaCngM
import Derived.Test.YtcmjkfcgekmomaaPartO
import Derived.Test.YtcmjkfcgekmomaaDigs
import Derived.Test.YtcmjkfcgekmomaaIdxV
import Derived.Test.YtcmjkfcgekmomaaBuilt
import Derived.Deep.RegionHeld3
namespace Go.Proofs.Ytcmjkfcgekmomaa
open Go.RowKit
set_option linter.unusedVariables false
set_option linter.unusedSimpArgs false

set_option maxRecDepth 100000 in
set_option maxHeartbeats 8000000 in
theorem l6Push_any (lo hi zn nn c lo2 hi2 m d : Nat) (ao bo : Option Addr) (fs : List OpD) (xs : List Int) (w : World) (hv : OView w lo hi ao nn fs) (hhi : hi ≤ w.heap.size) (hok : algOkB (zn : Int) fs = true)
    (hx : IView w lo2 hi2 bo m xs) (hhi2 : hi2 ≤ w.heap.size) (hmz : m = zn) (hb : ∀ x, x < zn → 0 ≤ gI xs x ∧ gI xs x < zn) :
    Calls Try.prog 114 #[.agg #[.int .i64 (zn : Int), .slice ao nn c], .slice bo m d] w fun e w' => NewInts w w' zn (lstP zn (pushF zn fs (gI xs))) e := by
  obtain rfl : zn = m := hmz.symm
  obtain ⟨⟨hw1, hw2⟩, hn4_, hall⟩ := algOkB_of hok
  have hn4 : nn ≤ 4 := by have := hv.1; omega
  have hz1 : 1 ≤ zn := by omega
  have hz8 : zn ≤ 8 := by omega
  have hB1 := below_alloc w (.cells #[.int .i64 (zn : Int), .slice ao nn c] 31)
  obtain ⟨pb, po, rfl, _, hpbh, hpc⟩ := hx.at_ (show 0 < zn by omega)
  have HOwn := Lib.hid (own_ints lo2 hi2 (some ⟨pb, po, none⟩) zn d xs (w.alloc (.cells #[.int .i64 (zn : Int), .slice ao nn c] 31)) (hx.kept (Kept.of_below hB1 hhi2)) (by omega) (by omega))
  have hlx := hx.1
  have cz0 : (w.alloc (.cells #[.int .i64 (zn : Int), .slice ao nn c] 31)).cell? ⟨w.heap.size, 0, none⟩ = some (.int .i64 (zn : Int)) := by simp
  have ca0 : (w.alloc (.cells #[.int .i64 (zn : Int), .slice ao nn c] 31)).cell? ⟨w.heap.size, 1, none⟩ = some (.slice ao nn c) := by simp
  obtain ⟨w1, hw1e⟩ : ∃ w1, w1 = w.alloc (.cells #[.int .i64 (zn : Int), .slice ao nn c] 31) := ⟨_, rfl⟩
  have hs1 : w1.heap.size = w.heap.size + 1 := by rw [hw1e]; simp
  rw [← hw1e] at HOwn hB1 cz0 ca0
  have HV := Lib.hid (hv.kept (Kept.of_below hB1 hhi))
  have HPc : Hid (∀ j, j < zn → w1.cell? ⟨pb, po + j, none⟩ = some (.int .i64 (gI xs j))) := fun j hj => (hB1.cell (p := ⟨pb, po + j, none⟩) (show pb < w.heap.size by omega)).trans (hpc j _ (get_gI hlx hj))
  obtain ⟨p, hpe⟩ : ∃ p, gI xs = p := ⟨_, rfl⟩
  have hxs : lstP zn p = xs := by rw [← hpe, ← hlx]; exact lstP_gI xs
  rw [hpe] at HPc hb ⊢
  have HBd := Lib.hid hb
  have HXs := Lib.hid hxs
  have HAll := Lib.hid hall
  have HOk := Lib.hid hok
  have HB01 := Lib.hid hB1
  have HW1 := Lib.hid hw1e
  clear hv hx hpc hb hxs hall hok hw1 hw2 hlx hB1 hpe
  unfold NewInts at HOwn ⊢
  go_enter Try.func114, Try.ntmps114
  go_wp2_with fail
  rw [← HW1.out]
  refine HOwn.out.mono ?_
  rintro e w2 ⟨g1, d1, rfl, ho, b1⟩
  have HO2 : Hid (w2.ownsRow (w.heap.size + 1) 3 1 (.slice (some ⟨g1, 0, none⟩) zn d1) zn ((lstP zn (pu3 zn fs p p 0)).map (Value.int .i64))) := by
    unfold Hid; rw [pu3, HXs.out, ← hs1]; exact ho
  have HB2 := Lib.hid b1
  obtain ⟨cz, ca⟩ : w2.cell? ⟨w.heap.size, 0, none⟩ = some (.int .i64 (zn : Int)) ∧ w2.cell? ⟨w.heap.size, 1, none⟩ = some (.slice ao nn c) := ⟨cell_b b1 cz0, cell_b b1 ca0⟩
  clear ho b1 HOwn
  go_wp2_with fail
  go_loopw [5, 6, 7, 8, 9, 10] (fun v i _ _ _ _ wr => ∃ k g dd : Nat, k ≤ nn ∧ i = .int .i64 (k : Int) ∧ v = .slice (some ⟨g, 0, none⟩) zn dd ∧ Hid (wr.ownsRow (w.heap.size + 1) 3 1 (.slice (some ⟨g, 0, none⟩) zn dd) zn ((lstP zn (pu3 zn fs p p k)).map (Value.int .i64))) ∧ Hid (Below w1.heap.size w1 wr)) (fun _ i _ _ _ _ _ => nn - (intOf i).toNat)
  case atStart => exact ⟨0, _, _, Nat.zero_le _, rfl, rfl, HO2, HB2⟩
  case round =>
    obtain ⟨k, g, dd, hk, rfl, rfl, HR, HBr⟩ := hrel
    clear HO2 HB2 cz ca
    have jz := cell_b HBr.out cz0
    have ja := cell_b HBr.out ca0
    by_cases hlt : k < nn
    · have hkn : (k : Int) < (nn : Int) := by omega
      obtain ⟨b, o, rfl, _, hbh, hc⟩ := HV.out.at_ (by omega)
      obtain ⟨f, hf⟩ := get_of_lt HV.out.1 hlt
      obtain ⟨ta, L, tc, c0, c1, hmt, htc, hvt⟩ := hc k f hf
      have hokf := HAll.out f (List.mem_of_getElem? hf)
      obtain ⟨ar, har⟩ : ∃ ar : Nat, f.1 = (ar : Int) := ⟨f.1.toNat, by have := (opOkB_of hokf).1; omega⟩
      have har3 : ar ≤ 3 := by have := (opOkB_of hokf).1; omega
      have hL512 : L ≤ 512 := by have := (place_bd (z := (zn : Int)) (by omega) (by omega) hokf).1; have := hvt.1; omega
      rw [har] at c0
      have hLn : 0 < L := by rw [← hvt.1, tab_len hokf]; exact Nat.pow_pos (by omega)
      obtain ⟨bt, ot, rfl, _, hbth, hct⟩ := hvt.at_ hLn
      have HLl := Lib.hid hvt.1
      have HCt := Lib.hid (fun (i : Nat) (hi : i < L) => hct i _ (get_gI hvt.1 hi))
      have HF := Lib.hid hf
      have HEf := Lib.hid (opAt_get hf)
      have HOkf := Lib.hid hokf
      have HAr := Lib.hid har
      have HC0 := Lib.hid c0
      have HC1 := Lib.hid c1
      obtain ⟨G, hG⟩ : ∃ G, pu3 zn fs p p k = G := ⟨_, rfl⟩
      have HG := Lib.hid hG
      rw [hG] at HR
      clear hc hf hvt hct hokf har hbth hmt htc hLn c0 c1 hG
      go_wp2_with fail
      go_loopw [5, 7, 8, 9, 10] (fun v i _ _ _ wi => ∃ a g dd : Nat, a ≤ L ∧ i = .int .i64 (a : Int) ∧ v = .slice (some ⟨g, 0, none⟩) zn dd ∧ Hid (wi.ownsRow (w.heap.size + 1) 3 1 (.slice (some ⟨g, 0, none⟩) zn dd) zn ((lstP zn (pu2 zn f p G a)).map (Value.int .i64))) ∧ Hid (Below w1.heap.size w1 wi)) (fun _ i _ _ _ _ => L - (intOf i).toNat)
      case atStart => exact ⟨0, _, _, Nat.zero_le _, rfl, rfl, HR, HBr⟩
      case round =>
        rename World => wi
        obtain ⟨a, g, dd, ha, rfl, rfl, HRi, HBi⟩ := hrel
        clear HR HBr jz ja
        have jz := cell_b HBi.out cz0
        have ja := cell_b HBi.out ca0
        have j0 := cell_b HBi.out HC0.out
        have j1 := cell_b HBi.out HC1.out
        by_cases hlta : a < L
        · have han : (a : Int) < (L : Int) := by omega
          have HArg := Lib.hid (fun (W : World) => argsSpec_any (zn : Int) (a : Int) ar har3 W (by omega) (by omega) (by omega) (by omega))
          go_wp2_with fail
          refine wp_region_noPanic ?_
          refine wp_region_held_drew (S := fun W_ => W_.cell? ⟨w.heap.size, 0, none⟩ = some (.int .i64 (zn : Int)) ∧ W_.cell? ⟨w.heap.size, 1, none⟩ = some (.slice (some ⟨b, o, none⟩) nn c) ∧ W_.cell? ⟨b, o + k * 2, none⟩ = some (.int .i64 (ar : Int))) (by kernel_rfl) ?_ (fun hHeld => ?_)
          · exact ⟨jz, ja, j0⟩
          refine wpAnyH_take (i := 0) (oi := ⟨_, _, _, _, _, _⟩) (v := ?_) rfl (by kernel_rfl) (by kernel_rfl) (by kernel_rfl) (fun _ _ _ h => h) (Or.inl ⟨rfl, ?_⟩) (by assumption) ?_
          rotate_left 1
          · intro w_ hSw; (try dsimp only at hSw); go_simp; (try with_reducible rfl)
          (try simp only [Act.put, List.setIfInBounds_toArray, List.set_cons_zero, List.set_cons_succ])
          refine wpAnyH_take (i := 1) (oi := ⟨_, _, _, _, _, _⟩) (v := ?_) rfl (by kernel_rfl) (by kernel_rfl) (by kernel_rfl) (fun _ _ _ h => h) (Or.inl ⟨rfl, ?_⟩) (by assumption) ?_
          rotate_left 1
          · intro w_ hSw; (try dsimp only at hSw); go_simp; (try with_reducible rfl)
          (try simp only [Act.put, List.setIfInBounds_toArray, List.set_cons_zero, List.set_cons_succ])
          refine wpAnyH_take (i := 2) (oi := ⟨_, _, _, _, _, _⟩) (v := ?_) rfl (by kernel_rfl) (by kernel_rfl) (by kernel_rfl) (fun _ _ _ h => h) (Or.inl ⟨rfl, ?_⟩) (by assumption) ?_
          rotate_left 1
          · intro w_ hSw; (try dsimp only at hSw); go_simp; (try with_reducible rfl)
          (try simp only [Act.put, List.setIfInBounds_toArray, List.set_cons_zero, List.set_cons_succ])
          refine wpAnyH_take (i := 3) (oi := ⟨_, _, _, _, _, _⟩) (v := ?_) rfl (by kernel_rfl) (by kernel_rfl) (by kernel_rfl) (fun _ _ _ h => h) (Or.inl ⟨rfl, ?_⟩) (by assumption) ?_
          rotate_left 1
          · intro w_ hSw; (try dsimp only at hSw); go_simp; (try with_reducible rfl)
          (try simp only [Act.put, List.setIfInBounds_toArray, List.set_cons_zero, List.set_cons_succ])
          refine wpAnyH_take (i := 4) (oi := ⟨_, _, _, _, _, _⟩) (v := ?_) rfl (by kernel_rfl) (by kernel_rfl) (by kernel_rfl) (fun _ _ _ h => h) (Or.inl ⟨rfl, ?_⟩) (by assumption) ?_
          rotate_left 1
          · intro w_ hSw; (try dsimp only at hSw); go_simp; (try with_reducible rfl)
          (try simp only [Act.put, List.setIfInBounds_toArray, List.set_cons_zero, List.set_cons_succ])
          refine wpAnyH_take (i := 5) (oi := ⟨_, _, _, _, _, _⟩) (v := ?_) rfl (by kernel_rfl) (by kernel_rfl) (by kernel_rfl) (fun _ _ _ h => h) (Or.inl ⟨rfl, ?_⟩) (by assumption) ?_
          rotate_left 1
          · intro w_ hSw; (try dsimp only at hSw); go_simp; (try with_reducible rfl)
          (try simp only [Act.put, List.setIfInBounds_toArray, List.set_cons_zero, List.set_cons_succ])
          refine wpAnyH_take (i := 6) (oi := ⟨_, _, _, _, _, _⟩) (v := ?_) rfl (by kernel_rfl) (by kernel_rfl) (by kernel_rfl) (fun _ _ _ h => h) (Or.inl ⟨rfl, ?_⟩) (by assumption) ?_
          rotate_left 1
          · intro w_ hSw; (try dsimp only at hSw); go_simp; (try with_reducible rfl)
          (try simp only [Act.put, List.setIfInBounds_toArray, List.set_cons_zero, List.set_cons_succ])
          refine wpAnyH_take (i := 7) (oi := ⟨_, _, _, _, _, _⟩) (v := ?_) rfl (by kernel_rfl) (by kernel_rfl) (by kernel_rfl) (fun _ _ _ h => h) (Or.inl ⟨rfl, ?_⟩) (by assumption) ?_
          rotate_left 1
          · intro w_ hSw; (try dsimp only at hSw); go_simp; (try with_reducible rfl)
          (try simp only [Act.put, List.setIfInBounds_toArray, List.set_cons_zero, List.set_cons_succ])
          refine wpAnyH_take (i := 8) (oi := ⟨_, _, _, _, _, _⟩) (v := ?_) rfl (by kernel_rfl) (by kernel_rfl) (by kernel_rfl) (fun _ _ _ h => h) (Or.inl ⟨rfl, ?_⟩) (by assumption) ?_
          rotate_left 1
          · intro w_ hSw; (try dsimp only at hSw); go_simp; (try with_reducible rfl)
          (try simp only [Act.put, List.setIfInBounds_toArray, List.set_cons_zero, List.set_cons_succ])
          refine wpAnyH_ready (rs := [9]) (by kernel_rfl) (by simp) ?_
          refine AllReadyH.cons (o := ⟨_, _, _, _, _, _⟩) rfl (fun K hK => ?_) AllReadyH.nil
          go_simp
          go_at_call 103
          refine (HArg.out _).mono ?_
          rintro e_ w5 ⟨rfl, rfl⟩
          refine hK.out _ _ ?_ (fun hHeld => ?_)
          · exact ⟨cell_b (below_alloc _ _) (show wi.drew.cell? _ = _ from jz), cell_b (below_alloc _ _) (show wi.drew.cell? _ = _ from ja), cell_b (below_alloc _ _) (show wi.drew.cell? _ = _ from j0)⟩
          clear hK K
          (try simp only [Act.put, List.setIfInBounds_toArray, List.set_cons_zero, List.set_cons_succ])
          refine wpAnyH_take (i := 10) (oi := ⟨_, _, _, _, _, _⟩) (v := ?_) rfl (by kernel_rfl) (by kernel_rfl) (by kernel_rfl) (fun _ _ _ h => h) (Or.inl ⟨rfl, ?_⟩) (by assumption) ?_
          rotate_left 1
          · intro w_ hSw; (try dsimp only at hSw); go_simp; (try with_reducible rfl)
          (try simp only [Act.put, List.setIfInBounds_toArray, List.set_cons_zero, List.set_cons_succ])
          refine wpAnyH_done (by kernel_rfl) ?_ _
          refine NoPanic.normal ?_
          obtain ⟨wA, hwA⟩ : ∃ wA, wA = wi.drew.alloc (.cells (digsArr (zn : Int) ar (a : Int)) 3) := ⟨_, rfl⟩
          obtain ⟨ga, hga⟩ : ∃ ga, ga = wi.heap.size := ⟨_, rfl⟩
          have HD0 : Hid (wA.heap[ga]? = some (.cells (digsArr (zn : Int) ar (a : Int)) 3 (0, 0))) := by unfold Hid; rw [hwA, hga]; exact heap_alloc_new wi.drew _
          have HBA : Hid (Below w1.heap.size w1 wA) := by unfold Hid; rw [hwA]; exact (HBi.out.drew).alloc HBi.out.size _
          obtain ⟨G2, hG2⟩ : ∃ G2, pu2 zn f p G a = G2 := ⟨_, rfl⟩
          have HG2 := Lib.hid hG2
          have HRA : Hid (wA.ownsRow (w.heap.size + 1) 3 1 (.slice (some ⟨g, 0, none⟩) zn dd) zn ((lstP zn (pu1 zn f p a G2 0)).map (Value.int .i64))) := by unfold Hid; rw [pu1, ← hG2, hwA]; exact (show wi.drew.ownsRow _ _ _ _ _ _ from HRi.out).alloc _
          (try simp only [World.size_drew])
          rw [← hwA, ← hga]
          clear hwA hga hG2 hHeld jz ja j0 j1
          go_wp2_with fail
          go_loopw [5, 9, 10] (fun v i _ wq => ∃ q g dd : Nat, q ≤ ar ∧ i = .int .i64 (q : Int) ∧ v = .slice (some ⟨g, 0, none⟩) zn dd ∧ Hid (wq.ownsRow (w.heap.size + 1) 3 1 (.slice (some ⟨g, 0, none⟩) zn dd) zn ((lstP zn (pu1 zn f p a G2 q)).map (Value.int .i64))) ∧ Hid (wq.heap[ga]? = some (.cells (digsArr (zn : Int) ar (a : Int)) 3 (0, 0))) ∧ Hid (Below w1.heap.size w1 wq)) (fun _ i _ _ => ar - (intOf i).toNat)
          case atStart => exact ⟨0, _, _, Nat.zero_le _, rfl, rfl, HRA, HD0, HBA⟩
          case round =>
            rename World => wq
            obtain ⟨q, g, dd, hq, rfl, rfl, HRq, HDq, HBq⟩ := hrel
            clear HRA HD0 HBA
            by_cases hltq : q < ar
            · have hqn : (q : Int) < (ar : Int) := by omega
              have hvd := digs_view (z := (zn : Int)) (at_ := (a : Int)) HDq.out
              have hOw := own_ints ga wq.heap.size (some ⟨ga, 0, none⟩) ar ar (digs (zn : Int) ar (a : Int)) wq hvd (by omega) (by omega)
              unfold NewInts at hOw
              have HOw := Lib.hid hOw
              clear hvd hOw
              go_wp2_with fail
              refine HOw.out.mono ?_
              rintro e w3 ⟨g3, d3, rfl, ho3, b3⟩
              have hgal : ga < wq.heap.size := (Array.getElem?_eq_some_iff.1 HDq.out).1
              have hD3 : w3.heap[ga]? = some (.cells (digsArr (zn : Int) ar (a : Int)) 3 (0, 0)) := (b3.block _ hgal).trans HDq.out
              have hdq := dg_get zn ar a q hltq
              obtain ⟨dq, hdqe⟩ : ∃ dq, a / zn ^ (ar - 1 - q) % zn = dq := ⟨_, rfl⟩
              have hdz : dq < zn := by rw [← hdqe]; exact Nat.mod_lt _ (by omega)
              rw [hdqe] at hdq
              have e1 : w3.cell? ⟨ga, q, none⟩ = some (.int .i64 (dq : Int)) := by
                rw [cell_of_row w3 ga q _ _ (0, 0) hD3]
                simp [digsArr, hdq]
              have HB3 := Lib.hid (HBq.out.trans (b3.mono HBq.out.size))
              obtain ⟨pv, hpv⟩ : ∃ pv, p dq = pv := ⟨_, rfl⟩
              have e2 := cell_b HB3.out (HPc.out dq hdz)
              rw [hpv] at e2
              have hdn : (dq : Int) < (zn : Int) := by omega
              obtain ⟨u0, hu0⟩ : ∃ u0, w3.cell? ⟨g3, q, none⟩ = some u0 := by
                have h_ := ho3.cellAt q (by omega)
                rw [h_]
                exact ⟨_, List.getElem?_eq_getElem (by rw [List.length_map, digs_len]; omega)⟩
              have hfr : w3.frozen? ⟨g3, q, none⟩ = false := ho3.frozenAt q
              have hst := (ho3.stored q (.int .i64 pv)).1
              have hg3 : wq.heap.size ≤ g3 := (ho3.lt g3 rfl).1
              rw [← List.map_set] at hst
              have hot : (digs (zn : Int) ar (a : Int)).set q pv = othL zn f p a q := by
                unfold othL
                rw [HAr.out, Int.toNat_natCast, List.getD_eq_getElem?_getD, hdq, Option.getD_some, Int.toNat_natCast, hpv]
              rw [hot] at hst
              have HST := Lib.hid hst
              have HB4 := Lib.hid (b3.setCell (p := ⟨g3, q, none⟩) hg3 (.int .i64 pv))
              clear hD3 hdq hdqe hpv hst hot ho3 b3
              go_wp2_with fail
              obtain ⟨w4, hw4⟩ : ∃ w4, w4 = w3.setCell ⟨g3, q, none⟩ (.int .i64 pv) := ⟨_, rfl⟩
              rw [← hw4] at HST HB4 ⊢
              clear hw4 e1 e2 hu0 hfr
              have HB5 := Lib.hid (HBq.out.trans (HB4.out.mono HBq.out.size))
              have kz := cell_b HB5.out cz0
              have ka := cell_b HB5.out ca0
              have k1 := cell_b HB5.out HC1.out
              have hta := tab_bd HOkf.out (i := a) (by rw [HLl.out]; exact hlta)
              have hqf : q < f.1.toNat := by rw [HAr.out]; omega
              have hoa := oth_bd (a := a) hz1 HOkf.out HBd.out hqf
              have hoi := oth_in (f := f) (a := a) hz1 HBd.out hqf
              obtain ⟨yn, hyn⟩ : ∃ yn : Nat, gI f.2 a = (yn : Int) := ⟨(gI f.2 a).toNat, by omega⟩
              obtain ⟨un, hun⟩ : ∃ un : Nat, othA zn f p a q = (un : Int) := ⟨(othA zn f p a q).toNat, by omega⟩
              have ky := cell_b HB5.out (HCt.out a hlta)
              rw [hyn] at ky hta
              rw [hun] at hoa
              have hVal := fun (W : World) (hW : Below w4.heap.size w4 W) => value_spec lo hi wq.heap.size w4.heap.size (zn : Int) (some ⟨b, o, none⟩) (some ⟨g3, 0, none⟩) c nn d3 ar k fs f (othL zn f p a q) W (HV.out.kept (Kept.of_below (HB5.out.trans (hW.mono HB5.out.size)) (by omega))) (by have := HB5.out.size; have := hW.size; omega) HOk.out HF.out
                ((OwnsInts.of_row HST.out).view.kept (Kept.of_below hW (Nat.le_refl _))) hW.size hoi (by rw [HAr.out])
              rw [show atA (zn : Int) f (othL zn f p a q) = (un : Int) from hun] at hVal
              have HVal := Lib.hid hVal
              have hUn := fun (W : World) (hW : Below w4.heap.size w4 W) => unite6_any (w.heap.size + 1) W.heap.size (some ⟨g, 0, none⟩) dd zn yn un (lstP zn (pu1 zn f p a G2 q)) W
                (IView.of_owns (HRq.out.kept (grown_of_below (HB4.out.trans (hW.mono HB4.out.size)) none) (own_em _)) (Nat.le_refl _)) (Nat.le_refl _) (by omega) (by omega) hz8
              rw [show lstP zn (joinF (gI (lstP zn (pu1 zn f p a G2 q))) yn un) = lstP zn (pu1 zn f p a G2 (q + 1)) from lstP_congr fun x hx => by
                rw [pu1, hyn, hun, Int.toNat_natCast, Int.toNat_natCast]
                exact joinF_congr (n := zn) (fun j hj => gI_lstP _ hj) (by omega) (by omega) hx] at hUn
              unfold NewInts at hUn
              have HUn := Lib.hid hUn
              have HB4w := Lib.hid HB4.out
              have HSw : Hid (w.heap.size + 1 ≤ w4.heap.size) := by unfold Hid; have := HB5.out.size; omega
              clear hVal hUn hyn hun hta hoa hoi hqf
              have HBw := HB5
              clear HB5
              go_wp2_with fail
              refine wp_region_noPanic ?_
              refine wp_region_held_drew (S := fun W_ => W_.cell? ⟨w.heap.size, 0, none⟩ = some (.int .i64 (zn : Int)) ∧ W_.cell? ⟨w.heap.size, 1, none⟩ = some (.slice (some ⟨b, o, none⟩) nn c) ∧ W_.cell? ⟨b, o + k * 2 + 1, none⟩ = some (.slice (some ⟨bt, ot, none⟩) L tc) ∧ W_.cell? ⟨bt, ot + a, none⟩ = some (.int .i64 (yn : Int))) (by kernel_rfl) ?_ (fun hHeld => ?_)
              · exact ⟨kz, ka, k1, ky⟩
              refine wpAnyH_take (i := 0) (oi := ⟨_, _, _, _, _, _⟩) (v := ?_) rfl (by kernel_rfl) (by kernel_rfl) (by kernel_rfl) (fun _ _ _ h => h) (Or.inl ⟨rfl, ?_⟩) (by assumption) ?_
              rotate_left 1
              · intro w_ hSw; (try dsimp only at hSw); go_simp; (try with_reducible rfl)
              (try simp only [Act.put, List.setIfInBounds_toArray, List.set_cons_zero, List.set_cons_succ])
              refine wpAnyH_take (i := 1) (oi := ⟨_, _, _, _, _, _⟩) (v := ?_) rfl (by kernel_rfl) (by kernel_rfl) (by kernel_rfl) (fun _ _ _ h => h) (Or.inl ⟨rfl, ?_⟩) (by assumption) ?_
              rotate_left 1
              · intro w_ hSw; (try dsimp only at hSw); go_simp; (try with_reducible rfl)
              (try simp only [Act.put, List.setIfInBounds_toArray, List.set_cons_zero, List.set_cons_succ])
              refine wpAnyH_take (i := 2) (oi := ⟨_, _, _, _, _, _⟩) (v := ?_) rfl (by kernel_rfl) (by kernel_rfl) (by kernel_rfl) (fun _ _ _ h => h) (Or.inl ⟨rfl, ?_⟩) (by assumption) ?_
              rotate_left 1
              · intro w_ hSw; (try dsimp only at hSw); go_simp; (try with_reducible rfl)
              (try simp only [Act.put, List.setIfInBounds_toArray, List.set_cons_zero, List.set_cons_succ])
              refine wpAnyH_take (i := 3) (oi := ⟨_, _, _, _, _, _⟩) (v := ?_) rfl (by kernel_rfl) (by kernel_rfl) (by kernel_rfl) (fun _ _ _ h => h) (Or.inl ⟨rfl, ?_⟩) (by assumption) ?_
              rotate_left 1
              · intro w_ hSw; (try dsimp only at hSw); go_simp; (try with_reducible rfl)
              (try simp only [Act.put, List.setIfInBounds_toArray, List.set_cons_zero, List.set_cons_succ])
              refine wpAnyH_take (i := 4) (oi := ⟨_, _, _, _, _, _⟩) (v := ?_) rfl (by kernel_rfl) (by kernel_rfl) (by kernel_rfl) (fun _ _ _ h => h) (Or.inl ⟨rfl, ?_⟩) (by assumption) ?_
              rotate_left 1
              · intro w_ hSw; (try dsimp only at hSw); go_simp; (try with_reducible rfl)
              (try simp only [Act.put, List.setIfInBounds_toArray, List.set_cons_zero, List.set_cons_succ])
              refine wpAnyH_take (i := 5) (oi := ⟨_, _, _, _, _, _⟩) (v := ?_) rfl (by kernel_rfl) (by kernel_rfl) (by kernel_rfl) (fun _ _ _ h => h) (Or.inl ⟨rfl, ?_⟩) (by assumption) ?_
              rotate_left 1
              · intro w_ hSw; (try dsimp only at hSw); go_simp; (try with_reducible rfl)
              (try simp only [Act.put, List.setIfInBounds_toArray, List.set_cons_zero, List.set_cons_succ])
              refine wpAnyH_take (i := 6) (oi := ⟨_, _, _, _, _, _⟩) (v := ?_) rfl (by kernel_rfl) (by kernel_rfl) (by kernel_rfl) (fun _ _ _ h => h) (Or.inl ⟨rfl, ?_⟩) (by assumption) ?_
              rotate_left 1
              · intro w_ hSw; (try dsimp only at hSw); go_simp; (try with_reducible rfl)
              (try simp only [Act.put, List.setIfInBounds_toArray, List.set_cons_zero, List.set_cons_succ])
              refine wpAnyH_take (i := 7) (oi := ⟨_, _, _, _, _, _⟩) (v := ?_) rfl (by kernel_rfl) (by kernel_rfl) (by kernel_rfl) (fun _ _ _ h => h) (Or.inl ⟨rfl, ?_⟩) (by assumption) ?_
              rotate_left 1
              · intro w_ hSw; (try dsimp only at hSw); go_simp; (try with_reducible rfl)
              (try simp only [Act.put, List.setIfInBounds_toArray, List.set_cons_zero, List.set_cons_succ])
              refine wpAnyH_take (i := 8) (oi := ⟨_, _, _, _, _, _⟩) (v := ?_) rfl (by kernel_rfl) (by kernel_rfl) (by kernel_rfl) (fun _ _ _ h => h) (Or.inl ⟨rfl, ?_⟩) (by assumption) ?_
              rotate_left 1
              · intro w_ hSw; (try dsimp only at hSw); go_simp; (try with_reducible rfl)
              (try simp only [Act.put, List.setIfInBounds_toArray, List.set_cons_zero, List.set_cons_succ])
              refine wpAnyH_take (i := 9) (oi := ⟨_, _, _, _, _, _⟩) (v := ?_) rfl (by kernel_rfl) (by kernel_rfl) (by kernel_rfl) (fun _ _ _ h => h) (Or.inl ⟨rfl, ?_⟩) (by assumption) ?_
              rotate_left 1
              · intro w_ hSw; (try dsimp only at hSw); go_simp; (try with_reducible rfl)
              (try simp only [Act.put, List.setIfInBounds_toArray, List.set_cons_zero, List.set_cons_succ])
              refine wpAnyH_take (i := 10) (oi := ⟨_, _, _, _, _, _⟩) (v := ?_) rfl (by kernel_rfl) (by kernel_rfl) (by kernel_rfl) (fun _ _ _ h => h) (Or.inl ⟨rfl, ?_⟩) (by assumption) ?_
              rotate_left 1
              · intro w_ hSw; (try dsimp only at hSw); go_simp; (try with_reducible rfl)
              (try simp only [Act.put, List.setIfInBounds_toArray, List.set_cons_zero, List.set_cons_succ])
              refine wpAnyH_take (i := 11) (oi := ⟨_, _, _, _, _, _⟩) (v := ?_) rfl (by kernel_rfl) (by kernel_rfl) (by kernel_rfl) (fun _ _ _ h => h) (Or.inl ⟨rfl, ?_⟩) (by assumption) ?_
              rotate_left 1
              · intro w_ hSw; (try dsimp only at hSw); go_simp; (try with_reducible rfl)
              (try simp only [Act.put, List.setIfInBounds_toArray, List.set_cons_zero, List.set_cons_succ])
              refine wpAnyH_take (i := 12) (oi := ⟨_, _, _, _, _, _⟩) (v := ?_) rfl (by kernel_rfl) (by kernel_rfl) (by kernel_rfl) (fun _ _ _ h => h) (Or.inl ⟨rfl, ?_⟩) (by assumption) ?_
              rotate_left 1
              · intro w_ hSw; (try dsimp only at hSw); go_simp; (try with_reducible rfl)
              (try simp only [Act.put, List.setIfInBounds_toArray, List.set_cons_zero, List.set_cons_succ])
              refine wpAnyH_ready (rs := [13]) (by kernel_rfl) (by simp) ?_
              refine AllReadyH.cons (o := ⟨_, _, _, _, _, _⟩) rfl (fun K hK => ?_) AllReadyH.nil
              go_simp
              go_at_call 105
              refine (HVal.out _ (below_drew _)).mono ?_
              rintro e_ w5 ⟨rfl, b5⟩
              have HB5 := Lib.hid (below_then (below_drew w4) b5)
              clear b5
              refine hK.out _ _ ?_ (fun hHeld => ?_)
              · exact ⟨cell_b HB5.out kz, cell_b HB5.out ka, cell_b HB5.out k1, cell_b HB5.out ky⟩
              clear hK K
              (try simp only [Act.put, List.setIfInBounds_toArray, List.set_cons_zero, List.set_cons_succ])
              refine wpAnyH_ready (rs := [14]) (by kernel_rfl) (by simp) ?_
              refine AllReadyH.cons (o := ⟨_, _, _, _, _, _⟩) rfl (fun K hK => ?_) AllReadyH.nil
              go_simp
              go_at_call 140
              refine (HUn.out _ HB5.out).mono ?_
              rintro e_ w6 ⟨g6, d6, rfl, ho6, b6⟩
              have HB6 := Lib.hid (HB5.out.trans (b6.mono HB5.out.size))
              have HO6 := Lib.hid (ownsRow_base ho6 (b' := w.heap.size + 1) (Nat.le_trans HSw.out HB5.out.size))
              clear ho6 b6
              refine hK.out _ _ ?_ (fun hHeld => ?_)
              · exact ⟨cell_b HB6.out kz, cell_b HB6.out ka, cell_b HB6.out k1, cell_b HB6.out ky⟩
              clear hK K
              (try simp only [Act.put, List.setIfInBounds_toArray, List.set_cons_zero, List.set_cons_succ])
              refine wpAnyH_take (i := 15) (oi := ⟨_, _, _, _, _, _⟩) (v := ?_) rfl (by kernel_rfl) (by kernel_rfl) (by kernel_rfl) (fun _ _ _ h => h) (Or.inl ⟨rfl, ?_⟩) (by assumption) ?_
              rotate_left 1
              · intro w_ hSw; (try dsimp only at hSw); go_simp; (try with_reducible rfl)
              (try simp only [Act.put, List.setIfInBounds_toArray, List.set_cons_zero, List.set_cons_succ])
              refine wpAnyH_done (by kernel_rfl) ?_ _
              refine NoPanic.normal ?_
              have HB7 := Lib.hid (HBw.out.trans (HB6.out.mono HBw.out.size))
              have HD7 := Lib.hid (((HB4w.out.trans (HB6.out.mono HB4w.out.size)).block _ hgal).trans HDq.out)
              clear hHeld kz ka k1 ky
              go_wp2_with fail
              go_roundw
              case rel => exact ⟨q + 1, g6, d6, by omega, by go_num, rfl, HO6, HD7, HB7⟩
              case measure => simp [intOf]; omega
            · have hqn : ¬ (q : Int) < (ar : Int) := by omega
              obtain rfl : q = ar := by omega
              have HR8 : Hid (wq.ownsRow (w.heap.size + 1) 3 1 (.slice (some ⟨g, 0, none⟩) zn dd) zn ((lstP zn (pu2 zn f p G (a + 1))).map (Value.int .i64))) := by
                unfold Hid; rw [pu2, HG2.out, HAr.out, Int.toNat_natCast]; exact HRq.out
              go_wp2_with fail
              go_roundw
              case rel => exact ⟨a + 1, g, dd, by omega, by go_num, rfl, HR8, HBq⟩
              case measure => simp [intOf]; omega
        · have han : ¬ (a : Int) < (L : Int) := by omega
          obtain rfl : a = L := by omega
          have HR9 : Hid (wi.ownsRow (w.heap.size + 1) 3 1 (.slice (some ⟨g, 0, none⟩) zn dd) zn ((lstP zn (pu3 zn fs p p (k + 1))).map (Value.int .i64))) := by
            unfold Hid; rw [pu3, HEf.out, HG.out, HLl.out]; exact HRi.out
          go_wp2_with fail
          go_roundw
          case rel => exact ⟨k + 1, g, dd, by omega, by go_num, rfl, HR9, HBi⟩
          case measure => simp [intOf]; omega
    · have hkn : ¬ (k : Int) < (nn : Int) := by omega
      obtain rfl : k = nn := by omega
      have HRE := Lib.hid (ownsRow_base HR.out (b' := w.heap.size) (Nat.le_succ _))
      have HBE := Lib.hid (HB01.out.trans (HBr.out.mono HB01.out.size))
      have HLn := Lib.hid HV.out.1
      go_wp2_with fail
      go_ret
      exact ⟨g, dd, rfl, by unfold pushF; rw [HLn.out]; exact HRE.out, HBE.out⟩

end Go.Proofs.Ytcmjkfcgekmomaa
