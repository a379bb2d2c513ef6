/-
  Contract: impl.firstFault of partialMap. Conditions: the bounds that it names.
-/
import Derived.Test.YtcmjkfcgekmomaaPlcI
import Derived.Test.YtcmjkfcgekmomaaSame
namespace Go.Proofs.Ytcmjkfcgekmomaa
open Go.RowKit
set_option linter.unusedVariables false
set_option linter.unusedSimpArgs false

def fltK (o : Option (Nat × Nat)) : Nat := (o.getD (0, 0)).1
def fltX (o : Option (Nat × Nat)) : Nat := (o.getD (0, 0)).2
def fltV (o : Option (Nat × Nat)) : Value := .tuple #[.int .i64 (fltK o : Int), .int .i64 (fltX o : Int), .bool o.isSome]
theorem same_op {fs gs : List OpD} (ht : typeV fs = typeV gs) {k : Nat} {F : OpD} (hF : fs[k]? = some F) : ∃ G, gs[k]? = some G ∧ G.1 = F.1 := by
  have h1 : (typeV fs)[k]? = some F.1 := by unfold typeV; rw [List.getElem?_map, hF]; rfl
  rw [ht] at h1
  unfold typeV at h1
  rw [List.getElem?_map] at h1
  obtain ⟨G, h2, h3⟩ := Option.map_eq_some_iff.1 h1
  exact ⟨G, h2, h3⟩

set_option maxHeartbeats 4000000 in
set_option maxRecDepth 100000 in
theorem fault_impl (lo hi lo2 hi2 : Nat) (z z1 : Int) (ao bo : Option Addr) (c n d m : Nat) (fs gs : List OpD) (f : Nat → Int) (w : World) (hv : OView w lo hi ao n fs) (hhi : hi ≤ w.heap.size) (hok : algOkB z fs = true)
    (hu : OView w lo2 hi2 bo m gs) (hhi2 : hi2 ≤ w.heap.size) (hok2 : algOkB z1 gs = true) (ht : typeV fs = typeV gs) (hf : Full z z1 f) :
    Calls Try.prog 95 #[.agg (arrV f), .agg #[.int .i64 z, .slice ao n c], .agg #[.int .i64 z1, .slice bo m d]] w fun e w' => e = .returned (fltV (faultV z z1 fs gs f)) ∧ Below w.heap.size w w' := by
  obtain ⟨⟨h1, h2⟩, hn4, hall⟩ := algOkB_of hok
  obtain ⟨⟨k1, k2⟩, hm4, hall2⟩ := algOkB_of hok2
  obtain ⟨w1, hw1⟩ : ∃ w1, w1 = (((w.alloc (.cells (arrV f) 53)).alloc (.cells #[.int .i64 z, .slice ao n c] 31)).alloc (.cells #[.int .i64 z1, .slice bo m d] 31)) := ⟨_, rfl⟩
  have HA : Hid (ArrAt w1 w.heap.size f) := by unfold Hid; rw [hw1]; exact ((ArrAt.new _ _).alloc _).alloc _
  have cz : w1.cell? ⟨w.heap.size + 1, 0, none⟩ = some (.int .i64 z) := by rw [hw1]; exact cell_b (below_alloc _ _) (by simp)
  have ca : w1.cell? ⟨w.heap.size + 1, 1, none⟩ = some (.slice ao n c) := by rw [hw1]; exact cell_b (below_alloc _ _) (by simp)
  have cz1 : w1.cell? ⟨w.heap.size + 1 + 1, 0, none⟩ = some (.int .i64 z1) := by rw [hw1]; exact cell_top _ _ (by simp) _ _ 0
  have ca1 : w1.cell? ⟨w.heap.size + 1 + 1, 1, none⟩ = some (.slice bo m d) := by rw [hw1]; exact cell_top _ _ (by simp) _ _ 1
  have hB : Below w.heap.size w w1 := by rw [hw1]; exact below_then (below_then (below_alloc _ _) (below_alloc _ _)) (below_alloc _ _)
  have HV := Lib.hid (hv.kept (Kept.of_below hB hhi))
  have HU := Lib.hid (hu.kept (Kept.of_below hB hhi2))
  have hhi' : hi ≤ w1.heap.size := Nat.le_trans hhi hB.size
  have hhi2' : hi2 ≤ w1.heap.size := Nat.le_trans hhi2 hB.size
  have HB := Lib.hid hB
  have HAll := Lib.hid hall
  have HAll2 := Lib.hid hall2
  have HTy := Lib.hid ht
  have HF := Lib.hid hf
  have hl := hv.1
  rw [hl] at hn4
  have HL := Lib.hid hl
  clear hv hu hok hok2 ht hf hB hall hall2 hl
  go_enter Try.func95, Try.ntmps95
  go_wp2
  rw [← hw1]
  clear hw1
  have HC := Lib.hid (And.intro cz (And.intro ca (And.intro cz1 ca1)))
  go_wp2_with fail
  go_loopw [18] (fun i wr => ∃ k : Nat, k ≤ n ∧ i = .int .i64 (k : Int) ∧ Hid (∀ j, j < k → badIn z z1 f (opAt fs j) (opAt gs j) = none) ∧ Hid (Below w1.heap.size w1 wr)) (fun i _ => n - (intOf i).toNat)
  case atStart => exact ⟨0, Nat.zero_le _, rfl, fun j hj => by omega, Below.refl _ _⟩
  case round =>
    obtain ⟨k, hk, rfl, HN, HBo⟩ := hrel
    clear cz ca cz1 ca1
    by_cases hlt : k < n
    · have hkn : (k : Int) < (n : Int) := by omega
      obtain ⟨F, hF⟩ := get_of_lt HL.out hlt
      obtain ⟨G, hG, hGF⟩ := same_op HTy.out hF
      obtain ⟨hm5, hf1, hf3⟩ := place_bd h1 h2 (HAll.out F (List.mem_of_getElem? hF))
      obtain ⟨r, hr⟩ : ∃ r, F.1.toNat = r := ⟨_, rfl⟩
      rw [hr] at hf1 hf3
      obtain ⟨b, o, rfl, _, hbh, hc⟩ := HV.out.at_ (by omega)
      obtain ⟨a, q, c', c0, c1, _, _, hvt⟩ := hc k F hF
      have hml : F.2.length = q := hvt.1
      rw [hml] at hm5
      have hk2 : k < m := by have := HU.out.1; have := (List.getElem?_eq_some_iff.1 hG).1; omega
      obtain ⟨b2, o2, rfl, _, hbh2, hc2⟩ := HU.out.at_ (by omega)
      obtain ⟨a2, q2, c2', d0, d1, _, _, hvt2⟩ := hc2 k G hG
      rw [hf1] at c0
      have e0 : wr.cell? ⟨b, o + k * 2, none⟩ = some (.int .i64 (r : Int)) := cell_b HBo.out c0
      have e1 : wr.cell? ⟨b, o + k * 2 + 1, none⟩ = some (.slice a q c') := cell_b HBo.out c1
      have cz := cell_b HBo.out HC.out.1
      have ca := cell_b HBo.out HC.out.2.1
      obtain ⟨w2, hw2⟩ : ∃ w2, w2 = wr.alloc (.cells #[.int .i64 (r : Int), .slice a q c'] 66) := ⟨_, rfl⟩
      have x0 : w2.cell? ⟨wr.heap.size, 0, none⟩ = some (.int .i64 (r : Int)) := by rw [hw2]; simp
      have x1 : w2.cell? ⟨wr.heap.size, 1, none⟩ = some (.slice a q c') := by rw [hw2]; simp
      have HB2 : Hid (Below w1.heap.size w1 w2) := by unfold Hid; rw [hw2]; exact HBo.out.trans ((below_alloc wr _).mono HBo.out.size)
      have HX := Lib.hid (And.intro x0 x1)
      have HT1 := Lib.hid hvt
      have HT2 := Lib.hid hvt2
      have HD1 := Lib.hid d1
      have HFk := Lib.hid hF
      have HGk := Lib.hid hG
      have HGF := Lib.hid hGF
      have HR := Lib.hid hr
      have HML := Lib.hid hml
      have HEo : Hid (opAt fs k = F ∧ opAt gs k = G) := ⟨opAt_get hF, opAt_get hG⟩
      clear hc hc2 c0 c1 d0 d1 hvt hvt2 hF hG hGF hr hml hf1
      go_wp2_with fail
      rw [← hw2]
      clear hw2 e0 e1 cz ca
      obtain ⟨X, hX⟩ : ∃ X, X = wr.heap.size := ⟨_, rfl⟩
      rw [← hX] at HX x0 x1 ⊢
      clear hX
      go_wp2_with fail
      go_loopw [26] (fun i wi => ∃ j : Nat, j ≤ q ∧ i = .int .i64 (j : Int) ∧ Hid (∀ l, l < j → badAt z z1 f F G l = false) ∧ Hid (Below w2.heap.size w2 wi)) (fun i _ => q - (intOf i).toNat)
      case atStart => exact ⟨0, Nat.zero_le _, rfl, fun j hj => by omega, Below.refl _ _⟩
      case round =>
        rename World => wi
        obtain ⟨j, hj, rfl, HM, HBi⟩ := hrel
        clear x0 x1
        have HBw : Hid (Below w1.heap.size w1 wi) := HB2.out.trans (HBi.out.mono HB2.out.size)
        by_cases hjq : j < q
        · have hjq' : (j : Int) < (q : Int) := by omega
          obtain ⟨bt, ot, rfl, _, hbth, hct⟩ := HT1.out.at_ (by omega)
          obtain ⟨x, hx⟩ := get_of_lt HT1.out.1 hjq
          obtain ⟨x0, x1⟩ := allIn_get (opOkB_of (HAll.out F (List.mem_of_getElem? HFk.out))).2.2 hx
          obtain ⟨xn, rfl⟩ : ∃ xn : Nat, x = (xn : Int) := ⟨x.toNat, by omega⟩
          have hdin := digs_in h1 r (j : Int)
          have hig := img_full HF.out hdin
          have hno := img_not_open HF.out hdin
          have hG1 : ((imgF f (digs z r (j : Int))).length : Int) = G.1 := by rw [imgF_len, digs_len, HGF.out]; have := (place_bd h1 h2 (HAll.out F (List.mem_of_getElem? HFk.out))).2.1; rw [HR.out] at this; exact this.symm
          obtain ⟨p0, p1, p2⟩ := at_get k1 (HAll2.out G (List.mem_of_getElem? HGk.out)) hG1 hig
          obtain ⟨pn, hpn⟩ : ∃ pn : Nat, idxA z1 (imgF f (digs z r (j : Int))) = (pn : Int) := ⟨(idxA z1 (imgF f (digs z r (j : Int)))).toNat, by omega⟩
          rw [hpn] at p1 p2
          rw [Int.toNat_natCast] at p2
          have hq2 : G.2.length = q2 := HT2.out.1
          rw [hq2] at p1
          obtain ⟨bt2, ot2, rfl, _, hbth2, hct2⟩ := HT2.out.at_ (by omega)
          have HPl := Lib.hid (fun W => place_any z z1 (some ⟨b, o, none⟩) (some ⟨b2, o2, none⟩) c n d m f r (j : Int) W h1 h2 k1 k2 hf3 (by omega) (by omega) HF.out.part)
          have hpv : plcV z z1 f r (j : Int) = (pn : Int) := by rw [plcV, hno, if_neg (by simp), hpn]
          rw [hpv, hno] at HPl
          have t0 := hct j _ hx
          have t2 := hct2 pn _ p2
          have HT0 := Lib.hid t0
          have HTT := Lib.hid t2
          have e1 : wi.cell? ⟨bt, ot + j, none⟩ = some (.int .i64 (xn : Int)) := cell_b HBw.out t0
          have y0 := cell_b HBi.out HX.out.1
          have y1 := cell_b HBi.out HX.out.2
          have cz := cell_b HBw.out HC.out.1
          have ca := cell_b HBw.out HC.out.2.1
          have cz1 := cell_b HBw.out HC.out.2.2.1
          have ca1 := cell_b HBw.out HC.out.2.2.2
          have HAi : Hid (ArrAt wi w.heap.size f) := HA.out.below HBw.out HA.out.lt
          have hval : F.2.getD j 0 = (xn : Int) := by rw [List.getD_eq_getElem?_getD, hx]; rfl
          obtain ⟨y, hy⟩ : ∃ y, atA z1 G (imgF f (digs z r (j : Int))) = y := ⟨_, rfl⟩
          rw [hy] at t2
          unfold Hid at HTT
          rw [hy] at HTT
          have HTT := Lib.hid HTT
          have hbad : badAt z z1 f F G j = !decide (f xn = y) := by rw [badAt, hval, HR.out, hy, Int.toNat_natCast]
          have HBad := Lib.hid hbad
          obtain ⟨u, hu⟩ : ∃ u, f xn = u := ⟨_, rfl⟩
          rw [hu] at HBad
          have HU1 := Lib.hid hu
          have hx8 : (xn : Int) < 8 := by omega
          have hpq : (pn : Int) < (q2 : Int) := by omega
          have hkm : (k : Int) < (m : Int) := by omega
          clear hct hct2 hx t0 t2 p0 p2 hpv hno hig hdin hG1 hpn hval hy hbad hu hq2
          go_wp2_with (first | (refine ld8 HAi.out rfl _ rfl rfl ?_))
          refine (HPl.out wi).mono ?_
          rintro e w3 ⟨rfl, b3⟩
          have HB3 : Hid (Below w2.heap.size w2 w3) := HBi.out.trans (b3.mono HBi.out.size)
          have HB3w : Hid (Below w1.heap.size w1 w3) := HB2.out.trans (HB3.out.mono HB2.out.size)
          have f1 : w3.cell? ⟨w.heap.size, xn, none⟩ = some (.int .i64 u) := by rw [← HU1.out]; exact (HA.out.below HB3w.out HA.out.lt).cell (by omega)
          have f2 : w3.cell? ⟨w.heap.size + 1 + 1, 1, none⟩ = some (.slice (some ⟨b2, o2, none⟩) m d) := cell_b HB3w.out HC.out.2.2.2
          have f3 : w3.cell? ⟨b2, o2 + k * 2 + 1, none⟩ = some (.slice (some ⟨bt2, ot2, none⟩) q2 c2') := cell_b HB3w.out HD1.out
          have f4 : w3.cell? ⟨bt2, ot2 + pn, none⟩ = some (.int .i64 y) := cell_b HB3w.out HTT.out
          clear b3 e1 y0 y1 cz ca cz1 ca1
          by_cases huy : u = y
          · have n1 : (u != y) = false := by rw [huy]; simp
            have HN1 : Hid (badAt z z1 f F G j = false) := by unfold Hid; rw [HBad.out, huy]; simp
            clear huy
            go_wp2_with fail
            go_region
            go_wp2_with fail
            go_roundw
            case rel =>
              refine ⟨j + 1, by omega, by go_num, fun l hl => ?_, HB3.out.drew⟩
              by_cases h_ : l = j
              · rw [h_]; exact HN1.out
              · exact HM.out l (by omega)
            case measure => simp [intOf]; omega
          · have n1 : (u != y) = true := by simp [huy]
            have HN1 : Hid (badAt z z1 f F G j = true) := by unfold Hid; rw [HBad.out]; simp [huy]
            clear huy
            go_wp2_with fail
            go_region
            go_wp2_with fail
            go_ret3
            have hfl : faultV z z1 fs gs f = some (k, j) := faultV_some (by have := HL.out; omega) (by rw [HEo.out.1, HEo.out.2]; exact badIn_some (by have := HML.out; omega) HN1.out HM.out) HN.out
            exact ⟨by rw [hfl]; rfl, (HB.out.trans (HB3w.out.mono HB.out.size)).drew⟩
        · have hjq' : ¬ (j : Int) < (q : Int) := by omega
          obtain rfl : j = q := by omega
          go_wp2_with fail
          go_roundw
          case rel =>
            refine ⟨k + 1, by omega, by go_num, fun l hl => ?_, HBw.out⟩
            by_cases h_ : l = k
            · rw [h_, HEo.out.1, HEo.out.2]; exact badIn_none fun i hi => HM.out i (by have := HML.out; omega)
            · exact HN.out l (by omega)
          case measure => simp [intOf]; omega
    · have hkn : ¬ (k : Int) < (n : Int) := by omega
      obtain rfl : k = n := by omega
      go_wp2_with fail
      go_ret3
      have hfl : faultV z z1 fs gs f = none := faultV_none (by rw [HL.out]; exact HN.out)
      exact ⟨by rw [hfl]; rfl, HB.out.trans (HBo.out.mono HB.out.size)⟩

end Go.Proofs.Ytcmjkfcgekmomaa
