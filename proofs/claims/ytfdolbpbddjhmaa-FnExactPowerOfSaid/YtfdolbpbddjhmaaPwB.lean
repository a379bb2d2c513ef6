/-
  Contracts: spec.PowerOf and impl.PowerOf. Conditions: the bounds that each theorem names.
-/
import Derived.Test.YtfdolbpbddjhmaaPwA
namespace Go.Proofs.Ytfdolbpbddjhmaa
open Go.RowKit
set_option linter.unusedVariables false
set_option linter.unusedSimpArgs false

theorem powB_no1 {z : Int} {fs : List OpD} {k : Int} (h : algOkB z fs = false) : valPowerOf z fs k = (0, [], false) := by simp [valPowerOf, powB, h]
theorem powB_no2 {z : Int} {fs : List OpD} {k : Int} (h : inB 0 3 k = false) : valPowerOf z fs k = (0, [], false) := by simp [valPowerOf, powB, h]
theorem powB_no3 {z : Int} {fs : List OpD} {k : Int} (h : ¬ powI z k.toNat ≤ 8) : valPowerOf z fs k = (0, [], false) := by simp [valPowerOf, powB, h]
theorem powB_yes {z : Int} {fs : List OpD} {k : Nat} (h : algOkB z fs = true) (h2 : inB 0 3 (k : Int) = true) (h3 : powI z k ≤ 8) : valPowerOf z fs (k : Int) = (powI z k, pwL z fs k, true) := by simp [valPowerOf, powB, h, h2, h3]
theorem prd_pow {z : Int} {fs : List OpD} (h : algOkB z fs = true) {j : Nat} (hj : powI z j ≤ 8) : prdB (powI z j) z (pwL z fs j) fs = decide (powI z (j + 1) ≤ 8) := by
  have h1 := pwL_ok h j hj
  have h2 : sameH (powI z j) z (pwL z fs j) fs = true := by
    rw [sameH, same_yes h1 h]
    exact decide_eq_true (pwL_type z fs j)
  rw [prdB, h2, Bool.true_and]
  rfl
theorem alg_len {z : Int} {fs : List OpD} (h : algOkB z fs = true) : ∀ (j : Nat) (f : OpD), fs[j]? = some f → f.2.length ≤ maxLen := fun j f hf => by
  obtain ⟨⟨a, b⟩, _, d⟩ := algOkB_of h
  have := (place_bd a b (d f (List.mem_of_getElem? hf))).1
  unfold maxLen; omega
theorem pwL_len (z : Int) (fs : List OpD) (k : Nat) : (pwL z fs k).length = fs.length := by
  have := congrArg List.length (pwL_type z fs k)
  simpa using this

/-- The power so far: in memory of the call's own, between two marks; its box. -/
structure PowAt (w wr : World) (pb : Nat) (x : Int) (gs : List OpD) : Prop where
  ex : ∃ va vn vc G C, ∃ lo hi : Nat, w.heap.size ≤ lo ∧ hi ≤ wr.heap.size ∧ (pb < lo ∨ hi ≤ pb) ∧ (w.heap.size + 1 < lo) ∧ vn = gs.length ∧ OwnsOps wr lo hi (.slice va vn vc) vn G C (fun j => gs.getD j (0, [])) ∧ wr.heap[pb]? = some (.cells #[.int .i64 x, .slice va vn vc] 28 (0, 0))

set_option maxRecDepth 100000 in
set_option maxHeartbeats 4000000 in
theorem implPowerOf (lo hi : Nat) (z : Int) (ao : Option Addr) (c n : Nat) (fs : List OpD) (k : Int) (w : World) (hv : OView w lo hi ao n fs) (hhi : hi ≤ w.heap.size) (hs : ∀ (j : Nat) (f : OpD), fs[j]? = some f → f.2.length ≤ maxLen) (hwf : (Lit.int .i64 k).wf = true) :
    Calls Try.prog 23 #[.agg #[.int .i64 z, .slice ao n c], .int .i64 k] w fun e w' => ResA w w' (valPowerOf z fs k).1 (valPowerOf z fs k).2.1 (valPowerOf z fs k).2.2 e := by
  obtain ⟨wo, hwo⟩ : ∃ wo : World, wo = (w.alloc (.cells #[.int .i64 z, .slice ao n c] 28)).alloc (.cells #[.int .i64 0, .slice none 0 0] 28) := ⟨_, rfl⟩
  have hso : wo.heap.size = w.heap.size + 1 + 1 := by rw [hwo]; simp
  have bo : Below w.heap.size w wo := by rw [hwo]; exact below_then (below_alloc _ _) (below_alloc _ _)
  have cz : wo.cell? ⟨w.heap.size, 0, none⟩ = some (.int .i64 z) := by rw [hwo]; exact cell_b (below_alloc _ _) (by simp)
  have ca : wo.cell? ⟨w.heap.size, 1, none⟩ = some (.slice ao n c) := by rw [hwo]; exact cell_b (below_alloc _ _) (by simp)
  have hR : wo.heap[w.heap.size + 1]? = some (.cells #[.int .i64 0, .slice none 0 0] 28 (0, 0)) := by
    have h := heap_alloc_new (w.alloc (.cells #[.int .i64 z, .slice ao n c] 28)) (.cells #[.int .i64 0, .slice none 0 0] 28)
    rw [World.size_alloc, ← hwo] at h
    exact h
  have HR := Lib.hid hR
  have HB := Lib.hid bo
  have hG := isAlg_any lo hi z ao c n fs wo (hv.kept (Kept.of_below bo hhi)) (Nat.le_trans hhi bo.size) hs
  obtain ⟨t, ht⟩ : ∃ t, algOkB z fs = t := ⟨_, rfl⟩
  rw [ht] at hG
  have HG := Lib.hid hG
  cases t with
  | false =>
    rw [powB_no1 ht]
    clear hv hs hG bo ht hR
    go_enter Try.func23, Try.ntmps23
    go_wp2_with fail
    rw [← hwo]
    clear hwo
    go_wp2_with fail
    refine (HG.out).mono ?_
    rintro e w1 ⟨rfl, b1⟩
    have HB1 := Lib.hid (HB.out.trans (b1.mono HB.out.size))
    have cz1 : w1.cell? ⟨w.heap.size, 0, none⟩ = some (.int .i64 z) := cell_b b1 cz
    have ca1 : w1.cell? ⟨w.heap.size, 1, none⟩ = some (.slice ao n c) := cell_b b1 ca
    have HR1 := Lib.hid ((b1.block _ (by omega)).trans HR.out)
    clear b1 cz ca
    obtain ⟨r0, r1, rf⟩ := box_cells HR1.out
    go_wp2_with fail
    refine bodyPost_ret (v := .tuple #[.agg #[.int .i64 0, .slice none 0 0], .bool false]) (by simp [results, Try.results23, go_sem, r0, r1]) rfl (by unfold ResA; exact ⟨none, 0, 0, fun _ => 0, fun _ => 0, rfl, rfl, OwnsOps.nil _ _ _ _ _ _, (HB1.out.setCell (by show _ ≤ _; simp) _).setCell (by show _ ≤ _; simp) _⟩)
  | true =>
    by_cases hk0 : k < 0
    · rw [powB_no2 (inB_no (by omega))]
      clear hv hs hG bo ht hR
      go_enter Try.func23, Try.ntmps23
      go_wp2_with fail
      rw [← hwo]
      clear hwo
      go_wp2_with fail
      refine (HG.out).mono ?_
      rintro e w1 ⟨rfl, b1⟩
      have HB1 := Lib.hid (HB.out.trans (b1.mono HB.out.size))
      have cz1 : w1.cell? ⟨w.heap.size, 0, none⟩ = some (.int .i64 z) := cell_b b1 cz
      have ca1 : w1.cell? ⟨w.heap.size, 1, none⟩ = some (.slice ao n c) := cell_b b1 ca
      have HR1 := Lib.hid ((b1.block _ (by omega)).trans HR.out)
      clear b1 cz ca
      obtain ⟨r0, r1, rf⟩ := box_cells HR1.out
      go_wp2_with fail
      refine bodyPost_ret (v := .tuple #[.agg #[.int .i64 0, .slice none 0 0], .bool false]) (by simp [results, Try.results23, go_sem, r0, r1]) rfl (by unfold ResA; exact ⟨none, 0, 0, fun _ => 0, fun _ => 0, rfl, rfl, OwnsOps.nil _ _ _ _ _ _, (HB1.out.setCell (by show _ ≤ _; simp) _).setCell (by show _ ≤ _; simp) _⟩)
    · by_cases hk3 : 3 < k
      · rw [powB_no2 (inB_no (by omega))]
        clear hv hs hG bo ht hR
        go_enter Try.func23, Try.ntmps23
        go_wp2_with fail
        rw [← hwo]
        clear hwo
        go_wp2_with fail
        refine (HG.out).mono ?_
        rintro e w1 ⟨rfl, b1⟩
        have HB1 := Lib.hid (HB.out.trans (b1.mono HB.out.size))
        have cz1 : w1.cell? ⟨w.heap.size, 0, none⟩ = some (.int .i64 z) := cell_b b1 cz
        have ca1 : w1.cell? ⟨w.heap.size, 1, none⟩ = some (.slice ao n c) := cell_b b1 ca
        have HR1 := Lib.hid ((b1.block _ (by omega)).trans HR.out)
        clear b1 cz ca
        obtain ⟨r0, r1, rf⟩ := box_cells HR1.out
        go_wp2_with fail
        refine bodyPost_ret (v := .tuple #[.agg #[.int .i64 0, .slice none 0 0], .bool false]) (by simp [results, Try.results23, go_sem, r0, r1]) rfl (by unfold ResA; exact ⟨none, 0, 0, fun _ => 0, fun _ => 0, rfl, rfl, OwnsOps.nil _ _ _ _ _ _, (HB1.out.setCell (by show _ ≤ _; simp) _).setCell (by show _ ≤ _; simp) _⟩)
      · obtain ⟨K, rfl⟩ : ∃ K : Nat, k = (K : Int) := ⟨k.toNat, by omega⟩
        have hin := inB_yes (show (0 : Int) ≤ K by omega) (show (K : Int) ≤ 3 by omega)
        obtain ⟨⟨z1, z8⟩, _, _⟩ := algOkB_of ht
        have HO := Lib.hid (fun (W : World) (hW : Below w.heap.size w W) => one_impl lo hi z ao c n fs W (hv.kept (Kept.of_below hW hhi)) (Nat.le_trans hhi hW.size) ht)
        have HP := Lib.hid (fun (W : World) (hW : Below w.heap.size w W) (j : Nat) (lo2 hi2 : Nat) (vo : Option Addr) (vc vn : Nat) (hj : powI z j ≤ 8) (hvw : OView W lo2 hi2 vo vn (pwL z fs j)) (hh : hi2 ≤ W.heap.size) => implProductOf lo2 hi2 (powI z j) vo vc vn (pwL z fs j) lo hi z ao c n fs W hvw hh (alg_len (pwL_ok ht j hj)) (hv.kept (Kept.of_below hW hhi)) (Nat.le_trans hhi hW.size) hs)
        have HOk := Lib.hid ht
        obtain ⟨rz, rs, rok, hval⟩ : ∃ rz rs rok, valPowerOf z fs (K : Int) = (rz, rs, rok) := ⟨_, _, _, rfl⟩
        rw [hval]
        have HVal := Lib.hid hval
        have HIn := Lib.hid hin
        clear hv hs hG bo ht hR hval hin
        go_enter Try.func23, Try.ntmps23
        go_wp2_with fail
        rw [← hwo]
        clear hwo
        go_wp2_with fail
        refine (HG.out).mono ?_
        rintro e w1 ⟨rfl, b1⟩
        have HB1 := Lib.hid (HB.out.trans (b1.mono HB.out.size))
        have cz1 : w1.cell? ⟨w.heap.size, 0, none⟩ = some (.int .i64 z) := cell_b b1 cz
        have ca1 : w1.cell? ⟨w.heap.size, 1, none⟩ = some (.slice ao n c) := cell_b b1 ca
        have HR1 := Lib.hid ((b1.block _ (by omega)).trans HR.out)
        clear b1 cz ca
        go_wp2_with fail
        refine (HO.out _ HB1.out).mono ?_
        rintro e w2 hN
        unfold NewAlgP at hN
        obtain ⟨va, vn, vc, G, C, rfl, hl, hops, b2⟩ := hN
        have HB2 := Lib.hid (HB1.out.trans (b2.mono HB1.out.size))
        have hs2 : w.heap.size + 1 < w2.heap.size := by have := b2.size; have := (Array.getElem?_eq_some_iff.1 HR1.out).1; omega
        obtain ⟨w3, hw3⟩ : ∃ w3 : World, w3 = w2.alloc (.cells #[.int .i64 1, .slice va vn vc] 28) := ⟨_, rfl⟩
        have b3 : Below w2.heap.size w2 w3 := by rw [hw3]; exact below_alloc _ _
        obtain ⟨pb, hpb⟩ : ∃ pb : Nat, pb = w2.heap.size := ⟨_, rfl⟩
        have HPw0 : Hid (PowAt w w3 pb (powI z 0) (pwL z fs 0)) := by
          refine ⟨va, vn, vc, G, C, w1.heap.size, w2.heap.size, HB1.out.size, b3.size, .inr (by omega), (Array.getElem?_eq_some_iff.1 HR1.out).1, hl, hops.kept (Kept.of_below b3 (Nat.le_refl _)), ?_⟩
          rw [hw3, hpb]; exact heap_alloc_new _ _
        have HB3 := Lib.hid (HB2.out.trans (b3.mono HB2.out.size))
        have HR3 := Lib.hid ((b3.block _ (by omega)).trans ((b2.block _ (Array.getElem?_eq_some_iff.1 HR1.out).1).trans HR1.out))
        have cz3 : w3.cell? ⟨w.heap.size, 0, none⟩ = some (.int .i64 z) := cell_b b3 (cell_b b2 cz1)
        have ca3 : w3.cell? ⟨w.heap.size, 1, none⟩ = some (.slice ao n c) := cell_b b3 (cell_b b2 ca1)
        have hpbw : w.heap.size + 1 < pb := by omega
        clear cz1 ca1 b2 hops hl b3
        go_wp2_with fail
        rw [← hw3]
        rw [← hpb]
        clear hw3 hpb hs2
        go_wp2_with fail
        go_loopw [7, 8, 24] (fun s7 s8 i wr => ∃ j : Nat, j ≤ K ∧ i = .int .i64 (j : Int) ∧ Hid (powI z j ≤ 8) ∧ Hid (PowAt w wr pb (powI z j) (pwL z fs j)) ∧ Hid (wr.heap[w.heap.size + 1]? = some (.cells #[.int .i64 0, .slice none 0 0] 28 (0, 0))) ∧ wr.cell? ⟨w.heap.size, 0, none⟩ = some (.int .i64 z) ∧ wr.cell? ⟨w.heap.size, 1, none⟩ = some (.slice ao n c) ∧ Hid (Below w.heap.size w wr)) (fun _ _ i _ => K - (intOf i).toNat)
        case atStart => exact ⟨0, Nat.zero_le _, rfl, (by show powI z 0 ≤ 8; simp [powI]), HPw0, HR3, cz3, ca3, HB3⟩
        case round =>
          obtain ⟨j, hj, rfl, HJ8, HPr, HRr, dz, da, HBr⟩ := hrel
          clear cz3 ca3
          obtain ⟨va', vn', vc', G', C', plo, phi, pl1, pl2, pl3, pl4, plen, pops, pbox⟩ := HPr.out.ex
          have hvw := pops.view
          rw [plen, map_range_get] at hvw
          have HPops := Lib.hid pops
          have HPlen := Lib.hid plen
          have HPbox := Lib.hid pbox
          obtain ⟨x0, x1, xf⟩ := box_cells pbox
          have hpbs : pb < wr.heap.size := (Array.getElem?_eq_some_iff.1 pbox).1
          by_cases hlt : j < K
          · have hlt' : (j : Int) < (K : Int) := by omega
            have hcall := HP.out wr HBr.out j plo phi va' vc' _ HJ8.out hvw pl2
            rw [← plen] at hcall
            have hpp := prd_pow HOk.out HJ8.out
            by_cases h8 : powI z (j + 1) ≤ 8
            · rw [show valProductOf (powI z j) (pwL z fs j) z fs = (powI z (j + 1), pwL z fs (j + 1), true) by rw [valProductOf, hpp, if_pos (decide_eq_true h8)]; rfl] at hcall
              have HCall := Lib.hid hcall
              have H8 := Lib.hid h8
              clear hvw pops plen pbox hcall hpp h8 xf
              go_wp2_with fail
              refine (HCall.out).mono ?_
              rintro e w4 hr
              unfold ResA at hr
              obtain ⟨ua, un, uc, G4, C4, rfl, ulen, uops, b4⟩ := hr
              have HB4 := Lib.hid (HBr.out.trans (b4.mono HBr.out.size))
              have hs4 := b4.size
              obtain ⟨wA, hwA⟩ : ∃ wA : World, wA = w4.alloc (.cells #[.int .i64 (powI z (j + 1)), .slice ua un uc] 28) := ⟨_, rfl⟩
              have b5 : Below w4.heap.size w4 wA := by rw [hwA]; exact below_alloc _ _
              have b45 : Below wr.heap.size wr wA := below_then b4 b5
              have hpx := (b45.block _ hpbs).trans HPbox.out
              have hRx := (b45.block _ (by omega)).trans HRr.out
              have dzA := cell_b b45 dz
              have daA := cell_b b45 da
              have HNew : Hid (PowAt w ((wA.setCell ⟨pb, 0, none⟩ (.int .i64 (powI z (j + 1)))).setCell ⟨pb, 1, none⟩ (.slice ua un uc)) pb (powI z (j + 1)) (pwL z fs (j + 1))) := by
                refine ⟨ua, un, uc, G4, C4, wr.heap.size, w4.heap.size, HBr.out.size, by have := b5.size; simp [World.setCell]; omega, .inl hpbs, by omega, ulen, uops.kept (fun q h1 h2 => ?_), box_set01 hpx⟩
                rw [Below.heap_setCell _ _ _ _ (by show q ≠ pb; omega), Below.heap_setCell _ _ _ _ (by show q ≠ pb; omega)]
                exact b5.block q h2
              have HR5 : Hid (((wA.setCell ⟨pb, 0, none⟩ (.int .i64 (powI z (j + 1)))).setCell ⟨pb, 1, none⟩ (.slice ua un uc)).heap[w.heap.size + 1]? = some (.cells #[.int .i64 0, .slice none 0 0] 28 (0, 0))) := by
                unfold Hid
                rw [Below.heap_setCell _ _ _ _ (by show w.heap.size + 1 ≠ pb; omega), Below.heap_setCell _ _ _ _ (by show w.heap.size + 1 ≠ pb; omega)]
                exact hRx
              have dz5 : ((wA.setCell ⟨pb, 0, none⟩ (.int .i64 (powI z (j + 1)))).setCell ⟨pb, 1, none⟩ (.slice ua un uc)).cell? ⟨w.heap.size, 0, none⟩ = some (.int .i64 z) := (World.cell?_setCell_other _ _ _ _ (fun e => by injection e with e _; omega)).trans ((World.cell?_setCell_other _ _ _ _ (fun e => by injection e with e _; omega)).trans dzA)
              have da5 : ((wA.setCell ⟨pb, 0, none⟩ (.int .i64 (powI z (j + 1)))).setCell ⟨pb, 1, none⟩ (.slice ua un uc)).cell? ⟨w.heap.size, 1, none⟩ = some (.slice ao n c) := (World.cell?_setCell_other _ _ _ _ (fun e => by injection e with e _; omega)).trans ((World.cell?_setCell_other _ _ _ _ (fun e => by injection e with e _; omega)).trans daA)
              have HB5 : Hid (Below w.heap.size w ((wA.setCell ⟨pb, 0, none⟩ (.int .i64 (powI z (j + 1)))).setCell ⟨pb, 1, none⟩ (.slice ua un uc))) := ((HB4.out.trans (b5.mono HB4.out.size)).setCell (by show w.heap.size ≤ pb; omega) _).setCell (by show w.heap.size ≤ pb; omega) _
              obtain ⟨y0, y1, yf⟩ := box_cells hpx
              have yf0 := yf 0
              have yf1 := yf 1
              have l0 : wA.cell? ⟨w4.heap.size, 0, none⟩ = some (.int .i64 (powI z (j + 1))) := by rw [hwA]; simp
              have l1 : wA.cell? ⟨w4.heap.size, 1, none⟩ = some (.slice ua un uc) := by rw [hwA]; simp
              clear b4 b5 b45 uops ulen hpx hRx yf x0 x1 dz da dzA daA hs4
              subst hwA
              go_wp2_with fail
              go_roundw
              case rel => exact ⟨j + 1, by omega, by go_num, H8, HNew, HR5, dz5, da5, HB5⟩
              case measure => simp [intOf]; omega
            · rw [show valProductOf (powI z j) (pwL z fs j) z fs = (0, [], false) by rw [valProductOf, hpp, if_neg (by simpa using h8)]] at hcall
              have HCall := Lib.hid hcall
              have hbig : ¬ powI z (K : Int).toNat ≤ 8 := by
                have := powI_mono z1 (show j + 1 ≤ K by omega)
                rw [Int.toNat_natCast]; omega
              have hv0 := powB_no3 (fs := fs) hbig
              rw [HVal.out] at hv0
              injection hv0 with e1 hv0
              injection hv0 with e2 e3
              subst e1 e2 e3
              clear hvw pops plen pbox hcall hpp h8 xf hbig
              go_wp2_with fail
              refine (HCall.out).mono ?_
              rintro e w4 hr
              unfold ResA at hr
              obtain ⟨ua, un, uc, G4, C4, rfl, ulen, uops, b4⟩ := hr
              have HB4 := Lib.hid (HBr.out.trans (b4.mono HBr.out.size))
              obtain ⟨wA, hwA⟩ : ∃ wA : World, wA = w4.alloc (.cells #[.int .i64 0, .slice ua un uc] 28) := ⟨_, rfl⟩
              have b5 : Below w4.heap.size w4 wA := by rw [hwA]; exact below_alloc _ _
              have b45 : Below wr.heap.size wr wA := below_then b4 b5
              have hRx := (b45.block _ (by omega)).trans HRr.out
              have HB5 := Lib.hid (HB4.out.trans (b5.mono HB4.out.size))
              obtain ⟨r0, r1, rf⟩ := box_cells hRx
              have rf0 := rf 0
              have rf1 := rf 1
              clear b4 b5 b45 uops ulen hRx x0 x1 dz da
              subst hwA
              go_wp2_with fail
              refine bodyPost_ret (v := .tuple #[.agg #[.int .i64 0, .slice none 0 0], .bool false]) (by simp [results, Try.results23, go_sem, r0, r1]) rfl (by unfold ResA; exact ⟨none, 0, 0, fun _ => 0, fun _ => 0, rfl, rfl, OwnsOps.nil _ _ _ _ _ _, (HB5.out.setCell (by show _ ≤ _; simp) _).setCell (by show _ ≤ _; simp) _⟩)
          · obtain rfl : j = K := by omega
            have hlt' : ¬ (j : Int) < (j : Int) := by omega
            have hv0 := powB_yes HOk.out HIn.out HJ8.out
            rw [HVal.out] at hv0
            injection hv0 with e1 hv0
            injection hv0 with e2 e3
            subst e1 e2 e3
            obtain ⟨r0, r1, rf⟩ := box_cells HRr.out
            have hK : ∀ (v1 v2 : Value), Kept plo phi wr ((wr.setCell ⟨w.heap.size + 1, 0, none⟩ v1).setCell ⟨w.heap.size + 1, 1, none⟩ v2) := by
              intro v1 v2 q h1 h2
              rw [Below.heap_setCell _ _ _ _ (by show q ≠ w.heap.size + 1; omega), Below.heap_setCell _ _ _ _ (by show q ≠ w.heap.size + 1; omega)]
            have HK := Lib.hid hK
            clear hvw pops plen pbox hK
            go_wp2_with fail
            refine bodyPost_ret (v := .tuple #[.agg #[.int .i64 (powI z j), .slice va' vn' vc'], .bool true]) (by simp [results, Try.results23, go_sem, r0, r1]) rfl (by unfold ResA; exact ⟨va', vn', vc', G', C', rfl, HPlen.out, ((HPops.out.kept (HK.out _ _)).lo_mono pl1).hi_mono (by simp [World.setCell]; omega), (HBr.out.setCell (by show _ ≤ _; simp) _).setCell (by show _ ≤ _; simp) _⟩)

set_option maxRecDepth 100000 in
set_option maxHeartbeats 4000000 in
theorem specPowerOf (lo hi : Nat) (z : Int) (ao : Option Addr) (c n : Nat) (fs : List OpD) (k : Int) (w : World) (hv : OView w lo hi ao n fs) (hhi : hi ≤ w.heap.size) (hs : ∀ (j : Nat) (f : OpD), fs[j]? = some f → f.2.length ≤ maxLen) (hwf : (Lit.int .i64 k).wf = true) :
    Calls Try.prog 22 #[.agg #[.int .i64 z, .slice ao n c], .int .i64 k] w fun e w' => ResA w w' (valPowerOf z fs k).1 (valPowerOf z fs k).2.1 (valPowerOf z fs k).2.2 e := by
  obtain ⟨wo, hwo⟩ : ∃ wo : World, wo = (w.alloc (.cells #[.int .i64 z, .slice ao n c] 28)).alloc (.cells #[.int .i64 0, .slice none 0 0] 28) := ⟨_, rfl⟩
  have hso : wo.heap.size = w.heap.size + 1 + 1 := by rw [hwo]; simp
  have bo : Below w.heap.size w wo := by rw [hwo]; exact below_then (below_alloc _ _) (below_alloc _ _)
  have cz : wo.cell? ⟨w.heap.size, 0, none⟩ = some (.int .i64 z) := by rw [hwo]; exact cell_b (below_alloc _ _) (by simp)
  have ca : wo.cell? ⟨w.heap.size, 1, none⟩ = some (.slice ao n c) := by rw [hwo]; exact cell_b (below_alloc _ _) (by simp)
  have hR : wo.heap[w.heap.size + 1]? = some (.cells #[.int .i64 0, .slice none 0 0] 28 (0, 0)) := by
    have h := heap_alloc_new (w.alloc (.cells #[.int .i64 z, .slice ao n c] 28)) (.cells #[.int .i64 0, .slice none 0 0] 28)
    rw [World.size_alloc, ← hwo] at h
    exact h
  have HR := Lib.hid hR
  have HB := Lib.hid bo
  have hG := good_any lo hi z ao c n fs wo (hv.kept (Kept.of_below bo hhi)) (Nat.le_trans hhi bo.size) hs
  obtain ⟨t, ht⟩ : ∃ t, algOkB z fs = t := ⟨_, rfl⟩
  rw [ht] at hG
  have HG := Lib.hid hG
  have HI := Lib.hid (fun W => in_any k 0 3 W)
  cases t with
  | false =>
    rw [powB_no1 ht]
    clear hv hs hG bo ht hR
    go_enter Try.func22, Try.ntmps22
    go_wp2_with fail
    rw [← hwo]
    clear hwo
    go_wp2_with fail
    refine (HG.out).mono ?_
    rintro e w1 ⟨rfl, b1⟩
    have HB1 := Lib.hid (HB.out.trans (b1.mono HB.out.size))
    have cz1 : w1.cell? ⟨w.heap.size, 0, none⟩ = some (.int .i64 z) := cell_b b1 cz
    have ca1 : w1.cell? ⟨w.heap.size, 1, none⟩ = some (.slice ao n c) := cell_b b1 ca
    have HR1 := Lib.hid ((b1.block _ (by omega)).trans HR.out)
    clear b1 cz ca
    obtain ⟨r0, r1, rf⟩ := box_cells HR1.out
    go_wp2_with fail
    refine bodyPost_ret (v := .tuple #[.agg #[.int .i64 0, .slice none 0 0], .bool false]) (by simp [results, Try.results22, go_sem, r0, r1]) rfl (by unfold ResA; exact ⟨none, 0, 0, fun _ => 0, fun _ => 0, rfl, rfl, OwnsOps.nil _ _ _ _ _ _, (HB1.out.setCell (by show _ ≤ _; simp) _).setCell (by show _ ≤ _; simp) _⟩)
  | true =>
    by_cases hk : 0 ≤ k ∧ k ≤ 3
    · obtain ⟨K, rfl⟩ : ∃ K : Nat, k = (K : Int) := ⟨k.toNat, by omega⟩
      have hin := inB_yes hk.1 hk.2
      have hK3 : K ≤ 3 := by omega
      rw [hin] at HI
      obtain ⟨⟨z1, z8⟩, _, _⟩ := algOkB_of ht
      have HPw := Lib.hid (fun W : World => pow_any z K W z1 z8 (by omega))
      by_cases h8 : powI z K ≤ 8
      · have hn8 : ¬ 8 < powI z K := by omega
        have HO := Lib.hid (fun (W : World) (hW : Below w.heap.size w W) => one_spec8 lo hi z ao c n fs W (hv.kept (Kept.of_below hW hhi)) (Nat.le_trans hhi hW.size) ht)
        have HP := Lib.hid (fun (W : World) (hW : Below w.heap.size w W) (j : Nat) (lo2 hi2 : Nat) (vo : Option Addr) (vc vn : Nat) (hj : powI z (j + 1) ≤ 8) (hvw : OView W lo2 hi2 vo vn (pwL z fs j)) (hh : hi2 ≤ W.heap.size) => l8Prod_any lo2 hi2 (powI z j) vo vc vn (pwL z fs j) lo hi z ao c n fs W hvw hh (hv.kept (Kept.of_below hW hhi)) (Nat.le_trans hhi hW.size) (pwL_ok ht j (Int.le_trans (powI_up z1 j) hj)) ht (pwL_type z fs j) hj)
        rw [powB_yes ht hin h8]
        have H8 := Lib.hid h8
        clear hv hs hG bo ht hR hin hk h8
        go_enter Try.func22, Try.ntmps22
        go_wp2_with fail
        rw [← hwo]
        clear hwo
        go_wp2_with fail
        refine (HG.out).mono ?_
        rintro e w1 ⟨rfl, b1⟩
        have HB1 := Lib.hid (HB.out.trans (b1.mono HB.out.size))
        have cz1 : w1.cell? ⟨w.heap.size, 0, none⟩ = some (.int .i64 z) := cell_b b1 cz
        have ca1 : w1.cell? ⟨w.heap.size, 1, none⟩ = some (.slice ao n c) := cell_b b1 ca
        have HR1 := Lib.hid ((b1.block _ (by omega)).trans HR.out)
        clear b1 cz ca
        go_wp2_with fail
        refine (HI.out _).mono ?_
        rintro e wi ⟨rfl, rfl⟩
        go_wp2_with fail
        refine (HPw.out _).mono ?_
        rintro e_ wp_ ⟨rfl, rfl⟩
        go_wp2_with fail
        refine (HO.out _ HB1.out).mono ?_
        rintro e w2 hN
        unfold NewAlgP at hN
        obtain ⟨va, vn, vc, G, C, rfl, hl, hops, b2⟩ := hN
        have HB2 := Lib.hid (HB1.out.trans (b2.mono HB1.out.size))
        have hs2 : w.heap.size + 1 < w2.heap.size := by have := b2.size; have := (Array.getElem?_eq_some_iff.1 HR1.out).1; omega
        obtain ⟨w3, hw3⟩ : ∃ w3 : World, w3 = w2.alloc (.cells #[.int .i64 1, .slice va vn vc] 28) := ⟨_, rfl⟩
        have b3 : Below w2.heap.size w2 w3 := by rw [hw3]; exact below_alloc _ _
        obtain ⟨pb, hpb⟩ : ∃ pb : Nat, pb = w2.heap.size := ⟨_, rfl⟩
        have HPw0 : Hid (PowAt w w3 pb (powI z 0) (pwL z fs 0)) := by
          refine ⟨va, vn, vc, G, C, w1.heap.size, w2.heap.size, HB1.out.size, b3.size, .inr (by omega), (Array.getElem?_eq_some_iff.1 HR1.out).1, hl, hops.kept (Kept.of_below b3 (Nat.le_refl _)), ?_⟩
          rw [hw3, hpb]; exact heap_alloc_new _ _
        have HB3 := Lib.hid (HB2.out.trans (b3.mono HB2.out.size))
        have HR3 := Lib.hid ((b3.block _ (by omega)).trans ((b2.block _ (Array.getElem?_eq_some_iff.1 HR1.out).1).trans HR1.out))
        have cz3 : w3.cell? ⟨w.heap.size, 0, none⟩ = some (.int .i64 z) := cell_b b3 (cell_b b2 cz1)
        have ca3 : w3.cell? ⟨w.heap.size, 1, none⟩ = some (.slice ao n c) := cell_b b3 (cell_b b2 ca1)
        have hpbw : w.heap.size + 1 < pb := by omega
        clear cz1 ca1 b2 hops hl b3
        go_wp2_with fail
        rw [← hw3]
        rw [← hpb]
        clear hw3 hpb hs2
        (try go_wp2_with fail)
        go_loopw [1] (fun i wr => ∃ j : Nat, j ≤ K ∧ i = .int .i64 ((K : Int) - (j : Int)) ∧ Hid (PowAt w wr pb (powI z j) (pwL z fs j)) ∧ Hid (wr.heap[w.heap.size + 1]? = some (.cells #[.int .i64 0, .slice none 0 0] 28 (0, 0))) ∧ wr.cell? ⟨w.heap.size, 0, none⟩ = some (.int .i64 z) ∧ wr.cell? ⟨w.heap.size, 1, none⟩ = some (.slice ao n c) ∧ Hid (Below w.heap.size w wr)) (fun i _ => (intOf i).toNat)
        case atStart => exact ⟨0, Nat.zero_le _, by simp, HPw0, HR3, cz3, ca3, HB3⟩
        case round =>
          obtain ⟨j, hj, rfl, HPr, HRr, dz, da, HBr⟩ := hrel
          clear cz3 ca3
          obtain ⟨va', vn', vc', G', C', plo, phi, pl1, pl2, pl3, pl4, plen, pops, pbox⟩ := HPr.out.ex
          have hvw := pops.view
          rw [plen, map_range_get] at hvw
          have HPops := Lib.hid pops
          have HPlen := Lib.hid plen
          have HPbox := Lib.hid pbox
          obtain ⟨x0, x1, xf⟩ := box_cells pbox
          have hpbs : pb < wr.heap.size := (Array.getElem?_eq_some_iff.1 pbox).1
          by_cases hlt : j < K
          · have hlt' : 0 < (K : Int) - (j : Int) := by omega
            have h8j : powI z (j + 1) ≤ 8 := Int.le_trans (powI_mono z1 (show j + 1 ≤ K by omega)) H8.out
            have hcall := HP.out wr HBr.out j plo phi va' vc' _ h8j hvw pl2
            rw [← plen] at hcall
            have hcall2 : Calls Try.prog 54 #[.agg #[.int .i64 (powI z j), .slice va' vn' vc'], .agg #[.int .i64 z, .slice ao n c]] wr fun e w' => NewAlgP wr w' (powI z (j + 1)) (pwL z fs (j + 1)) e := hcall
            have HCall := Lib.hid hcall2
            clear hvw pops plen pbox hcall hcall2 xf h8j
            go_wp2_with fail
            refine (HCall.out).mono ?_
            rintro e w4 hr
            unfold NewAlgP at hr
            obtain ⟨ua, un, uc, G4, C4, rfl, ulen, uops, b4⟩ := hr
            have HB4 := Lib.hid (HBr.out.trans (b4.mono HBr.out.size))
            have hpx := (b4.block _ hpbs).trans HPbox.out
            have hRx := (b4.block _ (by omega)).trans HRr.out
            have dzA := cell_b b4 dz
            have daA := cell_b b4 da
            have HNew : Hid (PowAt w ((w4.setCell ⟨pb, 0, none⟩ (.int .i64 (powI z (j + 1)))).setCell ⟨pb, 1, none⟩ (.slice ua un uc)) pb (powI z (j + 1)) (pwL z fs (j + 1))) := by
              refine ⟨ua, un, uc, G4, C4, wr.heap.size, w4.heap.size, HBr.out.size, by simp [World.setCell], .inl hpbs, by omega, ulen, uops.kept (fun q h1 h2 => ?_), box_set01 hpx⟩
              rw [Below.heap_setCell _ _ _ _ (by show q ≠ pb; omega), Below.heap_setCell _ _ _ _ (by show q ≠ pb; omega)]
            have HR5 : Hid (((w4.setCell ⟨pb, 0, none⟩ (.int .i64 (powI z (j + 1)))).setCell ⟨pb, 1, none⟩ (.slice ua un uc)).heap[w.heap.size + 1]? = some (.cells #[.int .i64 0, .slice none 0 0] 28 (0, 0))) := by
              unfold Hid
              rw [Below.heap_setCell _ _ _ _ (by show w.heap.size + 1 ≠ pb; omega), Below.heap_setCell _ _ _ _ (by show w.heap.size + 1 ≠ pb; omega)]
              exact hRx
            have dz5 : ((w4.setCell ⟨pb, 0, none⟩ (.int .i64 (powI z (j + 1)))).setCell ⟨pb, 1, none⟩ (.slice ua un uc)).cell? ⟨w.heap.size, 0, none⟩ = some (.int .i64 z) := (World.cell?_setCell_other _ _ _ _ (fun e => by injection e with e _; omega)).trans ((World.cell?_setCell_other _ _ _ _ (fun e => by injection e with e _; omega)).trans dzA)
            have da5 : ((w4.setCell ⟨pb, 0, none⟩ (.int .i64 (powI z (j + 1)))).setCell ⟨pb, 1, none⟩ (.slice ua un uc)).cell? ⟨w.heap.size, 1, none⟩ = some (.slice ao n c) := (World.cell?_setCell_other _ _ _ _ (fun e => by injection e with e _; omega)).trans ((World.cell?_setCell_other _ _ _ _ (fun e => by injection e with e _; omega)).trans daA)
            have HB5 : Hid (Below w.heap.size w ((w4.setCell ⟨pb, 0, none⟩ (.int .i64 (powI z (j + 1)))).setCell ⟨pb, 1, none⟩ (.slice ua un uc))) := (HB4.out.setCell (by show w.heap.size ≤ pb; omega) _).setCell (by show w.heap.size ≤ pb; omega) _
            obtain ⟨y0, y1, yf⟩ := box_cells hpx
            have yf0 := yf 0
            have yf1 := yf 1
            clear b4 uops ulen hpx hRx yf x0 x1 dz da dzA daA
            go_wp2_with fail
            go_roundw
            case rel => exact ⟨j + 1, by omega, by first | go_num | (congr 1; push_cast; omega), HNew, HR5, dz5, da5, HB5⟩
            case measure => simp [intOf]; omega
          · obtain rfl : j = K := by omega
            have hlt' : ¬ 0 < (j : Int) - (j : Int) := by omega
            obtain ⟨r0, r1, rf⟩ := box_cells HRr.out
            have hK : ∀ (v1 v2 : Value), Kept plo phi wr ((wr.setCell ⟨w.heap.size + 1, 0, none⟩ v1).setCell ⟨w.heap.size + 1, 1, none⟩ v2) := by
              intro v1 v2 q h1 h2
              rw [Below.heap_setCell _ _ _ _ (by show q ≠ w.heap.size + 1; omega), Below.heap_setCell _ _ _ _ (by show q ≠ w.heap.size + 1; omega)]
            have HK := Lib.hid hK
            clear hvw pops plen pbox hK
            go_wp2_with fail
            refine bodyPost_ret (v := .tuple #[.agg #[.int .i64 (powI z j), .slice va' vn' vc'], .bool true]) (by simp [results, Try.results22, go_sem, r0, r1]) rfl (by unfold ResA; exact ⟨va', vn', vc', G', C', rfl, HPlen.out, ((HPops.out.kept (HK.out _ _)).lo_mono pl1).hi_mono (by simp [World.setCell]; omega), (HBr.out.setCell (by show _ ≤ _; simp) _).setCell (by show _ ≤ _; simp) _⟩)
      · rw [powB_no3 (by rw [Int.toNat_natCast]; exact h8)]
        have hn8 : 8 < powI z K := by omega
        clear hv hs hG bo ht hR hin hk h8
        go_enter Try.func22, Try.ntmps22
        go_wp2_with fail
        rw [← hwo]
        clear hwo
        go_wp2_with fail
        refine (HG.out).mono ?_
        rintro e w1 ⟨rfl, b1⟩
        have HB1 := Lib.hid (HB.out.trans (b1.mono HB.out.size))
        have cz1 : w1.cell? ⟨w.heap.size, 0, none⟩ = some (.int .i64 z) := cell_b b1 cz
        have ca1 : w1.cell? ⟨w.heap.size, 1, none⟩ = some (.slice ao n c) := cell_b b1 ca
        have HR1 := Lib.hid ((b1.block _ (by omega)).trans HR.out)
        clear b1 cz ca
        obtain ⟨r0, r1, rf⟩ := box_cells HR1.out
        go_wp2_with fail
        refine (HI.out _).mono ?_
        rintro e wi ⟨rfl, rfl⟩
        go_wp2_with fail
        refine (HPw.out _).mono ?_
        rintro e_ wp_ ⟨rfl, rfl⟩
        go_wp2_with fail
        refine bodyPost_ret (v := .tuple #[.agg #[.int .i64 0, .slice none 0 0], .bool false]) (by simp [results, Try.results22, go_sem, r0, r1]) rfl (by unfold ResA; exact ⟨none, 0, 0, fun _ => 0, fun _ => 0, rfl, rfl, OwnsOps.nil _ _ _ _ _ _, (HB1.out.setCell (by show _ ≤ _; simp) _).setCell (by show _ ≤ _; simp) _⟩)
    · rw [powB_no2 (inB_no hk)]
      rw [inB_no hk] at HI
      clear hv hs hG bo ht hR
      go_enter Try.func22, Try.ntmps22
      go_wp2_with fail
      rw [← hwo]
      clear hwo
      go_wp2_with fail
      refine (HG.out).mono ?_
      rintro e w1 ⟨rfl, b1⟩
      have HB1 := Lib.hid (HB.out.trans (b1.mono HB.out.size))
      have cz1 : w1.cell? ⟨w.heap.size, 0, none⟩ = some (.int .i64 z) := cell_b b1 cz
      have ca1 : w1.cell? ⟨w.heap.size, 1, none⟩ = some (.slice ao n c) := cell_b b1 ca
      have HR1 := Lib.hid ((b1.block _ (by omega)).trans HR.out)
      clear b1 cz ca
      obtain ⟨r0, r1, rf⟩ := box_cells HR1.out
      go_wp2_with fail
      refine (HI.out _).mono ?_
      rintro e wi ⟨rfl, rfl⟩
      go_wp2_with fail
      refine bodyPost_ret (v := .tuple #[.agg #[.int .i64 0, .slice none 0 0], .bool false]) (by simp [results, Try.results22, go_sem, r0, r1]) rfl (by unfold ResA; exact ⟨none, 0, 0, fun _ => 0, fun _ => 0, rfl, rfl, OwnsOps.nil _ _ _ _ _ _, (HB1.out.setCell (by show _ ≤ _; simp) _).setCell (by show _ ≤ _; simp) _⟩)

end Go.Proofs.Ytfdolbpbddjhmaa
