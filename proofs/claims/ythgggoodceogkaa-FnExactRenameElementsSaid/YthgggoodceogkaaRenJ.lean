/-
  Contract: impl.RenameElements at its good arguments. Conditions: the bounds that each theorem names.
-/
import Derived.Test.YthgggoodceogkaaIdx
import Derived.Test.YthgggoodceogkaaRenI
namespace Go.Proofs.Ythgggoodceogkaa
open Go.RowKit
set_option linter.unusedVariables false
set_option linter.unusedSimpArgs false
attribute [local go_sem ↓] Go.wp_at_zero Go.wp_at_succ

theorem map_len_digs (z : Int) (m : Nat) (at_ : Int) (xs : List Int) : ((digs z m at_).map (nm xs)).length = m := by rw [List.length_map, digs_len]
theorem digs_get {z : Int} {m : Nat} {at_ : Int} {i : Nat} (h : i < m) : ∃ x, (digs z m at_)[i]? = some x := ⟨_, List.getElem?_eq_getElem (by rw [digs_len]; exact h)⟩
theorem digs_own (w : World) (z : Int) (m : Nat) (at_ : Int) (hm : m ≤ 3) : (w.alloc (.cells (digsArr z m at_) 3)).ownsRow w.heap.size 3 1 (.slice (some ⟨w.heap.size, 0, none⟩) m m) m ((digs z m at_).map (Value.int .i64)) := by
  refine ⟨by simp [digs_len], .inr ⟨w.heap.size, m, digsArr z m at_, rfl, Nat.le_refl _, heap_alloc_new _ _, Nat.le_refl _, ?_, by simp [digsArr, digs_len], ?_⟩⟩
  · unfold maxLen; omega
  · rw [List.take_of_length_le (by simp [digsArr, digs_len])]; simp [digsArr]

set_option maxRecDepth 100000 in
set_option maxHeartbeats 4000000 in
theorem iren_yes (lo hi : Nat) (z : Int) (ao : Option Addr) (c n : Nat) (fs : List OpD) (lo2 hi2 : Nat) (bo : Option Addr) (d nn : Nat) (xs : List Int) (w : World) (hv : OView w lo hi ao n fs) (hhi : hi ≤ w.heap.size) (hs : ∀ (j : Nat) (f : OpD), fs[j]? = some f → f.2.length ≤ maxLen)
    (hx : IView w lo2 hi2 bo nn xs) (hhi2 : hi2 ≤ w.heap.size) (hok : algOkB z fs = true) (hpm : permB z xs = true) :
    Calls Try.prog 44 #[.agg #[.int .i64 z, .slice ao n c], .slice bo nn d] w fun e w' => ResA w w' z (fs.map (renT z xs)) true e := by
  obtain ⟨⟨z1, z2⟩, hn4, hall⟩ := algOkB_of hok
  obtain ⟨hpl, hpa, _⟩ := permB_of hpm
  obtain ⟨zn, rfl⟩ : ∃ zn : Nat, z = (zn : Int) := ⟨z.toNat, by omega⟩
  have hfl := hv.1
  have hxl := hx.1
  obtain rfl : nn = zn := by omega
  have hn4' : n ≤ 4 := by omega
  have hB := below_then (below_alloc w (.cells #[.int .i64 (nn : Int), .slice ao n c] 29)) (below_alloc _ (.cells #[.int .i64 0, .slice none 0 0] 29))
  have HB := Lib.hid hB
  have hG := isAlg_any lo hi (nn : Int) ao c n fs _ (hv.kept (Kept.of_below hB hhi)) (Nat.le_trans hhi hB.size) hs
  rw [hok] at hG
  have HG := Lib.hid hG
  have hP := fun (W : World) (hW : Below w.heap.size w W) => perm_impl lo2 hi2 nn bo d nn xs W (hx.kept (Kept.of_below hW hhi2)) (Nat.le_trans hhi2 hW.size) (by omega) (by omega) (by unfold maxLen; omega)
  rw [hpm] at hP
  have HP := Lib.hid hP
  have HCp := Lib.hid (fun (W : World) (hW : Below w.heap.size w W) => copyAlg_any lo hi (nn : Int) ao c n fs W (hv.kept (Kept.of_below hW hhi)) (Nat.le_trans hhi hW.size) hn4' (fun j g hg => table_le hok (List.mem_of_getElem? hg)))
  have HV := Lib.hid hv
  have HX := Lib.hid hx
  have HOk := Lib.hid (And.intro hok hpm)
  have HFl := Lib.hid hfl
  obtain ⟨b3, o3, rfl, _, hb3, hcx⟩ := hx.at_ (by omega)
  have HCx := Lib.hid hcx
  have hnn1 : 1 ≤ nn := by omega
  have hnn8 : nn ≤ 8 := by omega
  unfold ResA
  clear hB hs hv hok hpm hall hfl hxl hpl hpa hG hP hx hcx hn4
  go_enter Try.func44, Try.ntmps44
  go_wp2_with fail
  refine HG.out.mono ?_
  rintro e w1 ⟨rfl, b1⟩
  have hsz1 : w.heap.size + 1 < w1.heap.size := by have := b1.size; simp at this; omega
  have cz : w1.cell? ⟨w.heap.size, 0, none⟩ = some (.int .i64 (nn : Int)) := (b1.cell (p := ⟨w.heap.size, 0, none⟩) (by simp; omega)).trans (by go_simp)
  have ca : w1.cell? ⟨w.heap.size, 1, none⟩ = some (.slice ao n c) := (b1.cell (p := ⟨w.heap.size, 1, none⟩) (by simp; omega)).trans (by go_simp)
  have hR1 : Hid (w1.heap[w.heap.size + 1]? = some (.cells #[.int .i64 0, .slice none 0 0] 29 (0, 0))) := by
    unfold Hid
    rw [b1.block _ (by simp)]
    have h := heap_alloc_new (w.alloc (.cells #[.int .i64 (nn : Int), .slice ao n c] 29)) (.cells #[.int .i64 0, .slice none 0 0] 29)
    rw [World.size_alloc] at h
    exact h
  have HB1 := Lib.hid (HB.out.trans (b1.mono HB.out.size))
  clear b1
  go_wp2_with fail
  refine (HP.out _ HB1.out).mono ?_
  rintro e v1 ⟨rfl, bv⟩
  have hszv : w.heap.size + 1 < v1.heap.size := by have := bv.size; omega
  have dz := cell_b bv cz
  have da := cell_b bv ca
  have hRv : Hid (v1.heap[w.heap.size + 1]? = some (.cells #[.int .i64 0, .slice none 0 0] 29 (0, 0))) := (bv.block _ hsz1).trans hR1.out
  have HBv := Lib.hid (HB1.out.trans (bv.mono HB1.out.size))
  clear bv cz ca hR1 hsz1
  go_wp2_with fail
  refine (HCp.out _ HBv.out).mono ?_
  rintro e w2 ⟨va, vn, vc, G, C, rfl, hvn, ho2, b2⟩
  obtain rfl : vn = n := hvn.trans HFl.out
  have hsz2 : w.heap.size + 1 < w2.heap.size := by have := b2.size; omega
  have hvs : v1.heap.size ≤ w2.heap.size := b2.size
  have ez : w2.cell? ⟨w.heap.size, 0, none⟩ = some (.int .i64 (nn : Int)) := cell_b b2 dz
  have ea : w2.cell? ⟨w.heap.size, 1, none⟩ = some (.slice ao vn c) := cell_b b2 da
  have HR2 : Hid (w2.heap[w.heap.size + 1]? = some (.cells #[.int .i64 0, .slice none 0 0] 29 (0, 0))) := (b2.block _ hszv).trans hRv.out
  have HB2 := Lib.hid (HBv.out.trans (b2.mono HBv.out.size))
  have HO2 : Hid (OwnsOps (w2.alloc (.cells #[.int .i64 (nn : Int), .slice va vn vc] 29)) v1.heap.size w2.heap.size (.slice va vn vc) vn G C (mixR (nn : Int) xs fs 0)) := by
    unfold Hid
    rw [mixR_zero]
    exact ho2.kept (Kept.of_below (below_alloc _ _) (Nat.le_refl _))
  have HGk := Lib.hid (fun j (hj : j < vn) => ho2.lt j hj)
  clear b2 ho2 hvn dz da hRv
  have fz := cell_b (below_alloc w2 (.cells #[.int .i64 (nn : Int), .slice va vn vc] 29)) ez
  have fa := cell_b (below_alloc w2 (.cells #[.int .i64 (nn : Int), .slice va vn vc] 29)) ea
  go_wp2_with fail
  have HB3 := Lib.hid (HB2.out.alloc HB2.out.size (.cells #[.int .i64 (nn : Int), .slice va vn vc] 29))
  have HBox : Hid ((w2.alloc (.cells #[.int .i64 (nn : Int), .slice va vn vc] 29)).heap[w2.heap.size]? = some (.cells #[.int .i64 (nn : Int), .slice va vn vc] 29 (0, 0))) := heap_alloc_new _ _
  have HR3 : Hid ((w2.alloc (.cells #[.int .i64 (nn : Int), .slice va vn vc] 29)).heap[w.heap.size + 1]? = some (.cells #[.int .i64 0, .slice none 0 0] 29 (0, 0))) := (Below.heap_alloc _ _ _ (by omega)).trans HR2.out
  clear ez ea HR2
  go_loopw [7, 8, 9, 10, 11, 12, 13, 30] (fun s7 s8 s9 s10 s11 s12 s13 i wr => ∃ k : Nat, k ≤ vn ∧ i = .int .i64 (k : Int) ∧ Hid (OwnsOps wr v1.heap.size w2.heap.size (.slice va vn vc) vn G C (mixR (nn : Int) xs fs k)) ∧ Hid (wr.heap[w2.heap.size]? = some (.cells #[.int .i64 (nn : Int), .slice va vn vc] 29 (0, 0))) ∧ Hid (wr.heap[w.heap.size + 1]? = some (.cells #[.int .i64 0, .slice none 0 0] 29 (0, 0))) ∧ wr.cell? ⟨w.heap.size, 0, none⟩ = some (.int .i64 (nn : Int)) ∧ Hid (Below w.heap.size w wr) ∧ w2.heap.size < wr.heap.size) (fun _ _ _ _ _ _ _ i _ => vn - (intOf i).toNat)
  case atStart => exact ⟨0, Nat.zero_le _, rfl, HO2, HBox, HR3, fz, HB3, by simp⟩
  case round =>
    obtain ⟨k, hk, rfl, HO, HXb, HR, dz, HBr, hsr⟩ := hrel
    clear fz fa HO2 HBox HR3
    by_cases hlt : k < vn
    · obtain ⟨b2, o2, rfl, _, hb2, hc⟩ := HV.out.at_ (by omega)
      obtain ⟨f, hf⟩ := get_of_lt HV.out.1 hlt
      obtain ⟨ta, tm, tc, c0, c1, htm, htc, hvt⟩ := hc k f hf
      have hfo := (algOkB_of HOk.out.1).2.2 f (List.mem_of_getElem? hf)
      obtain ⟨m, har, hm3, ht1, ht2⟩ : ∃ m : Nat, f.1 = (m : Int) ∧ m ≤ 3 ∧ 1 ≤ f.2.length ∧ f.2.length ≤ 512 := by
        obtain ⟨_, m, _, h1, _, _, h2, h3, h4⟩ := op_nat (by omega) (by omega) hfo
        exact ⟨m, h1, h2, h3, h4⟩
      have hpw : ((f.2.length : Nat) : Int) = powI (nn : Int) m := by
        have := (opOkB_of hfo).2.1
        rw [har, Int.toNat_natCast] at this
        exact this
      have e0 : wr.cell? ⟨b2, o2 + k * 2, none⟩ = some (.int .i64 f.1) := cell_b HBr.out c0
      have e1 : wr.cell? ⟨b2, o2 + k * 2 + 1, none⟩ = some (.slice ta tm tc) := cell_b HBr.out c1
      rw [har] at e0
      have HAr := Lib.hid har
      have HF := Lib.hid hf
      have HPw := Lib.hid hpw
      have HTn := Lib.hid hvt.1
      rw [hvt.1] at ht1 ht2
      obtain ⟨bt, ot, rfl, _, hbt, hct⟩ := hvt.at_ (by omega)
      have HCt := Lib.hid hct
      have HAll := Lib.hid (opOkB_of hfo).2.2
      obtain ⟨g, rfl⟩ : ∃ g, va = some ⟨g, 0, none⟩ := by
        rcases HO.out.row.2 with ⟨h, h0⟩ | ⟨g, cap, _, h, _⟩
        · omega
        · exact ⟨g, by injection h⟩
      clear hc c0 c1 hf hfo har hpw hct hvt htm htc
      go_wp2_with fail
      have HO0 : Hid (OwnsOps (wr.alloc (.cells #[.int .i64 (m : Int), .slice (some ⟨bt, ot, none⟩) tm tc] 56)) v1.heap.size w2.heap.size (.slice (some ⟨g, 0, none⟩) vn vc) vn G C (upd (mixR (nn : Int) xs fs k) k ((m : Int), putT (nn : Int) m xs f.2 f.2 0))) := by
        unfold Hid
        rw [upd_self (by rw [mixR_at, getD_op HF.out, ← HAr.out]; rfl)]
        exact HO.out.kept (Kept.of_below (below_alloc _ _) (Nat.le_of_lt hsr))
      have HX0 : Hid ((wr.alloc (.cells #[.int .i64 (m : Int), .slice (some ⟨bt, ot, none⟩) tm tc] 56)).heap[w2.heap.size]? = some (.cells #[.int .i64 (nn : Int), .slice (some ⟨g, 0, none⟩) vn vc] 29 (0, 0))) := (Below.heap_alloc _ _ _ hsr).trans HXb.out
      have HR0 : Hid ((wr.alloc (.cells #[.int .i64 (m : Int), .slice (some ⟨bt, ot, none⟩) tm tc] 56)).heap[w.heap.size + 1]? = some (.cells #[.int .i64 0, .slice none 0 0] 29 (0, 0))) := (Below.heap_alloc _ _ _ (by omega)).trans HR.out
      have gz : (wr.alloc (.cells #[.int .i64 (m : Int), .slice (some ⟨bt, ot, none⟩) tm tc] 56)).cell? ⟨w.heap.size, 0, none⟩ = some (.int .i64 (nn : Int)) := cell_b (below_alloc _ _) dz
      have gf : (wr.alloc (.cells #[.int .i64 (m : Int), .slice (some ⟨bt, ot, none⟩) tm tc] 56)).cell? ⟨wr.heap.size, 0, none⟩ = some (.int .i64 (m : Int)) := by simp
      have HB0 := Lib.hid (HBr.out.alloc HBr.out.size (.cells #[.int .i64 (m : Int), .slice (some ⟨bt, ot, none⟩) tm tc] 56))
      obtain ⟨fb, hfb⟩ : ∃ fb : Nat, fb = wr.heap.size := ⟨_, rfl⟩
      obtain ⟨wo, hwo⟩ : ∃ wo : World, wo = wr.alloc (.cells #[.int .i64 (m : Int), .slice (some ⟨bt, ot, none⟩) tm tc] 56) := ⟨_, rfl⟩
      have hso : fb < wo.heap.size := by rw [hwo, hfb]; simp
      have hfbl : w2.heap.size < fb := by omega
      rw [← hfb] at gf ⊢
      rw [← hwo] at HO0 HX0 HR0 gz gf HB0 ⊢
      clear hwo hfb HO HXb HR dz HBr hsr e0 e1
      go_loopw [9, 10, 11, 12, 13, 38] (fun s9 s10 s11 s12 s13 i wi => ∃ q : Nat, q ≤ tm ∧ i = .int .i64 (q : Int) ∧ Hid (OwnsOps wi v1.heap.size w2.heap.size (.slice (some ⟨g, 0, none⟩) vn vc) vn G C (upd (mixR (nn : Int) xs fs k) k ((m : Int), putT (nn : Int) m xs f.2 f.2 q))) ∧ Hid (wi.heap[w2.heap.size]? = some (.cells #[.int .i64 (nn : Int), .slice (some ⟨g, 0, none⟩) vn vc] 29 (0, 0))) ∧ Hid (wi.heap[w.heap.size + 1]? = some (.cells #[.int .i64 0, .slice none 0 0] 29 (0, 0))) ∧ wi.cell? ⟨w.heap.size, 0, none⟩ = some (.int .i64 (nn : Int)) ∧ wi.cell? ⟨fb, 0, none⟩ = some (.int .i64 (m : Int)) ∧ Hid (Below w.heap.size w wi) ∧ fb < wi.heap.size) (fun _ _ _ _ _ i _ => tm - (intOf i).toNat)
      case atStart => exact ⟨0, Nat.zero_le _, rfl, HO0, HX0, HR0, gz, gf, HB0, hso⟩
      case round =>
        obtain ⟨q, hq, rfl, HO, HX', HR, dz, df, HBr, hsr⟩ := hrel
        clear gz gf HO0 HX0 HR0
        by_cases hltq : q < tm
        · obtain ⟨wi, hwi⟩ : ∃ wi : World, wi = wr := ⟨_, rfl⟩
          rw [← hwi]
          rw [← hwi] at HO HX' HR dz df HBr hsr
          clear hwi
          obtain ⟨y, hy⟩ := get_of_lt HTn.out hltq
          have ey : wi.cell? ⟨bt, ot + q, none⟩ = some (.int .i64 y) := cell_b HBr.out (HCt.out q y hy)
          obtain ⟨y0, y1⟩ := allIn_get HAll.out hy
          have HY := Lib.hid hy
          have hA := argsImpl_any (nn : Int) (q : Int) m hm3 wi (by omega) (by omega) (by omega) (by omega)
          have HA := Lib.hid hA
          clear hA hy
          go_wp2_with fail
          refine HA.out.mono ?_
          rintro e w3 ⟨rfl, hw3⟩
          have B3 : Hid (Below wi.heap.size wi w3) := by rw [hw3]; exact below_alloc _ _
          have HD3 : Hid (w3.ownsRow wi.heap.size 3 1 (.slice (some ⟨wi.heap.size, 0, none⟩) m m) m ((mixL ((digs (nn : Int) m (q : Int)).map (nm xs)) (digs (nn : Int) m (q : Int)) 0).map (Value.int .i64))) := by
            rw [mixL_zero, hw3]; exact digs_own wi _ m _ hm3
          clear hw3
          go_wp2_with fail
          go_loopw [12, 13, 51] (fun s12 s13 i wq => ∃ j : Nat, j ≤ m ∧ i = .int .i64 (j : Int) ∧ Hid (wq.ownsRow wi.heap.size 3 1 (.slice (some ⟨wi.heap.size, 0, none⟩) m m) m ((mixL ((digs (nn : Int) m (q : Int)).map (nm xs)) (digs (nn : Int) m (q : Int)) j).map (Value.int .i64))) ∧ Hid (Below wi.heap.size wi wq)) (fun _ _ i _ => m - (intOf i).toNat)
          case atStart => exact ⟨0, Nat.zero_le _, rfl, HD3, B3⟩
          case round =>
            obtain ⟨j, hj, rfl, HD, HBj⟩ := hrel
            clear ey
            by_cases hltj : j < m
            · obtain ⟨x, hx⟩ := digs_get (z := (nn : Int)) (at_ := (q : Int)) hltj
              obtain ⟨x0, x1⟩ := allIn_get (digs_in (by omega) m (q : Int)) hx
              obtain ⟨xn, rfl⟩ : ∃ xn : Nat, x = (xn : Int) := ⟨x.toNat, by omega⟩
              have hnm := nm_get (permB_of HOk.out.2).1 x0 x1
              obtain ⟨u, hu⟩ : ∃ u, u = nm xs (xn : Int) := ⟨_, rfl⟩
              rw [← hu, Int.toNat_natCast] at hnm
              have en : wr.cell? ⟨b3, o3 + xn, none⟩ = some (.int .i64 u) := cell_b (HBr.out.trans (HBj.out.mono HBr.out.size)) (HCx.out xn u hnm)
              have hlen : ((digs (nn : Int) m (q : Int)).map (nm xs)).length = (digs (nn : Int) m (q : Int)).length := by rw [List.length_map]
              have hdl := digs_len (nn : Int) m (q : Int)
              have hcj := HD.out.cellAt j (by omega)
              rw [List.getElem?_map, mixL, List.getElem?_append_right (by rw [List.length_take, map_len_digs]; omega), List.length_take, map_len_digs, Nat.min_eq_left (by omega), Nat.sub_self, List.getElem?_drop, Nat.add_zero, hx] at hcj
              have hfr := HD.out.frozenAt j
              have hst := HD.out.stored j (.int .i64 u)
              rw [← List.map_set, mixL_set hlen (by omega) (by rw [List.getElem?_map, hx, hu]; rfl)] at hst
              have HST := Lib.hid hst
              have hxn : (xn : Int) < (nn : Int) := by omega
              clear hx hnm hu hlen hdl hst
              go_wp2_with fail
              go_roundw
              case rel => exact ⟨j + 1, by omega, by go_num, HST.out.1, HBj.out.grown HST.out.2 HBj.out.size (by intro b hb; cases hb; exact Nat.le_refl _)⟩
              case measure => simp [intOf]; omega
            · obtain rfl : j = m := by omega
              obtain ⟨yn, rfl⟩ : ∃ yn : Nat, y = (yn : Int) := ⟨y.toNat, by omega⟩
              have hnm := nm_get (permB_of HOk.out.2).1 y0 y1
              obtain ⟨u, hu⟩ : ∃ u, u = nm xs (yn : Int) := ⟨_, rfl⟩
              rw [← hu, Int.toNat_natCast] at hnm
              have hBB := HBr.out.trans (HBj.out.mono HBr.out.size)
              have en : wr.cell? ⟨b3, o3 + yn, none⟩ = some (.int .i64 u) := cell_b hBB (HCx.out yn u hnm)
              have hlen : ((digs (nn : Int) j (q : Int)).map (nm xs)).length = (digs (nn : Int) j (q : Int)).length := by rw [List.length_map]
              have hdl := digs_len (nn : Int) j (q : Int)
              have hD := HD.out
              rw [mixL_all hlen (by omega)] at hD
              have hv4 := (OwnsInts.of_row hD).view
              obtain ⟨hti, htb⟩ := toI_spec (z := (nn : Int)) (m := j) (by omega) HOk.out.2 q
              obtain ⟨ti, htie⟩ : ∃ ti, ti = toI (nn : Int) j xs q := ⟨_, rfl⟩
              rw [← htie] at hti htb
              have htil : ti < tm := by have := HPw.out; have := HTn.out; omega
              have hIx := fun (W : World) (hW : Below wr.heap.size wr W) => idx_impl _ _ (nn : Int) _ j j _ W (hv4.kept (Kept.of_below hW (Nat.le_refl _))) (by omega) (by omega) (allIn_map HOk.out.2 (digs_in (by omega) j (q : Int))) hm3
              simp only [hti] at hIx
              have HIx := Lib.hid hIx
              have hsz5 := HBj.out.size
              have HO4 := HO.out.kept (Kept.of_below HBj.out (by omega))
              obtain ⟨x0, x1, _⟩ := box_cells ((HBj.out.block _ (by omega)).trans HX'.out)
              have hpl : (putT (nn : Int) j xs f.2 f.2 q).length = tm := by rw [putT_len]; exact HTn.out
              have hrowc : wr.cell? ⟨g, k * 2 + 1, none⟩ = some (.slice (some ⟨G k, 0, none⟩) tm (C k)) := by
                have h := HO4.row.cellAt (k * 2 + 1) (by omega)
                rw [h, (flatN_get hlt).2, upd_same, hpl]
              have htabk := HO4.tab k hlt
              rw [upd_same, hpl] at htabk
              obtain ⟨u0, hu0⟩ : ∃ u0, wr.cell? ⟨G k, ti, none⟩ = some u0 := by
                rw [htabk.cellAt ti (by omega)]
                have hl1 := htabk.1
                exact ⟨_, List.getElem?_eq_getElem (by omega)⟩
              have hfr := htabk.frozenAt ti
              have yz : wr.cell? ⟨w.heap.size, 0, none⟩ = some (.int .i64 (nn : Int)) := cell_b HBj.out dz
              have yf : wr.cell? ⟨fb, 0, none⟩ = some (.int .i64 (j : Int)) := cell_b HBj.out df
              have hgkb := HGk.out k hlt
              have hgkl := (htabk.lt (G k) rfl).1
              have hgne := row_ne HO4.row (HO4.tab k hlt) (by decide)
              have hgne2 : g ≠ G k := fun e => hgne (by show some g = some (G k); rw [e])
              have hb3w : b3 < w.heap.size := by omega
              have HKS := Lib.hid (fun (u' : Value) => show (wr.setCell ⟨G k, ti, none⟩ u').drew.cell? ⟨w2.heap.size, 1, none⟩ = some (.slice (some ⟨g, 0, none⟩) vn vc) ∧ (wr.setCell ⟨G k, ti, none⟩ u').drew.cell? ⟨g, k * 2 + 1, none⟩ = some (.slice (some ⟨G k, 0, none⟩) tm (C k)) ∧ (wr.setCell ⟨G k, ti, none⟩ u').drew.cell? ⟨w.heap.size, 0, none⟩ = some (.int .i64 (nn : Int)) ∧ (wr.setCell ⟨G k, ti, none⟩ u').drew.cell? ⟨b3, o3 + yn, none⟩ = some (.int .i64 u) from
                ⟨keep_set x1 (by show G k ≠ w2.heap.size; omega), keep_set hrowc (by show G k ≠ g; exact fun e => hgne2 e.symm), keep_set yz (by show G k ≠ w.heap.size; omega), keep_set en (by show G k ≠ b3; omega)⟩)
              have hitm : (ti : Int) < (tm : Int) := by omega
              have hynn : (yn : Int) < (nn : Int) := by omega
              have hknn : (k : Int) < (vn : Int) := by omega
              have HO5 := Lib.hid HO4
              have HHt := Lib.hid htie
              have HU := Lib.hid hu
              have HPl := Lib.hid hpl
              have hw0 : Below wr.heap.size wr wr.drew := below_drew _
              clear hIx hti htb htie hnm hu hBB hlen hdl hD hv4 htabk HO4 hgne hgne2 hpl dz df
              go_wp2_with fail
              go_region_held3 (fun w' => w'.cell? ⟨w2.heap.size, 1, none⟩ = some (.slice (some ⟨g, 0, none⟩) vn vc) ∧ w'.cell? ⟨g, k * 2 + 1, none⟩ = some (.slice (some ⟨G k, 0, none⟩) tm (C k)) ∧ w'.cell? ⟨w.heap.size, 0, none⟩ = some (.int .i64 (nn : Int)) ∧ w'.cell? ⟨b3, o3 + yn, none⟩ = some (.int .i64 u)) (first | (exact HKS.out _) | go_keep) ((go_at_call 61; refine (HIx.out _ ?_).mono ?_; exact below_drew _; rintro e w6 ⟨rfl, rfl⟩))
              all_goals
                have HO6 : Hid (OwnsOps (wr.setCell ⟨G k, ti, none⟩ (.int .i64 u)).drew v1.heap.size w2.heap.size (.slice (some ⟨g, 0, none⟩) vn vc) vn G C (upd (mixR (nn : Int) xs fs k) k ((j : Int), putT (nn : Int) j xs f.2 f.2 (q + 1)))) := by
                  have h := (HO5.out.setTab (i := ti) u hlt).kept (w' := (wr.setCell ⟨G k, ti, none⟩ (.int .i64 u)).drew) (fun _ _ _ => rfl)
                  rw [upd_same, upd_upd] at h
                  have e : putT (nn : Int) j xs f.2 f.2 (q + 1) = (putT (nn : Int) j xs f.2 f.2 q).set ti u := by
                    rw [putT, ← HHt.out, HU.out, List.getD_eq_getElem?_getD, HY.out]; rfl
                  rw [e]
                  exact h
                have hbs := HBr.out.size
                have hfar : ∀ b, b ≠ G k → b < wi.heap.size → (wr.setCell ⟨G k, ti, none⟩ (.int .i64 u)).drew.heap[b]? = wi.heap[b]? := fun b hb1 hb2 => by
                  show (wr.setCell ⟨G k, ti, none⟩ (.int .i64 u)).heap[b]? = wi.heap[b]?
                  rw [Below.heap_setCell _ _ _ _ (by show b ≠ G k; omega), HBj.out.block b hb2]
                have HX6 : Hid ((wr.setCell ⟨G k, ti, none⟩ (.int .i64 u)).drew.heap[w2.heap.size]? = some (.cells #[.int .i64 (nn : Int), .slice (some ⟨g, 0, none⟩) vn vc] 29 (0, 0))) := (hfar _ (by omega) (by omega)).trans HX'.out
                have HR6 : Hid ((wr.setCell ⟨G k, ti, none⟩ (.int .i64 u)).drew.heap[w.heap.size + 1]? = some (.cells #[.int .i64 0, .slice none 0 0] 29 (0, 0))) := (hfar _ (by omega) (by omega)).trans HR.out
                have HB6 : Hid (Below w.heap.size w (wr.setCell ⟨G k, ti, none⟩ (.int .i64 u)).drew) := ((HBr.out.trans (HBj.out.mono hbs)).setCell (by show w.heap.size ≤ G k; omega) _).drew
                have hs6 : fb < (wr.setCell ⟨G k, ti, none⟩ (.int .i64 u)).drew.heap.size := by
                  show fb < (wr.setCell ⟨G k, ti, none⟩ (.int .i64 u)).heap.size
                  simp [World.setCell]; omega
                have z6 : (wr.setCell ⟨G k, ti, none⟩ (.int .i64 u)).drew.cell? ⟨w.heap.size, 0, none⟩ = some (.int .i64 (nn : Int)) := keep_set yz (by show G k ≠ w.heap.size; omega)
                have f6 : (wr.setCell ⟨G k, ti, none⟩ (.int .i64 u)).drew.cell? ⟨fb, 0, none⟩ = some (.int .i64 (j : Int)) := keep_set yf (by show G k ≠ fb; omega)
                obtain ⟨w6, hw6⟩ : ∃ w6, w6 = (wr.setCell ⟨G k, ti, none⟩ (.int .i64 u)).drew := ⟨_, rfl⟩
                rw [← hw6] at HO6 HX6 HR6 HB6 hs6 z6 f6 ⊢
                clear hw6 hfar hw0 yz yf x0 x1 hrowc hu0 hfr HKS en
                go_wp2_with fail
                go_roundw
                case rel => exact ⟨q + 1, by omega, by go_num, HO6, HX6, HR6, z6, f6, HB6, hs6⟩
                case measure => simp [intOf]; omega
        · obtain rfl : q = tm := by omega
          have HOn : Hid (OwnsOps wr v1.heap.size w2.heap.size (.slice (some ⟨g, 0, none⟩) vn vc) vn G C (mixR (nn : Int) xs fs (k + 1))) := by
            have h := HO.out
            have e : ((m : Int), putT (nn : Int) m xs f.2 f.2 q) = renT (nn : Int) xs (fs.getD k (0, [])) := by
              rw [getD_op HF.out, renT, HAr.out, Int.toNat_natCast, HTn.out]
            rw [e, mixR_step] at h
            exact h
          go_wp2_with fail
          go_roundw
          case rel => exact ⟨k + 1, by omega, by go_num, HOn, HX', HR, dz, HBr, by omega⟩
          case measure => simp [intOf]; omega
    · obtain rfl : k = vn := by omega
      obtain ⟨x0, x1, _⟩ := box_cells HXb.out
      obtain ⟨r0, r1, rf⟩ := box_cells HR.out
      have HOe := Lib.hid (HO.out.congr (G' := G) (C' := C) (F' := fun j => (fs.map (renT (nn : Int) xs)).getD j (0, [])) fun j hj => ⟨rfl, rfl, mixR_all _ _ _ HFl.out hj⟩)
      have HLen : Hid (k = (fs.map (renT (nn : Int) xs)).length) := by unfold Hid; rw [List.length_map]; exact HFl.out.symm
      go_wp2_with fail
      have hK : ∀ (u1 u2 : Value), Kept v1.heap.size w2.heap.size wr ((wr.setCell ⟨w.heap.size + 1, 0, none⟩ u1).setCell ⟨w.heap.size + 1, 1, none⟩ u2) := by
        intro u1 u2 q h1 h2
        rw [Below.heap_setCell _ _ _ _ (by show q ≠ w.heap.size + 1; omega), Below.heap_setCell _ _ _ _ (by show q ≠ w.heap.size + 1; omega)]
      refine bodyPost_ret (v := .tuple #[.agg #[.int .i64 (nn : Int), .slice va k vc], .bool true]) (by simp [results, Try.results44, go_sem, r0, r1]) rfl ⟨va, k, vc, G, C, rfl, HLen.out, ((HOe.out.kept (hK _ _)).lo_mono (by omega)).hi_mono (by simp [World.setCell]; omega), (HBr.out.setCell (by show _ ≤ _; simp) _).setCell (by show _ ≤ _; simp) _⟩

theorem implRenameElements (lo hi : Nat) (z : Int) (ao : Option Addr) (c n : Nat) (fs : List OpD) (lo2 hi2 : Nat) (bo : Option Addr) (d m : Nat) (xs : List Int) (w : World) (hv : OView w lo hi ao n fs) (hhi : hi ≤ w.heap.size) (hs : ∀ (j : Nat) (f : OpD), fs[j]? = some f → f.2.length ≤ maxLen)
    (hx : IView w lo2 hi2 bo m xs) (hhi2 : hi2 ≤ w.heap.size) (hm : m ≤ maxLen) :
    Calls Try.prog 44 #[.agg #[.int .i64 z, .slice ao n c], .slice bo m d] w fun e w' => ResA w w' (valRenameElements z fs xs).1 (valRenameElements z fs xs).2.1 (valRenameElements z fs xs).2.2 e := by
  cases h : (algOkB z fs && permB z xs) with
  | true =>
    rw [show valRenameElements z fs xs = (z, fs.map (renT z xs), true) by simp only [valRenameElements, h, if_true]]
    rw [Bool.and_eq_true] at h
    exact iren_yes lo hi z ao c n fs lo2 hi2 bo d m xs w hv hhi hs hx hhi2 h.1 h.2
  | false =>
    rw [show valRenameElements z fs xs = (0, [], false) by simp only [valRenameElements, h]; rfl]
    refine (iren_no lo hi z ao c n fs lo2 hi2 bo d m xs w hv hhi hs hx hhi2 hm h).mono fun e w' ⟨he, hb⟩ => ?_
    exact ⟨none, 0, 0, fun _ => 0, fun _ => 0, he, rfl, OwnsOps.nil _ _ _ _ _ _, hb⟩

end Go.Proofs.Ythgggoodceogkaa
