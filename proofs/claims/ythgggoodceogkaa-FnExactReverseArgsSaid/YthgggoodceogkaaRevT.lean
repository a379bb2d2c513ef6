/-
  Contract: spec.ReverseArgs. Conditions: the bounds that each theorem names.
-/
import Derived.Test.YthgggoodceogkaaIdxV
import Derived.Test.YthgggoodceogkaaRevS
namespace Go.Proofs.Ythgggoodceogkaa
open Go.RowKit
set_option linter.unusedVariables false
set_option linter.unusedSimpArgs false
attribute [local go_sem ↓] Go.wp_at_zero Go.wp_at_succ

set_option maxHeartbeats 400000 in
theorem srev_no (lo hi : Nat) (z : Int) (ao : Option Addr) (c n : Nat) (fs : List OpD) (op : Int) (w : World) (hv : OView w lo hi ao n fs) (hhi : hi ≤ w.heap.size) (hs : ∀ (j : Nat) (f : OpD), fs[j]? = some f → f.2.length ≤ maxLen) (hno : takesB z fs op = false) :
    Calls Try.prog 41 #[.agg #[.int .i64 z, .slice ao n c], .int .i64 op] w fun e w' => e = .returned (.tuple #[.agg #[.int .i64 0, .slice none 0 0], .bool false]) ∧ Below w.heap.size w w' := by
  have hB := below_then (below_alloc w (.cells #[.int .i64 z, .slice ao n c] 29)) (below_alloc _ (.cells #[.int .i64 0, .slice none 0 0] 29))
  have HB := Lib.hid hB
  have hC := takes_any lo hi z ao c n fs op _ (hv.kept (Kept.of_below hB hhi)) (Nat.le_trans hhi hB.size) hs
  rw [hno] at hC
  have HC := Lib.hid hC
  clear hB hs hv hno hC
  go_enter Try.func41, Try.ntmps41
  go_wp2_with fail
  refine HC.out.mono ?_
  rintro e w1 ⟨rfl, b1⟩
  obtain ⟨hcc, hff⟩ := bcell b1
  have hz : w.heap.size + 1 < w1.heap.size := by have := b1.size; simp at this; omega
  have HB1 := Lib.hid (HB.out.trans (b1.mono HB.out.size))
  clear b1
  go_wp2_with fail
  refine bodyPost_ret (v := .tuple #[.agg #[.int .i64 0, .slice none 0 0], .bool false]) (by simp [results, Try.results41, go_sem, hcc, hz]) rfl ⟨rfl, (HB1.out.setCell (by show _ ≤ _; simp) _).setCell (by show _ ≤ _; simp) _⟩

set_option maxRecDepth 100000 in
set_option maxHeartbeats 4000000 in
theorem srev_yes (lo hi : Nat) (z : Int) (ao : Option Addr) (c n : Nat) (fs : List OpD) (k : Nat) (f : OpD) (w : World) (hv : OView w lo hi ao n fs) (hhi : hi ≤ w.heap.size) (hs : ∀ (j : Nat) (f : OpD), fs[j]? = some f → f.2.length ≤ maxLen) (hok : algOkB z fs = true) (hf : fs[k]? = some f) :
    Calls Try.prog 41 #[.agg #[.int .i64 z, .slice ao n c], .int .i64 (k : Int)] w fun e w' => ResA w w' z (fs.set k (f.1, revT z f)) true e := by
  obtain ⟨⟨z1, z2⟩, hn4, hall⟩ := algOkB_of hok
  have hfo := hall f (List.mem_of_getElem? hf)
  obtain ⟨zn, m, rfl, har, hz1, hz2, hm3, ht1, ht2⟩ := op_nat z1 z2 hfo
  have hfl := hv.1
  have hkl : k < n := by rw [← hfl]; exact (List.getElem?_eq_some_iff.1 hf).1
  have hn4' : n ≤ 4 := by omega
  have hB := below_then (below_alloc w (.cells #[.int .i64 (zn : Int), .slice ao n c] 29)) (below_alloc _ (.cells #[.int .i64 0, .slice none 0 0] 29))
  have HB := Lib.hid hB
  have hC := takes_any lo hi (zn : Int) ao c n fs (k : Int) _ (hv.kept (Kept.of_below hB hhi)) (Nat.le_trans hhi hB.size) hs
  rw [takes_yes hok (by omega) (by omega)] at hC
  have HC := Lib.hid hC
  have HCp := Lib.hid (fun (W : World) (hW : Below w.heap.size w W) => l2Own_any lo hi (zn : Int) ao c n fs W (hv.kept (Kept.of_below hW hhi)) (Nat.le_trans hhi hW.size) hn4' (fun j g hg => table_le hok (List.mem_of_getElem? hg)))
  have hRev := fun (i : Nat) (h : i < f.2.length) => revT_get (z := (zn : Int)) h
  rw [har, Int.toNat_natCast] at hRev
  have HRev := Lib.hid hRev
  obtain ⟨b, o, rfl, _, hb, hc⟩ := hv.at_ (by omega)
  obtain ⟨ta, tm, tc, c0, c1, hmc, hcm, hvt⟩ := hc k f hf
  have HTn := Lib.hid hvt.1
  have ht1' : 1 ≤ tm := by have := hvt.1; omega
  have ht2' : tm ≤ 512 := by have := hvt.1; omega
  rw [har] at c0
  have C0 := Lib.hid c0
  have C1 := Lib.hid c1
  have HVal := Lib.hid (fun (W : World) (hW : Below w.heap.size w W) (lo2 hi2 g d : Nat) (xs : List Int) (hx : IView W lo2 hi2 (some ⟨g, 0, none⟩) m xs) (hhi2 : hi2 ≤ W.heap.size) (hin : allIn (zn : Int) xs = true) => value_spec lo hi lo2 hi2 (zn : Int) (some ⟨b, o, none⟩) (some ⟨g, 0, none⟩) c n d m k fs f xs W (hv.kept (Kept.of_below hW hhi)) (Nat.le_trans hhi hW.size) hok hf hx hhi2 hin har.symm)
  have HAr := Lib.hid har
  have HF := Lib.hid hf
  have HFl := Lib.hid hfl
  have HRl := Lib.hid (revT_len (zn : Int) f)
  obtain ⟨i0, hi0, hy0, hy1, hy2⟩ := info_parts Try.infoInt
  unfold ResA
  clear hB hs hv hok hf hall hfo har hfl hRev hC hc c0 c1 hvt ht1 ht2
  go_enter Try.func41, Try.ntmps41
  go_wp2_with fail
  refine HC.out.mono ?_
  rintro e w1 ⟨rfl, b1⟩
  have hsz1 : w.heap.size + 1 < w1.heap.size := by have := b1.size; simp at this; omega
  have HB1 := Lib.hid (HB.out.trans (b1.mono HB.out.size))
  have cz : w1.cell? ⟨w.heap.size, 0, none⟩ = some (.int .i64 (zn : Int)) := (b1.cell (p := ⟨w.heap.size, 0, none⟩) (by simp; omega)).trans (by go_simp)
  have ca : w1.cell? ⟨w.heap.size, 1, none⟩ = some (.slice (some ⟨b, o, none⟩) n c) := (b1.cell (p := ⟨w.heap.size, 1, none⟩) (by simp; omega)).trans (by go_simp)
  have hR1 : Hid (w1.heap[w.heap.size + 1]? = some (.cells #[.int .i64 0, .slice none 0 0] 29 (0, 0))) := by
    unfold Hid
    rw [b1.block _ (by simp)]
    have h := heap_alloc_new (w.alloc (.cells #[.int .i64 (zn : Int), .slice (some ⟨b, o, none⟩) n c] 29)) (.cells #[.int .i64 0, .slice none 0 0] 29)
    rw [World.size_alloc] at h
    exact h
  clear b1
  go_wp2_with fail
  refine (HCp.out _ HB1.out).mono ?_
  rintro e w2 ⟨va, vn, vc, G, C, rfl, hvn, ho2, b2⟩
  obtain rfl : vn = n := hvn.trans HFl.out
  have hsz2 : w1.heap.size ≤ w2.heap.size := b2.size
  have ez : w2.cell? ⟨w.heap.size, 0, none⟩ = some (.int .i64 (zn : Int)) := cell_b b2 cz
  have ea : w2.cell? ⟨w.heap.size, 1, none⟩ = some (.slice (some ⟨b, o, none⟩) vn c) := cell_b b2 ca
  have HR2 : Hid (w2.heap[w.heap.size + 1]? = some (.cells #[.int .i64 0, .slice none 0 0] 29 (0, 0))) := (b2.block _ (by omega)).trans hR1.out
  have HB2 := Lib.hid (HB1.out.trans (b2.mono HB1.out.size))
  obtain ⟨g, rfl⟩ : ∃ g, va = some ⟨g, 0, none⟩ := by
    rcases ho2.row.2 with ⟨h, h0⟩ | ⟨g, cap, _, h, _⟩
    · omega
    · exact ⟨g, by injection h⟩
  have hbd3 := below_then (below_alloc w2 (.cells #[.int .i64 (zn : Int), .slice (some ⟨g, 0, none⟩) vn vc] 29)) (below_alloc _ (.cells #[] 3))
  have HO3 : Hid (OwnsOps ((w2.alloc (.cells #[.int .i64 (zn : Int), .slice (some ⟨g, 0, none⟩) vn vc] 29)).alloc (.cells #[] 3)) w1.heap.size w2.heap.size (.slice (some ⟨g, 0, none⟩) vn vc) vn G C (fun j => fs.getD j (0, []))) := ho2.kept (Kept.of_below hbd3 (Nat.le_refl _))
  have hgk := fun j (hj : j < vn) => ho2.lt j hj
  have hgr := ho2.rowlt g rfl
  have hgl := (ho2.row.lt g rfl).1
  have HGK := Lib.hid hgk
  have HBox : Hid (((w2.alloc (.cells #[.int .i64 (zn : Int), .slice (some ⟨g, 0, none⟩) vn vc] 29)).alloc (.cells #[] 3)).heap[w2.heap.size]? = some (.cells #[.int .i64 (zn : Int), .slice (some ⟨g, 0, none⟩) vn vc] 29 (0, 0))) := (Below.heap_alloc _ _ _ (by simp)).trans (heap_alloc_new _ _)
  have HR3 : Hid (((w2.alloc (.cells #[.int .i64 (zn : Int), .slice (some ⟨g, 0, none⟩) vn vc] 29)).alloc (.cells #[] 3)).heap[w.heap.size + 1]? = some (.cells #[.int .i64 0, .slice none 0 0] 29 (0, 0))) := (hbd3.block _ (by omega)).trans HR2.out
  have HB3 := Lib.hid (HB2.out.trans (hbd3.mono HB2.out.size))
  have fz := cell_b hbd3 ez
  have fa := cell_b hbd3 ea
  have HOwn : Hid (((w2.alloc (.cells #[.int .i64 (zn : Int), .slice (some ⟨g, 0, none⟩) vn vc] 29)).alloc (.cells #[] 3)).ownsRow (w2.heap.size + 1) 3 1 (.slice (some ⟨w2.heap.size + 1, 0, none⟩) 0 0) 0 []) := by
    have h := World.ownsRow_lit (base := w2.heap.size + 1) (e := 3) (size := 1) (w2.alloc (.cells #[.int .i64 (zn : Int), .slice (some ⟨g, 0, none⟩) vn vc] 29)) #[] 0 (by simp) (by decide) rfl
    rw [World.size_alloc] at h
    exact h
  clear b2 ho2 hvn cz ca hR1 hbd3 ez ea HR2 hgk
  go_wp2_with fail
  go_loopw [7, 8] (fun v i wr => ∃ q bo d : Nat, q ≤ tm ∧ i = .int .i64 (q : Int) ∧ v = .slice (some ⟨bo, 0, none⟩) q d ∧ Hid (wr.ownsRow (w2.heap.size + 1) 3 1 (.slice (some ⟨bo, 0, none⟩) q d) q (((revT (zn : Int) f).take q).map (Value.int .i64))) ∧ Hid (OwnsOps wr w1.heap.size w2.heap.size (.slice (some ⟨g, 0, none⟩) vn vc) vn G C (fun j => fs.getD j (0, []))) ∧ Hid (wr.heap[w2.heap.size]? = some (.cells #[.int .i64 (zn : Int), .slice (some ⟨g, 0, none⟩) vn vc] 29 (0, 0))) ∧ Hid (wr.heap[w.heap.size + 1]? = some (.cells #[.int .i64 0, .slice none 0 0] 29 (0, 0))) ∧ wr.cell? ⟨w.heap.size, 0, none⟩ = some (.int .i64 (zn : Int)) ∧ wr.cell? ⟨w.heap.size, 1, none⟩ = some (.slice (some ⟨b, o, none⟩) vn c) ∧ Hid (Below w.heap.size w wr) ∧ w2.heap.size < wr.heap.size) (fun _ i _ => tm - (intOf i).toNat)
  case atStart => exact ⟨0, w2.heap.size + 1, 0, Nat.zero_le _, rfl, rfl, HOwn, HO3, HBox, HR3, fz, fa, HB3, by simp; omega⟩
  case round =>
    obtain ⟨q, bo, d, hq, rfl, rfl, HOw, HO, HX, HR, dz, da, HBr, hsr⟩ := hrel
    clear fz fa HO3 HBox HR3 HOwn
    have e0 : wr.cell? ⟨b, o + k * 2, none⟩ = some (.int .i64 (m : Int)) := cell_b HBr.out C0.out
    have e1 : wr.cell? ⟨b, o + k * 2 + 1, none⟩ = some (.slice ta tm tc) := cell_b HBr.out C1.out
    have hkn : (k : Int) < (vn : Int) := by omega
    by_cases hlt : q < tm
    · have hsz := HBr.out.size
      obtain ⟨v, hv⟩ : ∃ v, atA (zn : Int) f (digs (zn : Int) m (q : Int)).reverse = v := ⟨_, rfl⟩
      have hA := argsSpec_any (zn : Int) (q : Int) m hm3 wr.drew z1 z2 (by omega) (by omega)
      have HA := Lib.hid hA
      have HQ : Hid ((revT (zn : Int) f)[q]? = some v) := by rw [← hv]; exact HRev.out q (by have := HTn.out; omega)
      have HV := Lib.hid hv
      clear hA hv
      go_wp2_with fail
      go_region_held3 (fun w' => w'.cell? ⟨w.heap.size, 0, none⟩ = some (.int .i64 (zn : Int)) ∧ w'.cell? ⟨w.heap.size, 1, none⟩ = some (.slice (some ⟨b, o, none⟩) vn c) ∧ w'.cell? ⟨b, o + k * 2, none⟩ = some (.int .i64 (m : Int))) (first | (exact K6.out) | (exact K5.out) | (exact K4.out) | (exact K3.out) | go_keep) ((first | (refine step_append_lies _ rfl _ _ _ rfl (w2.heap.size + 1) 3 i0 _ 1 8 Try.underlying33 hi0 hy0 hy1 hy2 rfl (by decide) (.slice (some ⟨bo, 0, none⟩) q d) q (((revT (zn : Int) f).take q).map (Value.int .i64)) rfl ((HOw.out.kept (grown_of_below B5.out none) (own_em _)).alloc _) ⟨w5.heap.size, 0, none⟩ 1 1 [.int .i64 v] rfl rfl (cell_one_new _ _ _) (by simp [Value.oneCell']) (by decide) (by unfold maxLen; omega) (by omega) (by simp; omega) _ rfl ?_; intro g6 cap6 w6 hown6 hgrow6 hat6 hlt6; have HOwn6 := Lib.hid hown6; have HGrow6 := Lib.hid hgrow6; have K6 := Lib.hid (And.intro (hgrow6.cell (cell_b (below_alloc _ _) K5.out.1) (fun e => by have h_ := (HOw.out.lt w.heap.size e.symm).1; omega)) (And.intro (hgrow6.cell (cell_b (below_alloc _ _) K5.out.2.1) (fun e => by have h_ := (HOw.out.lt w.heap.size e.symm).1; omega)) (hgrow6.cell (cell_b (below_alloc _ _) K5.out.2.2) (fun e => by have h_ := (HOw.out.lt b e.symm).1; omega)))); clear hown6 hgrow6 hat6) | (go_simp; go_at_call 73; refine HA.out.mono ?_; rintro e w3 ⟨rfl, hw3⟩; have B3 : Hid (Below wr.heap.size wr w3) := (by rw [hw3]; exact below_then (below_drew wr) (below_alloc _ _)); have hv3 := Lib.hid (digs_view (W := w3) (g := wr.heap.size) (z := (zn : Int)) (at_ := (q : Int)) (m := m) (ty := 3) (by rw [hw3]; exact heap_alloc_new _ _)); have s3 := B3.out.size; have K3 := Lib.hid (And.intro (cell_b B3.out dz) (And.intro (cell_b B3.out da) (cell_b B3.out e0))); clear hw3) | (go_simp; go_at_call 72; refine (back_any _ _ _ _ _ _ _ hv3.out (Nat.le_refl _) hm3).mono ?_; rintro e w4 ⟨g4, d4, rfl, hv4, b4⟩; have B4 : Hid (Below wr.heap.size wr w4) := B3.out.trans (b4.mono s3); have hv4' := Lib.hid hv4; have s4 := B4.out.size; have K4 := Lib.hid (And.intro (cell_b B4.out dz) (And.intro (cell_b B4.out da) (cell_b B4.out e0))); clear hv4 b4) | (go_simp; go_at_call 58; refine (HVal.out _ ?_ _ _ _ _ _ hv4'.out (Nat.le_refl _) (allIn_rev (digs_in z1 m _))).mono ?_; exact HBr.out.trans (B4.out.mono hsz); rw [HV.out]; rintro e w5 ⟨rfl, b5⟩; have B5 : Hid (Below wr.heap.size wr w5) := B4.out.trans (b5.mono s4); have s5 := B5.out.size; have K5 := Lib.hid (And.intro (cell_b B5.out dz) (And.intro (cell_b B5.out da) (cell_b B5.out e0))); clear b5)))
      all_goals
        have hboL := (HOw.out.lt bo rfl).1
        have hfar : ∀ j, j ≤ w2.heap.size → w6.heap[j]? = wr.heap[j]? := fun j hj => by
          rw [HGrow6.out.block j (by simp; omega) (fun e => by have h_ : bo = j := (by simpa [Value.ownBlock] using e.symm); omega), Below.heap_alloc _ _ _ (by omega), B5.out.block j (by omega)]
        have HOw6 : Hid (w6.ownsRow (w2.heap.size + 1) 3 1 (.slice (some ⟨g6, 0, none⟩) (q + 1) cap6) (q + 1) (((revT (zn : Int) f).take (q + 1)).map (Value.int .i64))) := by
          unfold Hid
          rw [List.take_add_one, HQ.out, Option.toList_some, List.map_append]
          exact HOwn6.out
        have HO6 : Hid (OwnsOps w6 w1.heap.size w2.heap.size (.slice (some ⟨g, 0, none⟩) vn vc) vn G C (fun j => fs.getD j (0, []))) := HO.out.kept fun j _ h2 => hfar j (by omega)
        have HX6 : Hid (w6.heap[w2.heap.size]? = some (.cells #[.int .i64 (zn : Int), .slice (some ⟨g, 0, none⟩) vn vc] 29 (0, 0))) := (hfar _ (Nat.le_refl _)).trans HX.out
        have HR6 : Hid (w6.heap[w.heap.size + 1]? = some (.cells #[.int .i64 0, .slice none 0 0] 29 (0, 0))) := (hfar _ (by omega)).trans HR.out
        have z6 := K6.out.1
        have a6 := K6.out.2.1
        have HB6 : Hid (Below w.heap.size w w6) := ((HBr.out.trans (B5.out.mono hsz)).alloc (by omega) _).grown HGrow6.out (by simp; omega) (fun j hj => by have h_ : bo = j := (by simpa [Value.ownBlock] using hj); omega)
        have hs6 : w2.heap.size < w6.heap.size := by have := HGrow6.out.size; simp at this; omega
        clear hfar dz da e0 e1
        go_wp2_with fail
        go_roundw
        case rel => exact ⟨q + 1, g6, cap6, by omega, by go_num, rfl, HOw6, HO6, HX6, HR6, z6, a6, HB6, hs6⟩
        case measure => simp [intOf]; omega
    · obtain rfl : q = tm := by omega
      obtain ⟨x0, x1, _⟩ := box_cells HX.out
      obtain ⟨r0, r1, rf⟩ := box_cells HR.out
      have hrowc : wr.cell? ⟨g, k * 2 + 1, none⟩ = some (.slice (some ⟨G k, 0, none⟩) (fs.getD k (0, [])).2.length (C k)) := by
        have h := HO.out.row.cellAt (k * 2 + 1) (by omega)
        rw [h, (flatN_get hkl).2]
      have hfr := HO.out.row.frozenAt (k * 2 + 1)
      have hlen : (revT (zn : Int) f).length = q := HRl.out.trans HTn.out
      have hboL := (HOw.out.lt bo rfl).1
      have hboS := (HOw.out.lt bo rfl).2
      have hS := (HO.out.hi_mono (Nat.le_of_lt hsr)).setSlice (b := bo) (d := d) (ys := revT (zn : Int) f) hkl (by
        have h := ownsRow_base HOw.out (b' := w1.heap.size) (by omega)
        rw [List.take_of_length_le (Nat.le_of_eq hlen)] at h
        rw [hlen]
        exact h) hboS (fun i hi => by have := HGK.out i hi; omega)
      rw [hlen] at hS
      have HS := Lib.hid (hS.congr (G' := upd G k bo) (C' := upd C k d) (F' := fun j => (fs.set k (f.1, revT (zn : Int) f)).getD j (0, [])) fun j hj => ⟨rfl, rfl, by rw [← upd_set (by have := HFl.out; omega), getD_op HF.out]⟩)
      have HLen : Hid (vn = (fs.set k (f.1, revT (zn : Int) f)).length) := by unfold Hid; rw [List.length_set]; exact HFl.out.symm
      have hbs := HBr.out.size
      have hg1 : w.heap.size + 1 < g := by omega
      have HB7 : Hid (Below w.heap.size w (wr.setCell ⟨g, k * 2 + 1, none⟩ (.slice (some ⟨bo, 0, none⟩) q d))) := HBr.out.setCell (by show _ ≤ g; omega) _
      have x0' : (wr.setCell ⟨g, k * 2 + 1, none⟩ (.slice (some ⟨bo, 0, none⟩) q d)).cell? ⟨w2.heap.size, 0, none⟩ = some (.int .i64 (zn : Int)) := (World.cell?_setCell_other _ _ _ _ (fun e => by injection e with e _; omega)).trans x0
      have x1' : (wr.setCell ⟨g, k * 2 + 1, none⟩ (.slice (some ⟨bo, 0, none⟩) q d)).cell? ⟨w2.heap.size, 1, none⟩ = some (.slice (some ⟨g, 0, none⟩) vn vc) := (World.cell?_setCell_other _ _ _ _ (fun e => by injection e with e _; omega)).trans x1
      have r0' : (wr.setCell ⟨g, k * 2 + 1, none⟩ (.slice (some ⟨bo, 0, none⟩) q d)).cell? ⟨w.heap.size + 1, 0, none⟩ = some (.int .i64 0) := (World.cell?_setCell_other _ _ _ _ (fun e => by injection e with e _; omega)).trans r0
      have r1' : (wr.setCell ⟨g, k * 2 + 1, none⟩ (.slice (some ⟨bo, 0, none⟩) q d)).cell? ⟨w.heap.size + 1, 1, none⟩ = some (.slice none 0 0) := (World.cell?_setCell_other _ _ _ _ (fun e => by injection e with e _; omega)).trans r1
      have HSz : Hid (wr.heap.size ≤ (wr.setCell ⟨g, k * 2 + 1, none⟩ (.slice (some ⟨bo, 0, none⟩) q d)).heap.size) := by unfold Hid; simp [World.setCell]
      clear hS hlen
      go_wp2_with fail
      have hK : ∀ (v1 v2 : Value), Kept w1.heap.size wr.heap.size (wr.setCell ⟨g, k * 2 + 1, none⟩ (.slice (some ⟨bo, 0, none⟩) q d)) (((wr.setCell ⟨g, k * 2 + 1, none⟩ (.slice (some ⟨bo, 0, none⟩) q d)).setCell ⟨w.heap.size + 1, 0, none⟩ v1).setCell ⟨w.heap.size + 1, 1, none⟩ v2) := by
        intro v1 v2 j h1 h2
        rw [Below.heap_setCell _ _ _ _ (by show j ≠ w.heap.size + 1; omega), Below.heap_setCell _ _ _ _ (by show j ≠ w.heap.size + 1; omega)]
      refine bodyPost_ret (v := .tuple #[.agg #[.int .i64 (zn : Int), .slice (some ⟨g, 0, none⟩) vn vc], .bool true]) (by simp [results, Try.results41, go_sem, r0, r1, r0', r1']) rfl ⟨some ⟨g, 0, none⟩, vn, vc, _, _, rfl, HLen.out, ((HS.out.kept (hK _ _)).lo_mono (by omega)).hi_mono (by simp [World.setCell]), (HB7.out.setCell (by show _ ≤ _; simp) _).setCell (by show _ ≤ _; simp) _⟩

theorem specReverseArgs (lo hi : Nat) (z : Int) (ao : Option Addr) (c n : Nat) (fs : List OpD) (op : Int) (w : World) (hv : OView w lo hi ao n fs) (hhi : hi ≤ w.heap.size) (hs : ∀ (j : Nat) (f : OpD), fs[j]? = some f → f.2.length ≤ maxLen) (wz : (Lit.int .i64 op).wf = true) :
    Calls Try.prog 41 #[.agg #[.int .i64 z, .slice ao n c], .int .i64 op] w fun e w' => ResA w w' (valReverseArgs z fs op).1 (valReverseArgs z fs op).2.1 (valReverseArgs z fs op).2.2 e := by
  cases h : takesB z fs op with
  | true =>
    obtain ⟨k, f, rfl, hkl, hf, hfo⟩ := takes_get h
    rw [show valReverseArgs z fs (k : Int) = (z, fs.set k (f.1, revT z f), true) by simp [valReverseArgs, h, opD_get hf]]
    exact srev_yes lo hi z ao c n fs k f w hv hhi hs (takes_of h).1 hf
  | false =>
    rw [show valReverseArgs z fs op = (0, [], false) by simp [valReverseArgs, h]]
    refine (srev_no lo hi z ao c n fs op w hv hhi hs h).mono fun e w' ⟨he, hb⟩ => ?_
    exact ⟨none, 0, 0, fun _ => 0, fun _ => 0, he, rfl, OwnsOps.nil _ _ _ _ _ _, hb⟩

end Go.Proofs.Ythgggoodceogkaa
