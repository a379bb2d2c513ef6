/-
  Contract: impl.ReverseArgs. Conditions: the bounds that each theorem names.
-/
import Derived.Test.YthgggoodceogkaaIdx
import Derived.Test.YthgggoodceogkaaRev
import Derived.Deep.RegionHeld3
import Derived.Deep.DrawnRows
namespace Go.Proofs.Ythgggoodceogkaa
open Go.RowKit
set_option linter.unusedVariables false
set_option linter.unusedSimpArgs false
attribute [local go_sem ↓] Go.wp_at_zero Go.wp_at_succ

set_option maxHeartbeats 400000 in
theorem irev_no (lo hi : Nat) (z : Int) (ao : Option Addr) (c n : Nat) (fs : List OpD) (op : Int) (w : World) (hv : OView w lo hi ao n fs) (hhi : hi ≤ w.heap.size) (hs : ∀ (j : Nat) (f : OpD), fs[j]? = some f → f.2.length ≤ maxLen) (hno : takesB z fs op = false) :
    Calls Try.prog 42 #[.agg #[.int .i64 z, .slice ao n c], .int .i64 op] w fun e w' => e = .returned (.tuple #[.agg #[.int .i64 0, .slice none 0 0], .bool false]) ∧ Below w.heap.size w w' := by
  have hB := below_then (below_alloc w (.cells #[.int .i64 z, .slice ao n c] 29)) (below_alloc _ (.cells #[.int .i64 0, .slice none 0 0] 29))
  have HB := Lib.hid hB
  have HC := Lib.hid (opOf_no lo hi z ao c n fs op _ (hv.kept (Kept.of_below hB hhi)) (Nat.le_trans hhi hB.size) hs hno)
  clear hB hs hv hno
  go_enter Try.func42, Try.ntmps42
  go_wp2_with fail
  refine HC.out.mono ?_
  rintro e w1 ⟨rfl, b1⟩
  obtain ⟨hcc, hff⟩ := bcell b1
  have hz : w.heap.size + 1 < w1.heap.size := by have := b1.size; simp at this; omega
  have HB1 := Lib.hid (HB.out.trans (b1.mono HB.out.size))
  clear b1
  go_wp2_with fail
  refine bodyPost_ret (v := .tuple #[.agg #[.int .i64 0, .slice none 0 0], .bool false]) (by simp [results, Try.results42, go_sem, hcc, hz]) rfl ⟨rfl, ((HB1.out.setCell (by show _ ≤ _; simp) _).setCell (by show _ ≤ _; simp) _).alloc (by have := HB1.out.size; simpa [World.setCell] using this) _⟩

theorem keep_set {w : World} {a b : Addr} {u v : Value} (h : w.cell? b = some v) (hne : a.block ≠ b.block) : (w.setCell a u).drew.cell? b = some v :=
  (show (w.setCell a u).drew.cell? b = (w.setCell a u).cell? b from rfl).trans ((World.cell?_setCell_other _ _ _ _ (fun e => hne (by rw [e]))).trans h)

set_option maxRecDepth 100000 in
set_option maxHeartbeats 4000000 in
theorem irev_yes (lo hi : Nat) (z : Int) (ao : Option Addr) (c n : Nat) (fs : List OpD) (k : Nat) (f : OpD) (w : World) (hv : OView w lo hi ao n fs) (hhi : hi ≤ w.heap.size) (hs : ∀ (j : Nat) (f : OpD), fs[j]? = some f → f.2.length ≤ maxLen) (hok : algOkB z fs = true) (hf : fs[k]? = some f) :
    Calls Try.prog 42 #[.agg #[.int .i64 z, .slice ao n c], .int .i64 (k : Int)] w fun e w' => ResA w w' z (fs.set k (f.1, revT z f)) true e := by
  obtain ⟨⟨z1, z2⟩, hn4, hall⟩ := algOkB_of hok
  have hfo := hall f (List.mem_of_getElem? hf)
  obtain ⟨zn, m, rfl, har, hz1, hz2, hm3, ht1, ht2⟩ := op_nat z1 z2 hfo
  have hfl := hv.1
  have hkl : k < n := by rw [← hfl]; exact (List.getElem?_eq_some_iff.1 hf).1
  have hn4' : n ≤ 4 := by omega
  have hB := below_then (below_alloc w (.cells #[.int .i64 (zn : Int), .slice ao n c] 29)) (below_alloc _ (.cells #[.int .i64 0, .slice none 0 0] 29))
  have HB := Lib.hid hB
  have HC := Lib.hid (opOf_yes lo hi (zn : Int) ao c n fs k f _ (hv.kept (Kept.of_below hB hhi)) (Nat.le_trans hhi hB.size) hs hok hf)
  have HCp := Lib.hid (fun (W : World) (hW : Below w.heap.size w W) => copyAlg_any lo hi (zn : Int) ao c n fs W (hv.kept (Kept.of_below hW hhi)) (Nat.le_trans hhi hW.size) hn4' (fun j g hg => table_le hok (List.mem_of_getElem? hg)))
  have hTab := fun (i : Nat) => atA_row (xs := (digs (zn : Int) m (i : Int)).reverse) z1 hfo har (by rw [List.length_reverse, digs_len]) (allIn_rev (digs_in z1 m (i : Int)))
  have hRev := fun (i : Nat) (h : i < f.2.length) => revT_get (z := (zn : Int)) h
  rw [har, Int.toNat_natCast] at hRev
  have HTab := Lib.hid hTab
  have HRev := Lib.hid hRev
  have HAr := Lib.hid har
  have HF := Lib.hid hf
  have HFl := Lib.hid hfl
  have HRl := Lib.hid (revT_len (zn : Int) f)
  obtain ⟨tn, htn⟩ : ∃ tn, tn = f.2.length := ⟨_, rfl⟩
  rw [← htn] at ht1 ht2
  have HTn := Lib.hid htn
  unfold ResA
  clear hB hs hv hok hf hall hfo har hfl hTab hRev htn
  go_enter Try.func42, Try.ntmps42
  go_wp2_with fail
  refine HC.out.mono ?_
  rintro e w1 ⟨ta, tm, tc, rfl, hm1, hm2, hm3', hvt, b1⟩
  obtain rfl : tm = tn := hm1.trans HTn.out.symm
  rw [HAr.out]
  have hsz1 : w.heap.size + 1 < w1.heap.size := by have := b1.size; simp at this; omega
  have HB1 := Lib.hid ((HB.out.trans (b1.mono HB.out.size)).alloc (Nat.le_trans HB.out.size b1.size) (.cells #[.int .i64 (m : Int), .slice ta tm tc] 56))
  have cz : (w1.alloc (.cells #[.int .i64 (m : Int), .slice ta tm tc] 56)).cell? ⟨w.heap.size, 0, none⟩ = some (.int .i64 (zn : Int)) := (World.cell?_alloc_lt w1 _ ⟨w.heap.size, 0, none⟩ (by show w.heap.size < _; omega)).trans ((b1.cell (p := ⟨w.heap.size, 0, none⟩) (by simp; omega)).trans (by go_simp))
  have ca : (w1.alloc (.cells #[.int .i64 (m : Int), .slice ta tm tc] 56)).cell? ⟨w.heap.size, 1, none⟩ = some (.slice ao n c) := (World.cell?_alloc_lt w1 _ ⟨w.heap.size, 1, none⟩ (by show w.heap.size < _; omega)).trans ((b1.cell (p := ⟨w.heap.size, 1, none⟩) (by simp; omega)).trans (by go_simp))
  have hR1 : Hid ((w1.alloc (.cells #[.int .i64 (m : Int), .slice ta tm tc] 56)).heap[w.heap.size + 1]? = some (.cells #[.int .i64 0, .slice none 0 0] 29 (0, 0))) := by
    unfold Hid
    rw [Below.heap_alloc _ _ _ (by omega), b1.block _ (by simp)]
    have h := heap_alloc_new (w.alloc (.cells #[.int .i64 (zn : Int), .slice ao n c] 29)) (.cells #[.int .i64 0, .slice none 0 0] 29)
    rw [World.size_alloc] at h
    exact h
  obtain ⟨bt, ot, rfl, hbl, hbt, hct⟩ := hvt.at_ (by omega)
  have HVt := Lib.hid (hvt.kept (Kept.of_below (below_alloc w1 (.cells #[.int .i64 (m : Int), .slice (some ⟨bt, ot, none⟩) tm tc] 56)) (Nat.le_trans hhi (Nat.le_trans (by have := HB.out.size; exact this) b1.size))))
  clear b1 hm1 hct hvt
  go_wp2_with fail
  refine (HCp.out _ HB1.out).mono ?_
  rintro e w2 ⟨va, vn, vc, G, C, rfl, hvn, ho2, b2⟩
  obtain rfl : vn = n := hvn.trans HFl.out
  have hsz2 : w1.heap.size < w2.heap.size := by have := b2.size; simp at this; omega
  have ez : w2.cell? ⟨w.heap.size, 0, none⟩ = some (.int .i64 (zn : Int)) := cell_b b2 cz
  have ea : w2.cell? ⟨w.heap.size, 1, none⟩ = some (.slice ao vn c) := cell_b b2 ca
  have ef0 : w2.cell? ⟨w1.heap.size, 0, none⟩ = some (.int .i64 (m : Int)) := cell_b b2 (by simp)
  have ef1 : w2.cell? ⟨w1.heap.size, 1, none⟩ = some (.slice (some ⟨bt, ot, none⟩) tm tc) := cell_b b2 (by simp)
  have HR2 : Hid (w2.heap[w.heap.size + 1]? = some (.cells #[.int .i64 0, .slice none 0 0] 29 (0, 0))) := (b2.block _ (by simp; omega)).trans hR1.out
  have HB2 := Lib.hid (HB1.out.trans (b2.mono HB1.out.size))
  have HVt2 := Lib.hid (HVt.out.kept (Kept.of_below b2 (Nat.le_trans hhi HB1.out.size)))
  obtain ⟨g, rfl⟩ : ∃ g, va = some ⟨g, 0, none⟩ := by
    rcases ho2.row.2 with ⟨h, h0⟩ | ⟨g, cap, _, h, _⟩
    · omega
    · exact ⟨g, by injection h⟩
  have ho2' := ho2
  simp only [World.size_alloc] at ho2'
  have HO2 : Hid (OwnsOps (w2.alloc (.cells #[.int .i64 (zn : Int), .slice (some ⟨g, 0, none⟩) vn vc] 29)) (w1.heap.size + 1) w2.heap.size (.slice (some ⟨g, 0, none⟩) vn vc) vn G C (upd (fun j => fs.getD j (0, [])) k ((m : Int), mixL (revT (zn : Int) f) f.2 0))) := by
    unfold Hid
    rw [mixL_zero, upd_self (by rw [getD_op HF.out, ← HAr.out])]
    exact ho2'.kept (Kept.of_below (below_alloc _ _) (Nat.le_refl _))
  have hgk := fun j (hj : j < vn) => ho2'.lt j hj
  have hgr := ho2'.rowlt g rfl
  clear b2 ho2 ho2' hvn cz ca HVt hR1
  go_wp2_with fail
  have HB3 := Lib.hid (HB2.out.alloc HB2.out.size (.cells #[.int .i64 (zn : Int), .slice (some ⟨g, 0, none⟩) vn vc] 29))
  have HBox : Hid ((w2.alloc (.cells #[.int .i64 (zn : Int), .slice (some ⟨g, 0, none⟩) vn vc] 29)).heap[w2.heap.size]? = some (.cells #[.int .i64 (zn : Int), .slice (some ⟨g, 0, none⟩) vn vc] 29 (0, 0))) := heap_alloc_new _ _
  have HR3 : Hid ((w2.alloc (.cells #[.int .i64 (zn : Int), .slice (some ⟨g, 0, none⟩) vn vc] 29)).heap[w.heap.size + 1]? = some (.cells #[.int .i64 0, .slice none 0 0] 29 (0, 0))) := (Below.heap_alloc _ _ _ (by omega)).trans HR2.out
  have fz := cell_b (below_alloc w2 (.cells #[.int .i64 (zn : Int), .slice (some ⟨g, 0, none⟩) vn vc] 29)) ez
  have ff0 := cell_b (below_alloc w2 (.cells #[.int .i64 (zn : Int), .slice (some ⟨g, 0, none⟩) vn vc] 29)) ef0
  have ff1 := cell_b (below_alloc w2 (.cells #[.int .i64 (zn : Int), .slice (some ⟨g, 0, none⟩) vn vc] 29)) ef1
  have HVt3 := Lib.hid (HVt2.out.kept (Kept.of_below (below_alloc w2 (.cells #[.int .i64 (zn : Int), .slice (some ⟨g, 0, none⟩) vn vc] 29)) (Nat.le_trans hhi HB2.out.size)))
  clear ez ea ef0 ef1 HR2 HVt2
  go_loopw [9, 10, 25] (fun s9 s10 i wr => ∃ q : Nat, q ≤ tm ∧ i = .int .i64 (q : Int) ∧ Hid (OwnsOps wr (w1.heap.size + 1) w2.heap.size (.slice (some ⟨g, 0, none⟩) vn vc) vn G C (upd (fun j => fs.getD j (0, [])) k ((m : Int), mixL (revT (zn : Int) f) f.2 q))) ∧ Hid (wr.heap[w2.heap.size]? = some (.cells #[.int .i64 (zn : Int), .slice (some ⟨g, 0, none⟩) vn vc] 29 (0, 0))) ∧ Hid (wr.heap[w.heap.size + 1]? = some (.cells #[.int .i64 0, .slice none 0 0] 29 (0, 0))) ∧ wr.cell? ⟨w.heap.size, 0, none⟩ = some (.int .i64 (zn : Int)) ∧ wr.cell? ⟨w1.heap.size, 0, none⟩ = some (.int .i64 (m : Int)) ∧ wr.cell? ⟨w1.heap.size, 1, none⟩ = some (.slice (some ⟨bt, ot, none⟩) tm tc) ∧ Hid (IView wr lo hi (some ⟨bt, ot, none⟩) tm f.2) ∧ Hid (Below w.heap.size w wr) ∧ w2.heap.size < wr.heap.size) (fun _ _ i _ => tm - (intOf i).toNat)
  case atStart => exact ⟨0, Nat.zero_le _, rfl, HO2, HBox, HR3, fz, ff0, ff1, HVt3, HB3, by simp⟩
  case round =>
    obtain ⟨q, hq, rfl, HO, HX, HR, dz, d0, d1, HVq, HBr, hsr⟩ := hrel
    clear fz ff0 ff1 HO2 HBox HR3 HVt3
    by_cases hlt : q < tm
    · have hA := argsImpl_any (zn : Int) (q : Int) m hm3 wr z1 z2 (by omega) (by omega)
      have HA := Lib.hid hA
      clear hA
      go_wp2_with fail
      refine HA.out.mono ?_
      rintro e w3 ⟨rfl, hw3⟩
      have hblk : w3.heap[wr.heap.size]? = some (.cells (digsArr (zn : Int) m (q : Int)) 3 (0, 0)) := by rw [hw3]; exact heap_alloc_new _ _
      have b3 : Below wr.heap.size wr w3 := by rw [hw3]; exact below_alloc _ _
      have HRv := Lib.hid (rev_any wr.heap.size m (digs (zn : Int) m (q : Int)) w3 _ hblk (digs_len _ _ _) hm3)
      have B3 := Lib.hid b3
      clear hw3 hblk b3
      go_wp2_with fail
      refine HRv.out.mono ?_
      rintro e w4 ⟨rfl, hv4, b4⟩
      have b5 : Below wr.heap.size wr w4 := B3.out.trans b4
      have hsz5 := b5.size
      obtain ⟨i, hi, hil, hiv⟩ := HTab.out q
      obtain ⟨v, hv⟩ : ∃ v, atA (zn : Int) f (digs (zn : Int) m (q : Int)).reverse = v := ⟨_, rfl⟩
      rw [hv] at hiv
      obtain ⟨_, _, hbeq, hb1, hb2, hct⟩ := HVq.out.at_ (by omega)
      injection hbeq with hbeq
      injection hbeq with h1 h2 _
      subst h1 h2
      have ct := hct i v hiv
      have HO4 := HO.out.kept (Kept.of_below b5 (Nat.le_of_lt hsr))
      obtain ⟨x0, x1, _⟩ := box_cells ((b5.block _ hsr).trans HX.out)
      have hrowc : w4.cell? ⟨g, k * 2 + 1, none⟩ = some (.slice (some ⟨G k, 0, none⟩) tm (C k)) := by
        have h := HO4.row.cellAt (k * 2 + 1) (by omega)
        rw [h, (flatN_get hkl).2, upd_same]
        simp only [mixL_len HRl.out, ← HTn.out]
      have htabk := HO4.tab k hkl
      rw [upd_same] at htabk
      simp only [mixL_len HRl.out, ← HTn.out] at htabk
      obtain ⟨u, hu⟩ : ∃ u, w4.cell? ⟨G k, q, none⟩ = some u := by
        rw [htabk.cellAt q (by omega)]
        have hl1 := htabk.1
        exact ⟨_, List.getElem?_eq_getElem (by omega)⟩
      have hfr := htabk.frozenAt q
      have hIx := fun (W : World) (hW : Below w4.heap.size w4 W) => idx_impl _ _ (zn : Int) _ m m _ W (hv4.kept (Kept.of_below hW (Nat.le_refl _))) z1 z2 (allIn_rev (digs_in z1 m (q : Int))) hm3
      simp only [hi] at hIx
      have HIx := Lib.hid hIx
      have yz : w4.cell? ⟨w.heap.size, 0, none⟩ = some (.int .i64 (zn : Int)) := cell_b b5 dz
      have y0 : w4.cell? ⟨w1.heap.size, 0, none⟩ = some (.int .i64 (m : Int)) := cell_b b5 d0
      have y1 : w4.cell? ⟨w1.heap.size, 1, none⟩ = some (.slice (some ⟨bt, ot, none⟩) tm tc) := cell_b b5 d1
      have yt : w4.cell? ⟨bt, ot + i, none⟩ = some (.int .i64 v) := cell_b b5 ct
      have hitm : (i : Int) < (tm : Int) := by have := HTn.out; omega
      have hqtm : (q : Int) < (tm : Int) := by omega
      have hknn : (k : Int) < (vn : Int) := by omega
      have HO5 := Lib.hid HO4
      have HB5 := Lib.hid b5
      have HV5 := Lib.hid (HVq.out.kept (Kept.of_below b5 (Nat.le_trans hhi HBr.out.size)))
      have HQ : Hid ((revT (zn : Int) f)[q]? = some v) := by rw [← hv]; exact HRev.out q (by have := HTn.out; omega)
      have hw0 : Below w4.heap.size w4 w4.drew := below_drew _
      have hgkb := hgk k hkl
      have hgkl := (htabk.lt (G k) rfl).1
      have hgne := row_ne HO4.row (HO4.tab k hkl) (by decide)
      have hgne2 : g ≠ G k := fun e => hgne (by show some g = some (G k); rw [e])
      have hKS : ∀ (u : Value), (w4.setCell ⟨G k, q, none⟩ u).drew.cell? ⟨w2.heap.size, 1, none⟩ = some (.slice (some ⟨g, 0, none⟩) vn vc) ∧ (w4.setCell ⟨G k, q, none⟩ u).drew.cell? ⟨g, k * 2 + 1, none⟩ = some (.slice (some ⟨G k, 0, none⟩) tm (C k)) ∧ (w4.setCell ⟨G k, q, none⟩ u).drew.cell? ⟨w1.heap.size, 1, none⟩ = some (.slice (some ⟨bt, ot, none⟩) tm tc) ∧ (w4.setCell ⟨G k, q, none⟩ u).drew.cell? ⟨w.heap.size, 0, none⟩ = some (.int .i64 (zn : Int)) ∧ (w4.setCell ⟨G k, q, none⟩ u).drew.cell? ⟨bt, ot + i, none⟩ = some (.int .i64 v) := fun u =>
        ⟨keep_set x1 (by show G k ≠ w2.heap.size; omega), keep_set hrowc (by show G k ≠ g; exact fun e => hgne2 e.symm), keep_set y1 (by show G k ≠ w1.heap.size; omega), keep_set yz (by show G k ≠ w.heap.size; omega), keep_set yt (by show G k ≠ bt; omega)⟩
      have HKS := Lib.hid hKS
      clear hKS hgkb hgkl hgne hgne2
      clear hIx hi hil hiv hct ct HO4 htabk b4 b5 hv4 hv dz d0 d1
      go_wp2_with fail
      go_region_held3 (fun w' => w'.cell? ⟨w2.heap.size, 1, none⟩ = some (.slice (some ⟨g, 0, none⟩) vn vc) ∧ w'.cell? ⟨g, k * 2 + 1, none⟩ = some (.slice (some ⟨G k, 0, none⟩) tm (C k)) ∧ w'.cell? ⟨w1.heap.size, 1, none⟩ = some (.slice (some ⟨bt, ot, none⟩) tm tc) ∧ w'.cell? ⟨w.heap.size, 0, none⟩ = some (.int .i64 (zn : Int)) ∧ w'.cell? ⟨bt, ot + i, none⟩ = some (.int .i64 v)) (first | (exact HKS.out _) | go_keep) ((go_at_call 61; refine (HIx.out _ ?_).mono ?_; exact below_drew _; rintro e w6 ⟨rfl, rfl⟩))
      all_goals
        have HO6 : Hid (OwnsOps (w4.setCell ⟨G k, q, none⟩ (.int .i64 v)).drew (w1.heap.size + 1) w2.heap.size (.slice (some ⟨g, 0, none⟩) vn vc) vn G C (upd (fun j => fs.getD j (0, [])) k ((m : Int), mixL (revT (zn : Int) f) f.2 (q + 1)))) := by
          have h := (HO5.out.setTab (i := q) v hkl).kept (w' := (w4.setCell ⟨G k, q, none⟩ (.int .i64 v)).drew) (fun _ _ _ => rfl)
          rw [upd_same, upd_upd] at h
          simp only [mixL_set HRl.out (show q < f.2.length by have := HTn.out; omega) HQ.out] at h
          exact h
        have hGk := hgk k hkl
        have hGl := ((HO5.out.tab k hkl).lt (G k) rfl).1
        have hbs := HBr.out.size
        have hfar : ∀ b, b ≠ G k → b < wr.heap.size → (w4.setCell ⟨G k, q, none⟩ (.int .i64 v)).drew.heap[b]? = wr.heap[b]? := fun b hb1 hb2 => by
          show (w4.setCell ⟨G k, q, none⟩ (.int .i64 v)).heap[b]? = wr.heap[b]?
          rw [Below.heap_setCell _ _ _ _ (by show b ≠ G k; omega), HB5.out.block b hb2]
        have HX6 : Hid ((w4.setCell ⟨G k, q, none⟩ (.int .i64 v)).drew.heap[w2.heap.size]? = some (.cells #[.int .i64 (zn : Int), .slice (some ⟨g, 0, none⟩) vn vc] 29 (0, 0))) := (hfar _ (by omega) hsr).trans HX.out
        have HR6 : Hid ((w4.setCell ⟨G k, q, none⟩ (.int .i64 v)).drew.heap[w.heap.size + 1]? = some (.cells #[.int .i64 0, .slice none 0 0] 29 (0, 0))) := (hfar _ (by omega) (by omega)).trans HR.out
        have HV6 : Hid (IView (w4.setCell ⟨G k, q, none⟩ (.int .i64 v)).drew lo hi (some ⟨bt, ot, none⟩) tm f.2) := HVq.out.kept fun b _ h2 => hfar b (by omega) (by omega)
        have HB6 : Hid (Below w.heap.size w (w4.setCell ⟨G k, q, none⟩ (.int .i64 v)).drew) := ((HBr.out.trans (HB5.out.mono hbs)).setCell (by show w.heap.size ≤ G k; omega) _).drew
        have hs6 : w2.heap.size < (w4.setCell ⟨G k, q, none⟩ (.int .i64 v)).drew.heap.size := by
          show w2.heap.size < (w4.setCell ⟨G k, q, none⟩ (.int .i64 v)).heap.size
          simp [World.setCell]; omega
        have z6 : (w4.setCell ⟨G k, q, none⟩ (.int .i64 v)).drew.cell? ⟨w.heap.size, 0, none⟩ = some (.int .i64 (zn : Int)) := keep_set yz (by show G k ≠ w.heap.size; omega)
        have f6 : (w4.setCell ⟨G k, q, none⟩ (.int .i64 v)).drew.cell? ⟨w1.heap.size, 0, none⟩ = some (.int .i64 (m : Int)) := keep_set y0 (by show G k ≠ w1.heap.size; omega)
        have g6 : (w4.setCell ⟨G k, q, none⟩ (.int .i64 v)).drew.cell? ⟨w1.heap.size, 1, none⟩ = some (.slice (some ⟨bt, ot, none⟩) tm tc) := keep_set y1 (by show G k ≠ w1.heap.size; omega)
        obtain ⟨w6, hw6⟩ : ∃ w6, w6 = (w4.setCell ⟨G k, q, none⟩ (.int .i64 v)).drew := ⟨_, rfl⟩
        rw [← hw6] at HO6 HX6 HR6 HV6 HB6 hs6 z6 f6 g6 ⊢
        clear hw6 hfar hw0 yz y0 y1 yt x0 x1 hrowc hu hfr HKS
        go_wp2_with fail
        go_roundw
        case rel => exact ⟨q + 1, by omega, by go_num, HO6, HX6, HR6, z6, f6, g6, HV6, HB6, hs6⟩
        case measure => simp [intOf]; omega
    · obtain rfl : q = tm := by omega
      obtain ⟨x0, x1, _⟩ := box_cells HX.out
      obtain ⟨r0, r1, rf⟩ := box_cells HR.out
      have HOe := Lib.hid (HO.out.congr (G' := G) (C' := C) (F' := fun j => (fs.set k (f.1, revT (zn : Int) f)).getD j (0, [])) fun j hj => ⟨rfl, rfl, by rw [mixL_all HRl.out (by have := HTn.out; omega), upd_set (by have := HFl.out; omega), HAr.out]⟩)
      have HLen : Hid (vn = (fs.set k (f.1, revT (zn : Int) f)).length) := by unfold Hid; rw [List.length_set]; exact HFl.out.symm
      go_wp2_with fail
      have hK : ∀ (v1 v2 : Value), Kept (w1.heap.size + 1) w2.heap.size wr ((wr.setCell ⟨w.heap.size + 1, 0, none⟩ v1).setCell ⟨w.heap.size + 1, 1, none⟩ v2) := by
        intro v1 v2 q h1 h2
        rw [Below.heap_setCell _ _ _ _ (by show q ≠ w.heap.size + 1; omega), Below.heap_setCell _ _ _ _ (by show q ≠ w.heap.size + 1; omega)]
      refine bodyPost_ret (v := .tuple #[.agg #[.int .i64 (zn : Int), .slice (some ⟨g, 0, none⟩) vn vc], .bool true]) (by simp [results, Try.results42, go_sem, r0, r1]) rfl ⟨some ⟨g, 0, none⟩, vn, vc, G, C, rfl, HLen.out, ((HOe.out.kept (hK _ _)).lo_mono (by omega)).hi_mono (by simp [World.setCell]; omega), (HBr.out.setCell (by show _ ≤ _; simp) _).setCell (by show _ ≤ _; simp) _⟩

theorem implReverseArgs (lo hi : Nat) (z : Int) (ao : Option Addr) (c n : Nat) (fs : List OpD) (op : Int) (w : World) (hv : OView w lo hi ao n fs) (hhi : hi ≤ w.heap.size) (hs : ∀ (j : Nat) (f : OpD), fs[j]? = some f → f.2.length ≤ maxLen) (wz : (Lit.int .i64 op).wf = true) :
    Calls Try.prog 42 #[.agg #[.int .i64 z, .slice ao n c], .int .i64 op] w fun e w' => ResA w w' (valReverseArgs z fs op).1 (valReverseArgs z fs op).2.1 (valReverseArgs z fs op).2.2 e := by
  cases h : takesB z fs op with
  | true =>
    obtain ⟨k, f, rfl, hkl, hf, hfo⟩ := takes_get h
    rw [show valReverseArgs z fs (k : Int) = (z, fs.set k (f.1, revT z f), true) by simp [valReverseArgs, h, opD_get hf]]
    exact irev_yes lo hi z ao c n fs k f w hv hhi hs (takes_of h).1 hf
  | false =>
    rw [show valReverseArgs z fs op = (0, [], false) by simp [valReverseArgs, h]]
    refine (irev_no lo hi z ao c n fs op w hv hhi hs h).mono fun e w' ⟨he, hb⟩ => ?_
    exact ⟨none, 0, 0, fun _ => 0, fun _ => 0, he, rfl, OwnsOps.nil _ _ _ _ _ _, hb⟩

end Go.Proofs.Ythgggoodceogkaa
