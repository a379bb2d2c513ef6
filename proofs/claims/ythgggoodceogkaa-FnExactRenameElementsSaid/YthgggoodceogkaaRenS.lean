/-
  Contract: spec.l2Rename. Conditions: the bounds that each theorem names.
-/
import Derived.Test.YthgggoodceogkaaRenJ
import Derived.Test.YthgggoodceogkaaMake
namespace Go.Proofs.Ythgggoodceogkaa
open Go.RowKit
set_option linter.unusedVariables false
set_option linter.unusedSimpArgs false
attribute [local go_sem ↓] Go.wp_at_zero Go.wp_at_succ

theorem World.grownBy_setCell_far (w : World) (p : Addr) (u : Value) : w.grownBy (w.setCell p u) (some p.block) :=
  ⟨rfl, rfl, rfl, by simp [World.setCell], fun k hk hne => Below.heap_setCell _ _ _ _ (by show k ≠ p.block; exact fun e => hne (by rw [e]))⟩
theorem keep_set2 {w : World} {a a' b : Addr} {u u' v : Value} (h : w.cell? b = some v) (hne : a.block ≠ b.block) (hne' : a'.block ≠ b.block) : ((w.setCell a u).setCell a' u').cell? b = some v :=
  (World.cell?_setCell_other _ _ _ _ (fun e => hne' (by rw [e]))).trans ((World.cell?_setCell_other _ _ _ _ (fun e => hne (by rw [e]))).trans h)

/-- A new operation, its table all zeros: the box and the table in blocks of their own. -/
def Fresh (wr W : World) (m tm ob tb : Nat) : Prop :=
  W.heap[ob]? = some (.cells #[.int .i64 (m : Int), .slice (some ⟨tb, 0, none⟩) tm tm] 56 (0, 0)) ∧ W.ownsRow wr.heap.size 3 1 (.slice (some ⟨tb, 0, none⟩) tm tm) tm ((List.replicate tm (0 : Int)).map (Value.int .i64)) ∧ Below wr.heap.size wr W ∧ wr.heap.size ≤ ob ∧ wr.heap.size ≤ tb ∧ ob ≠ tb ∧ ob < W.heap.size
theorem box_set01 {w : World} {B : Nat} {a b u v : Value} {ty : TypeId} (h : w.heap[B]? = some (.cells #[a, b] ty (0, 0))) : ((w.setCell ⟨B, 0, none⟩ u).setCell ⟨B, 1, none⟩ v).heap[B]? = some (.cells #[u, v] ty (0, 0)) := by
  simp [World.setCell, Array.getElem?_modify, h]

set_option maxRecDepth 100000 in
set_option maxHeartbeats 4000000 in
theorem l2Rename_any (lo hi : Nat) (z : Int) (ao : Option Addr) (c n : Nat) (fs : List OpD) (lo2 hi2 : Nat) (bo : Option Addr) (d nn : Nat) (xs : List Int) (w : World) (hv : OView w lo hi ao n fs) (hhi : hi ≤ w.heap.size)
    (hx : IView w lo2 hi2 bo nn xs) (hhi2 : hi2 ≤ w.heap.size) (hok : algOkB z fs = true) (hpm : permB z xs = true) :
    Calls Try.prog 78 #[.agg #[.int .i64 z, .slice ao n c], .slice bo nn d] w fun e w' => ResB w w' z (fs.map (renT z xs)) e := by
  obtain ⟨⟨z1, z2⟩, hn4, hall⟩ := algOkB_of hok
  obtain ⟨hpl, hpa, _⟩ := permB_of hpm
  obtain ⟨zn, rfl⟩ : ∃ zn : Nat, z = (zn : Int) := ⟨z.toNat, by omega⟩
  have hfl := hv.1
  have hxl := hx.1
  obtain rfl : nn = zn := by omega
  have hn4' : n ≤ 4 := by omega
  have HV := Lib.hid hv
  have HOk := Lib.hid (And.intro hok hpm)
  have HFl := Lib.hid hfl
  obtain ⟨b3, o3, rfl, _, hb3, hcx⟩ := hx.at_ (by omega)
  have HCx := Lib.hid hcx
  have hnn1 : 1 ≤ nn := by omega
  have hnn8 : nn ≤ 8 := by omega
  obtain ⟨i0, hi0, hy0, hy1, hy2⟩ := info_parts Try.infoOp
  obtain ⟨j0, hj0, hq0, hq1, hq2⟩ := info_parts Try.infoInt
  have hB := (((Below.refl w.heap.size w).alloc (Nat.le_refl _) (.cells #[.int .i64 (nn : Int), .slice ao n c] 29)).alloc (by simp) (.cells #[.int .i64 0, .slice none 0 0] 29)).alloc (by simp; omega) (.cells #[.int .i64 (nn : Int), .slice none 0 0] 29)
  have HB2 := Lib.hid hB
  unfold ResB
  clear hv hok hpm hall hfl hxl hpl hpa hx hcx hn4 hB
  go_enter Try.func78, Try.ntmps78
  go_wp2_with fail
  have hR2 : Hid ((((w.alloc (.cells #[.int .i64 (nn : Int), .slice ao n c] 29)).alloc (.cells #[.int .i64 0, .slice none 0 0] 29)).alloc (.cells #[.int .i64 (nn : Int), .slice none 0 0] 29)).heap[w.heap.size + 1]? = some (.cells #[.int .i64 0, .slice none 0 0] 29 (0, 0))) := by
    unfold Hid
    rw [Below.heap_alloc _ _ _ (by simp)]
    have h := heap_alloc_new (w.alloc (.cells #[.int .i64 (nn : Int), .slice ao n c] 29)) (.cells #[.int .i64 0, .slice none 0 0] 29)
    rw [World.size_alloc] at h
    exact h
  have hO2 : Hid ((((w.alloc (.cells #[.int .i64 (nn : Int), .slice ao n c] 29)).alloc (.cells #[.int .i64 0, .slice none 0 0] 29)).alloc (.cells #[.int .i64 (nn : Int), .slice none 0 0] 29)).heap[w.heap.size + 1 + 1]? = some (.cells #[.int .i64 (nn : Int), .slice none 0 0] 29 (0, 0))) := by
    have h := heap_alloc_new ((w.alloc (.cells #[.int .i64 (nn : Int), .slice ao n c] 29)).alloc (.cells #[.int .i64 0, .slice none 0 0] 29)) (.cells #[.int .i64 (nn : Int), .slice none 0 0] 29)
    rw [World.size_alloc, World.size_alloc] at h
    exact h
  have ca2 : (((w.alloc (.cells #[.int .i64 (nn : Int), .slice ao n c] 29)).alloc (.cells #[.int .i64 0, .slice none 0 0] 29)).alloc (.cells #[.int .i64 (nn : Int), .slice none 0 0] 29)).cell? ⟨w.heap.size, 1, none⟩ = some (.slice ao n c) := by go_simp
  have cz2 : (((w.alloc (.cells #[.int .i64 (nn : Int), .slice ao n c] 29)).alloc (.cells #[.int .i64 0, .slice none 0 0] 29)).alloc (.cells #[.int .i64 (nn : Int), .slice none 0 0] 29)).cell? ⟨w.heap.size, 0, none⟩ = some (.int .i64 (nn : Int)) := by go_simp
  go_loopw [6, 7, 8, 9, 10, 11] (fun i s7 s8 s9 s10 s11 wr => ∃ (k : Nat) (v : Value), k ≤ n ∧ i = .int .i64 (k : Int) ∧ Hid (Built wr (w.heap.size + 1 + 1 + 1) v k (fun j => renT (nn : Int) xs (fs.getD j (0, [])))) ∧ Hid (wr.heap[w.heap.size + 1 + 1]? = some (.cells #[.int .i64 (nn : Int), v] 29 (0, 0))) ∧ Hid (wr.heap[w.heap.size + 1]? = some (.cells #[.int .i64 0, .slice none 0 0] 29 (0, 0))) ∧ wr.cell? ⟨w.heap.size, 1, none⟩ = some (.slice ao n c) ∧ wr.cell? ⟨w.heap.size, 0, none⟩ = some (.int .i64 (nn : Int)) ∧ Hid (Below w.heap.size w wr) ∧ w.heap.size + 1 + 1 < wr.heap.size) (fun i _ _ _ _ _ _ => n - (intOf i).toNat)
  case atStart => exact ⟨0, _, Nat.zero_le _, rfl, Built.nil _ _ _, hO2, hR2, ca2, cz2, HB2, by simp⟩
  case round =>
    obtain ⟨k, v, hk, rfl, HBu, HO, HR, da, dz, HBr, hsr⟩ := hrel
    clear ca2 cz2 hO2 hR2
    by_cases hlt : k < n
    · obtain ⟨wo, hwo⟩ : ∃ wo : World, wo = wr := ⟨_, rfl⟩
      rw [← hwo]
      rw [← hwo] at HBu HO HR da dz HBr hsr
      clear hwo
      obtain ⟨b2, o2, rfl, _, hb2, hc⟩ := HV.out.at_ (by omega)
      obtain ⟨f, hf⟩ := get_of_lt HV.out.1 hlt
      obtain ⟨ta, tm, tc, c0, c1, htm, htc, hvt⟩ := hc k f hf
      have hfo := (algOkB_of HOk.out.1).2.2 f (List.mem_of_getElem? hf)
      obtain ⟨m, har, hm3, ht1, ht2⟩ : ∃ m : Nat, f.1 = (m : Int) ∧ m ≤ 3 ∧ 1 ≤ f.2.length ∧ f.2.length ≤ 512 := by
        obtain ⟨_, m, _, h1, _, _, h2, h3, h4⟩ := op_nat (by omega) (by omega) hfo
        exact ⟨m, h1, h2, h3, h4⟩
      have hpw : ((f.2.length : Nat) : Int) = powI (nn : Int) m := by
        have := (opOkB_of hfo).2.1
        rw [har, Int.toNat_natCast] at this
        exact this
      have e0 : wo.cell? ⟨b2, o2 + k * 2, none⟩ = some (.int .i64 f.1) := cell_b HBr.out c0
      have e1 : wo.cell? ⟨b2, o2 + k * 2 + 1, none⟩ = some (.slice ta tm tc) := cell_b HBr.out c1
      rw [har] at e0
      have HAr := Lib.hid har
      have HF := Lib.hid hf
      have HPw := Lib.hid hpw
      have HTn := Lib.hid hvt.1
      rw [hvt.1] at ht1 ht2
      obtain ⟨bt, ot, rfl, _, hbt, hct⟩ := hvt.at_ (by omega)
      have HCt := Lib.hid hct
      have HAll := Lib.hid (opOkB_of hfo).2.2
      clear hc c0 c1 hf hfo har hpw hct hvt htm htc
      obtain ⟨w3, hr3, ho3, hg3⟩ := run_make_full (P := Try.prog) wo.drew wo.heap.size 33 3 j0 _ 1 Try.underlying33 hj0 hq0 hq1 .i64 .i64 tm (by rw [hq2]; omega) (by unfold maxLen; omega) (Nat.le_refl _)
      obtain ⟨w4, hr4, ho4, hg4⟩ := run_make_full (P := Try.prog) (wo.alloc (.cells #[.int .i64 0, .slice none 0 0] 56)).drew wo.heap.size 33 3 j0 _ 1 Try.underlying33 hj0 hq0 hq1 .i64 .i64 tm (by rw [hq2]; omega) (by unfold maxLen; omega) (by show wo.heap.size ≤ (wo.alloc _).heap.size; simp)
      simp only [World.size_alloc, World.size_drew] at hr3 ho3 hr4 ho4
      have b3 : Below wo.heap.size wo w3 := (Below.refl _ _).drew.grown hg3 (Nat.le_refl _) (by intro k hk; cases hk)
      have b4 : Below (wo.alloc (.cells #[.int .i64 0, .slice none 0 0] 56)).heap.size (wo.alloc (.cells #[.int .i64 0, .slice none 0 0] 56)) w4 := (Below.refl _ _).drew.grown hg4 (Nat.le_refl _) (by intro k hk; cases hk)
      have bd4 : Below wo.heap.size wo (wo.alloc (.cells #[.int .i64 0, .slice none 0 0] 56)) := below_alloc _ _
      have p0 : w3.cell? ⟨w.heap.size, 1, none⟩ = some (.slice (some ⟨b2, o2, none⟩) n c) := cell_b b3 da
      have p1 : w3.cell? ⟨b2, o2 + k * 2, none⟩ = some (.int .i64 (m : Int)) := cell_b b3 e0
      have p2 : w3.cell? ⟨b2, o2 + k * 2 + 1, none⟩ = some (.slice (some ⟨bt, ot, none⟩) tm tc) := cell_b b3 e1
      have q0 : w4.cell? ⟨w.heap.size, 1, none⟩ = some (.slice (some ⟨b2, o2, none⟩) n c) := cell_b b4 (cell_b bd4 da)
      have q1 : w4.cell? ⟨b2, o2 + k * 2, none⟩ = some (.int .i64 (m : Int)) := cell_b b4 (cell_b bd4 e0)
      have q2 : w4.cell? ⟨b2, o2 + k * 2 + 1, none⟩ = some (.slice (some ⟨bt, ot, none⟩) tm tc) := cell_b b4 (cell_b bd4 e1)
      have q3 : w4.cell? ⟨wo.heap.size, 0, none⟩ = some (.int .i64 0) := cell_b b4 (by simp)
      have q4 : w4.cell? ⟨wo.heap.size, 1, none⟩ = some (.slice none 0 0) := cell_b b4 (by simp)
      have q5 : w4.frozen? ⟨wo.heap.size, 0, none⟩ = false := (b4.frozen (p := ⟨wo.heap.size, 0, none⟩) (by simp)).trans (by simp)
      have q6 : w4.frozen? ⟨wo.heap.size, 1, none⟩ = false := (b4.frozen (p := ⟨wo.heap.size, 1, none⟩) (by simp)).trans (by simp)
      have hrw : ((List.replicate tm (0 : Int)).map (Value.int .i64)) = (madeCells (Value.int .i64 0).cells (tm * 1)).toList := by
        rw [show (Value.int .i64 0).cells = #[Value.int .i64 0] from rfl, Nat.mul_one, toList_madeCells_one, List.map_replicate]
      have HF3 : Hid (Fresh wo (w3.alloc (.cells #[.int .i64 (m : Int), .slice (some ⟨wo.heap.size, 0, none⟩) tm tm] 56)) m tm w3.heap.size wo.heap.size) :=
        ⟨heap_alloc_new _ _, by rw [hrw]; exact ho3.alloc _, b3.alloc b3.size _, b3.size, Nat.le_refl _, by have := (ho3.lt wo.heap.size rfl).2; omega, by simp⟩
      have HF4 : Hid (Fresh wo ((w4.setCell ⟨wo.heap.size, 0, none⟩ (.int .i64 (m : Int))).setCell ⟨wo.heap.size, 1, none⟩ (.slice (some ⟨wo.heap.size + 1, 0, none⟩) tm tm)) m tm wo.heap.size (wo.heap.size + 1)) := by
        refine ⟨box_set01 (a := .int .i64 0) (b := .slice none 0 0) ((b4.block _ (by simp)).trans (heap_alloc_new _ _)), ?_, ((below_alloc _ _).trans (b4.mono (by simp)) |>.setCell (by show wo.heap.size ≤ wo.heap.size; omega) _).setCell (by show wo.heap.size ≤ wo.heap.size; omega) _, Nat.le_refl _, by omega, by omega, ?_⟩
        · rw [hrw]
          have h1 := ho4.kept (World.grownBy_setCell_far w4 ⟨wo.heap.size, 0, none⟩ (.int .i64 (m : Int))) (.inr (by show some (wo.heap.size + 1) ≠ some wo.heap.size; simp))
          exact h1.kept (World.grownBy_setCell_far _ ⟨wo.heap.size, 1, none⟩ _) (.inr (by show some (wo.heap.size + 1) ≠ some wo.heap.size; simp))
        · have h := b4.size
          simp at h
          simp [World.setCell]; omega
      have HB3 := Lib.hid b3
      have HB4 := Lib.hid (bd4.trans (b4.mono bd4.size))
      have hs3 : wo.heap.size ≤ w3.heap.size := b3.size
      have hs4 : wo.heap.size < w4.heap.size := by have := b4.size; simp at this; omega
      have hlt2 : b2 < wo.heap.size := World.block_lt_of_cell? wo _ e0
      have hltw : w.heap.size < wo.heap.size := by omega
      have KS4 := Lib.hid (fun (u1 u2 : Value) => And.intro (keep_set2 (a := ⟨wo.heap.size, 0, none⟩) (a' := ⟨wo.heap.size, 1, none⟩) (u := u1) (u' := u2) q0 (by show wo.heap.size ≠ w.heap.size; omega) (by show wo.heap.size ≠ w.heap.size; omega)) (And.intro (keep_set2 (a := ⟨wo.heap.size, 0, none⟩) (a' := ⟨wo.heap.size, 1, none⟩) (u := u1) (u' := u2) q1 (by show wo.heap.size ≠ b2; omega) (by show wo.heap.size ≠ b2; omega)) (keep_set2 (a := ⟨wo.heap.size, 0, none⟩) (a' := ⟨wo.heap.size, 1, none⟩) (u := u1) (u' := u2) q2 (by show wo.heap.size ≠ b2; omega) (by show wo.heap.size ≠ b2; omega))))
      clear ho3 ho4 b3 b4 bd4 hg3 hg4
      go_wp2_with fail
      go_region_held3 (fun w' => w'.cell? ⟨w.heap.size, 1, none⟩ = some (.slice (some ⟨b2, o2, none⟩) n c) ∧ w'.cell? ⟨b2, o2 + k * 2, none⟩ = some (.int .i64 (m : Int)) ∧ w'.cell? ⟨b2, o2 + k * 2 + 1, none⟩ = some (.slice (some ⟨bt, ot, none⟩) tm tc)) (first | (exact ⟨p0, p1, p2⟩) | (exact ⟨q0, q1, q2⟩) | (exact KS4.out _ _) | go_keep) (fail)
      all_goals
        (first
          | (obtain ⟨wA, hwA⟩ : ∃ wA : World, wA = w3.alloc (.cells #[.int .i64 (m : Int), .slice (some ⟨wo.heap.size, 0, none⟩) tm tm] 56) := ⟨_, rfl⟩
             rw [← hwA]
             have HFr := HF3
             rw [← hwA] at HFr
             obtain ⟨ob, hob⟩ : ∃ ob : Nat, ob = w3.heap.size := ⟨_, rfl⟩
             obtain ⟨tb, htb⟩ : ∃ tb : Nat, tb = wo.heap.size := ⟨_, rfl⟩
             have HFr2 : Hid (Fresh wo wA m tm ob tb) := by rw [hob, htb]; exact HFr
             rw [← hob])
          | (obtain ⟨wA, hwA⟩ : ∃ wA : World, wA = ((w4.setCell ⟨wo.heap.size, 0, none⟩ (.int .i64 (m : Int))).setCell ⟨wo.heap.size, 1, none⟩ (.slice (some ⟨wo.heap.size + 1, 0, none⟩) tm tm)) := ⟨_, rfl⟩
             rw [← hwA]
             have HFr := HF4
             rw [← hwA] at HFr
             obtain ⟨ob, hob⟩ : ∃ ob : Nat, ob = wo.heap.size := ⟨_, rfl⟩
             obtain ⟨tb, htb⟩ : ∃ tb : Nat, tb = wo.heap.size + 1 := ⟨_, rfl⟩
             have HFr2 : Hid (Fresh wo wA m tm ob tb) := by rw [hob, htb]; exact HFr
             rw [← hob]))
        clear hwA hob htb HFr HF3 HF4 HB3 HB4 KS4 p0 p1 p2 q0 q1 q2 q3 q4 q5 q6 hr3 hr4 hs3 hs4
        obtain ⟨hA1, hA2, hA3, hA4, hA5, hA6, hA7⟩ := HFr2.out
        have HX0 := Lib.hid hA1
        have HT0 : Hid (wA.ownsRow wo.heap.size 3 1 (.slice (some ⟨tb, 0, none⟩) tm tm) tm ((putT (nn : Int) m xs f.2 (List.replicate tm (0 : Int)) 0).map (Value.int .i64))) := hA2
        have HB0 := Lib.hid hA3
        clear hA1 hA2 hA3 HFr2
        go_wp2_with fail
        go_loopw [8, 9, 10, 11] (fun i s9 s10 s11 wi => ∃ q : Nat, q ≤ tm ∧ i = .int .i64 (q : Int) ∧ Hid (wi.heap[ob]? = some (.cells #[.int .i64 (m : Int), .slice (some ⟨tb, 0, none⟩) tm tm] 56 (0, 0))) ∧ Hid (wi.ownsRow wo.heap.size 3 1 (.slice (some ⟨tb, 0, none⟩) tm tm) tm ((putT (nn : Int) m xs f.2 (List.replicate tm (0 : Int)) q).map (Value.int .i64))) ∧ Hid (Below wo.heap.size wo wi) ∧ ob < wi.heap.size) (fun i _ _ _ _ => tm - (intOf i).toNat)
        case atStart => exact ⟨0, Nat.zero_le _, rfl, HX0, HT0, HB0, hA7⟩
        case round =>
          obtain ⟨q, hq, rfl, HX, HT, HBi, hsi⟩ := hrel
          clear HX0 HT0 HB0 hA7
          obtain ⟨wi, hwi⟩ : ∃ wi : World, wi = wr := ⟨_, rfl⟩
          rw [← hwi]
          rw [← hwi] at HX HT HBi hsi
          clear hwi
          obtain ⟨x0, x1, xf⟩ := box_cells HX.out
          have iz : wi.cell? ⟨w.heap.size, 0, none⟩ = some (.int .i64 (nn : Int)) := cell_b HBi.out dz
          have ia : wi.cell? ⟨w.heap.size, 1, none⟩ = some (.slice (some ⟨b2, o2, none⟩) n c) := cell_b HBi.out da
          have i1 : wi.cell? ⟨b2, o2 + k * 2 + 1, none⟩ = some (.slice (some ⟨bt, ot, none⟩) tm tc) := cell_b HBi.out e1
          by_cases hltq : q < tm
          · obtain ⟨y, hy⟩ := get_of_lt HTn.out hltq
            have ey : wi.cell? ⟨bt, ot + q, none⟩ = some (.int .i64 y) := cell_b (HBr.out.trans (HBi.out.mono HBr.out.size)) (HCt.out q y hy)
            obtain ⟨y0, y1⟩ := allIn_get HAll.out hy
            have HY := Lib.hid hy
            have hA := argsSpec_any (nn : Int) (q : Int) m hm3 wi (by omega) (by omega) (by omega) (by omega)
            have HA := Lib.hid hA
            clear hA hy
            go_wp2_with fail
            refine HA.out.mono ?_
            rintro e w5 ⟨rfl, hw5⟩
            have B5 : Hid (Below wi.heap.size wi w5) := by rw [hw5]; exact below_alloc _ _
            have HD5 := Lib.hid (digs_view (W := w5) (g := wi.heap.size) (z := (nn : Int)) (at_ := (q : Int)) (m := m) (ty := 3) (by rw [hw5]; exact heap_alloc_new _ _))
            have jz : w5.cell? ⟨w.heap.size, 0, none⟩ = some (.int .i64 (nn : Int)) := cell_b B5.out iz
            clear hw5
            go_wp2_with fail
            go_loopw [10, 11] (fun s10 i wq => ∃ (j s : Nat) (v : Int), j ≤ m ∧ i = .int .i64 (j : Int) ∧ s10 = .int .i64 v ∧ Hid (v = idxA (nn : Int) (((digs (nn : Int) m (q : Int)).map (nm xs)).take j)) ∧ wq = w5.drewN s) (fun _ i _ => m - (intOf i).toNat)
            case atStart => exact ⟨0, 0, 0, Nat.zero_le _, rfl, rfl, rfl, rfl⟩
            case round =>
              obtain ⟨j, s, v, hj, rfl, rfl, HVal, rfl⟩ := hrel
              by_cases hltj : j < m
              · obtain ⟨bd, od, hbe, _, _, hcd⟩ := HD5.out.at_ (by omega)
                injection hbe with hbe
                injection hbe with hbe1 hbe2 _
                subst hbe1 hbe2
                obtain ⟨x, hx⟩ := digs_get (z := (nn : Int)) (at_ := (q : Int)) hltj
                have ex : w5.cell? ⟨wi.heap.size, 0 + j, none⟩ = some (.int .i64 x) := hcd j x hx
                rw [Nat.zero_add] at ex
                obtain ⟨u0, u1⟩ := allIn_get (digs_in (by omega) m (q : Int)) hx
                obtain ⟨xn, rfl⟩ : ∃ xn : Nat, x = (xn : Int) := ⟨x.toNat, by omega⟩
                have hnm := nm_get (permB_of HOk.out.2).1 u0 u1
                have hmx : ((digs (nn : Int) m (q : Int)).map (nm xs))[j]? = some (nm xs (xn : Int)) := by rw [List.getElem?_map, hx]; rfl
                obtain ⟨t1, t2, t3, t4, t5, t6⟩ := idx_step (by omega) (by omega) (allIn_map HOk.out.2 (digs_in (by omega) m (q : Int))) (by rw [map_len_digs]; exact hm3) hmx
                rw [← HVal.out] at t3 t4 t5 t6
                obtain ⟨u, hu⟩ : ∃ u, u = nm xs (xn : Int) := ⟨_, rfl⟩
                rw [← hu, Int.toNat_natCast] at hnm
                rw [← hu] at hmx t1 t2
                have en : w5.cell? ⟨b3, o3 + xn, none⟩ = some (.int .i64 u) := cell_b ((HBr.out.trans (HBi.out.mono HBr.out.size)).trans (B5.out.mono (HBr.out.trans (HBi.out.mono HBr.out.size)).size)) (HCx.out xn u hnm)
                have hxn : (xn : Int) < (nn : Int) := by omega
                have hjm : (j : Int) < (m : Int) := by omega
                have HM := Lib.hid hmx
                clear hx hnm hu hmx hcd
                go_wp2_with fail
                go_quiet (fail)
                go_wp2_with fail
                go_roundw
                case rel => exact ⟨j + 1, _, v * (nn : Int) + u, by omega, by go_num, rfl, by unfold Hid; rw [idxA_succ HM.out, HVal.out], rfl⟩
                case measure => simp [intOf]; omega
              · obtain rfl : j = m := by omega
                obtain ⟨hti, htb2⟩ := toI_spec (z := (nn : Int)) (m := j) (by omega) HOk.out.2 q
                obtain ⟨ti, htie⟩ : ∃ ti, ti = toI (nn : Int) j xs q := ⟨_, rfl⟩
                rw [← htie] at hti htb2
                have hvt : v = (ti : Int) := by rw [HVal.out, List.take_of_length_le (by rw [map_len_digs]; exact Nat.le_refl _), hti]
                subst hvt
                obtain ⟨yn, rfl⟩ : ∃ yn : Nat, y = (yn : Int) := ⟨y.toNat, by omega⟩
                have hnm := nm_get (permB_of HOk.out.2).1 y0 y1
                obtain ⟨u, hu⟩ : ∃ u, u = nm xs (yn : Int) := ⟨_, rfl⟩
                rw [← hu, Int.toNat_natCast] at hnm
                obtain ⟨wq, hwq⟩ : ∃ wq : World, wq = w5.drewN s := ⟨_, rfl⟩
                rw [← hwq]
                have BQ : Below wi.heap.size wi wq := by rw [hwq]; exact below_drewN B5.out s
                have hbs := HBr.out.size
                have hbi := HBi.out.size
                have en : wq.cell? ⟨b3, o3 + yn, none⟩ = some (.int .i64 u) := cell_b ((HBr.out.trans (HBi.out.mono hbs)).trans (BQ.mono (by omega))) (HCx.out yn u hnm)
                have kz : wq.cell? ⟨w.heap.size, 1, none⟩ = some (.slice (some ⟨b2, o2, none⟩) n c) := cell_b BQ ia
                have k1 : wq.cell? ⟨b2, o2 + k * 2 + 1, none⟩ = some (.slice (some ⟨bt, ot, none⟩) tm tc) := cell_b BQ i1
                have ky : wq.cell? ⟨bt, ot + q, none⟩ = some (.int .i64 (yn : Int)) := cell_b BQ ey
                have kx : wq.cell? ⟨ob, 1, none⟩ = some (.slice (some ⟨tb, 0, none⟩) tm tm) := cell_b BQ x1
                have HTq := HT.out.kept (grown_of_below BQ none) (own_em _)
                have htil : ti < tm := by have := HPw.out; have := HTn.out; omega
                obtain ⟨u0, hu0⟩ : ∃ u0, wq.cell? ⟨tb, ti, none⟩ = some u0 := by
                  rw [HTq.cellAt ti (by omega)]
                  have hl1 := HTq.1
                  exact ⟨_, List.getElem?_eq_getElem (by omega)⟩
                have hfr := HTq.frozenAt ti
                have hst := HTq.stored ti (.int .i64 u)
                have e : (putT (nn : Int) j xs f.2 (List.replicate tm (0 : Int)) q).set ti u = putT (nn : Int) j xs f.2 (List.replicate tm (0 : Int)) (q + 1) := by
                  rw [putT, ← htie, hu, List.getD_eq_getElem?_getD, HY.out]; rfl
                rw [← List.map_set, e] at hst
                have HST := Lib.hid hst
                have hitm : (ti : Int) < (tm : Int) := by omega
                have hynn : (yn : Int) < (nn : Int) := by omega
                have hkn : (k : Int) < (n : Int) := by omega
                have hqt : (q : Int) < (tm : Int) := by omega
                have HKS := Lib.hid (fun (u' : Value) => show (wq.setCell ⟨tb, ti, none⟩ u').drew.cell? ⟨ob, 1, none⟩ = some (.slice (some ⟨tb, 0, none⟩) tm tm) ∧ (wq.setCell ⟨tb, ti, none⟩ u').drew.cell? ⟨w.heap.size, 1, none⟩ = some (.slice (some ⟨b2, o2, none⟩) n c) ∧ (wq.setCell ⟨tb, ti, none⟩ u').drew.cell? ⟨b2, o2 + k * 2 + 1, none⟩ = some (.slice (some ⟨bt, ot, none⟩) tm tc) ∧ (wq.setCell ⟨tb, ti, none⟩ u').drew.cell? ⟨bt, ot + q, none⟩ = some (.int .i64 (yn : Int)) ∧ (wq.setCell ⟨tb, ti, none⟩ u').drew.cell? ⟨b3, o3 + yn, none⟩ = some (.int .i64 u) from
                  ⟨keep_set kx (by show tb ≠ ob; omega), keep_set kz (by show tb ≠ w.heap.size; omega), keep_set k1 (by show tb ≠ b2; omega), keep_set ky (by show tb ≠ bt; omega), keep_set en (by show tb ≠ b3; omega)⟩)
                have HBQ := Lib.hid BQ
                clear hti htb2 htie hnm hu hwq BQ HTq hst e iz ia i1 ey x0 x1 xf jz
                go_wp2_with fail
                go_region_held3 (fun w' => w'.cell? ⟨ob, 1, none⟩ = some (.slice (some ⟨tb, 0, none⟩) tm tm) ∧ w'.cell? ⟨w.heap.size, 1, none⟩ = some (.slice (some ⟨b2, o2, none⟩) n c) ∧ w'.cell? ⟨b2, o2 + k * 2 + 1, none⟩ = some (.slice (some ⟨bt, ot, none⟩) tm tc) ∧ w'.cell? ⟨bt, ot + q, none⟩ = some (.int .i64 (yn : Int)) ∧ w'.cell? ⟨b3, o3 + yn, none⟩ = some (.int .i64 u)) (first | (exact HKS.out _) | go_keep) (fail)
                all_goals
                  have HX6 : Hid ((wq.setCell ⟨tb, ti, none⟩ (.int .i64 u)).drew.heap[ob]? = some (.cells #[.int .i64 (j : Int), .slice (some ⟨tb, 0, none⟩) tm tm] 56 (0, 0))) := by
                    show (wq.setCell ⟨tb, ti, none⟩ (.int .i64 u)).heap[ob]? = _
                    rw [Below.heap_setCell _ _ _ _ (by show ob ≠ tb; omega), HBQ.out.block ob hsi]
                    exact HX.out
                  have HT6 : Hid ((wq.setCell ⟨tb, ti, none⟩ (.int .i64 u)).drew.ownsRow wo.heap.size 3 1 (.slice (some ⟨tb, 0, none⟩) tm tm) tm ((putT (nn : Int) j xs f.2 (List.replicate tm (0 : Int)) (q + 1)).map (Value.int .i64))) := HST.out.1
                  have HB6 : Hid (Below wo.heap.size wo (wq.setCell ⟨tb, ti, none⟩ (.int .i64 u)).drew) := ((HBi.out.trans (HBQ.out.mono hbi)).setCell (by show wo.heap.size ≤ tb; omega) _).drew
                  have hs6 : ob < (wq.setCell ⟨tb, ti, none⟩ (.int .i64 u)).drew.heap.size := by
                    show ob < (wq.setCell ⟨tb, ti, none⟩ (.int .i64 u)).heap.size
                    have := HBQ.out.size
                    simp [World.setCell]; omega
                  obtain ⟨w6, hw6⟩ : ∃ w6, w6 = (wq.setCell ⟨tb, ti, none⟩ (.int .i64 u)).drew := ⟨_, rfl⟩
                  rw [← hw6] at HX6 HT6 HB6 hs6 ⊢
                  clear hw6 HKS en kz k1 ky kx hu0 hfr HST
                  go_wp2_with fail
                  go_roundw
                  case rel => exact ⟨q + 1, by omega, by go_num, HX6, HT6, HB6, hs6⟩
                  case measure => simp [intOf]; omega
          · obtain rfl : q = tm := by omega
            obtain ⟨G, C, HTb, HRow⟩ := HBu.out
            obtain ⟨va, vc, hvv⟩ := own_form HRow
            subst hvv
            have HT_ := Lib.hid HTb
            have HRow_ := Lib.hid HRow
            have HOi : Hid (wi.heap[w.heap.size + 1 + 1]? = some (.cells #[.int .i64 (nn : Int), .slice va k vc] 29 (0, 0))) := (HBi.out.block _ hsr).trans HO.out
            obtain ⟨d0, d1, df⟩ := box_cells HOi.out
            have df1 := df 1
            have hbs := HBr.out.size
            have hbi := HBi.out.size
            have HRen : Hid (renT (nn : Int) xs (fs.getD k (0, [])) = ((m : Int), putT (nn : Int) m xs f.2 (List.replicate q (0 : Int)) q)) := by
              unfold Hid
              rw [getD_op HF.out, renT, HAr.out, Int.toNat_natCast, putT_all (l' := List.replicate q (0 : Int)) (by omega) HOk.out.2 HPw.out (by rw [List.length_replicate, HTn.out]), HTn.out]
            have HLn : Hid (q = (putT (nn : Int) m xs f.2 (List.replicate q (0 : Int)) q).length) := by unfold Hid; rw [putT_len, List.length_replicate]
            clear HTb HRow d0 df
            go_wp2_with (at_builtin; refine wpList_append_lies _ rfl _ _ _ rfl (w.heap.size + 1 + 1 + 1) 56 i0 _ 2 32 Try.underlying27 hi0 hy0 hy1 hy2 rfl (by decide) (.slice va k vc) k (flatN k G C (fun j => renT (nn : Int) xs (fs.getD j (0, [])))) rfl ((HRow_.out.kept (grown_of_below HBi.out none) (own_em _)).alloc _) ⟨wi.heap.size, 0, none⟩ 1 1 [.int .i64 (m : Int), .slice (some ⟨tb, 0, none⟩) q q] rfl rfl (news_two _ _ _) (by simp [Value.oneCell']) (by decide) (by unfold maxLen; omega) (by omega) (by simp; omega) _ rfl ?_; intro g4 cap4 w4 hown4 hgrow4 hat4 hlt4; have HO4 : Hid (w4.heap[w.heap.size + 1 + 1]? = some (.cells #[.int .i64 (nn : Int), .slice va k vc] 29 (0, 0))) := (hgrow4.block _ (by simp; omega) (fun e => by have h_ := (HRow_.out.lt (w.heap.size + 1 + 1) e.symm).1; omega)).trans ((Below.heap_alloc _ _ _ (by omega)).trans HOi.out); have d14 := (box_cells HO4.out).2.1; have f14 := (box_cells HO4.out).2.2 1; have HOwn4 := Lib.hid hown4; have HGrow4 := Lib.hid hgrow4; clear hown4 hgrow4 hat4)
            have HNew : Hid (Built (w4.setCell ⟨w.heap.size + 1 + 1, 1, none⟩ (.slice (some ⟨g4, 0, none⟩) (k + 1) cap4)) (w.heap.size + 1 + 1 + 1) (.slice (some ⟨g4, 0, none⟩) (k + 1) cap4) (k + 1) (fun j => renT (nn : Int) xs (fs.getD j (0, [])))) :=
              (Built.push HT_.out HRow_.out HBi.out (by omega) HLn.out HT.out HRen.out HOwn4.out HGrow4.out).setFar (by show w.heap.size + 1 + 1 < _; omega) _
            have HO5 := Lib.hid (box_set1 (v := .slice (some ⟨g4, 0, none⟩) (k + 1) cap4) HO4.out)
            have hz5 : w.heap.size + 1 + 1 < w4.heap.size := by have := HGrow4.out.size; simp at this; omega
            have hfar : ∀ j, j < w.heap.size + 1 + 1 → (w4.setCell ⟨w.heap.size + 1 + 1, 1, none⟩ (.slice (some ⟨g4, 0, none⟩) (k + 1) cap4)).heap[j]? = wo.heap[j]? := fun j hj => by
              rw [Below.heap_setCell _ _ _ _ (by show j ≠ w.heap.size + 1 + 1; omega), HGrow4.out.block j (by simp; omega) (fun e => by have h_ := (HRow_.out.lt j e.symm).1; omega), Below.heap_alloc _ _ _ (by omega), HBi.out.block j (by omega)]
            have HR5 : Hid ((w4.setCell ⟨w.heap.size + 1 + 1, 1, none⟩ (.slice (some ⟨g4, 0, none⟩) (k + 1) cap4)).heap[w.heap.size + 1]? = some (.cells #[.int .i64 0, .slice none 0 0] 29 (0, 0))) := (hfar _ (by omega)).trans HR.out
            have da5 : (w4.setCell ⟨w.heap.size + 1 + 1, 1, none⟩ (.slice (some ⟨g4, 0, none⟩) (k + 1) cap4)).cell? ⟨w.heap.size, 1, none⟩ = some (.slice (some ⟨b2, o2, none⟩) n c) := (World.cell?_of_block (a := ⟨w.heap.size, 1, none⟩) (hfar w.heap.size (by omega))).trans da
            have dz5 : (w4.setCell ⟨w.heap.size + 1 + 1, 1, none⟩ (.slice (some ⟨g4, 0, none⟩) (k + 1) cap4)).cell? ⟨w.heap.size, 0, none⟩ = some (.int .i64 (nn : Int)) := (World.cell?_of_block (a := ⟨w.heap.size, 0, none⟩) (hfar w.heap.size (by omega))).trans dz
            have HB5 : Hid (Below w.heap.size w (w4.setCell ⟨w.heap.size + 1 + 1, 1, none⟩ (.slice (some ⟨g4, 0, none⟩) (k + 1) cap4))) :=
              (((HBr.out.trans (HBi.out.mono hbs)).alloc (by omega) _).grown HGrow4.out (by simp; omega) (fun j hj => by have h_ := (HRow_.out.lt j hj).1; omega)).setCell (by show _ ≤ w.heap.size + 1 + 1; omega) _
            have hz6 : w.heap.size + 1 + 1 < (w4.setCell ⟨w.heap.size + 1 + 1, 1, none⟩ (.slice (some ⟨g4, 0, none⟩) (k + 1) cap4)).heap.size := by simpa [World.setCell] using hz5
            obtain ⟨w7, hw7⟩ : ∃ w7, w7 = w4.setCell ⟨w.heap.size + 1 + 1, 1, none⟩ (.slice (some ⟨g4, 0, none⟩) (k + 1) cap4) := ⟨_, rfl⟩
            go_wp2_with fail
            rw [← hw7] at HNew HO5 HR5 da5 dz5 HB5 hz6 ⊢
            clear hw7 hfar d14 f14 d1 df1
            go_roundw
            case rel => exact ⟨k + 1, _, by omega, by go_num, HNew, HO5, HR5, da5, dz5, HB5, hz6⟩
            case measure => simp [intOf]; omega
    · obtain rfl : k = n := by omega
      obtain ⟨_, hrow, _⟩ := HBu.out.row
      obtain ⟨va, vc, rfl⟩ := own_form hrow
      obtain ⟨d0, d1, _⟩ := box_cells HO.out
      obtain ⟨r0, r1, rf⟩ := box_cells HR.out
      obtain ⟨G, C, hops⟩ := HBu.out.ops (fs := fs.map (renT (nn : Int) xs)) (fun j hj => by
        have := mixR_all (nn : Int) xs fs HFl.out hj
        rw [← this]; simp [mixR, hj])
      have HOps := Lib.hid hops
      have HLen : Hid (k = (fs.map (renT (nn : Int) xs)).length) := by unfold Hid; rw [List.length_map]; exact HFl.out.symm
      clear hrow hops
      go_wp2_with fail
      have hK : ∀ (v1 v2 : Value), Kept (w.heap.size + 1 + 1 + 1) wr.heap.size wr ((wr.setCell ⟨w.heap.size + 1, 0, none⟩ v1).setCell ⟨w.heap.size + 1, 1, none⟩ v2) := by
        intro v1 v2 q h1 h2
        rw [Below.heap_setCell _ _ _ _ (by show q ≠ w.heap.size + 1; omega), Below.heap_setCell _ _ _ _ (by show q ≠ w.heap.size + 1; omega)]
      refine bodyPost_ret (v := .agg #[.int .i64 (nn : Int), .slice va k vc]) (by simp [results, Try.results78, go_sem, r0, r1]) rfl ⟨va, k, vc, G, C, rfl, HLen.out, ((HOps.out.kept (hK _ _)).lo_mono (by omega)).hi_mono (by simp [World.setCell]), (HBr.out.setCell (by show _ ≤ _; simp) _).setCell (by show _ ≤ _; simp) _⟩

end Go.Proofs.Ythgggoodceogkaa
