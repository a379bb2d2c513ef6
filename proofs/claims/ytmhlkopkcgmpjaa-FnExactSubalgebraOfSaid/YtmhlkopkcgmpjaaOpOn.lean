/-
  Contract: impl.operationOn. Conditions: the bounds that it names.
-/
import Derived.Test.YtmhlkopkcgmpjaaDigs
import Derived.Test.YtmhlkopkcgmpjaaIdx
import Derived.Test.YtmhlkopkcgmpjaaSbaM
import Derived.Test.YtmhlkopkcgmpjaaPlc
import Derived.Test.YtmhlkopkcgmpjaaBuilt
import Derived.Test.YtmhlkopkcgmpjaaMake
import Derived.Deep.RegionHeld3
import Derived.Deep.DrawnRows
namespace Go.Proofs.Ytmhlkopkcgmpjaa
open Go.RowKit
set_option linter.unusedVariables false
set_option linter.unusedSimpArgs false
attribute [local go_sem ↓] Go.wp_at_zero Go.wp_at_succ

theorem grownBy_setFar (w : World) (p : Addr) (u : Value) : w.grownBy (w.setCell p u) (some p.block) :=
  ⟨rfl, rfl, rfl, by simp [World.setCell], fun k hk hne => Below.heap_setCell _ _ _ _ (by show k ≠ p.block; exact fun e => hne (by rw [e]))⟩
theorem keep_far2 {w : World} {a a' b : Addr} {u u' v : Value} (h : w.cell? b = some v) (hne : a.block ≠ b.block) (hne' : a'.block ≠ b.block) : ((w.setCell a u).setCell a' u').cell? b = some v :=
  (World.cell?_setCell_other _ _ _ _ (fun e => hne' (by rw [e]))).trans ((World.cell?_setCell_other _ _ _ _ (fun e => hne (by rw [e]))).trans h)
theorem keep_drw {w : World} {a b : Addr} {u v : Value} (h : w.cell? b = some v) (hne : a.block ≠ b.block) : (w.setCell a u).drew.cell? b = some v :=
  (show (w.setCell a u).drew.cell? b = (w.setCell a u).cell? b from rfl).trans ((World.cell?_setCell_other _ _ _ _ (fun e => hne (by rw [e]))).trans h)
theorem digs_row (w : World) (z : Int) (m : Nat) (at_ : Int) (hm : m ≤ 3) : (w.alloc (.cells (digsArr z m at_) 3)).ownsRow w.heap.size 3 1 (.slice (some ⟨w.heap.size, 0, none⟩) m m) m ((digs z m at_).map (Value.int .i64)) := by
  refine ⟨by simp [digs_len], .inr ⟨w.heap.size, m, digsArr z m at_, rfl, Nat.le_refl _, heap_alloc_new _ _, Nat.le_refl _, ?_, by simp [digsArr, digs_len], ?_⟩⟩
  · unfold maxLen; omega
  · rw [List.take_of_length_le (by simp [digsArr, digs_len])]; simp [digsArr]
theorem box_set01 {w : World} {B : Nat} {a b u v : Value} {ty : TypeId} (h : w.heap[B]? = some (.cells #[a, b] ty (0, 0))) : ((w.setCell ⟨B, 0, none⟩ u).setCell ⟨B, 1, none⟩ v).heap[B]? = some (.cells #[u, v] ty (0, 0)) := by
  simp [World.setCell, Array.getElem?_modify, h]

/-- A new operation of zeros: its box X, its table g. -/
structure FreshO (w W : World) (m n X g : Nat) : Prop where
  box : W.heap[X]? = some (.cells #[.int .i64 (m : Int), .slice (some ⟨g, 0, none⟩) n n] 75 (0, 0))
  row : W.ownsRow w.heap.size 3 1 (.slice (some ⟨g, 0, none⟩) n n) n ((List.replicate n (0 : Int)).map (Value.int .i64))
  bel : Below w.heap.size w W
  lo : w.heap.size ≤ X
  tlo : w.heap.size ≤ g
  ne : X ≠ g
  hi : X < W.heap.size

set_option maxRecDepth 100000 in
set_option maxHeartbeats 4000000 in
theorem opOn_any (lo hi lo2 hi2 : Nat) (zn : Nat) (f : OpD) (bt ot tm tc b o k d m : Nat) (xs : List Int) (w : World) (ht : IView w lo hi (some ⟨bt, ot, none⟩) tm f.2) (hhi : hi ≤ w.heap.size) (hm : f.1 = (m : Int)) (hok : opOkB (zn : Int) f = true) (hz1 : 1 ≤ zn) (hz2 : zn ≤ 8)
    (hx : IView w lo2 hi2 (some ⟨b, o, none⟩) k xs) (hhi2 : hi2 ≤ w.heap.size) (hk1 : 1 ≤ k) (hk8 : k ≤ 8) (ha : allIn (zn : Int) xs = true) :
    Calls Try.prog 64 #[.int .i64 (zn : Int), .agg #[.int .i64 (m : Int), .slice (some ⟨bt, ot, none⟩) tm tc], .slice (some ⟨b, o, none⟩) k d] w fun e w' => ∃ g dd, e = .returned (.agg #[.int .i64 (m : Int), .slice (some ⟨g, 0, none⟩) (sbL xs f) dd]) ∧ w'.ownsRow w.heap.size 3 1 (.slice (some ⟨g, 0, none⟩) (sbL xs f) dd) (sbL xs f) ((sbT (zn : Int) xs f (sbL xs f)).map (Value.int .i64)) ∧ Below w.heap.size w w' := by
  have hxl := hx.1
  have htl := ht.1
  have hm3 : m ≤ 3 := by have := (opOkB_of hok).1; omega
  obtain ⟨hp, hn1, hn2⟩ := sbL_bd (f := f) (by omega) (by omega) hok (xs := xs)
  rw [hxl, hm, Int.toNat_natCast] at hp
  obtain ⟨n, hn⟩ : ∃ n, sbL xs f = n := ⟨_, rfl⟩
  rw [hn] at hp hn1 hn2 ⊢
  have hB := below_then (below_alloc w (.cells #[.int .i64 (m : Int), .slice (some ⟨bt, ot, none⟩) tm tc] 75)) (below_alloc _ (.cells #[.int .i64 0, .slice none 0 0] 75))
  have HB := Lib.hid hB
  have cm : ((w.alloc (.cells #[.int .i64 (m : Int), .slice (some ⟨bt, ot, none⟩) tm tc] 75)).alloc (.cells #[.int .i64 0, .slice none 0 0] 75)).cell? ⟨w.heap.size, 0, none⟩ = some (.int .i64 (m : Int)) := cell_b (below_alloc _ _) (by simp)
  have ct : ((w.alloc (.cells #[.int .i64 (m : Int), .slice (some ⟨bt, ot, none⟩) tm tc] 75)).alloc (.cells #[.int .i64 0, .slice none 0 0] 75)).cell? ⟨w.heap.size, 1, none⟩ = some (.slice (some ⟨bt, ot, none⟩) tm tc) := cell_b (below_alloc _ _) (by simp)
  have HRes : Hid (((w.alloc (.cells #[.int .i64 (m : Int), .slice (some ⟨bt, ot, none⟩) tm tc] 75)).alloc (.cells #[.int .i64 0, .slice none 0 0] 75)).heap[w.heap.size + 1]? = some (.cells #[.int .i64 0, .slice none 0 0] 75 (0, 0))) := by
    have h := heap_alloc_new (w.alloc (.cells #[.int .i64 (m : Int), .slice (some ⟨bt, ot, none⟩) tm tc] 75)) (.cells #[.int .i64 0, .slice none 0 0] 75)
    rw [World.size_alloc] at h
    exact h
  have HPw := Lib.hid (fun W : World => len_any (k : Int) m W (by omega) (by omega) hm3)
  rw [hp] at HPw
  have HX := Lib.hid hx
  have HT := Lib.hid ht
  have HOk := Lib.hid hok
  have HA := Lib.hid ha
  have HM := Lib.hid hm
  have HN := Lib.hid hn
  have HXl := Lib.hid hxl
  have HTl := Lib.hid htl
  clear hx ht hok ha hm hn hB hxl htl hp
  obtain ⟨j0, hj0, hq0, hq1, hq2⟩ := info_parts Try.infoInt
  obtain ⟨wo, hwo⟩ : ∃ wo : World, wo = ((w.alloc (.cells #[.int .i64 (m : Int), .slice (some ⟨bt, ot, none⟩) tm tc] 75)).alloc (.cells #[.int .i64 0, .slice none 0 0] 75)) := ⟨_, rfl⟩
  have hso : wo.heap.size = w.heap.size + 1 + 1 := by rw [hwo]; simp
  have hltw : w.heap.size + 1 < wo.heap.size := by omega
  clear hso
  go_enter Try.func64, Try.ntmps64
  go_wp2_with fail
  rw [← hwo] at cm ct HRes HB ⊢
  clear hwo
  obtain ⟨w3, hr3, ho3, hg3⟩ := run_make_full (P := Try.prog) wo.drew wo.heap.size 25 3 j0 _ 1 Try.underlying25 hj0 hq0 hq1 .i64 .i64 n (by rw [hq2]; omega) (by unfold maxLen; omega) (Nat.le_refl _)
  obtain ⟨w4, hr4, ho4, hg4⟩ := run_make_full (P := Try.prog) (wo.alloc (.cells #[.int .i64 0, .slice none 0 0] 75)).drew wo.heap.size 25 3 j0 _ 1 Try.underlying25 hj0 hq0 hq1 .i64 .i64 n (by rw [hq2]; omega) (by unfold maxLen; omega) (by show wo.heap.size ≤ (wo.alloc _).heap.size; simp)
  simp only [World.size_alloc, World.size_drew] at hr3 ho3 hr4 ho4
  have b3 : Below wo.heap.size wo w3 := (Below.refl _ _).drew.grown hg3 (Nat.le_refl _) (by intro k hk; cases hk)
  have b4 : Below (wo.alloc (.cells #[.int .i64 0, .slice none 0 0] 75)).heap.size (wo.alloc (.cells #[.int .i64 0, .slice none 0 0] 75)) w4 := (Below.refl _ _).drew.grown hg4 (Nat.le_refl _) (by intro k hk; cases hk)
  have bd4 : Below wo.heap.size wo (wo.alloc (.cells #[.int .i64 0, .slice none 0 0] 75)) := below_alloc _ _
  have p0 : w3.cell? ⟨w.heap.size, 0, none⟩ = some (.int .i64 (m : Int)) := cell_b b3 cm
  have q0 : w4.cell? ⟨w.heap.size, 0, none⟩ = some (.int .i64 (m : Int)) := cell_b b4 (cell_b bd4 cm)
  have q3 : w4.cell? ⟨wo.heap.size, 0, none⟩ = some (.int .i64 0) := cell_b b4 (by simp)
  have q4 : w4.cell? ⟨wo.heap.size, 1, none⟩ = some (.slice none 0 0) := cell_b b4 (by simp)
  have q5 : w4.frozen? ⟨wo.heap.size, 0, none⟩ = false := (b4.frozen (p := ⟨wo.heap.size, 0, none⟩) (by simp)).trans (by simp)
  have q6 : w4.frozen? ⟨wo.heap.size, 1, none⟩ = false := (b4.frozen (p := ⟨wo.heap.size, 1, none⟩) (by simp)).trans (by simp)
  have hrw : ((List.replicate n (0 : Int)).map (Value.int .i64)) = (madeCells (Value.int .i64 0).cells (n * 1)).toList := by
    rw [show (Value.int .i64 0).cells = #[Value.int .i64 0] from rfl, Nat.mul_one, toList_madeCells_one, List.map_replicate]
  have HF3 : Hid (FreshO wo (w3.alloc (.cells #[.int .i64 (m : Int), .slice (some ⟨wo.heap.size, 0, none⟩) n n] 75)) m n w3.heap.size wo.heap.size) :=
    ⟨heap_alloc_new _ _, by rw [hrw]; exact ho3.alloc _, b3.alloc b3.size _, b3.size, Nat.le_refl _, by have := (ho3.lt wo.heap.size rfl).2; omega, by simp⟩
  have HF4 : Hid (FreshO wo ((w4.setCell ⟨wo.heap.size, 0, none⟩ (.int .i64 (m : Int))).setCell ⟨wo.heap.size, 1, none⟩ (.slice (some ⟨wo.heap.size + 1, 0, none⟩) n n)) m n wo.heap.size (wo.heap.size + 1)) := by
    refine ⟨box_set01 (a := .int .i64 0) (b := .slice none 0 0) ((b4.block _ (by simp)).trans (heap_alloc_new _ _)), ?_, ((below_alloc _ _).trans (b4.mono (by simp)) |>.setCell (by show wo.heap.size ≤ wo.heap.size; omega) _).setCell (by show wo.heap.size ≤ wo.heap.size; omega) _, Nat.le_refl _, by omega, by omega, ?_⟩
    · rw [hrw]
      have h1 := ho4.kept (grownBy_setFar w4 ⟨wo.heap.size, 0, none⟩ (.int .i64 (m : Int))) (.inr (by show some (wo.heap.size + 1) ≠ some wo.heap.size; simp))
      exact h1.kept (grownBy_setFar _ ⟨wo.heap.size, 1, none⟩ _) (.inr (by show some (wo.heap.size + 1) ≠ some wo.heap.size; simp))
    · have h := b4.size
      simp at h
      simp [World.setCell]; omega
  have KS4 := Lib.hid (fun (u1 u2 : Value) => keep_far2 (a := ⟨wo.heap.size, 0, none⟩) (a' := ⟨wo.heap.size, 1, none⟩) (u := u1) (u' := u2) q0 (by show wo.heap.size ≠ w.heap.size; omega) (by show wo.heap.size ≠ w.heap.size; omega))
  have hs3 : wo.heap.size ≤ w3.heap.size := b3.size
  have hs4 : wo.heap.size < w4.heap.size := by have := b4.size; simp at this; omega
  clear ho3 ho4 b3 b4 bd4 hg3 hg4
  go_region_held3 (fun w' => w'.cell? ⟨w.heap.size, 0, none⟩ = some (.int .i64 (m : Int))) (first | (exact p0) | (exact q0) | (exact KS4.out _ _) | go_keep) ((go_at_call 98; refine (HPw.out _).mono ?_; rintro e_ w2_ ⟨rfl, rfl⟩))
  all_goals
    (first
      | (obtain ⟨wA, hwA⟩ : ∃ wA : World, wA = w3.alloc (.cells #[.int .i64 (m : Int), .slice (some ⟨wo.heap.size, 0, none⟩) n n] 75) := ⟨_, rfl⟩
         rw [← hwA]
         have HFr := HF3
         rw [← hwA] at HFr
         obtain ⟨ob, hob⟩ : ∃ ob : Nat, ob = w3.heap.size := ⟨_, rfl⟩
         obtain ⟨tb, htb⟩ : ∃ tb : Nat, tb = wo.heap.size := ⟨_, rfl⟩
         have HFr2 : Hid (FreshO wo wA m n ob tb) := by rw [hob, htb]; exact HFr
         rw [← hob])
      | (obtain ⟨wA, hwA⟩ : ∃ wA : World, wA = ((w4.setCell ⟨wo.heap.size, 0, none⟩ (.int .i64 (m : Int))).setCell ⟨wo.heap.size, 1, none⟩ (.slice (some ⟨wo.heap.size + 1, 0, none⟩) n n)) := ⟨_, rfl⟩
         rw [← hwA]
         have HFr := HF4
         rw [← hwA] at HFr
         obtain ⟨ob, hob⟩ : ∃ ob : Nat, ob = wo.heap.size := ⟨_, rfl⟩
         obtain ⟨tb, htb⟩ : ∃ tb : Nat, tb = wo.heap.size + 1 := ⟨_, rfl⟩
         have HFr2 : Hid (FreshO wo wA m n ob tb) := by rw [hob, htb]; exact HFr
         rw [← hob]))
    clear hwA hob htb HFr HF3 HF4 KS4 p0 q0 q3 q4 q5 q6 hr3 hr4 hs3 hs4
    obtain ⟨hA1, hA2, hA3, hA4, hA4b, hA5, hA6⟩ := HFr2.out
    have HX0 := Lib.hid hA1
    have HT0 : Hid (wA.ownsRow wo.heap.size 3 1 (.slice (some ⟨tb, 0, none⟩) n n) n ((sbK (zn : Int) xs f n 0).map (Value.int .i64))) := by unfold Hid; rw [sbK_zero]; exact hA2
    have HB0 := Lib.hid hA3
    obtain ⟨x0, x1, xf⟩ := box_cells hA1
    clear hA1 hA2 hA3 HFr2
    go_wp2_with fail
    go_loopw [8, 9, 10, 11, 24] (fun s8 s9 s10 s11 i wi => ∃ q : Nat, q ≤ n ∧ i = .int .i64 (q : Int) ∧ Hid (wi.heap[ob]? = some (.cells #[.int .i64 (m : Int), .slice (some ⟨tb, 0, none⟩) n n] 75 (0, 0))) ∧ Hid (wi.ownsRow wo.heap.size 3 1 (.slice (some ⟨tb, 0, none⟩) n n) n ((sbK (zn : Int) xs f n q).map (Value.int .i64))) ∧ Hid (Below wo.heap.size wo wi) ∧ ob < wi.heap.size) (fun _ _ _ _ i _ => n - (intOf i).toNat)
    case atStart => exact ⟨0, Nat.zero_le _, rfl, HX0, HT0, HB0, hA6⟩
    case round =>
      obtain ⟨q, hq, rfl, HXb, HTb, HBi, hsi⟩ := hrel
      clear HX0 HT0 HB0 hA6 x0 x1 xf
      obtain ⟨wi, hwi⟩ : ∃ wi : World, wi = wr := ⟨_, rfl⟩
      rw [← hwi]
      rw [← hwi] at HXb HTb HBi hsi
      clear hwi
      have iz : wi.cell? ⟨w.heap.size, 0, none⟩ = some (.int .i64 (m : Int)) := cell_b HBi.out cm
      have ia : wi.cell? ⟨w.heap.size, 1, none⟩ = some (.slice (some ⟨bt, ot, none⟩) tm tc) := cell_b HBi.out ct
      by_cases hltq : q < n
      · have HAr := Lib.hid (argsImpl_any (k : Int) (q : Int) m hm3 wi (by omega) (by omega) (by omega) (by omega))
        have hltq' : (q : Int) < (n : Int) := by omega
        go_wp2_with fail
        refine HAr.out.mono ?_
        rintro e_ w5 ⟨rfl, hw5⟩
        have B5 : Hid (Below wi.heap.size wi w5) := by rw [hw5]; exact below_alloc _ _
        have HD5 : Hid (w5.ownsRow wi.heap.size 3 1 (.slice (some ⟨wi.heap.size, 0, none⟩) m m) m ((mixI ((digs (k : Int) m (q : Int)).map (nmP xs)) (digs (k : Int) m (q : Int)) 0).map (Value.int .i64))) := by
          rw [mixI_zero, hw5]; exact digs_row wi _ m _ hm3
        clear hw5
        go_wp2_with fail
        go_loopw [10, 11, 35] (fun s10 s11 i wq => ∃ j : Nat, j ≤ m ∧ i = .int .i64 (j : Int) ∧ Hid (wq.ownsRow wi.heap.size 3 1 (.slice (some ⟨wi.heap.size, 0, none⟩) m m) m ((mixI ((digs (k : Int) m (q : Int)).map (nmP xs)) (digs (k : Int) m (q : Int)) j).map (Value.int .i64))) ∧ Hid (Below wi.heap.size wi wq)) (fun _ _ i _ => m - (intOf i).toNat)
        case atStart => exact ⟨0, Nat.zero_le _, rfl, HD5, B5⟩
        case round =>
          obtain ⟨j, hj, rfl, HD, HBj⟩ := hrel
          have hlen : ((digs (k : Int) m (q : Int)).map (nmP xs)).length = (digs (k : Int) m (q : Int)).length := by rw [List.length_map]
          have hdl := digs_len (k : Int) m (q : Int)
          have hBo := HB.out.trans (HBi.out.mono HB.out.size)
          have hBB := hBo.trans (HBj.out.mono hBo.size)
          by_cases hltj : j < m
          · obtain ⟨x, hx⟩ : ∃ x, (digs (k : Int) m (q : Int))[j]? = some x := ⟨_, List.getElem?_eq_getElem (by omega)⟩
            obtain ⟨x0, x1⟩ := allIn_get (digs_in (z := (k : Int)) (by omega) m (q : Int)) hx
            obtain ⟨xn, rfl⟩ : ∃ xn : Nat, x = (xn : Int) := ⟨x.toNat, by omega⟩
            have hnm := nmP_get (xs := xs) x0 (by rw [HXl.out]; exact x1)
            obtain ⟨u, hu⟩ : ∃ u, u = nmP xs (xn : Int) := ⟨_, rfl⟩
            rw [← hu, Int.toNat_natCast] at hnm
            obtain ⟨b', o', he', _, _, hcx⟩ := HX.out.at_ (by omega)
            cases he'
            have en : wr.cell? ⟨b, o + xn, none⟩ = some (.int .i64 u) := cell_b hBB (hcx xn u hnm)
            have hcj := HD.out.cellAt j (by omega)
            rw [List.getElem?_map, mixI_get hlen (by omega), hx] at hcj
            have hcj2 : wr.cell? ⟨wi.heap.size, j, none⟩ = some (.int .i64 (xn : Int)) := hcj
            have hfr := HD.out.frozenAt j
            have hst := HD.out.stored j (.int .i64 u)
            rw [← List.map_set, mixI_set hlen (by omega) (by rw [List.getElem?_map, hx, hu]; rfl)] at hst
            have HST := Lib.hid hst
            have hxn : (xn : Int) < (k : Int) := by omega
            have hltj' : (j : Int) < (m : Int) := by omega
            clear hx hnm hu hlen hdl hst hcx hBB hBo hcj
            go_wp2_with fail
            go_roundw
            case rel => exact ⟨j + 1, by omega, by go_num, HST.out.1, HBj.out.grown HST.out.2 HBj.out.size (by intro b hb; cases hb; exact Nat.le_refl _)⟩
            case measure => simp [intOf]; omega
          · obtain rfl : j = m := by omega
            have hD := HD.out
            rw [mixI_all hlen (by omega)] at hD
            have hv4 := (OwnsInts.of_row hD).view
            have hall := at_in (z := (zn : Int)) (xs := xs) (f := f) (q := q) (by rw [HXl.out]; exact hk1) HA.out
            rw [HXl.out, HM.out, Int.toNat_natCast] at hall
            obtain ⟨hi0, hi1, hat⟩ := at_get (z := (zn : Int)) (by omega) HOk.out (xs := (digs (k : Int) j (q : Int)).map (nmP xs)) (by rw [HM.out, List.length_map, hdl]) hall
            obtain ⟨ti, hti⟩ : ∃ ti : Nat, idxA (zn : Int) ((digs (k : Int) j (q : Int)).map (nmP xs)) = (ti : Int) := ⟨_, (Int.toNat_of_nonneg hi0).symm⟩
            rw [hti, Int.toNat_natCast] at hat
            rw [hti] at hi1
            obtain ⟨y, hy⟩ : ∃ y, atA (zn : Int) f ((digs (k : Int) j (q : Int)).map (nmP xs)) = y := ⟨_, rfl⟩
            rw [hy] at hat
            have hIx := fun (W : World) (hW : Below wr.heap.size wr W) => idx_impl _ _ (zn : Int) _ j j _ W (hv4.kept (Kept.of_below hW (Nat.le_refl _))) (by omega) (by omega) hall hm3
            simp only [hti] at hIx
            have HIx := Lib.hid hIx
            have hPl := fun (W : World) (hW : Below wr.heap.size wr W) => place_impl lo2 hi2 b o k d xs y W (HX.out.kept (Kept.of_below (hBB.trans (hW.mono hBB.size)) hhi2)) (by omega) (by omega)
            obtain ⟨v, hvE⟩ : ∃ v, plI xs y = v := ⟨_, rfl⟩
            simp only [hvE] at hPl
            have HPl := Lib.hid hPl
            have HE : Hid (sbE (zn : Int) xs f q = v) := by unfold Hid sbE; rw [HXl.out, HM.out, Int.toNat_natCast, hy, hvE]
            obtain ⟨b', o', he', _, _, hct⟩ := HT.out.at_ (by have := HTl.out; omega)
            cases he'
            have ey : wr.cell? ⟨bt, ot + ti, none⟩ = some (.int .i64 y) := cell_b hBB (hct ti y hat)
            obtain ⟨x0, x1, xf⟩ := box_cells ((HBj.out.block _ hsi).trans HXb.out)
            have jz : wr.cell? ⟨w.heap.size, 1, none⟩ = some (.slice (some ⟨bt, ot, none⟩) tm tc) := cell_b HBj.out ia
            have HT4 := HTb.out.kept (grown_of_below HBj.out none) (own_em _)
            obtain ⟨u0, hu0⟩ : ∃ u0, wr.cell? ⟨tb, q, none⟩ = some u0 := by
              rw [HT4.cellAt q (by omega)]
              have hl1 := HT4.1
              exact ⟨_, List.getElem?_eq_getElem (by omega)⟩
            have hfr := HT4.frozenAt q
            have hst := HT4.stored q (.int .i64 v)
            rw [← HE.out, ← List.map_set, sbK_set _ _ _ hltq, HE.out] at hst
            have HST := Lib.hid hst
            have htb := HT4.lt tb rfl
            have hbtw : bt < w.heap.size := World.block_lt_of_cell? w _ (hct ti y hat)
            have HKS := Lib.hid (fun (u' : Value) => show (wr.setCell ⟨tb, q, none⟩ u').drew.cell? ⟨ob, 1, none⟩ = some (.slice (some ⟨tb, 0, none⟩) n n) ∧ (wr.setCell ⟨tb, q, none⟩ u').drew.cell? ⟨w.heap.size, 1, none⟩ = some (.slice (some ⟨bt, ot, none⟩) tm tc) ∧ (wr.setCell ⟨tb, q, none⟩ u').drew.cell? ⟨bt, ot + ti, none⟩ = some (.int .i64 y) from
              ⟨keep_drw x1 (by show tb ≠ ob; omega), keep_drw jz (by show tb ≠ w.heap.size; omega), keep_drw ey (by show tb ≠ bt; omega)⟩)
            have htm : (ti : Int) < (tm : Int) := by have := HTl.out; omega
            clear hIx hPl hti hi0 hi1 hat hy hvE hct hD hv4 hall hlen hdl hBB hBo HT4 hst
            go_wp2_with fail
            refine wp_region_noPanic ?_
            refine wp_region_held_drew (S := fun W => W.cell? ⟨ob, 1, none⟩ = some (.slice (some ⟨tb, 0, none⟩) n n) ∧ W.cell? ⟨w.heap.size, 1, none⟩ = some (.slice (some ⟨bt, ot, none⟩) tm tc) ∧ W.cell? ⟨bt, ot + ti, none⟩ = some (.int .i64 y)) (by kernel_rfl) ?_ (fun hHeld => ?_)
            · exact ⟨x1, jz, ey⟩
            refine wpAnyH_take (i := 0) (oi := ⟨_, _, _, _, _, _⟩) (v := ?_) rfl (by kernel_rfl) (by kernel_rfl) (by kernel_rfl) (fun _ _ _ h => h) (Or.inl ⟨rfl, ?_⟩) (by assumption) ?_
            rotate_left 1
            · intro w_ hSw; (try dsimp only at hSw); go_simp; (try with_reducible rfl)
            (try simp only [Act.put, List.setIfInBounds_toArray, List.set_cons_zero, List.set_cons_succ])
            refine wpAnyH_take (i := 1) (oi := ⟨_, _, _, _, _, _⟩) (v := ?_) rfl (by kernel_rfl) (by kernel_rfl) (by kernel_rfl) (fun _ _ _ h => h) (Or.inl ⟨rfl, ?_⟩) (by assumption) ?_
            rotate_left 1
            · intro w_ hSw; (try dsimp only at hSw); go_simp; (try with_reducible rfl)
            (try simp only [Act.put, List.setIfInBounds_toArray, List.set_cons_zero, List.set_cons_succ])
            refine wpAnyH_take (i := 2) (oi := ⟨_, _, _, _, _, _⟩) (v := ?_) rfl (by kernel_rfl) (by kernel_rfl) (by kernel_rfl) (fun _ _ _ h => h) (Or.inl ⟨rfl, ?_⟩) (by assumption) ?_
            rotate_left 1
            · intro w_ hSw; (try dsimp only at hSw); go_simp; (try with_reducible rfl)
            (try simp only [Act.put, List.setIfInBounds_toArray, List.set_cons_zero, List.set_cons_succ])
            refine wpAnyH_take (i := 3) (oi := ⟨_, _, _, _, _, _⟩) (v := ?_) rfl (by kernel_rfl) (by kernel_rfl) (by kernel_rfl) (fun _ _ _ h => h) (Or.inl ⟨rfl, ?_⟩) (by assumption) ?_
            rotate_left 1
            · intro w_ hSw; (try dsimp only at hSw); go_simp; (try with_reducible rfl)
            (try simp only [Act.put, List.setIfInBounds_toArray, List.set_cons_zero, List.set_cons_succ])
            refine wpAnyH_take (i := 4) (oi := ⟨_, _, _, _, _, _⟩) (v := ?_) rfl (by kernel_rfl) (by kernel_rfl) (by kernel_rfl) (fun _ _ _ h => h) (Or.inl ⟨rfl, ?_⟩) (by assumption) ?_
            rotate_left 1
            · intro w_ hSw; (try dsimp only at hSw); go_simp; (try with_reducible rfl)
            (try simp only [Act.put, List.setIfInBounds_toArray, List.set_cons_zero, List.set_cons_succ])
            refine wpAnyH_take (i := 5) (oi := ⟨_, _, _, _, _, _⟩) (v := ?_) rfl (by kernel_rfl) (by kernel_rfl) (by kernel_rfl) (fun _ _ _ h => h) (Or.inl ⟨rfl, ?_⟩) (by assumption) ?_
            rotate_left 1
            · intro w_ hSw; (try dsimp only at hSw); go_simp; (try with_reducible rfl)
            (try simp only [Act.put, List.setIfInBounds_toArray, List.set_cons_zero, List.set_cons_succ])
            refine wpAnyH_take (i := 6) (oi := ⟨_, _, _, _, _, _⟩) (v := ?_) rfl (by kernel_rfl) (by kernel_rfl) (by kernel_rfl) (fun _ _ _ h => h) (Or.inl ⟨rfl, ?_⟩) (by assumption) ?_
            rotate_left 1
            · intro w_ hSw; (try dsimp only at hSw); go_simp; (try with_reducible rfl)
            (try simp only [Act.put, List.setIfInBounds_toArray, List.set_cons_zero, List.set_cons_succ])
            refine wpAnyH_take (i := 7) (oi := ⟨_, _, _, _, _, _⟩) (v := ?_) rfl (by kernel_rfl) (by kernel_rfl) (by kernel_rfl) (fun _ _ _ h => h) (Or.inl ⟨rfl, ?_⟩) (by assumption) ?_
            rotate_left 1
            · intro w_ hSw; (try dsimp only at hSw); go_simp; (try with_reducible rfl)
            (try simp only [Act.put, List.setIfInBounds_toArray, List.set_cons_zero, List.set_cons_succ])
            refine wpAnyH_ready (rs := [8]) (by kernel_rfl) (by simp) ?_
            refine AllReadyH.cons (o := ⟨_, _, _, _, _, _⟩) rfl (fun K hK => ?_) AllReadyH.nil
            go_simp
            go_at_call 101
            refine (HIx.out _ (below_drew _)).mono ?_
            rintro e_ w6 ⟨rfl, rfl⟩
            go_wp2_with fail
            refine hK.out _ _ ?_ (fun hHeld => ?_)
            · exact ⟨x1, jz, ey⟩
            clear hK K
            (try simp only [Act.put, List.setIfInBounds_toArray, List.set_cons_zero, List.set_cons_succ])
            refine wpAnyH_take (i := 9) (oi := ⟨_, _, _, _, _, _⟩) (v := ?_) rfl (by kernel_rfl) (by kernel_rfl) (by kernel_rfl) (fun _ _ _ h => h) (Or.inl ⟨rfl, ?_⟩) (by assumption) ?_
            rotate_left 1
            · intro w_ hSw; (try dsimp only at hSw); go_simp; (try with_reducible rfl)
            (try simp only [Act.put, List.setIfInBounds_toArray, List.set_cons_zero, List.set_cons_succ])
            refine wpAnyH_take (i := 10) (oi := ⟨_, _, _, _, _, _⟩) (v := ?_) rfl (by kernel_rfl) (by kernel_rfl) (by kernel_rfl) (fun _ _ _ h => h) (Or.inl ⟨rfl, ?_⟩) (by assumption) ?_
            rotate_left 1
            · intro w_ hSw; (try dsimp only at hSw); go_simp; (try with_reducible rfl)
            (try simp only [Act.put, List.setIfInBounds_toArray, List.set_cons_zero, List.set_cons_succ])
            refine wpAnyH_ready (rs := [11]) (by kernel_rfl) (by simp) ?_
            refine AllReadyH.cons (o := ⟨_, _, _, _, _, _⟩) rfl (fun K hK => ?_) AllReadyH.nil
            go_simp
            go_at_call 100
            refine (HPl.out _ (below_drew _)).mono ?_
            rintro e_ w6 ⟨rfl, rfl⟩
            go_wp2_with fail
            refine hK.out _ _ ?_ (fun hHeld => ?_)
            · exact ⟨x1, jz, ey⟩
            clear hK K
            (try simp only [Act.put, List.setIfInBounds_toArray, List.set_cons_zero, List.set_cons_succ])
            refine wpAnyH_take (i := 12) (oi := ⟨_, _, _, _, _, _⟩) (v := ?_) rfl (by kernel_rfl) (by kernel_rfl) (by kernel_rfl) (fun _ _ _ h => h) (Or.inl ⟨rfl, ?_⟩) (by assumption) ?_
            rotate_left 1
            · intro w_ hSw; (try dsimp only at hSw); go_simp; (try with_reducible rfl)
            (try simp only [Act.put, List.setIfInBounds_toArray, List.set_cons_zero, List.set_cons_succ])
            refine wpAnyH_ready (rs := [13]) (by kernel_rfl) (by simp) ?_
            refine AllReadyH.cons (o := ⟨_, _, _, _, _, _⟩) rfl (fun K hK => ?_) AllReadyH.nil
            go_simp
            refine hK.out _ _ ?_ (fun hHeld => ?_)
            · exact HKS.out _
            clear hK K
            (try simp only [Act.put, List.setIfInBounds_toArray, List.set_cons_zero, List.set_cons_succ])
            refine wpAnyH_done (by kernel_rfl) ?_ _
            refine NoPanic.normal ?_
            have HO6 : Hid ((wr.setCell ⟨tb, q, none⟩ (.int .i64 v)).drew.ownsRow wo.heap.size 3 1 (.slice (some ⟨tb, 0, none⟩) n n) n ((sbK (zn : Int) xs f n (q + 1)).map (Value.int .i64))) := HST.out.1.kept (grown_of_below (below_drew _) none) (own_em _)
            have HX6 : Hid ((wr.setCell ⟨tb, q, none⟩ (.int .i64 v)).drew.heap[ob]? = some (.cells #[.int .i64 (j : Int), .slice (some ⟨tb, 0, none⟩) n n] 75 (0, 0))) := by
              show (wr.setCell ⟨tb, q, none⟩ (.int .i64 v)).heap[ob]? = _
              rw [Below.heap_setCell _ _ _ _ (by show ob ≠ tb; omega), HBj.out.block ob hsi]; exact HXb.out
            have HB6 : Hid (Below wo.heap.size wo (wr.setCell ⟨tb, q, none⟩ (.int .i64 v)).drew) := ((HBi.out.trans (HBj.out.mono HBi.out.size)).setCell (by show wo.heap.size ≤ tb; omega) _).drew
            have hs6 : ob < (wr.setCell ⟨tb, q, none⟩ (.int .i64 v)).drew.heap.size := by
              have h_ := HBj.out.size
              show ob < (wr.setCell ⟨tb, q, none⟩ (.int .i64 v)).heap.size
              simp [World.setCell]; omega
            go_wp2_with fail
            go_roundw
            case rel => exact ⟨q + 1, by omega, by go_num, HX6, HO6, HB6, hs6⟩
            case measure => simp [intOf]; omega
      · obtain rfl : q = n := by omega
        obtain ⟨x0, x1, xf⟩ := box_cells HXb.out
        obtain ⟨r0, r1, rf⟩ := box_cells ((HBi.out.block _ hltw).trans HRes.out)
        go_wp2_with fail
        refine bodyPost_ret (v := .agg #[.int .i64 (m : Int), .slice (some ⟨tb, 0, none⟩) q q]) (by simp [results, Try.results64, go_sem, r0, r1]) rfl ⟨tb, q, rfl, ?_, ?_⟩
        · have h1 := HTb.out
          rw [sbK_all] at h1
          exact ownsRow_base (ownsRow_setCell_below (ownsRow_setCell_below h1 (by show w.heap.size + 1 < _; omega) _) (by show w.heap.size + 1 < _; omega) _) (by omega)
        · exact ((HB.out.trans (HBi.out.mono HB.out.size)).setCell (by show _ ≤ _; simp) _).setCell (by show _ ≤ _; simp) _

end Go.Proofs.Ytmhlkopkcgmpjaa
