/-
  Contract: impl.operationOn, for any function value that tells the places. Conditions: the bounds that it names.
-/
import Derived.Test.YtcmjkfcgekmomaaDigs
import Derived.Test.YtcmjkfcgekmomaaIdx
import Derived.Test.YtcmjkfcgekmomaaSbaM
import Derived.Test.YtcmjkfcgekmomaaBuilt
import Derived.Test.YtcmjkfcgekmomaaMake
import Derived.Shelf.Abstract
import Derived.Deep.RegionHeld3
import Derived.Deep.DrawnRows
namespace Go.Proofs.Ytcmjkfcgekmomaa
open Go.RowKit
set_option linter.unusedVariables false
set_option linter.unusedSimpArgs false
attribute [local go_sem ↓] Go.wp_at_zero Go.wp_at_succ

theorem grownBy_setFar (w : World) (p : Addr) (u : Value) : w.grownBy (w.setCell p u) (some p.block) :=
  ⟨rfl, rfl, rfl, by simp [World.setCell], fun k hk hne => Below.heap_setCell _ _ _ _ (by show k ≠ p.block; exact fun e => hne (by rw [e]))⟩
theorem keep_far2 {w : World} {a a' b : Addr} {u u' v : Value} (h : w.cell? b = some v) (hne : a.block ≠ b.block) (hne' : a'.block ≠ b.block) : ((w.setCell a u).setCell a' u').cell? b = some v :=
  (World.cell?_setCell_other _ _ _ _ (fun e => hne' (by rw [e]))).trans ((World.cell?_setCell_other _ _ _ _ (fun e => hne (by rw [e]))).trans h)
theorem keep_drw {w : World} {a b : Addr} {u v : Value} (h : w.cell? b = some v) (hne : a.block ≠ b.block) : (w.setCell a u).drew.cell? b = some v :=
  (show (w.setCell a u).drew.cell? b = (w.setCell a u).cell? b from rfl).trans ((World.cell?_setCell_other _ _ _ _ (fun e => hne (by rw [e]))).trans h)
theorem digs_row (w : World) (z : Int) (m : Nat) (at_ : Int) (hm : m ≤ 3) : (w.alloc (.cells (digsArr z m at_) 3)).ownsRow w.heap.size 3 1 (.slice (some ⟨w.heap.size, 0, none⟩) m m) m ((digs z m at_).map (Value.int .i64)) := by
  refine ⟨by simp [digs_len], .inr ⟨w.heap.size, m, digsArr z m at_, rfl, Nat.le_refl _, heap_alloc_new _ _, Nat.le_refl _, ?_, by simp [digsArr, digs_len], ?_⟩⟩
  · unfold maxLen; omega
  · rw [List.take_of_length_le (by simp [digsArr, digs_len])]; simp [digsArr]
theorem box_set01 {w : World} {B : Nat} {a b u v : Value} {ty : TypeId} (h : w.heap[B]? = some (.cells #[a, b] ty (0, 0))) : ((w.setCell ⟨B, 0, none⟩ u).setCell ⟨B, 1, none⟩ v).heap[B]? = some (.cells #[u, v] ty (0, 0)) := by
  simp [World.setCell, Array.getElem?_modify, h]

/-- The table of an operation on some elements, up to place q; pl tells the places. -/
def sfE (pl : Int → Int) (z : Int) (xs : List Int) (f : OpD) (q : Nat) : Int := pl (atA z f ((digs (xs.length : Int) f.1.toNat (q : Int)).map (nmP xs)))
def sfT (pl : Int → Int) (z : Int) (xs : List Int) (f : OpD) (n : Nat) : List Int := (List.range n).map (sfE pl z xs f)
theorem sfT_len (pl : Int → Int) (z : Int) (xs : List Int) (f : OpD) (n : Nat) : (sfT pl z xs f n).length = n := by simp [sfT]
theorem sfT_succ (pl : Int → Int) (z : Int) (xs : List Int) (f : OpD) (n : Nat) : sfT pl z xs f (n + 1) = sfT pl z xs f n ++ [sfE pl z xs f n] := by simp [sfT, List.range_succ]
def sfK (pl : Int → Int) (z : Int) (xs : List Int) (f : OpD) (n q : Nat) : List Int := sfT pl z xs f q ++ List.replicate (n - q) 0
theorem sfK_zero (pl : Int → Int) (z : Int) (xs : List Int) (f : OpD) (n : Nat) : sfK pl z xs f n 0 = List.replicate n 0 := by simp [sfK, sfT]
theorem sfK_all (pl : Int → Int) (z : Int) (xs : List Int) (f : OpD) (n : Nat) : sfK pl z xs f n n = sfT pl z xs f n := by simp [sfK]
theorem sfK_set (pl : Int → Int) (z : Int) (xs : List Int) (f : OpD) {n q : Nat} (h : q < n) : (sfK pl z xs f n q).set q (sfE pl z xs f q) = sfK pl z xs f n (q + 1) := by
  unfold sfK
  rw [List.set_append_right _ _ (by rw [sfT_len]; exact Nat.le_refl _), sfT_len, Nat.sub_self, sfT_succ, show n - q = (n - (q + 1)) + 1 by omega, List.replicate_succ]
  simp
theorem sf_sb (z : Int) (xs : List Int) (f : OpD) (n : Nat) : sfT (plI xs) z xs f n = sbT z xs f n := rfl

/-- A new operation of zeros: its box X, its table g. -/
structure FreshO (w W : World) (m n X g : Nat) : Prop where
  box : W.heap[X]? = some (.cells #[.int .i64 (m : Int), .slice (some ⟨g, 0, none⟩) n n] 66 (0, 0))
  row : W.ownsRow w.heap.size 3 1 (.slice (some ⟨g, 0, none⟩) n n) n ((List.replicate n (0 : Int)).map (Value.int .i64))
  bel : Below w.heap.size w W
  lo : w.heap.size ≤ X
  tlo : w.heap.size ≤ g
  ne : X ≠ g
  hi : X < W.heap.size

set_option maxRecDepth 100000 in
set_option maxHeartbeats 4000000 in
theorem opF_any (pf : Nat) (pc : Array Value) (pl : Int → Int) (lo hi lo2 hi2 : Nat) (zn : Nat) (f : OpD) (bt ot tm tc b o k d m : Nat) (xs : List Int) (w : World) (ht : IView w lo hi (some ⟨bt, ot, none⟩) tm f.2) (hhi : hi ≤ w.heap.size) (hm : f.1 = (m : Int)) (hok : opOkB (zn : Int) f = true) (hz1 : 1 ≤ zn) (hz2 : zn ≤ 8)
    (hx : IView w lo2 hi2 (some ⟨b, o, none⟩) k xs) (hhi2 : hi2 ≤ w.heap.size) (hk1 : 1 ≤ k) (hk8 : k ≤ 8) (ha : allIn (zn : Int) xs = true)
    (hEn : ∀ args w, (callFunc pf args).run Try.prog w = .ok (.enter pf args) w)
    (hPf : ∀ (W : World) (y : Int), Below w.heap.size w W → y ∈ f.2 → Calls Try.prog pf (#[.int .i64 y] ++ pc) W fun e W' => e = .returned (.int .i64 (pl y)) ∧ Below W.heap.size W W') :
    Calls Try.prog 61 #[.int .i64 (zn : Int), .agg #[.int .i64 (m : Int), .slice (some ⟨bt, ot, none⟩) tm tc], .slice (some ⟨b, o, none⟩) k d, .func (.func pf) #[] pc] w fun e w' => ∃ g dd, e = .returned (.agg #[.int .i64 (m : Int), .slice (some ⟨g, 0, none⟩) (sbL xs f) dd]) ∧ w'.ownsRow w.heap.size 3 1 (.slice (some ⟨g, 0, none⟩) (sbL xs f) dd) (sbL xs f) ((sfT pl (zn : Int) xs f (sbL xs f)).map (Value.int .i64)) ∧ Below w.heap.size w w' := by
  have hxl := hx.1
  have htl := ht.1
  have hm3 : m ≤ 3 := by have := (opOkB_of hok).1; omega
  obtain ⟨hp, hn1, hn2⟩ := sbL_bd (f := f) (by omega) (by omega) hok (xs := xs)
  rw [hxl, hm, Int.toNat_natCast] at hp
  obtain ⟨n, hn⟩ : ∃ n, sbL xs f = n := ⟨_, rfl⟩
  rw [hn] at hp hn1 hn2 ⊢
  have hB := below_then (below_alloc w (.cells #[.int .i64 (m : Int), .slice (some ⟨bt, ot, none⟩) tm tc] 66)) (below_alloc _ (.cells #[.int .i64 0, .slice none 0 0] 66))
  have HB := Lib.hid hB
  have cm : ((w.alloc (.cells #[.int .i64 (m : Int), .slice (some ⟨bt, ot, none⟩) tm tc] 66)).alloc (.cells #[.int .i64 0, .slice none 0 0] 66)).cell? ⟨w.heap.size, 0, none⟩ = some (.int .i64 (m : Int)) := cell_b (below_alloc _ _) (by simp)
  have ct : ((w.alloc (.cells #[.int .i64 (m : Int), .slice (some ⟨bt, ot, none⟩) tm tc] 66)).alloc (.cells #[.int .i64 0, .slice none 0 0] 66)).cell? ⟨w.heap.size, 1, none⟩ = some (.slice (some ⟨bt, ot, none⟩) tm tc) := cell_b (below_alloc _ _) (by simp)
  have HRes : Hid (((w.alloc (.cells #[.int .i64 (m : Int), .slice (some ⟨bt, ot, none⟩) tm tc] 66)).alloc (.cells #[.int .i64 0, .slice none 0 0] 66)).heap[w.heap.size + 1]? = some (.cells #[.int .i64 0, .slice none 0 0] 66 (0, 0))) := by
    have h := heap_alloc_new (w.alloc (.cells #[.int .i64 (m : Int), .slice (some ⟨bt, ot, none⟩) tm tc] 66)) (.cells #[.int .i64 0, .slice none 0 0] 66)
    rw [World.size_alloc] at h
    exact h
  have HPw := Lib.hid (fun W : World => len_any (k : Int) m W (by omega) (by omega) hm3)
  rw [hp] at HPw
  have HX := Lib.hid hx
  have HT := Lib.hid ht
  have HOk := Lib.hid hok
  have HA := Lib.hid ha
  have HM := Lib.hid hm
  have HN := Lib.hid hn
  have HXl := Lib.hid hxl
  have HTl := Lib.hid htl
  have HPf := Lib.hid hPf
  clear hx ht hok ha hm hn hB hxl htl hp hPf
  obtain ⟨j0, hj0, hq0, hq1, hq2⟩ := info_parts Try.infoInt
  obtain ⟨wo, hwo⟩ : ∃ wo : World, wo = ((w.alloc (.cells #[.int .i64 (m : Int), .slice (some ⟨bt, ot, none⟩) tm tc] 66)).alloc (.cells #[.int .i64 0, .slice none 0 0] 66)) := ⟨_, rfl⟩
  have hso : wo.heap.size = w.heap.size + 1 + 1 := by rw [hwo]; simp
  have hltw : w.heap.size + 1 < wo.heap.size := by omega
  clear hso
  go_enter Try.func61, Try.ntmps61
  go_wp2_with fail
  rw [← hwo] at cm ct HRes HB ⊢
  clear hwo
  obtain ⟨w3, hr3, ho3, hg3⟩ := run_make_full (P := Try.prog) wo.drew wo.heap.size 25 3 j0 _ 1 Try.underlying25 hj0 hq0 hq1 .i64 .i64 n (by rw [hq2]; omega) (by unfold maxLen; omega) (Nat.le_refl _)
  obtain ⟨w4, hr4, ho4, hg4⟩ := run_make_full (P := Try.prog) (wo.alloc (.cells #[.int .i64 0, .slice none 0 0] 66)).drew wo.heap.size 25 3 j0 _ 1 Try.underlying25 hj0 hq0 hq1 .i64 .i64 n (by rw [hq2]; omega) (by unfold maxLen; omega) (by show wo.heap.size ≤ (wo.alloc _).heap.size; simp)
  simp only [World.size_alloc, World.size_drew] at hr3 ho3 hr4 ho4
  have b3 : Below wo.heap.size wo w3 := (Below.refl _ _).drew.grown hg3 (Nat.le_refl _) (by intro k hk; cases hk)
  have b4 : Below (wo.alloc (.cells #[.int .i64 0, .slice none 0 0] 66)).heap.size (wo.alloc (.cells #[.int .i64 0, .slice none 0 0] 66)) w4 := (Below.refl _ _).drew.grown hg4 (Nat.le_refl _) (by intro k hk; cases hk)
  have bd4 : Below wo.heap.size wo (wo.alloc (.cells #[.int .i64 0, .slice none 0 0] 66)) := below_alloc _ _
  have p0 : w3.cell? ⟨w.heap.size, 0, none⟩ = some (.int .i64 (m : Int)) := cell_b b3 cm
  have q0 : w4.cell? ⟨w.heap.size, 0, none⟩ = some (.int .i64 (m : Int)) := cell_b b4 (cell_b bd4 cm)
  have q3 : w4.cell? ⟨wo.heap.size, 0, none⟩ = some (.int .i64 0) := cell_b b4 (by simp)
  have q4 : w4.cell? ⟨wo.heap.size, 1, none⟩ = some (.slice none 0 0) := cell_b b4 (by simp)
  have q5 : w4.frozen? ⟨wo.heap.size, 0, none⟩ = false := (b4.frozen (p := ⟨wo.heap.size, 0, none⟩) (by simp)).trans (by simp)
  have q6 : w4.frozen? ⟨wo.heap.size, 1, none⟩ = false := (b4.frozen (p := ⟨wo.heap.size, 1, none⟩) (by simp)).trans (by simp)
  have hrw : ((List.replicate n (0 : Int)).map (Value.int .i64)) = (madeCells (Value.int .i64 0).cells (n * 1)).toList := by
    rw [show (Value.int .i64 0).cells = #[Value.int .i64 0] from rfl, Nat.mul_one, toList_madeCells_one, List.map_replicate]
  have HF3 : Hid (FreshO wo (w3.alloc (.cells #[.int .i64 (m : Int), .slice (some ⟨wo.heap.size, 0, none⟩) n n] 66)) m n w3.heap.size wo.heap.size) :=
    ⟨heap_alloc_new _ _, by rw [hrw]; exact ho3.alloc _, b3.alloc b3.size _, b3.size, Nat.le_refl _, by have := (ho3.lt wo.heap.size rfl).2; omega, by simp⟩
  have HF4 : Hid (FreshO wo ((w4.setCell ⟨wo.heap.size, 0, none⟩ (.int .i64 (m : Int))).setCell ⟨wo.heap.size, 1, none⟩ (.slice (some ⟨wo.heap.size + 1, 0, none⟩) n n)) m n wo.heap.size (wo.heap.size + 1)) := by
    refine ⟨box_set01 (a := .int .i64 0) (b := .slice none 0 0) ((b4.block _ (by simp)).trans (heap_alloc_new _ _)), ?_, ((below_alloc _ _).trans (b4.mono (by simp)) |>.setCell (by show wo.heap.size ≤ wo.heap.size; omega) _).setCell (by show wo.heap.size ≤ wo.heap.size; omega) _, Nat.le_refl _, by omega, by omega, ?_⟩
    · rw [hrw]
      have h1 := ho4.kept (grownBy_setFar w4 ⟨wo.heap.size, 0, none⟩ (.int .i64 (m : Int))) (.inr (by show some (wo.heap.size + 1) ≠ some wo.heap.size; simp))
      exact h1.kept (grownBy_setFar _ ⟨wo.heap.size, 1, none⟩ _) (.inr (by show some (wo.heap.size + 1) ≠ some wo.heap.size; simp))
    · have h := b4.size
      simp at h
      simp [World.setCell]; omega
  have KS4 := Lib.hid (fun (u1 u2 : Value) => keep_far2 (a := ⟨wo.heap.size, 0, none⟩) (a' := ⟨wo.heap.size, 1, none⟩) (u := u1) (u' := u2) q0 (by show wo.heap.size ≠ w.heap.size; omega) (by show wo.heap.size ≠ w.heap.size; omega))
  have hs3 : wo.heap.size ≤ w3.heap.size := b3.size
  have hs4 : wo.heap.size < w4.heap.size := by have := b4.size; simp at this; omega
  clear ho3 ho4 b3 b4 bd4 hg3 hg4
  go_region_held3 (fun w' => w'.cell? ⟨w.heap.size, 0, none⟩ = some (.int .i64 (m : Int))) (first | (exact p0) | (exact q0) | (exact KS4.out _ _) | go_keep) ((go_at_call 110; refine (HPw.out _).mono ?_; rintro e_ w2_ ⟨rfl, rfl⟩))
  all_goals
    (first
      | (obtain ⟨wA, hwA⟩ : ∃ wA : World, wA = w3.alloc (.cells #[.int .i64 (m : Int), .slice (some ⟨wo.heap.size, 0, none⟩) n n] 66) := ⟨_, rfl⟩
         rw [← hwA]
         have HFr := HF3
         rw [← hwA] at HFr
         obtain ⟨ob, hob⟩ : ∃ ob : Nat, ob = w3.heap.size := ⟨_, rfl⟩
         obtain ⟨tb, htb⟩ : ∃ tb : Nat, tb = wo.heap.size := ⟨_, rfl⟩
         have HFr2 : Hid (FreshO wo wA m n ob tb) := by rw [hob, htb]; exact HFr
         rw [← hob])
      | (obtain ⟨wA, hwA⟩ : ∃ wA : World, wA = ((w4.setCell ⟨wo.heap.size, 0, none⟩ (.int .i64 (m : Int))).setCell ⟨wo.heap.size, 1, none⟩ (.slice (some ⟨wo.heap.size + 1, 0, none⟩) n n)) := ⟨_, rfl⟩
         rw [← hwA]
         have HFr := HF4
         rw [← hwA] at HFr
         obtain ⟨ob, hob⟩ : ∃ ob : Nat, ob = wo.heap.size := ⟨_, rfl⟩
         obtain ⟨tb, htb⟩ : ∃ tb : Nat, tb = wo.heap.size + 1 := ⟨_, rfl⟩
         have HFr2 : Hid (FreshO wo wA m n ob tb) := by rw [hob, htb]; exact HFr
         rw [← hob]))
    clear hwA hob htb HFr HF3 HF4 KS4 p0 q0 q3 q4 q5 q6 hr3 hr4 hs3 hs4
    obtain ⟨hA1, hA2, hA3, hA4, hA4b, hA5, hA6⟩ := HFr2.out
    have HX0 := Lib.hid hA1
    have HT0 : Hid (wA.ownsRow wo.heap.size 3 1 (.slice (some ⟨tb, 0, none⟩) n n) n ((sfK pl (zn : Int) xs f n 0).map (Value.int .i64))) := by unfold Hid; rw [sfK_zero]; exact hA2
    have HB0 := Lib.hid hA3
    obtain ⟨x0, x1, xf⟩ := box_cells hA1
    clear hA1 hA2 hA3 HFr2
    go_wp2_with fail
    go_loopw [10, 11, 12, 13, 26] (fun s8 s9 s10 s11 i wi => ∃ q : Nat, q ≤ n ∧ i = .int .i64 (q : Int) ∧ Hid (wi.heap[ob]? = some (.cells #[.int .i64 (m : Int), .slice (some ⟨tb, 0, none⟩) n n] 66 (0, 0))) ∧ Hid (wi.ownsRow wo.heap.size 3 1 (.slice (some ⟨tb, 0, none⟩) n n) n ((sfK pl (zn : Int) xs f n q).map (Value.int .i64))) ∧ Hid (Below wo.heap.size wo wi) ∧ ob < wi.heap.size) (fun _ _ _ _ i _ => n - (intOf i).toNat)
    case atStart => exact ⟨0, Nat.zero_le _, rfl, HX0, HT0, HB0, hA6⟩
    case round =>
      obtain ⟨q, hq, rfl, HXb, HTb, HBi, hsi⟩ := hrel
      clear HX0 HT0 HB0 hA6 x0 x1 xf
      obtain ⟨wi, hwi⟩ : ∃ wi : World, wi = wr := ⟨_, rfl⟩
      rw [← hwi]
      rw [← hwi] at HXb HTb HBi hsi
      clear hwi
      have iz : wi.cell? ⟨w.heap.size, 0, none⟩ = some (.int .i64 (m : Int)) := cell_b HBi.out cm
      have ia : wi.cell? ⟨w.heap.size, 1, none⟩ = some (.slice (some ⟨bt, ot, none⟩) tm tc) := cell_b HBi.out ct
      by_cases hltq : q < n
      · have HAr := Lib.hid (argsImpl_any (k : Int) (q : Int) m hm3 wi (by omega) (by omega) (by omega) (by omega))
        have hltq' : (q : Int) < (n : Int) := by omega
        go_wp2_with fail
        refine HAr.out.mono ?_
        rintro e_ w5 ⟨rfl, hw5⟩
        have B5 : Hid (Below wi.heap.size wi w5) := by rw [hw5]; exact below_alloc _ _
        have HD5 : Hid (w5.ownsRow wi.heap.size 3 1 (.slice (some ⟨wi.heap.size, 0, none⟩) m m) m ((mixI ((digs (k : Int) m (q : Int)).map (nmP xs)) (digs (k : Int) m (q : Int)) 0).map (Value.int .i64))) := by
          rw [mixI_zero, hw5]; exact digs_row wi _ m _ hm3
        clear hw5
        go_wp2_with fail
        go_loopw [12, 13, 37] (fun s10 s11 i wq => ∃ j : Nat, j ≤ m ∧ i = .int .i64 (j : Int) ∧ Hid (wq.ownsRow wi.heap.size 3 1 (.slice (some ⟨wi.heap.size, 0, none⟩) m m) m ((mixI ((digs (k : Int) m (q : Int)).map (nmP xs)) (digs (k : Int) m (q : Int)) j).map (Value.int .i64))) ∧ Hid (Below wi.heap.size wi wq)) (fun _ _ i _ => m - (intOf i).toNat)
        case atStart => exact ⟨0, Nat.zero_le _, rfl, HD5, B5⟩
        case round =>
          obtain ⟨j, hj, rfl, HD, HBj⟩ := hrel
          have hlen : ((digs (k : Int) m (q : Int)).map (nmP xs)).length = (digs (k : Int) m (q : Int)).length := by rw [List.length_map]
          have hdl := digs_len (k : Int) m (q : Int)
          have hBo := HB.out.trans (HBi.out.mono HB.out.size)
          have hBB := hBo.trans (HBj.out.mono hBo.size)
          by_cases hltj : j < m
          · obtain ⟨x, hx⟩ : ∃ x, (digs (k : Int) m (q : Int))[j]? = some x := ⟨_, List.getElem?_eq_getElem (by omega)⟩
            obtain ⟨x0, x1⟩ := allIn_get (digs_in (z := (k : Int)) (by omega) m (q : Int)) hx
            obtain ⟨xn, rfl⟩ : ∃ xn : Nat, x = (xn : Int) := ⟨x.toNat, by omega⟩
            have hnm := nmP_get (xs := xs) x0 (by rw [HXl.out]; exact x1)
            obtain ⟨u, hu⟩ : ∃ u, u = nmP xs (xn : Int) := ⟨_, rfl⟩
            rw [← hu, Int.toNat_natCast] at hnm
            obtain ⟨b', o', he', _, _, hcx⟩ := HX.out.at_ (by omega)
            cases he'
            have en : wr.cell? ⟨b, o + xn, none⟩ = some (.int .i64 u) := cell_b hBB (hcx xn u hnm)
            have hcj := HD.out.cellAt j (by omega)
            rw [List.getElem?_map, mixI_get hlen (by omega), hx] at hcj
            have hcj2 : wr.cell? ⟨wi.heap.size, j, none⟩ = some (.int .i64 (xn : Int)) := hcj
            have hfr := HD.out.frozenAt j
            have hst := HD.out.stored j (.int .i64 u)
            rw [← List.map_set, mixI_set hlen (by omega) (by rw [List.getElem?_map, hx, hu]; rfl)] at hst
            have HST := Lib.hid hst
            have hxn : (xn : Int) < (k : Int) := by omega
            have hltj' : (j : Int) < (m : Int) := by omega
            clear hx hnm hu hlen hdl hst hcx hBB hBo hcj
            go_wp2_with fail
            go_roundw
            case rel => exact ⟨j + 1, by omega, by go_num, HST.out.1, HBj.out.grown HST.out.2 HBj.out.size (by intro b hb; cases hb; exact Nat.le_refl _)⟩
            case measure => simp [intOf]; omega
          · obtain rfl : j = m := by omega
            have hD := HD.out
            rw [mixI_all hlen (by omega)] at hD
            have hv4 := (OwnsInts.of_row hD).view
            have hall := at_in (z := (zn : Int)) (xs := xs) (f := f) (q := q) (by rw [HXl.out]; exact hk1) HA.out
            rw [HXl.out, HM.out, Int.toNat_natCast] at hall
            obtain ⟨hi0, hi1, hat⟩ := at_get (z := (zn : Int)) (by omega) HOk.out (xs := (digs (k : Int) j (q : Int)).map (nmP xs)) (by rw [HM.out, List.length_map, hdl]) hall
            obtain ⟨ti, hti⟩ : ∃ ti : Nat, idxA (zn : Int) ((digs (k : Int) j (q : Int)).map (nmP xs)) = (ti : Int) := ⟨_, (Int.toNat_of_nonneg hi0).symm⟩
            rw [hti, Int.toNat_natCast] at hat
            rw [hti] at hi1
            obtain ⟨y, hy⟩ : ∃ y, atA (zn : Int) f ((digs (k : Int) j (q : Int)).map (nmP xs)) = y := ⟨_, rfl⟩
            rw [hy] at hat
            have hIx := fun (W : World) (hW : Below wr.heap.size wr W) => idx_impl _ _ (zn : Int) _ j j _ W (hv4.kept (Kept.of_below hW (Nat.le_refl _))) (by omega) (by omega) hall hm3
            simp only [hti] at hIx
            have HIx := Lib.hid hIx
            have hPl := fun (W : World) (hW : Below wr.heap.size wr W) => HPf.out W y (hBB.trans (hW.mono hBB.size)) (List.mem_of_getElem? hat)
            obtain ⟨v, hvE⟩ : ∃ v, pl y = v := ⟨_, rfl⟩
            simp only [hvE] at hPl
            have HPl := Lib.hid hPl
            have HE : Hid (sfE pl (zn : Int) xs f q = v) := by unfold Hid sfE; rw [HXl.out, HM.out, Int.toNat_natCast, hy, hvE]
            obtain ⟨b', o', he', _, _, hct⟩ := HT.out.at_ (by have := HTl.out; omega)
            cases he'
            have ey : wr.cell? ⟨bt, ot + ti, none⟩ = some (.int .i64 y) := cell_b hBB (hct ti y hat)
            obtain ⟨x0, x1, xf⟩ := box_cells ((HBj.out.block _ hsi).trans HXb.out)
            have jz : wr.cell? ⟨w.heap.size, 1, none⟩ = some (.slice (some ⟨bt, ot, none⟩) tm tc) := cell_b HBj.out ia
            have HT4 := HTb.out.kept (grown_of_below HBj.out none) (own_em _)
            have hcu : ∃ u0, wr.cell? ⟨tb, q, none⟩ = some u0 := by
              rw [HT4.cellAt q (by omega)]
              have hl1 := HT4.1
              exact ⟨_, List.getElem?_eq_getElem (by omega)⟩
            have HT4h := Lib.hid HT4
            have htb := HT4.lt tb rfl
            have hbtw : bt < w.heap.size := World.block_lt_of_cell? w _ (hct ti y hat)
            have htm : (ti : Int) < (tm : Int) := by have := HTl.out; omega
            clear hIx hPl hti hi0 hi1 hat hy hvE hct hD hv4 hall hlen hdl hBB hBo HT4
            go_wp2_with fail
            refine wp_region_noPanic ?_
            refine wp_region_held_drew (S := fun W => W.cell? ⟨ob, 1, none⟩ = some (.slice (some ⟨tb, 0, none⟩) n n) ∧ W.cell? ⟨w.heap.size, 1, none⟩ = some (.slice (some ⟨bt, ot, none⟩) tm tc) ∧ W.cell? ⟨bt, ot + ti, none⟩ = some (.int .i64 y)) (by kernel_rfl) ?_ (fun hHeld => ?_)
            · exact ⟨x1, jz, ey⟩
            refine wpAnyH_take (i := 0) (oi := ⟨_, _, _, _, _, _⟩) (v := ?_) rfl (by kernel_rfl) (by kernel_rfl) (by kernel_rfl) (fun _ _ _ h => h) (Or.inl ⟨rfl, ?_⟩) (by assumption) ?_
            rotate_left 1
            · intro w_ hSw; (try dsimp only at hSw); go_simp; (try with_reducible rfl)
            (try simp only [Act.put, List.setIfInBounds_toArray, List.set_cons_zero, List.set_cons_succ])
            refine wpAnyH_take (i := 1) (oi := ⟨_, _, _, _, _, _⟩) (v := ?_) rfl (by kernel_rfl) (by kernel_rfl) (by kernel_rfl) (fun _ _ _ h => h) (Or.inl ⟨rfl, ?_⟩) (by assumption) ?_
            rotate_left 1
            · intro w_ hSw; (try dsimp only at hSw); go_simp; (try with_reducible rfl)
            (try simp only [Act.put, List.setIfInBounds_toArray, List.set_cons_zero, List.set_cons_succ])
            refine wpAnyH_take (i := 2) (oi := ⟨_, _, _, _, _, _⟩) (v := ?_) rfl (by kernel_rfl) (by kernel_rfl) (by kernel_rfl) (fun _ _ _ h => h) (Or.inl ⟨rfl, ?_⟩) (by assumption) ?_
            rotate_left 1
            · intro w_ hSw; (try dsimp only at hSw); go_simp; (try with_reducible rfl)
            (try simp only [Act.put, List.setIfInBounds_toArray, List.set_cons_zero, List.set_cons_succ])
            refine wpAnyH_take (i := 3) (oi := ⟨_, _, _, _, _, _⟩) (v := ?_) rfl (by kernel_rfl) (by kernel_rfl) (by kernel_rfl) (fun _ _ _ h => h) (Or.inl ⟨rfl, ?_⟩) (by assumption) ?_
            rotate_left 1
            · intro w_ hSw; (try dsimp only at hSw); go_simp; (try with_reducible rfl)
            (try simp only [Act.put, List.setIfInBounds_toArray, List.set_cons_zero, List.set_cons_succ])
            refine wpAnyH_take (i := 4) (oi := ⟨_, _, _, _, _, _⟩) (v := ?_) rfl (by kernel_rfl) (by kernel_rfl) (by kernel_rfl) (fun _ _ _ h => h) (Or.inl ⟨rfl, ?_⟩) (by assumption) ?_
            rotate_left 1
            · intro w_ hSw; (try dsimp only at hSw); go_simp; (try with_reducible rfl)
            (try simp only [Act.put, List.setIfInBounds_toArray, List.set_cons_zero, List.set_cons_succ])
            refine wpAnyH_take (i := 5) (oi := ⟨_, _, _, _, _, _⟩) (v := ?_) rfl (by kernel_rfl) (by kernel_rfl) (by kernel_rfl) (fun _ _ _ h => h) (Or.inl ⟨rfl, ?_⟩) (by assumption) ?_
            rotate_left 1
            · intro w_ hSw; (try dsimp only at hSw); go_simp; (try with_reducible rfl)
            (try simp only [Act.put, List.setIfInBounds_toArray, List.set_cons_zero, List.set_cons_succ])
            refine wpAnyH_take (i := 6) (oi := ⟨_, _, _, _, _, _⟩) (v := ?_) rfl (by kernel_rfl) (by kernel_rfl) (by kernel_rfl) (fun _ _ _ h => h) (Or.inl ⟨rfl, ?_⟩) (by assumption) ?_
            rotate_left 1
            · intro w_ hSw; (try dsimp only at hSw); go_simp; (try with_reducible rfl)
            (try simp only [Act.put, List.setIfInBounds_toArray, List.set_cons_zero, List.set_cons_succ])
            refine wpAnyH_take (i := 7) (oi := ⟨_, _, _, _, _, _⟩) (v := ?_) rfl (by kernel_rfl) (by kernel_rfl) (by kernel_rfl) (fun _ _ _ h => h) (Or.inl ⟨rfl, ?_⟩) (by assumption) ?_
            rotate_left 1
            · intro w_ hSw; (try dsimp only at hSw); go_simp; (try with_reducible rfl)
            (try simp only [Act.put, List.setIfInBounds_toArray, List.set_cons_zero, List.set_cons_succ])
            refine wpAnyH_ready (rs := [8]) (by kernel_rfl) (by simp) ?_
            refine AllReadyH.cons (o := ⟨_, _, _, _, _, _⟩) rfl (fun K hK => ?_) AllReadyH.nil
            go_simp
            go_at_call 112
            refine (HIx.out _ (below_drew _)).mono ?_
            rintro e_ w6 ⟨rfl, rfl⟩
            go_wp2_with fail
            refine hK.out _ _ ?_ (fun hHeld => ?_)
            · exact ⟨x1, jz, ey⟩
            clear hK K
            (try simp only [Act.put, List.setIfInBounds_toArray, List.set_cons_zero, List.set_cons_succ])
            refine wpAnyH_take (i := 9) (oi := ⟨_, _, _, _, _, _⟩) (v := ?_) rfl (by kernel_rfl) (by kernel_rfl) (by kernel_rfl) (fun _ _ _ h => h) (Or.inl ⟨rfl, ?_⟩) (by assumption) ?_
            rotate_left 1
            · intro w_ hSw; (try dsimp only at hSw); go_simp; (try with_reducible rfl)
            (try simp only [Act.put, List.setIfInBounds_toArray, List.set_cons_zero, List.set_cons_succ])
            refine wpAnyH_take (i := 10) (oi := ⟨_, _, _, _, _, _⟩) (v := ?_) rfl (by kernel_rfl) (by kernel_rfl) (by kernel_rfl) (fun _ _ _ h => h) (Or.inl ⟨rfl, ?_⟩) (by assumption) ?_
            rotate_left 1
            · intro w_ hSw; (try dsimp only at hSw); go_simp; (try with_reducible rfl)
            (try simp only [Act.put, List.setIfInBounds_toArray, List.set_cons_zero, List.set_cons_succ])
            refine wpAnyH_ready (rs := [11]) (by kernel_rfl) (by simp) ?_
            refine AllReadyH.cons (o := ⟨_, _, _, _, _, _⟩) rfl (fun K hK => ?_) AllReadyH.nil
            go_simp
            go_at_fn pf
            refine (HPl.out _ (below_drew _)).mono ?_
            rintro e_ w6 ⟨rfl, b6⟩
            have B6 : Below wr.heap.size wr w6 := below_then (below_drew wr) b6
            have HB6a := Lib.hid B6
            have x6 := cell_b B6 x1
            have jz6 := cell_b B6 jz
            have ey6 := cell_b B6 ey
            have HT6 := HT4h.out.kept (grown_of_below B6 none) (own_em _)
            obtain ⟨u0, hu0_⟩ := hcu
            have hu0 := cell_b B6 hu0_
            have hfr := HT6.frozenAt q
            have hst := HT6.stored q (.int .i64 v)
            rw [← HE.out, ← List.map_set, sfK_set _ _ _ _ hltq, HE.out] at hst
            have HST := Lib.hid hst
            have HKS := Lib.hid (fun (u' : Value) => show (w6.setCell ⟨tb, q, none⟩ u').cell? ⟨ob, 1, none⟩ = some (.slice (some ⟨tb, 0, none⟩) n n) ∧ (w6.setCell ⟨tb, q, none⟩ u').cell? ⟨w.heap.size, 1, none⟩ = some (.slice (some ⟨bt, ot, none⟩) tm tc) ∧ (w6.setCell ⟨tb, q, none⟩ u').cell? ⟨bt, ot + ti, none⟩ = some (.int .i64 y) from
              ⟨(World.cell?_setCell_other _ _ _ _ (fun e => (show tb ≠ ob by omega) (congrArg Addr.block e))).trans x6, (World.cell?_setCell_other _ _ _ _ (fun e => (show tb ≠ w.heap.size by omega) (congrArg Addr.block e))).trans jz6, (World.cell?_setCell_other _ _ _ _ (fun e => (show tb ≠ bt by omega) (congrArg Addr.block e))).trans ey6⟩)
            clear hst HT6 B6 b6 hu0_
            refine hK.out _ _ ?_ (fun hHeld => ?_)
            · exact ⟨x6, jz6, ey6⟩
            clear hK K
            (try simp only [Act.put, List.setIfInBounds_toArray, List.set_cons_zero, List.set_cons_succ])
            refine wpAnyH_take (i := 12) (oi := ⟨_, _, _, _, _, _⟩) (v := ?_) rfl (by kernel_rfl) (by kernel_rfl) (by kernel_rfl) (fun _ _ _ h => h) (Or.inl ⟨rfl, ?_⟩) (by assumption) ?_
            rotate_left 1
            · intro w_ hSw; (try dsimp only at hSw); go_simp; (try with_reducible rfl)
            (try simp only [Act.put, List.setIfInBounds_toArray, List.set_cons_zero, List.set_cons_succ])
            refine wpAnyH_ready (rs := [13]) (by kernel_rfl) (by simp) ?_
            refine AllReadyH.cons (o := ⟨_, _, _, _, _, _⟩) rfl (fun K hK => ?_) AllReadyH.nil
            go_simp
            refine hK.out _ _ ?_ (fun hHeld => ?_)
            · exact HKS.out _
            clear hK K
            (try simp only [Act.put, List.setIfInBounds_toArray, List.set_cons_zero, List.set_cons_succ])
            refine wpAnyH_done (by kernel_rfl) ?_ _
            refine NoPanic.normal ?_
            have HO6 : Hid ((w6.setCell ⟨tb, q, none⟩ (.int .i64 v)).ownsRow wo.heap.size 3 1 (.slice (some ⟨tb, 0, none⟩) n n) n ((sfK pl (zn : Int) xs f n (q + 1)).map (Value.int .i64))) := HST.out.1
            have HX6 : Hid ((w6.setCell ⟨tb, q, none⟩ (.int .i64 v)).heap[ob]? = some (.cells #[.int .i64 (j : Int), .slice (some ⟨tb, 0, none⟩) n n] 66 (0, 0))) := by
              show (w6.setCell ⟨tb, q, none⟩ (.int .i64 v)).heap[ob]? = _
              have h_ := HBj.out.size
              rw [Below.heap_setCell _ _ _ _ (by show ob ≠ tb; omega), HB6a.out.block ob (by omega), HBj.out.block ob hsi]; exact HXb.out
            have HB6 : Hid (Below wo.heap.size wo (w6.setCell ⟨tb, q, none⟩ (.int .i64 v))) := by
              have h1 := HBi.out.trans (HBj.out.mono HBi.out.size)
              exact (h1.trans (HB6a.out.mono h1.size)).setCell (by show wo.heap.size ≤ tb; omega) _
            have hs6 : ob < (w6.setCell ⟨tb, q, none⟩ (.int .i64 v)).heap.size := by
              have h_ := HBj.out.size
              have h2_ := HB6a.out.size
              show ob < (w6.setCell ⟨tb, q, none⟩ (.int .i64 v)).heap.size
              simp [World.setCell]; omega
            go_wp2_with fail
            go_roundw
            case rel => exact ⟨q + 1, by omega, by go_num, HX6, HO6, HB6, hs6⟩
            case measure => simp [intOf]; omega
      · obtain rfl : q = n := by omega
        obtain ⟨x0, x1, xf⟩ := box_cells HXb.out
        obtain ⟨r0, r1, rf⟩ := box_cells ((HBi.out.block _ hltw).trans HRes.out)
        go_wp2_with fail
        refine bodyPost_ret (v := .agg #[.int .i64 (m : Int), .slice (some ⟨tb, 0, none⟩) q q]) (by simp [results, Try.results61, go_sem, r0, r1]) rfl ⟨tb, q, rfl, ?_, ?_⟩
        · have h1 := HTb.out
          rw [sfK_all] at h1
          exact ownsRow_base (ownsRow_setCell_below (ownsRow_setCell_below h1 (by show w.heap.size + 1 < _; omega) _) (by show w.heap.size + 1 < _; omega) _) (by omega)
        · exact ((HB.out.trans (HBi.out.mono HB.out.size)).setCell (by show _ ≤ _; simp) _).setCell (by show _ ≤ _; simp) _

end Go.Proofs.Ytcmjkfcgekmomaa
