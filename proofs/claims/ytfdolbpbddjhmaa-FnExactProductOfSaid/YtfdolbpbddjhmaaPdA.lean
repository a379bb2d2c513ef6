/-
  Contract: impl.productOfOps. Conditions: the bounds that it names.
-/
import Derived.Test.YtfdolbpbddjhmaaDigs
import Derived.Test.YtfdolbpbddjhmaaBx2
import Derived.Test.YtfdolbpbddjhmaaPrdM
import Derived.Test.YtfdolbpbddjhmaaBuilt
import Derived.Test.YtfdolbpbddjhmaaMake
import Derived.Deep.RegionHeld3
import Derived.Deep.DrawnRows
namespace Go.Proofs.Ytfdolbpbddjhmaa
open Go.RowKit
set_option linter.unusedVariables false
set_option linter.unusedSimpArgs false
attribute [local go_sem ↓] Go.wp_at_zero Go.wp_at_succ

theorem cut_all {G Q : Prop} (main : G → Q) (rest : G) : Q := main rest
theorem grownBy_setFar (w : World) (p : Addr) (u : Value) : w.grownBy (w.setCell p u) (some p.block) :=
  ⟨rfl, rfl, rfl, by simp [World.setCell], fun k hk hne => Below.heap_setCell _ _ _ _ (by show k ≠ p.block; exact fun e => hne (by rw [e]))⟩
theorem keep_drw {w : World} {a b : Addr} {u v : Value} (h : w.cell? b = some v) (hne : a.block ≠ b.block) : (w.setCell a u).drew.cell? b = some v :=
  (show (w.setCell a u).drew.cell? b = (w.setCell a u).cell? b from rfl).trans ((World.cell?_setCell_other _ _ _ _ (fun e => hne (by rw [e]))).trans h)
theorem box_set01 {w : World} {B : Nat} {a b u v : Value} {ty : TypeId} (h : w.heap[B]? = some (.cells #[a, b] ty (0, 0))) : ((w.setCell ⟨B, 0, none⟩ u).setCell ⟨B, 1, none⟩ v).heap[B]? = some (.cells #[u, v] ty (0, 0)) := by
  simp [World.setCell, Array.getElem?_modify, h]
theorem keep_far2 {w : World} {a a' b : Addr} {u u' v : Value} (h : w.cell? b = some v) (hne : a.block ≠ b.block) (hne' : a'.block ≠ b.block) : ((w.setCell a u).setCell a' u').cell? b = some v :=
  (World.cell?_setCell_other _ _ _ _ (fun e => hne' (by rw [e]))).trans ((World.cell?_setCell_other _ _ _ _ (fun e => hne (by rw [e]))).trans h)

/-- A new operation of zeros: its box X, its table g. -/
structure FreshO (w W : World) (m n X g : Nat) : Prop where
  box : W.heap[X]? = some (.cells #[.int .i64 (m : Int), .slice (some ⟨g, 0, none⟩) n n] 64 (0, 0))
  row : W.ownsRow w.heap.size 3 1 (.slice (some ⟨g, 0, none⟩) n n) n ((List.replicate n (0 : Int)).map (Value.int .i64))
  bel : Below w.heap.size w W
  lo : w.heap.size ≤ X
  tlo : w.heap.size ≤ g
  ne : X ≠ g
  hi : X < W.heap.size

/-- Two operations in boxes of their own. -/
structure TwoO (w W : World) (m : Nat) (ta : Value) (tb : Value) (p r : Nat) : Prop where
  b1 : W.heap[p]? = some (.cells #[.int .i64 (m : Int), ta] 64 (0, 0))
  b2 : W.heap[r]? = some (.cells #[.int .i64 (m : Int), tb] 64 (0, 0))
  bel : Below w.heap.size w W
  h1 : w.heap.size ≤ p
  h2 : w.heap.size ≤ r
  l1 : p < W.heap.size
  l2 : r < W.heap.size
theorem two_new1 (w : World) (m : Nat) (ta tb : Value) : TwoO w ((w.alloc (.cells #[.int .i64 (m : Int), ta] 64)).alloc (.cells #[.int .i64 (m : Int), tb] 64)).drew m ta tb w.heap.size (w.heap.size + 1) := by
  refine ⟨?_, ?_, (below_then (below_alloc _ _) (below_alloc _ _)).drew, Nat.le_refl _, by omega, ?_, ?_⟩
  · show ((w.alloc _).alloc _).heap[w.heap.size]? = _
    rw [Below.heap_alloc _ _ _ (by simp)]
    exact heap_alloc_new _ _
  · have h := heap_alloc_new (w.alloc (.cells #[.int .i64 (m : Int), ta] 64)) (.cells #[.int .i64 (m : Int), tb] 64)
    rw [World.size_alloc] at h
    exact h
  · show _ < ((w.alloc _).alloc _).heap.size
    simp; omega
  · show _ < ((w.alloc _).alloc _).heap.size
    simp
theorem two_new2 (w : World) (m : Nat) (ta tb : Value) : TwoO w ((w.alloc (.cells #[.int .i64 (m : Int), tb] 64)).alloc (.cells #[.int .i64 (m : Int), ta] 64)).drew m ta tb (w.heap.size + 1) w.heap.size :=
  have h := two_new1 w m tb ta
  ⟨h.b2, h.b1, h.bel, h.h2, h.h1, h.l2, h.l1⟩

set_option maxRecDepth 100000 in
set_option maxHeartbeats 8000000 in
theorem prodOp_any (lo hi : Nat) (z : Int) (ao : Option Addr) (c na : Nat) (fs : List OpD) (lo2 hi2 : Nat) (y : Int) (bo : Option Addr) (d nb : Nat) (gs : List OpD) (k m : Nat) (f g : OpD) (w : World) (hv : OView w lo hi ao na fs) (hhi : hi ≤ w.heap.size) (hu : OView w lo2 hi2 bo nb gs) (hhi2 : hi2 ≤ w.heap.size)
    (hf : fs[k]? = some f) (hg : gs[k]? = some g) (hm : f.1 = (m : Int)) (hm2 : g.1 = (m : Int)) (hz1 : 1 ≤ z) (hy1 : 1 ≤ y) (hz8 : z ≤ 8) (hy8 : y ≤ 8) (h8 : z * y ≤ 8) (hfo : opOkB z f = true) (hgo : opOkB y g = true) :
    Calls Try.prog 58 #[.agg #[.int .i64 z, .slice ao na c], .agg #[.int .i64 y, .slice bo nb d], .int .i64 (k : Int)] w fun e w' => ∃ g2 dd, e = .returned (.agg #[.int .i64 (m : Int), .slice (some ⟨g2, 0, none⟩) (prL (z * y) f) dd]) ∧ w'.ownsRow w.heap.size 3 1 (.slice (some ⟨g2, 0, none⟩) (prL (z * y) f) dd) (prL (z * y) f) ((prT z y f g (prL (z * y) f)).map (Value.int .i64)) ∧ Below w.heap.size w w' := by
  have hm3 : m ≤ 3 := by have := (opOkB_of hfo).1; omega
  have hp1 := mul_size hz1 hy1
  have hlf := (place_bd hz1 hz8 hfo).1
  have hlg := (place_bd hy1 hy8 hgo).1
  obtain ⟨hp, hn1, hn2⟩ := prL_bd (f := f) hp1 h8 hm hm3
  obtain ⟨n, hn⟩ : ∃ n, prL (z * y) f = n := ⟨_, rfl⟩
  rw [hn] at hp hn1 hn2 ⊢
  have hka : k < na := by rw [← hv.1]; exact (List.getElem?_eq_some_iff.1 hf).1
  have hkb : k < nb := by rw [← hu.1]; exact (List.getElem?_eq_some_iff.1 hg).1
  obtain ⟨b1, o1, rfl, _, hb1, hc1⟩ := hv.at_ (by omega)
  obtain ⟨ta, tm, tc, c0, c1, htm, htc, hvt⟩ := hc1 k f hf
  obtain ⟨b2, o2, rfl, _, hb2, hc2⟩ := hu.at_ (by omega)
  obtain ⟨ua, um, uc, c2, c3, hum, huc, hvu⟩ := hc2 k g hg
  have htl : f.2.length = tm := hvt.1
  have hul : g.2.length = um := hvu.1
  have h1f : 1 ≤ f.2.length := by obtain ⟨_, h, _⟩ := opOkB_of hfo; have := powI_bd hz1 hz8 (k := f.1.toNat) (by omega); omega
  have h1g : 1 ≤ g.2.length := by obtain ⟨_, h, _⟩ := opOkB_of hgo; have := powI_bd hy1 hy8 (k := g.1.toNat) (by omega); omega
  obtain ⟨bt, ot, rfl, _, hbt, hct⟩ := hvt.at_ (by omega)
  obtain ⟨bu, ou, rfl, _, hbu, hcu⟩ := hvu.at_ (by omega)
  rw [hm] at c0
  rw [hm2] at c2
  obtain ⟨wB, hwB, hbx, hszB⟩ := bx2_new w z (some ⟨b1, o1, none⟩) na c y (some ⟨b2, o2, none⟩) nb d 28
  obtain ⟨wo, hwo⟩ : ∃ wo : World, wo = wB.alloc (.cells #[.int .i64 0, .slice none 0 0] 64) := ⟨_, rfl⟩
  have hbx' : Bx2 w wo z (some ⟨b1, o1, none⟩) na c y (some ⟨b2, o2, none⟩) nb d := by rw [hwo]; exact hbx.below (below_alloc _ _)
  have hso : wo.heap.size = w.heap.size + 1 + 1 + 1 := by rw [hwo]; simp [hszB]
  have HRes : Hid (wo.heap[w.heap.size + 1 + 1]? = some (.cells #[.int .i64 0, .slice none 0 0] 64 (0, 0))) := by
    have h := heap_alloc_new wB (.cells #[.int .i64 0, .slice none 0 0] 64)
    rw [hszB] at h
    rw [hwo]; exact h
  obtain ⟨cz, ca, cz1, ca1, cB⟩ := hbx'
  have e0 : wo.cell? ⟨b1, o1 + k * 2, none⟩ = some (.int .i64 (m : Int)) := cell_b cB c0
  have e1 : wo.cell? ⟨b1, o1 + k * 2 + 1, none⟩ = some (.slice (some ⟨bt, ot, none⟩) tm tc) := cell_b cB c1
  have e2 : wo.cell? ⟨b2, o2 + k * 2, none⟩ = some (.int .i64 (m : Int)) := cell_b cB c2
  have e3 : wo.cell? ⟨b2, o2 + k * 2 + 1, none⟩ = some (.slice (some ⟨bu, ou, none⟩) um uc) := cell_b cB c3
  have HKS := Lib.hid (fun (W : World) (hW : Below wo.heap.size wo W) => show W.cell? ⟨w.heap.size, 1, none⟩ = some (.slice (some ⟨b1, o1, none⟩) na c) ∧ W.cell? ⟨w.heap.size + 1, 1, none⟩ = some (.slice (some ⟨b2, o2, none⟩) nb d) ∧ W.cell? ⟨b1, o1 + k * 2, none⟩ = some (.int .i64 (m : Int)) ∧ W.cell? ⟨b1, o1 + k * 2 + 1, none⟩ = some (.slice (some ⟨bt, ot, none⟩) tm tc) ∧ W.cell? ⟨b2, o2 + k * 2, none⟩ = some (.int .i64 (m : Int)) ∧ W.cell? ⟨b2, o2 + k * 2 + 1, none⟩ = some (.slice (some ⟨bu, ou, none⟩) um uc) from
    ⟨cell_b hW ca, cell_b hW ca1, cell_b hW e0, cell_b hW e1, cell_b hW e2, cell_b hW e3⟩)
  have HPw := Lib.hid (fun W : World => len_any (z * y) m W hp1 h8 hm3)
  rw [hp] at HPw
  have HCt := Lib.hid hct
  have HCu := Lib.hid hcu
  have HTl := Lib.hid htl
  have HUl := Lib.hid hul
  have HFo := Lib.hid hfo
  have HGo := Lib.hid hgo
  have HM := Lib.hid hm
  have HM2 := Lib.hid hm2
  have HN := Lib.hid hn
  have HLf := Lib.hid hlf
  have HLg := Lib.hid hlg
  have HB := Lib.hid cB
  have HBx := Lib.hid (Bx2.mk cz ca cz1 ca1 cB)
  have hka' : (k : Int) < (na : Int) := by omega
  have hkb' : (k : Int) < (nb : Int) := by omega
  obtain ⟨j0, hj0, hq0, hq1, hq2⟩ := info_parts Try.infoInt
  clear hf hg hfo hgo hm hm2 hn hlf hlg hbx hvt hvu hct hcu htl hul hbt hbu h1f h1g hc1 hc2 c0 c1 c2 c3 hv hu hszB cB htm htc hum huc hp
  go_enter Try.func58, Try.ntmps58
  go_wp2_with fail
  rw [← hwB]
  rw [← hwo]
  clear hwo hwB
  go_wp2_with fail
  go_region_held3 (fun W => W.cell? ⟨w.heap.size, 1, none⟩ = some (.slice (some ⟨b1, o1, none⟩) na c) ∧ W.cell? ⟨w.heap.size + 1, 1, none⟩ = some (.slice (some ⟨b2, o2, none⟩) nb d) ∧ W.cell? ⟨b1, o1 + k * 2, none⟩ = some (.int .i64 (m : Int)) ∧ W.cell? ⟨b1, o1 + k * 2 + 1, none⟩ = some (.slice (some ⟨bt, ot, none⟩) tm tc) ∧ W.cell? ⟨b2, o2 + k * 2, none⟩ = some (.int .i64 (m : Int)) ∧ W.cell? ⟨b2, o2 + k * 2 + 1, none⟩ = some (.slice (some ⟨bu, ou, none⟩) um uc)) ((refine HKS.out _ ?_; (repeat' (first | exact below_drew _ | exact Below.refl _ _ | (refine Below.alloc ?_ (by simp) _) | (refine Below.setCell ?_ (by show _ ≤ _; simp) _) | (refine Below.drew ?_))))) (fail)
  all_goals
    (first
      | (obtain ⟨wA, hwA⟩ : ∃ wA : World, wA = ((wo.alloc (.cells #[.int .i64 (m : Int), .slice (some ⟨bt, ot, none⟩) tm tc] 64)).alloc (.cells #[.int .i64 (m : Int), .slice (some ⟨bu, ou, none⟩) um uc] 64)).drew := ⟨_, rfl⟩
         rw [← hwA]
         obtain ⟨p, hp_⟩ : ∃ p : Nat, p = w.heap.size + 1 + 1 + 1 := ⟨_, rfl⟩
         obtain ⟨r, hr_⟩ : ∃ r : Nat, r = w.heap.size + 1 + 1 + 1 + 1 := ⟨_, rfl⟩
         have HT : Hid (TwoO wo wA m (.slice (some ⟨bt, ot, none⟩) tm tc) (.slice (some ⟨bu, ou, none⟩) um uc) p r) := by unfold Hid; rw [hwA, hp_, hr_, ← hso]; exact two_new1 wo m _ _
         rw [← hr_, ← hp_])
      | (obtain ⟨wA, hwA⟩ : ∃ wA : World, wA = ((wo.alloc (.cells #[.int .i64 (m : Int), .slice (some ⟨bu, ou, none⟩) um uc] 64)).alloc (.cells #[.int .i64 (m : Int), .slice (some ⟨bt, ot, none⟩) tm tc] 64)).drew := ⟨_, rfl⟩
         rw [← hwA]
         obtain ⟨p, hp_⟩ : ∃ p : Nat, p = w.heap.size + 1 + 1 + 1 + 1 := ⟨_, rfl⟩
         obtain ⟨r, hr_⟩ : ∃ r : Nat, r = w.heap.size + 1 + 1 + 1 := ⟨_, rfl⟩
         have HT : Hid (TwoO wo wA m (.slice (some ⟨bt, ot, none⟩) tm tc) (.slice (some ⟨bu, ou, none⟩) um uc) p r) := by unfold Hid; rw [hwA, hp_, hr_, ← hso]; exact two_new2 wo m _ _
         rw [← hp_, ← hr_]))
    clear hwA hp_ hr_
  all_goals
    have hzA := HT.out.bel.size
    have hp3 := HT.out.h1
    have hr3_ := HT.out.h2
    have hpl := HT.out.l1
    have hrl := HT.out.l2
    obtain ⟨p0, p1, pf⟩ := box_cells HT.out.b1
    have HBxA := Lib.hid (HBx.out.below HT.out.bel)
    have iz : wA.cell? ⟨w.heap.size, 0, none⟩ = some (.int .i64 z) := HBxA.out.z0
    have iy : wA.cell? ⟨w.heap.size + 1, 0, none⟩ = some (.int .i64 y) := HBxA.out.z1
    clear cz ca cz1 ca1 e0 e1 e2 e3
    go_wp2_with fail
    obtain ⟨w3, hr3, ho3, hg3⟩ := run_make_full (P := Try.prog) wA.drew wA.heap.size 37 3 j0 _ 1 Try.underlying37 hj0 hq0 hq1 .i64 .i64 n (by rw [hq2]; omega) (by unfold maxLen; omega) (Nat.le_refl _)
    obtain ⟨w4, hr4, ho4, hg4⟩ := run_make_full (P := Try.prog) (wA.alloc (.cells #[.int .i64 0, .slice none 0 0] 64)).drew wA.heap.size 37 3 j0 _ 1 Try.underlying37 hj0 hq0 hq1 .i64 .i64 n (by rw [hq2]; omega) (by unfold maxLen; omega) (by show wA.heap.size ≤ (wA.alloc _).heap.size; simp)
    simp only [World.size_alloc, World.size_drew] at hr3 ho3 hr4 ho4
    have b3 : Below wA.heap.size wA w3 := (Below.refl _ _).drew.grown hg3 (Nat.le_refl _) (by intro k hk; cases hk)
    have b4 : Below (wA.alloc (.cells #[.int .i64 0, .slice none 0 0] 64)).heap.size (wA.alloc (.cells #[.int .i64 0, .slice none 0 0] 64)) w4 := (Below.refl _ _).drew.grown hg4 (Nat.le_refl _) (by intro k hk; cases hk)
    have bd4 : Below wA.heap.size wA (wA.alloc (.cells #[.int .i64 0, .slice none 0 0] 64)) := below_alloc _ _
    have p03 : w3.cell? ⟨p, 0, none⟩ = some (.int .i64 (m : Int)) := cell_b b3 p0
    have q04 : w4.cell? ⟨p, 0, none⟩ = some (.int .i64 (m : Int)) := cell_b b4 (cell_b bd4 p0)
    have q3 : w4.cell? ⟨wA.heap.size, 0, none⟩ = some (.int .i64 0) := cell_b b4 (by simp)
    have q4 : w4.cell? ⟨wA.heap.size, 1, none⟩ = some (.slice none 0 0) := cell_b b4 (by simp)
    have q5 : w4.frozen? ⟨wA.heap.size, 0, none⟩ = false := (b4.frozen (p := ⟨wA.heap.size, 0, none⟩) (by simp)).trans (by simp)
    have q6 : w4.frozen? ⟨wA.heap.size, 1, none⟩ = false := (b4.frozen (p := ⟨wA.heap.size, 1, none⟩) (by simp)).trans (by simp)
    have hrw : ((List.replicate n (0 : Int)).map (Value.int .i64)) = (madeCells (Value.int .i64 0).cells (n * 1)).toList := by
      rw [show (Value.int .i64 0).cells = #[Value.int .i64 0] from rfl, Nat.mul_one, toList_madeCells_one, List.map_replicate]
    have HF3 : Hid (FreshO wA (w3.alloc (.cells #[.int .i64 (m : Int), .slice (some ⟨wA.heap.size, 0, none⟩) n n] 64)) m n w3.heap.size wA.heap.size) :=
      ⟨heap_alloc_new _ _, by rw [hrw]; exact ho3.alloc _, b3.alloc b3.size _, b3.size, Nat.le_refl _, by have := (ho3.lt wA.heap.size rfl).2; omega, by simp⟩
    have HF4 : Hid (FreshO wA ((w4.setCell ⟨wA.heap.size, 0, none⟩ (.int .i64 (m : Int))).setCell ⟨wA.heap.size, 1, none⟩ (.slice (some ⟨wA.heap.size + 1, 0, none⟩) n n)) m n wA.heap.size (wA.heap.size + 1)) := by
      refine ⟨box_set01 (a := .int .i64 0) (b := .slice none 0 0) ((b4.block _ (by simp)).trans (heap_alloc_new _ _)), ?_, ((below_alloc _ _).trans (b4.mono (by simp)) |>.setCell (by show wA.heap.size ≤ wA.heap.size; omega) _).setCell (by show wA.heap.size ≤ wA.heap.size; omega) _, Nat.le_refl _, by omega, by omega, ?_⟩
      · rw [hrw]
        have h1 := ho4.kept (grownBy_setFar w4 ⟨wA.heap.size, 0, none⟩ (.int .i64 (m : Int))) (.inr (by show some (wA.heap.size + 1) ≠ some wA.heap.size; simp))
        exact h1.kept (grownBy_setFar _ ⟨wA.heap.size, 1, none⟩ _) (.inr (by show some (wA.heap.size + 1) ≠ some wA.heap.size; simp))
      · have h := b4.size
        simp at h
        simp [World.setCell]; omega
    have KS4 := Lib.hid (fun (u1 u2 : Value) => keep_far2 (a := ⟨wA.heap.size, 0, none⟩) (a' := ⟨wA.heap.size, 1, none⟩) (u := u1) (u' := u2) q04 (by show wA.heap.size ≠ p; omega) (by show wA.heap.size ≠ p; omega))
    have hs3 : wA.heap.size ≤ w3.heap.size := b3.size
    have hs4 : wA.heap.size < w4.heap.size := by have := b4.size; simp at this; omega
    clear ho3 ho4 b3 b4 bd4 hg3 hg4
    go_region_held3 (fun w' => w'.cell? ⟨p, 0, none⟩ = some (.int .i64 (m : Int))) (first | (exact p03) | (exact q04) | (exact KS4.out _ _) | go_keep) ((go_at_call 87; refine (HPw.out _).mono ?_; rintro e_ w2_ ⟨rfl, rfl⟩))
    all_goals
      (first
        | (obtain ⟨wC, hwC⟩ : ∃ wC : World, wC = (w3.alloc (.cells #[.int .i64 (m : Int), .slice (some ⟨wA.heap.size, 0, none⟩) n n] 64)) := ⟨_, rfl⟩
           rw [← hwC]
           have HFr := HF3
           rw [← hwC] at HFr
           obtain ⟨ob, hob⟩ : ∃ ob : Nat, ob = w3.heap.size := ⟨_, rfl⟩
           obtain ⟨tb, htb⟩ : ∃ tb : Nat, tb = wA.heap.size := ⟨_, rfl⟩
           have HFr2 : Hid (FreshO wA wC m n ob tb) := by rw [hob, htb]; exact HFr
           rw [← hob, ← htb])
        | (obtain ⟨wC, hwC⟩ : ∃ wC : World, wC = ((w4.setCell ⟨wA.heap.size, 0, none⟩ (.int .i64 (m : Int))).setCell ⟨wA.heap.size, 1, none⟩ (.slice (some ⟨wA.heap.size + 1, 0, none⟩) n n)) := ⟨_, rfl⟩
           rw [← hwC]
           have HFr := HF4
           rw [← hwC] at HFr
           obtain ⟨ob, hob⟩ : ∃ ob : Nat, ob = wA.heap.size := ⟨_, rfl⟩
           obtain ⟨tb, htb⟩ : ∃ tb : Nat, tb = wA.heap.size + 1 := ⟨_, rfl⟩
           have HFr2 : Hid (FreshO wA wC m n ob tb) := by rw [hob, htb]; exact HFr
           rw [← htb, ← hob]))
      clear hwC hob htb HFr
      clear HF3 HF4 KS4 p03 q04 q3 q4 q5 q6 hr3 hr4 hs3 hs4
      obtain ⟨hA1, hA2, hA3, hA4, hA4b, hA5, hA6⟩ := HFr2.out
      have HX0 := Lib.hid hA1
      have HT0 : Hid (wC.ownsRow wA.heap.size 3 1 (.slice (some ⟨tb, 0, none⟩) n n) n ((prK z y f g n 0).map (Value.int .i64))) := by unfold Hid; rw [prK_zero]; exact hA2
      have HB0 := Lib.hid hA3
      obtain ⟨x0, x1, xf⟩ := box_cells hA1
      clear hA1 hA2 hA3 HFr2
      go_wp2_with fail
      go_loopw [11, 12, 13, 15, 42] (fun s11 s12 s13 s15 i wi => ∃ q : Nat, q ≤ n ∧ i = .int .i64 (q : Int) ∧ Hid (wi.heap[ob]? = some (.cells #[.int .i64 (m : Int), .slice (some ⟨tb, 0, none⟩) n n] 64 (0, 0))) ∧ Hid (wi.ownsRow wA.heap.size 3 1 (.slice (some ⟨tb, 0, none⟩) n n) n ((prK z y f g n q).map (Value.int .i64))) ∧ Hid (Below wA.heap.size wA wi) ∧ ob < wi.heap.size) (fun _ _ _ _ i _ => n - (intOf i).toNat)
      case atStart => exact ⟨0, Nat.zero_le _, rfl, HX0, HT0, HB0, hA6⟩
      case round =>
        obtain ⟨q, hq, rfl, HXb, HTb, HBi, hsi⟩ := hrel
        clear HX0 HT0 HB0 hA6 x0 x1 xf
        obtain ⟨wi, hwi⟩ : ∃ wi : World, wi = wr := ⟨_, rfl⟩
        rw [← hwi]
        rw [← hwi] at HXb HTb HBi hsi
        clear hwi
        have kz : wi.cell? ⟨w.heap.size, 0, none⟩ = some (.int .i64 z) := cell_b HBi.out iz
        have ky : wi.cell? ⟨w.heap.size + 1, 0, none⟩ = some (.int .i64 y) := cell_b HBi.out iy
        have k0 : wi.cell? ⟨p, 0, none⟩ = some (.int .i64 (m : Int)) := cell_b HBi.out p0
        by_cases hltq : q < n
        · have HAr := Lib.hid (argsImpl_any (z * y) (q : Int) m hm3 wi hp1 h8 (by omega) (by omega))
          have hltq' : (q : Int) < (n : Int) := by omega
          obtain ⟨ti, tj, u, v, hti, htj, htil, htjl, hat, hat2, _, _, hE, u0, u1, v0, v1, uy0, uy1⟩ := pr_parts (q := q) hz1 hy1 HFo.out HGo.out HM.out HM2.out
          have HTi := Lib.hid hti
          have HTj := Lib.hid htj
          have HE := Lib.hid hE
          have HAt := Lib.hid hat
          have HAt2 := Lib.hid hat2
          have htm : (ti : Int) < (tm : Int) := by have := HTl.out; omega
          have hum : (tj : Int) < (um : Int) := by have := HUl.out; omega
          clear hti htj hE hat hat2
          go_wp2_with fail
          refine HAr.out.mono ?_
          rintro e_ w5 ⟨rfl, hw5⟩
          have HD5 : Hid (w5.heap[wi.heap.size]? = some (.cells (digsArr (z * y) m (q : Int)) 3 (0, 0))) := by unfold Hid; rw [hw5]; exact heap_alloc_new _ _
          have B5 : Hid (Below wi.heap.size wi w5) := by rw [hw5]; exact below_alloc _ _
          have HDv := Lib.hid (digs_view HD5.out)
          have z5 : w5.cell? ⟨w.heap.size, 0, none⟩ = some (.int .i64 z) := cell_b B5.out kz
          have y5 : w5.cell? ⟨w.heap.size + 1, 0, none⟩ = some (.int .i64 y) := cell_b B5.out ky
          clear hw5 kz ky k0
          go_wp2_with fail
          go_loopw [12, 13, 15, 51] (fun s12 s13 s15 i wq => ∃ (j : Nat) (a1 a2 : Int) (qq : Nat), j ≤ m ∧ i = .int .i64 (j : Int) ∧ s12 = .int .i64 a1 ∧ s13 = .int .i64 a2 ∧ Hid (a1 = idxA z ((dvL y (digs (z * y) m (q : Int))).take j)) ∧ Hid (a2 = idxA y ((mdL y (digs (z * y) m (q : Int))).take j)) ∧ wq = w5.drewN qq) (fun _ _ _ i _ => m - (intOf i).toNat)
          case atStart => exact ⟨0, 0, 0, 0, Nat.zero_le _, rfl, rfl, rfl, rfl, rfl, rfl⟩
          case round =>
            obtain ⟨j, a1, a2, qq, hj, rfl, rfl, rfl, HA1, HA2, rfl⟩ := hrel
            have hdl := digs_len (z * y) m (q : Int)
            have hdi := digs_in hp1 m (q : Int)
            by_cases hltj : j < m
            · obtain ⟨x, hx⟩ : ∃ x, (digs (z * y) m (q : Int))[j]? = some x := ⟨_, List.getElem?_eq_getElem (by omega)⟩
              obtain ⟨x0, x1⟩ := allIn_get hdi hx
              obtain ⟨d0, d1, m0, m1⟩ := pair_bd hy1 x0 x1
              obtain ⟨q0, q1, q2, q3, q4, q5⟩ := idx_step hz1 hz8 (dvL_in hy1 hdi) (by rw [dvL_len, hdl]; exact hm3) (dvL_get (y := y) hx)
              obtain ⟨s0, s1, s2, s3, s4, s5⟩ := idx_step hy1 hy8 (mdL_in hy1 hdi) (by rw [mdL_len, hdl]; exact hm3) (mdL_get (y := y) hx)
              rw [← HA1.out] at q2 q3 q4 q5
              rw [← HA2.out] at s2 s3 s4 s5
              obtain ⟨b', o', he', _, _, hcx⟩ := HDv.out.at_ (by omega)
              cases he'
              have ex : w5.cell? ⟨wi.heap.size, j, none⟩ = some (.int .i64 x) := by have h := hcx j x hx; rwa [Nat.zero_add] at h
              have hn1_ : Hid (a1 * z + x / y = idxA z ((dvL y (digs (z * y) m (q : Int))).take (j + 1))) := by unfold Hid; rw [idxA_succ (dvL_get (y := y) hx), HA1.out]
              have hn2_ : Hid (a2 * y + x % y = idxA y ((mdL y (digs (z * y) m (q : Int))).take (j + 1))) := by unfold Hid; rw [idxA_succ (mdL_get (y := y) hx), HA2.out]
              have hltj' : (j : Int) < (m : Int) := by omega
              have hy0 : 0 < y := by omega
              clear hx hcx hdi hdl q0 q1 s0 s1
              go_wp2_with fail
              go_quiet (fail)
              go_wp2_with fail
              go_quiet (fail)
              go_wp2_with fail
              go_roundw
              case rel => exact ⟨j + 1, _, _, _, by omega, by go_num, rfl, rfl, hn1_, hn2_, rfl⟩
              case measure => simp [intOf]; omega
            · obtain rfl : j = m := by omega
              obtain rfl : a1 = (ti : Int) := by rw [HA1.out, idx_all (by rw [dvL_len, hdl]; exact Nat.le_refl _), HTi.out]
              obtain rfl : a2 = (tj : Int) := by rw [HA2.out, idx_all (by rw [mdL_len, hdl]; exact Nat.le_refl _), HTj.out]
              obtain ⟨wq, hwq⟩ : ∃ wq : World, wq = w5.drewN qq := ⟨_, rfl⟩
              have BQ : Below wi.heap.size wi wq := by rw [hwq]; exact below_drewN B5.out _
              rw [← hwq]
              have BAq := HBi.out.trans (BQ.mono HBi.out.size)
              have BTq := HT.out.bel.trans (BAq.mono HT.out.bel.size)
              have BWq := HB.out.trans (BTq.mono HB.out.size)
              obtain ⟨x0, x1, xf⟩ := box_cells ((BQ.block _ hsi).trans HXb.out)
              obtain ⟨_, p1, _⟩ := box_cells ((BAq.block _ hpl).trans HT.out.b1)
              obtain ⟨_, r1, _⟩ := box_cells ((BAq.block _ hrl).trans HT.out.b2)
              have iy : wq.cell? ⟨w.heap.size + 1, 0, none⟩ = some (.int .i64 y) := cell_b BQ (cell_b HBi.out iy)
              have eu : wq.cell? ⟨bt, ot + ti, none⟩ = some (.int .i64 u) := cell_b BWq (HCt.out ti u HAt.out)
              have ev : wq.cell? ⟨bu, ou + tj, none⟩ = some (.int .i64 v) := cell_b BWq (HCu.out tj v HAt2.out)
              have hbtw : bt < w.heap.size := World.block_lt_of_cell? w _ (HCt.out ti u HAt.out)
              have hbuw : bu < w.heap.size := World.block_lt_of_cell? w _ (HCu.out tj v HAt2.out)
              have HT4 := HTb.out.kept (grown_of_below BQ none) (own_em _)
              obtain ⟨u_, hu_⟩ : ∃ u0, wq.cell? ⟨tb, q, none⟩ = some u0 := by
                rw [HT4.cellAt q (by omega)]
                have hl1 := HT4.1
                exact ⟨_, List.getElem?_eq_getElem (by omega)⟩
              have hfr := HT4.frozenAt q
              have hst := HT4.stored q (.int .i64 (u * y + v))
              rw [← HE.out, ← List.map_set, prK_set _ _ _ _ hltq, HE.out] at hst
              have HST := Lib.hid hst
              have htb := HT4.lt tb rfl
              have HKS' := Lib.hid (fun (u' : Value) => show (wq.setCell ⟨tb, q, none⟩ u').drew.cell? ⟨ob, 1, none⟩ = some (.slice (some ⟨tb, 0, none⟩) n n) ∧ (wq.setCell ⟨tb, q, none⟩ u').drew.cell? ⟨p, 1, none⟩ = some (.slice (some ⟨bt, ot, none⟩) tm tc) ∧ (wq.setCell ⟨tb, q, none⟩ u').drew.cell? ⟨bt, ot + ti, none⟩ = some (.int .i64 u) ∧ (wq.setCell ⟨tb, q, none⟩ u').drew.cell? ⟨w.heap.size + 1, 0, none⟩ = some (.int .i64 y) ∧ (wq.setCell ⟨tb, q, none⟩ u').drew.cell? ⟨r, 1, none⟩ = some (.slice (some ⟨bu, ou, none⟩) um uc) ∧ (wq.setCell ⟨tb, q, none⟩ u').drew.cell? ⟨bu, ou + tj, none⟩ = some (.int .i64 v) from
                ⟨keep_drw x1 (by show tb ≠ ob; omega), keep_drw p1 (by show tb ≠ p; omega), keep_drw eu (by show tb ≠ bt; omega), keep_drw iy (by show tb ≠ w.heap.size + 1; omega), keep_drw r1 (by show tb ≠ r; omega), keep_drw ev (by show tb ≠ bu; omega)⟩)
              have uyv : u * y + v ≤ 8 := by omega
              have uy8 : u * y ≤ 8 := by omega
              have HBAq := Lib.hid BAq
              have HBq := Lib.hid BQ
              clear hwq hdl hdi HT4 hst BQ BAq BTq BWq
              go_wp2_with fail
              refine wp_region_noPanic ?_
              refine wp_region_held_drew (S := fun W => W.cell? ⟨ob, 1, none⟩ = some (.slice (some ⟨tb, 0, none⟩) n n) ∧ W.cell? ⟨p, 1, none⟩ = some (.slice (some ⟨bt, ot, none⟩) tm tc) ∧ W.cell? ⟨bt, ot + ti, none⟩ = some (.int .i64 u) ∧ W.cell? ⟨w.heap.size + 1, 0, none⟩ = some (.int .i64 y) ∧ W.cell? ⟨r, 1, none⟩ = some (.slice (some ⟨bu, ou, none⟩) um uc) ∧ W.cell? ⟨bu, ou + tj, none⟩ = some (.int .i64 v)) (by kernel_rfl) ?_ (fun hHeld => ?_)
              · exact ⟨x1, p1, eu, iy, r1, ev⟩
              refine wpAnyH_take (i := 0) (oi := ⟨_, _, _, _, _, _⟩) (v := ?_) rfl (by kernel_rfl) (by kernel_rfl) (by kernel_rfl) (fun _ _ _ h => h) (Or.inl ⟨rfl, ?_⟩) (by assumption) ?_
              rotate_left 1
              · intro w_ hSw; (try dsimp only at hSw); go_simp; (try with_reducible rfl)
              (try simp only [Act.put, List.setIfInBounds_toArray, List.set_cons_zero, List.set_cons_succ])
              refine wpAnyH_take (i := 1) (oi := ⟨_, _, _, _, _, _⟩) (v := ?_) rfl (by kernel_rfl) (by kernel_rfl) (by kernel_rfl) (fun _ _ _ h => h) (Or.inl ⟨rfl, ?_⟩) (by assumption) ?_
              rotate_left 1
              · intro w_ hSw; (try dsimp only at hSw); go_simp; (try with_reducible rfl)
              (try simp only [Act.put, List.setIfInBounds_toArray, List.set_cons_zero, List.set_cons_succ])
              refine wpAnyH_take (i := 2) (oi := ⟨_, _, _, _, _, _⟩) (v := ?_) rfl (by kernel_rfl) (by kernel_rfl) (by kernel_rfl) (fun _ _ _ h => h) (Or.inl ⟨rfl, ?_⟩) (by assumption) ?_
              rotate_left 1
              · intro w_ hSw; (try dsimp only at hSw); go_simp; (try with_reducible rfl)
              (try simp only [Act.put, List.setIfInBounds_toArray, List.set_cons_zero, List.set_cons_succ])
              refine wpAnyH_take (i := 3) (oi := ⟨_, _, _, _, _, _⟩) (v := ?_) rfl (by kernel_rfl) (by kernel_rfl) (by kernel_rfl) (fun _ _ _ h => h) (Or.inl ⟨rfl, ?_⟩) (by assumption) ?_
              rotate_left 1
              · intro w_ hSw; (try dsimp only at hSw); go_simp; (try with_reducible rfl)
              (try simp only [Act.put, List.setIfInBounds_toArray, List.set_cons_zero, List.set_cons_succ])
              refine wpAnyH_take (i := 4) (oi := ⟨_, _, _, _, _, _⟩) (v := ?_) rfl (by kernel_rfl) (by kernel_rfl) (by kernel_rfl) (fun _ _ _ h => h) (Or.inl ⟨rfl, ?_⟩) (by assumption) ?_
              rotate_left 1
              · intro w_ hSw; (try dsimp only at hSw); go_simp; (try with_reducible rfl)
              (try simp only [Act.put, List.setIfInBounds_toArray, List.set_cons_zero, List.set_cons_succ])
              refine wpAnyH_take (i := 5) (oi := ⟨_, _, _, _, _, _⟩) (v := ?_) rfl (by kernel_rfl) (by kernel_rfl) (by kernel_rfl) (fun _ _ _ h => h) (Or.inl ⟨rfl, ?_⟩) (by assumption) ?_
              rotate_left 1
              · intro w_ hSw; (try dsimp only at hSw); go_simp; (try with_reducible rfl)
              (try simp only [Act.put, List.setIfInBounds_toArray, List.set_cons_zero, List.set_cons_succ])
              refine wpAnyH_take (i := 6) (oi := ⟨_, _, _, _, _, _⟩) (v := ?_) rfl (by kernel_rfl) (by kernel_rfl) (by kernel_rfl) (fun _ _ _ h => h) (Or.inl ⟨rfl, ?_⟩) (by assumption) ?_
              rotate_left 1
              · intro w_ hSw; (try dsimp only at hSw); go_simp; (try with_reducible rfl)
              (try simp only [Act.put, List.setIfInBounds_toArray, List.set_cons_zero, List.set_cons_succ])
              refine wpAnyH_take (i := 7) (oi := ⟨_, _, _, _, _, _⟩) (v := ?_) rfl (by kernel_rfl) (by kernel_rfl) (by kernel_rfl) (fun _ _ _ h => h) (Or.inl ⟨rfl, ?_⟩) (by assumption) ?_
              rotate_left 1
              · intro w_ hSw; (try dsimp only at hSw); go_simp; (try with_reducible rfl)
              (try simp only [Act.put, List.setIfInBounds_toArray, List.set_cons_zero, List.set_cons_succ])
              refine wpAnyH_take (i := 8) (oi := ⟨_, _, _, _, _, _⟩) (v := ?_) rfl (by kernel_rfl) (by kernel_rfl) (by kernel_rfl) (fun _ _ _ h => h) (Or.inl ⟨rfl, ?_⟩) (by assumption) ?_
              rotate_left 1
              · intro w_ hSw; (try dsimp only at hSw); go_simp; (try with_reducible rfl)
              (try simp only [Act.put, List.setIfInBounds_toArray, List.set_cons_zero, List.set_cons_succ])
              refine wpAnyH_take (i := 9) (oi := ⟨_, _, _, _, _, _⟩) (v := ?_) rfl (by kernel_rfl) (by kernel_rfl) (by kernel_rfl) (fun _ _ _ h => h) (Or.inl ⟨rfl, ?_⟩) (by assumption) ?_
              rotate_left 1
              · intro w_ hSw; (try dsimp only at hSw); go_simp; (try with_reducible rfl)
              (try simp only [Act.put, List.setIfInBounds_toArray, List.set_cons_zero, List.set_cons_succ])
              refine wpAnyH_take (i := 10) (oi := ⟨_, _, _, _, _, _⟩) (v := ?_) rfl (by kernel_rfl) (by kernel_rfl) (by kernel_rfl) (fun _ _ _ h => h) (Or.inl ⟨rfl, ?_⟩) (by assumption) ?_
              rotate_left 1
              · intro w_ hSw; (try dsimp only at hSw); go_simp; (try with_reducible rfl)
              (try simp only [Act.put, List.setIfInBounds_toArray, List.set_cons_zero, List.set_cons_succ])
              refine wpAnyH_take (i := 11) (oi := ⟨_, _, _, _, _, _⟩) (v := ?_) rfl (by kernel_rfl) (by kernel_rfl) (by kernel_rfl) (fun _ _ _ h => h) (Or.inl ⟨rfl, ?_⟩) (by assumption) ?_
              rotate_left 1
              · intro w_ hSw; (try dsimp only at hSw); go_simp; (try with_reducible rfl)
              (try simp only [Act.put, List.setIfInBounds_toArray, List.set_cons_zero, List.set_cons_succ])
              refine wpAnyH_take (i := 12) (oi := ⟨_, _, _, _, _, _⟩) (v := ?_) rfl (by kernel_rfl) (by kernel_rfl) (by kernel_rfl) (fun _ _ _ h => h) (Or.inl ⟨rfl, ?_⟩) (by assumption) ?_
              rotate_left 1
              · intro w_ hSw; (try dsimp only at hSw); go_simp; (try with_reducible rfl)
              (try simp only [Act.put, List.setIfInBounds_toArray, List.set_cons_zero, List.set_cons_succ])
              refine wpAnyH_take (i := 13) (oi := ⟨_, _, _, _, _, _⟩) (v := ?_) rfl (by kernel_rfl) (by kernel_rfl) (by kernel_rfl) (fun _ _ _ h => h) (Or.inl ⟨rfl, ?_⟩) (by assumption) ?_
              rotate_left 1
              · intro w_ hSw; (try dsimp only at hSw); go_simp; (try with_reducible rfl)
              (try simp only [Act.put, List.setIfInBounds_toArray, List.set_cons_zero, List.set_cons_succ])
              refine wpAnyH_take (i := 14) (oi := ⟨_, _, _, _, _, _⟩) (v := ?_) rfl (by kernel_rfl) (by kernel_rfl) (by kernel_rfl) (fun _ _ _ h => h) (Or.inl ⟨rfl, ?_⟩) (by assumption) ?_
              rotate_left 1
              · intro w_ hSw; (try dsimp only at hSw); go_simp; (try with_reducible rfl)
              (try simp only [Act.put, List.setIfInBounds_toArray, List.set_cons_zero, List.set_cons_succ])
              refine wpAnyH_take (i := 15) (oi := ⟨_, _, _, _, _, _⟩) (v := ?_) rfl (by kernel_rfl) (by kernel_rfl) (by kernel_rfl) (fun _ _ _ h => h) (Or.inl ⟨rfl, ?_⟩) (by assumption) ?_
              rotate_left 1
              · intro w_ hSw; (try dsimp only at hSw); go_simp; (try with_reducible rfl)
              (try simp only [Act.put, List.setIfInBounds_toArray, List.set_cons_zero, List.set_cons_succ])
              refine wpAnyH_take (i := 16) (oi := ⟨_, _, _, _, _, _⟩) (v := ?_) rfl (by kernel_rfl) (by kernel_rfl) (by kernel_rfl) (fun _ _ _ h => h) (Or.inl ⟨rfl, ?_⟩) (by assumption) ?_
              rotate_left 1
              · intro w_ hSw; (try dsimp only at hSw); go_simp; (try with_reducible rfl)
              (try simp only [Act.put, List.setIfInBounds_toArray, List.set_cons_zero, List.set_cons_succ])
              refine wpAnyH_take (i := 17) (oi := ⟨_, _, _, _, _, _⟩) (v := ?_) rfl (by kernel_rfl) (by kernel_rfl) (by kernel_rfl) (fun _ _ _ h => h) (Or.inl ⟨rfl, ?_⟩) (by assumption) ?_
              rotate_left 1
              · intro w_ hSw; (try dsimp only at hSw); go_simp; (try with_reducible rfl)
              (try simp only [Act.put, List.setIfInBounds_toArray, List.set_cons_zero, List.set_cons_succ])
              refine wpAnyH_ready (rs := [18]) (by kernel_rfl) (by simp) ?_
              refine AllReadyH.cons (o := ⟨_, _, _, _, _, _⟩) rfl (fun K hK => ?_) AllReadyH.nil
              go_simp
              refine hK.out _ _ ?_ (fun hHeld => ?_)
              · exact HKS'.out _
              clear hK K
              (try simp only [Act.put, List.setIfInBounds_toArray, List.set_cons_zero, List.set_cons_succ])
              refine wpAnyH_done (by kernel_rfl) ?_ _
              refine NoPanic.normal ?_
              have HO6 : Hid ((wq.setCell ⟨tb, q, none⟩ (.int .i64 (u * y + v))).drew.ownsRow wA.heap.size 3 1 (.slice (some ⟨tb, 0, none⟩) n n) n ((prK z y f g n (q + 1)).map (Value.int .i64))) := HST.out.1.kept (grown_of_below (below_drew _) none) (own_em _)
              have HX6 : Hid ((wq.setCell ⟨tb, q, none⟩ (.int .i64 (u * y + v))).drew.heap[ob]? = some (.cells #[.int .i64 (j : Int), .slice (some ⟨tb, 0, none⟩) n n] 64 (0, 0))) := by
                show (wq.setCell ⟨tb, q, none⟩ (.int .i64 (u * y + v))).heap[ob]? = _
                rw [Below.heap_setCell _ _ _ _ (by show ob ≠ tb; omega), HBq.out.block ob hsi]; exact HXb.out
              have HB6 : Hid (Below wA.heap.size wA (wq.setCell ⟨tb, q, none⟩ (.int .i64 (u * y + v))).drew) := (HBAq.out.setCell (by show wA.heap.size ≤ tb; omega) _).drew
              have hs6 : ob < (wq.setCell ⟨tb, q, none⟩ (.int .i64 (u * y + v))).drew.heap.size := by
                have h_ := HBq.out.size
                show ob < (wq.setCell ⟨tb, q, none⟩ (.int .i64 (u * y + v))).heap.size
                simp [World.setCell]; omega
              go_wp2_with fail
              go_roundw
              case rel => exact ⟨q + 1, by omega, by go_num, HX6, HO6, HB6, hs6⟩
              case measure => simp [intOf]; omega
        · obtain rfl : q = n := by omega
          obtain ⟨x0, x1, xf⟩ := box_cells HXb.out
          obtain ⟨r0, r1, rf⟩ := box_cells ((HBi.out.block _ (by omega)).trans ((HT.out.bel.block _ (by omega)).trans HRes.out))
          have hltq' : ¬ (q : Int) < (q : Int) := by omega
          go_wp2_with fail
          refine bodyPost_ret (v := .agg #[.int .i64 (m : Int), .slice (some ⟨tb, 0, none⟩) q q]) (by simp [results, Try.results58, go_sem, r0, r1]) rfl ⟨tb, q, rfl, ?_, ?_⟩
          · have h1 := HTb.out
            rw [prK_all] at h1
            exact ownsRow_base (ownsRow_setCell_below (ownsRow_setCell_below h1 (by show w.heap.size + 1 + 1 < _; omega) _) (by show w.heap.size + 1 + 1 < _; omega) _) (by omega)
          · exact ((HB.out.trans ((HT.out.bel.trans (HBi.out.mono HT.out.bel.size)).mono HB.out.size)).setCell (by show _ ≤ _; simp; omega) _).setCell (by show _ ≤ _; simp; omega) _

end Go.Proofs.Ytfdolbpbddjhmaa
