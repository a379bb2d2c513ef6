/-
  Contracts: both FirstBroken. Conditions: the bounds that each theorem names.
-/
import Derived.Test.YtplheohkecooeaaDhJ
import Derived.Test.YtplheohkecooeaaIdl
namespace Go.Proofs.Ytplheohkecooeaa
open Go.RowKit
set_option linter.unusedVariables false
set_option linter.unusedSimpArgs false
attribute [local go_sem ↓] Go.wp_at_zero Go.wp_at_succ

/-- Whether the identity at a number does not hold. -/
def brkP (z : Int) (fs : List OpD) (es : List IdD) (j : Nat) : Bool := (cntR z fs (es.getD j ([], [])).1 (es.getD j ([], [])).2).2
def fbV : Option Nat → Int
  | some k => (k : Int)
  | none => -1
def askAll (z : Int) (fs : List OpD) (es : List IdD) : Bool := es.all fun e => askB z fs e.1 e.2
def valFirstBroken (z : Int) (fs : List OpD) (es : List IdD) : Int × Bool := if (algOkB z fs && decide (es.length ≤ 20)) && askAll z fs es then (fbV (firstN (brkP z fs es) es.length), true) else (0, false)
theorem brkP_at {z : Int} {fs : List OpD} {es : List IdD} {j : Nat} {e : IdD} (h : es[j]? = some e) : brkP z fs es j = (cntR z fs e.1 e.2).2 := by unfold brkP; rw [List.getD_eq_getElem?_getD, h]; rfl
theorem val_fb_no {z : Int} {fs : List OpD} {es : List IdD} (h : ((algOkB z fs && decide (es.length ≤ 20)) && askAll z fs es) = false) : valFirstBroken z fs es = (0, false) := by simp [valFirstBroken, h]
theorem val_fb_yes {z : Int} {fs : List OpD} {es : List IdD} (h : ((algOkB z fs && decide (es.length ≤ 20)) && askAll z fs es) = true) : valFirstBroken z fs es = (fbV (firstN (brkP z fs es) es.length), true) := by simp [valFirstBroken, h]
theorem askAll_no {z : Int} {fs : List OpD} {es : List IdD} {k : Nat} {e : IdD} (h : es[k]? = some e) (ha : askB z fs e.1 e.2 = false) : askAll z fs es = false := by
  rw [← Bool.not_eq_true]
  intro hh
  have := List.all_eq_true.1 hh e (List.mem_of_getElem? h)
  rw [ha] at this; cases this
theorem askAll_succ {z : Int} {fs : List OpD} {es : List IdD} {k : Nat} {e : IdD} (hx : es[k]? = some e) (h : askAll z fs (es.take k) = true) (ht : askB z fs e.1 e.2 = true) : askAll z fs (es.take (k + 1)) = true := by
  unfold askAll at h ⊢
  rw [List.take_add_one, hx, List.all_append, h]; simp [ht]
theorem fb_step {P : Nat → Bool} {k : Nat} : fbV (firstN P (k + 1)) = (if P k && decide (fbV (firstN P k) < 0) then (k : Int) else fbV (firstN P k)) := by
  rw [firstN]
  cases h : firstN P k with
  | some j =>
    have : ¬ ((j : Int) < 0) := by omega
    simp [fbV, this]
  | none =>
    cases hp : P k <;> simp [fbV]
theorem fb_bd {P : Nat → Bool} {k : Nat} : -1 ≤ fbV (firstN P k) ∧ fbV (firstN P k) ≤ (k : Int) := by
  induction k with
  | zero => simp [firstN, fbV]
  | succ k ih =>
    rw [fb_step]
    split <;> omega

set_option maxRecDepth 100000 in
set_option maxHeartbeats 2000000 in
theorem implFirstBroken (lo hi : Nat) (z : Int) (ao : Option Addr) (c n : Nat) (fs : List OpD) (lo2 hi2 : Nat) (bo : Option Addr) (d m : Nat) (es : List IdD) (w : World) (hv : OView w lo hi ao n fs) (hhi : hi ≤ w.heap.size) (hs : ∀ (j : Nat) (f : OpD), fs[j]? = some f → f.2.length ≤ maxLen)
    (hy : DView w lo2 hi2 bo m es) (hhi2 : hi2 ≤ w.heap.size) (hmd : m ≤ d) (hm : d ≤ maxLen) (hq : ∀ e, e ∈ es → (∀ x, x ∈ e.1 → (Lit.int .i64 x).wf = true) ∧ (∀ x, x ∈ e.2 → (Lit.int .i64 x).wf = true)) :
    Calls Try.prog 59 #[.agg #[.int .i64 z, .slice ao n c], .slice bo m d] w fun e w' => e = .returned (.tuple #[.int .i64 (valFirstBroken z fs es).1, .bool (valFirstBroken z fs es).2]) ∧ Below w.heap.size w w' := by
  have hly := hy.1
  have HB := Lib.hid (below_alloc w (.cells #[.int .i64 z, .slice ao n c] 30))
  have hgood := fun (W : World) (hb : Below w.heap.size w W) => isAlg_any lo hi z ao c n fs W (hv.kept (Kept.of_below hb hhi)) (Nat.le_trans hhi hb.size) hs
  obtain ⟨r, hr⟩ : ∃ r, algOkB z fs = r := ⟨_, rfl⟩
  simp only [hr] at hgood
  have HG := Lib.hid hgood
  cases r with
  | false =>
    rw [val_fb_no (by simp [hr])]
    clear hgood hr hly
    clear hv hs hy hq
    go_enter Try.func59, Try.ntmps59
    go_wp2_with fail
    refine (HG.out _ HB.out).mono ?_
    rintro e w1 ⟨rfl, b1⟩
    have HB1 := Lib.hid (HB.out.trans (b1.mono HB.out.size))
    clear b1
    go_wp2_with fail
    go_ret2
    exact ⟨rfl, HB1.out⟩
  | true =>
    by_cases h20 : m ≤ 20
    · have h20' : ¬ (20 : Int) < (m : Int) := by omega
      have HDo := Lib.hid (fun (lo2 hi2 : Nat) (bo : Option Addr) (d m : Nat) (xs : List Int) (lo3 hi3 : Nat) (co : Option Addr) (d2 m2 : Nat) (ys : List Int) (W : World) (hb : Below w.heap.size w W) => implDoesHold lo hi z ao c n fs lo2 hi2 bo d m xs lo3 hi3 co d2 m2 ys W (hv.kept (Kept.of_below hb hhi)) (Nat.le_trans hhi hb.size) hs)
      obtain ⟨V, hV⟩ : ∃ V, valFirstBroken z fs es = V := ⟨_, rfl⟩
      have HNo := Lib.hid (fun (h : askAll z fs es = false) => (val_fb_no (z := z) (fs := fs) (es := es) (by rw [h]; simp)).symm.trans hV)
      have HYes := Lib.hid (fun (h : askAll z fs es = true) => (val_fb_yes (z := z) (fs := fs) (es := es) (by rw [h, hr, hly, decide_eq_true h20]; rfl)).symm.trans hV)
      rw [hV]
      have HY := Lib.hid hy
      have HQ := Lib.hid hq
      clear hgood hr hly hV
      clear hv hs hy hq
      go_enter Try.func59, Try.ntmps59
      go_wp2_with fail
      refine (HG.out _ HB.out).mono ?_
      rintro e w1 ⟨rfl, b1⟩
      have HB1 := Lib.hid (HB.out.trans (b1.mono HB.out.size))
      have c1 : w1.cell? ⟨w.heap.size, 0, none⟩ = some (.int .i64 z) := cell_b b1 (by go_simp)
      have c2 : w1.cell? ⟨w.heap.size, 1, none⟩ = some (.slice ao n c) := cell_b b1 (by go_simp)
      clear b1
      go_wp2_with fail
      go_loopw [6, 7, 9, 10, 21] (fun s _ _ _ i wr => ∃ k : Nat, ∃ q : Int, k ≤ m ∧ i = .int .i64 (k : Int) ∧ s = .int .i64 q ∧ Hid (q = fbV (firstN (brkP z fs es) k)) ∧ Hid (askAll z fs (es.take k) = true) ∧ wr.cell? ⟨w.heap.size, 0, none⟩ = some (.int .i64 z) ∧ wr.cell? ⟨w.heap.size, 1, none⟩ = some (.slice ao n c) ∧ Hid (Below w.heap.size w wr)) (fun _ _ _ _ i _ => m - (intOf i).toNat)
      case atStart => exact ⟨0, -1, Nat.zero_le _, rfl, rfl, rfl, rfl, c1, c2, HB1⟩
      case round =>
        obtain ⟨k, q, hk, rfl, rfl, HFq, HAs, z1, z2, HBr⟩ := hrel
        clear c1 c2 HB1
        by_cases hlt : k < m
        · obtain ⟨b, o, rfl, _, _, hc⟩ := HY.out.at_ (by omega)
          obtain ⟨f, hf⟩ := get_of_lt HY.out.1 hlt
          obtain ⟨a, p, pc, a', p', pc', e0_, e1_, ⟨q1, q2, q3⟩, ⟨r1, r2, r3⟩⟩ := hc k f hf
          have e0 : wr.cell? ⟨b, o + k * 2, none⟩ = some (.slice a p pc) := cell_b HBr.out e0_
          have e1 : wr.cell? ⟨b, o + k * 2 + 1, none⟩ = some (.slice a' p' pc') := cell_b HBr.out e1_
          obtain ⟨hq1, hq2⟩ := HQ.out f (List.mem_of_getElem? hf)
          have hcall := fun (W : World) (hb : Below w.heap.size w W) => HDo.out lo2 hi2 a pc p f.1 lo2 hi2 a' pc' p' f.2 W hb (q3.kept (Kept.of_below hb hhi2)) (Nat.le_trans hhi2 hb.size) q1 q2 hq1 (r3.kept (Kept.of_below hb hhi2)) (Nat.le_trans hhi2 hb.size) r1 r2 hq2
          have hbp := brkP_at (z := z) (fs := fs) hf
          have HF := Lib.hid hf
          have hfst := fb_step (P := brkP z fs es) (k := k)
          rw [hbp, ← HFq.out] at hfst
          unfold valDoesHold at hcall
          obtain ⟨s, hs2⟩ : ∃ s, askB z fs f.1 f.2 = s := ⟨_, rfl⟩
          obtain ⟨t, ht⟩ : ∃ t, (cntR z fs f.1 f.2).2 = t := ⟨_, rfl⟩
          rw [ht] at hfst
          simp only [hs2, ht] at hcall
          have HA2 := Lib.hid hs2
          have hkm : (k : Int) < (m : Int) := by omega
          have hqb := fb_bd (P := brkP z fs es) (k := k)
          rw [← HFq.out] at hqb
          have hbw := HBr.out.size
          have HBx := Lib.hid (HBr.out.alloc HBr.out.size (.cells #[.slice a p pc, .slice a' p' pc'] 64))
          clear hc hf e0_ e1_ q1 q2 q3 r1 r2 r3 hq1 hq2 hbp hs2 ht
          have y1 : (wr.alloc (.cells #[.slice a p pc, .slice a' p' pc'] 64)).cell? ⟨w.heap.size, 0, none⟩ = some (.int .i64 z) := cell_b (below_alloc _ _) z1
          have y2 : (wr.alloc (.cells #[.slice a p pc, .slice a' p' pc'] 64)).cell? ⟨w.heap.size, 1, none⟩ = some (.slice ao n c) := cell_b (below_alloc _ _) z2
          cases s with
          | false =>
            simp only [Bool.false_eq_true, if_false] at hcall
            have HC := Lib.hid hcall
            obtain rfl : V = (0, false) := (HNo.out (askAll_no HF.out HA2.out)).symm
            clear hcall hfst
            go_wp2_with fail
            refine (HC.out _ HBx.out).mono ?_
            rintro e w3 ⟨rfl, b3⟩
            have HB3 := Lib.hid (HBx.out.trans (b3.mono HBx.out.size))
            clear b3
            go_wp2_with fail
            go_ret2
            exact ⟨rfl, HB3.out⟩
          | true =>
            simp only [if_true] at hcall
            have HAn := Lib.hid (askAll_succ HF.out HAs.out HA2.out)
            cases t with
            | true =>
              have HC := Lib.hid hcall
              by_cases hneg : q < 0
              · have HN : Hid ((k : Int) = fbV (firstN (brkP z fs es) (k + 1))) := by unfold Hid; rw [hfst]; simp [hneg]
                clear hcall hfst
                go_wp2_with fail
                refine (HC.out _ HBx.out).mono ?_
                rintro e w3 ⟨rfl, b3⟩
                have HB3 := Lib.hid (HBx.out.trans (b3.mono HBx.out.size))
                have x1 := cell_b b3 y1
                have x2 := cell_b b3 y2
                clear b3 y1 y2
                go_wp2_with fail
                go_roundw
                case rel => exact ⟨k + 1, (k : Int), by omega, by go_num, rfl, HN, HAn, x1, x2, HB3⟩
                case measure => (simp [intOf]) <;> omega
              · have HN : Hid (q = fbV (firstN (brkP z fs es) (k + 1))) := by unfold Hid; rw [hfst]; simp [hneg]
                clear hcall hfst
                go_wp2_with fail
                refine (HC.out _ HBx.out).mono ?_
                rintro e w3 ⟨rfl, b3⟩
                have HB3 := Lib.hid (HBx.out.trans (b3.mono HBx.out.size))
                have x1 := cell_b b3 y1
                have x2 := cell_b b3 y2
                clear b3 y1 y2
                go_wp2_with fail
                go_roundw
                case rel => exact ⟨k + 1, q, by omega, by go_num, rfl, HN, HAn, x1, x2, HB3⟩
                case measure => (simp [intOf]) <;> omega
            | false =>
              have HC := Lib.hid hcall
              have HN : Hid (q = fbV (firstN (brkP z fs es) (k + 1))) := by unfold Hid; rw [hfst]; simp
              clear hcall hfst
              go_wp2_with fail
              refine (HC.out _ HBx.out).mono ?_
              rintro e w3 ⟨rfl, b3⟩
              have HB3 := Lib.hid (HBx.out.trans (b3.mono HBx.out.size))
              have x1 := cell_b b3 y1
              have x2 := cell_b b3 y2
              clear b3 y1 y2
              go_wp2_with fail
              go_roundw
              case rel => exact ⟨k + 1, q, by omega, by go_num, rfl, HN, HAn, x1, x2, HB3⟩
              case measure => (simp [intOf]) <;> omega
        · obtain rfl : k = m := by omega
          have hyl := HY.out.1
          have hall := HAs.out
          rw [List.take_of_length_le (Nat.le_of_eq hyl)] at hall
          have hv2 := HYes.out hall
          rw [hyl, ← HFq.out] at hv2
          obtain rfl : V = (q, true) := hv2.symm
          clear hyl hall hv2
          go_wp2_with fail
          go_ret2
          exact ⟨rfl, HBr.out⟩
    · have h20' : (20 : Int) < (m : Int) := by omega
      rw [val_fb_no (by rw [hly, decide_eq_false h20]; simp)]
      clear hgood hr hly
      clear hv hs hy hq
      go_enter Try.func59, Try.ntmps59
      go_wp2_with fail
      refine (HG.out _ HB.out).mono ?_
      rintro e w1 ⟨rfl, b1⟩
      have HB1 := Lib.hid (HB.out.trans (b1.mono HB.out.size))
      clear b1
      unfold maxLen at hm
      go_wp2_with fail
      go_ret2
      exact ⟨rfl, HB1.out⟩

set_option maxRecDepth 100000 in
set_option maxHeartbeats 2000000 in
theorem specFirstBroken (lo hi : Nat) (z : Int) (ao : Option Addr) (c n : Nat) (fs : List OpD) (lo2 hi2 : Nat) (bo : Option Addr) (d m : Nat) (es : List IdD) (w : World) (hv : OView w lo hi ao n fs) (hhi : hi ≤ w.heap.size) (hs : ∀ (j : Nat) (f : OpD), fs[j]? = some f → f.2.length ≤ maxLen)
    (hy : DView w lo2 hi2 bo m es) (hhi2 : hi2 ≤ w.heap.size) (hmd : m ≤ d) (hm : d ≤ maxLen) (hq : ∀ e, e ∈ es → (∀ x, x ∈ e.1 → (Lit.int .i64 x).wf = true) ∧ (∀ x, x ∈ e.2 → (Lit.int .i64 x).wf = true)) :
    Calls Try.prog 57 #[.agg #[.int .i64 z, .slice ao n c], .slice bo m d] w fun e w' => e = .returned (.tuple #[.int .i64 (valFirstBroken z fs es).1, .bool (valFirstBroken z fs es).2]) ∧ Below w.heap.size w w' := by
  have hly := hy.1
  have HB := Lib.hid (below_alloc w (.cells #[.int .i64 z, .slice ao n c] 30))
  have hgood := fun (W : World) (hb : Below w.heap.size w W) => good_any lo hi z ao c n fs W (hv.kept (Kept.of_below hb hhi)) (Nat.le_trans hhi hb.size) hs
  obtain ⟨r, hr⟩ : ∃ r, algOkB z fs = r := ⟨_, rfl⟩
  simp only [hr] at hgood
  have HG := Lib.hid hgood
  cases r with
  | false =>
    rw [val_fb_no (by simp [hr])]
    clear hgood hr hly
    clear hv hs hy hq
    go_enter Try.func57, Try.ntmps57
    go_wp2_with fail
    refine (HG.out _ HB.out).mono ?_
    rintro e w1 ⟨rfl, b1⟩
    have HB1 := Lib.hid (HB.out.trans (b1.mono HB.out.size))
    clear b1
    go_wp2_with fail
    go_ret2
    exact ⟨rfl, HB1.out⟩
  | true =>
    by_cases h20 : m ≤ 20
    · have h20' : ¬ (20 : Int) < (m : Int) := by omega
      have HAk := Lib.hid (fun (lo2 hi2 : Nat) (bo : Option Addr) (d m : Nat) (xs : List Int) (lo3 hi3 : Nat) (co : Option Addr) (d2 m2 : Nat) (ys : List Int) (W : World) (hb : Below w.heap.size w W) => l3Asked_any lo hi z ao c n fs lo2 hi2 bo d m xs lo3 hi3 co d2 m2 ys W (hv.kept (Kept.of_below hb hhi)) (Nat.le_trans hhi hb.size) hr)
      have HHo := Lib.hid (fun (lo2 hi2 : Nat) (bo : Option Addr) (d m : Nat) (xs : List Int) (lo3 hi3 : Nat) (co : Option Addr) (d2 m2 : Nat) (ys : List Int) (W : World) (hb : Below w.heap.size w W) => l3Holds_any lo hi z ao c n fs lo2 hi2 bo d m xs lo3 hi3 co d2 m2 ys W (hv.kept (Kept.of_below hb hhi)) (Nat.le_trans hhi hb.size))
      have HTB := Lib.hid (fun (xs ys : List Int) => show askT z fs xs ys = askB z fs xs ys by rw [ask_and, hr, Bool.true_and])
      obtain ⟨V, hV⟩ : ∃ V, valFirstBroken z fs es = V := ⟨_, rfl⟩
      have HNo := Lib.hid (fun (h : askAll z fs es = false) => (val_fb_no (z := z) (fs := fs) (es := es) (by rw [h]; simp)).symm.trans hV)
      have HYes := Lib.hid (fun (h : askAll z fs es = true) => (val_fb_yes (z := z) (fs := fs) (es := es) (by rw [h, hr, hly, decide_eq_true h20]; rfl)).symm.trans hV)
      rw [hV]
      have HY := Lib.hid hy
      clear hgood hr hly hV
      clear hv hs hy hq
      go_enter Try.func57, Try.ntmps57
      go_wp2_with fail
      refine (HG.out _ HB.out).mono ?_
      rintro e w1 ⟨rfl, b1⟩
      have HB1 := Lib.hid (HB.out.trans (b1.mono HB.out.size))
      have c1 : w1.cell? ⟨w.heap.size, 0, none⟩ = some (.int .i64 z) := cell_b b1 (by go_simp)
      have c2 : w1.cell? ⟨w.heap.size, 1, none⟩ = some (.slice ao n c) := cell_b b1 (by go_simp)
      clear b1
      go_wp2_with fail
      go_loopw [6] (fun i wr => ∃ k : Nat, k ≤ m ∧ i = .int .i64 (k : Int) ∧ Hid (askAll z fs (es.take k) = true) ∧ wr.cell? ⟨w.heap.size, 0, none⟩ = some (.int .i64 z) ∧ wr.cell? ⟨w.heap.size, 1, none⟩ = some (.slice ao n c) ∧ Hid (Below w.heap.size w wr)) (fun i _ => m - (intOf i).toNat)
      case atStart => exact ⟨0, Nat.zero_le _, rfl, rfl, c1, c2, HB1⟩
      case round =>
        obtain ⟨k, hk, rfl, HAs, z1, z2, HBr⟩ := hrel
        clear c1 c2 HB1
        by_cases hlt : k < m
        · obtain ⟨b, o, rfl, _, _, hc⟩ := HY.out.at_ (by omega)
          obtain ⟨f, hf⟩ := get_of_lt HY.out.1 hlt
          obtain ⟨a, p, pc, a', p', pc', e0_, e1_, ⟨q1, q2, q3⟩, ⟨r1, r2, r3⟩⟩ := hc k f hf
          have e0 : wr.cell? ⟨b, o + k * 2, none⟩ = some (.slice a p pc) := cell_b HBr.out e0_
          have e1 : wr.cell? ⟨b, o + k * 2 + 1, none⟩ = some (.slice a' p' pc') := cell_b HBr.out e1_
          have HF := Lib.hid hf
          have hkm : (k : Int) < (m : Int) := by omega
          have HBd := Lib.hid (HBr.out.drew)
          have hcall := fun (W : World) (hb : Below w.heap.size w W) => HAk.out lo2 hi2 a pc p f.1 lo2 hi2 a' pc' p' f.2 W hb (q3.kept (Kept.of_below hb hhi2)) (Nat.le_trans hhi2 hb.size) q1 q2 (r3.kept (Kept.of_below hb hhi2)) (Nat.le_trans hhi2 hb.size) r1 r2
          obtain ⟨s, hs2⟩ : ∃ s, askB z fs f.1 f.2 = s := ⟨_, rfl⟩
          simp only [HTB.out, hs2] at hcall
          have HA2 := Lib.hid hs2
          have HC := Lib.hid hcall
          clear hc hf e0_ e1_ q1 q2 q3 r1 r2 r3 hs2 hcall
          cases s with
          | false =>
            obtain rfl : V = (0, false) := (HNo.out (askAll_no HF.out HA2.out)).symm
            go_wp2_with fail
            refine wp_region_noPanic ?_
            refine wp_region_held_drew (S := fun W => W.cell? ⟨w.heap.size, 0, none⟩ = some (.int .i64 z) ∧ W.cell? ⟨w.heap.size, 1, none⟩ = some (.slice ao n c) ∧ W.cell? ⟨b, o + k * 2, none⟩ = some (.slice a p pc) ∧ W.cell? ⟨b, o + k * 2 + 1, none⟩ = some (.slice a' p' pc')) (by kernel_rfl) ?_ (fun hHeld => ?_)
            · exact ⟨z1, z2, e0, e1⟩
            refine wpAnyH_take (i := 0) (oi := ⟨_, _, _, _, _, _⟩) (v := ?_) rfl (by kernel_rfl) (by kernel_rfl) (by kernel_rfl) (fun _ _ _ h => h) (Or.inl ⟨rfl, ?_⟩) (by assumption) ?_
            rotate_left 1
            · intro w_ hSw; (try dsimp only at hSw); go_simp; (try with_reducible rfl)
            (try simp only [Act.put, List.setIfInBounds_toArray, List.set_cons_zero, List.set_cons_succ])
            refine wpAnyH_take (i := 1) (oi := ⟨_, _, _, _, _, _⟩) (v := ?_) rfl (by kernel_rfl) (by kernel_rfl) (by kernel_rfl) (fun _ _ _ h => h) (Or.inl ⟨rfl, ?_⟩) (by assumption) ?_
            rotate_left 1
            · intro w_ hSw; (try dsimp only at hSw); go_simp; (try with_reducible rfl)
            (try simp only [Act.put, List.setIfInBounds_toArray, List.set_cons_zero, List.set_cons_succ])
            refine wpAnyH_take (i := 2) (oi := ⟨_, _, _, _, _, _⟩) (v := ?_) rfl (by kernel_rfl) (by kernel_rfl) (by kernel_rfl) (fun _ _ _ h => h) (Or.inl ⟨rfl, ?_⟩) (by assumption) ?_
            rotate_left 1
            · intro w_ hSw; (try dsimp only at hSw); go_simp; (try with_reducible rfl)
            (try simp only [Act.put, List.setIfInBounds_toArray, List.set_cons_zero, List.set_cons_succ])
            refine wpAnyH_take (i := 3) (oi := ⟨_, _, _, _, _, _⟩) (v := ?_) rfl (by kernel_rfl) (by kernel_rfl) (by kernel_rfl) (fun _ _ _ h => h) (Or.inl ⟨rfl, ?_⟩) (by assumption) ?_
            rotate_left 1
            · intro w_ hSw; (try dsimp only at hSw); go_simp; (try with_reducible rfl)
            (try simp only [Act.put, List.setIfInBounds_toArray, List.set_cons_zero, List.set_cons_succ])
            refine wpAnyH_take (i := 4) (oi := ⟨_, _, _, _, _, _⟩) (v := ?_) rfl (by kernel_rfl) (by kernel_rfl) (by kernel_rfl) (fun _ _ _ h => h) (Or.inl ⟨rfl, ?_⟩) (by assumption) ?_
            rotate_left 1
            · intro w_ hSw; (try dsimp only at hSw); go_simp; (try with_reducible rfl)
            (try simp only [Act.put, List.setIfInBounds_toArray, List.set_cons_zero, List.set_cons_succ])
            refine wpAnyH_ready (rs := [5]) (by kernel_rfl) (by simp) ?_
            refine AllReadyH.cons (o := ⟨_, _, _, _, _, _⟩) rfl (fun K hK => ?_) AllReadyH.nil
            go_simp
            go_at_call 94
            refine (HC.out _ HBd.out).mono ?_
            rintro e w3 ⟨rfl, b3⟩
            have x1 := cell_b b3 z1
            have x2 := cell_b b3 z2
            have x3 := cell_b b3 e0
            have x4 := cell_b b3 e1
            have HB3 := Lib.hid (HBd.out.trans (b3.mono HBd.out.size))
            clear b3
            go_wp2_with fail
            refine hK.out _ _ ?_ (fun hHeld => ?_)
            · exact ⟨x1, x2, x3, x4⟩
            clear hK K
            (try simp only [Act.put, List.setIfInBounds_toArray, List.set_cons_zero, List.set_cons_succ])
            refine wpAnyH_take (i := 6) (oi := ⟨_, _, _, _, _, _⟩) (v := ?_) rfl (by kernel_rfl) (by kernel_rfl) (by kernel_rfl) (fun _ _ _ h => h) (Or.inl ⟨rfl, ?_⟩) (by assumption) ?_
            rotate_left 1
            · intro w_ hSw; (try dsimp only at hSw); go_simp; (try with_reducible rfl)
            (try simp only [Act.put, List.setIfInBounds_toArray, List.set_cons_zero, List.set_cons_succ])
            refine wpAnyH_done (by kernel_rfl) ?_ _
            refine NoPanic.normal ?_
            go_wp2_with fail
            go_ret2
            exact ⟨rfl, HB3.out⟩
          | true =>
            have HAn := Lib.hid (askAll_succ HF.out HAs.out HA2.out)
            go_wp2_with fail
            refine wp_region_noPanic ?_
            refine wp_region_held_drew (S := fun W => W.cell? ⟨w.heap.size, 0, none⟩ = some (.int .i64 z) ∧ W.cell? ⟨w.heap.size, 1, none⟩ = some (.slice ao n c) ∧ W.cell? ⟨b, o + k * 2, none⟩ = some (.slice a p pc) ∧ W.cell? ⟨b, o + k * 2 + 1, none⟩ = some (.slice a' p' pc')) (by kernel_rfl) ?_ (fun hHeld => ?_)
            · exact ⟨z1, z2, e0, e1⟩
            refine wpAnyH_take (i := 0) (oi := ⟨_, _, _, _, _, _⟩) (v := ?_) rfl (by kernel_rfl) (by kernel_rfl) (by kernel_rfl) (fun _ _ _ h => h) (Or.inl ⟨rfl, ?_⟩) (by assumption) ?_
            rotate_left 1
            · intro w_ hSw; (try dsimp only at hSw); go_simp; (try with_reducible rfl)
            (try simp only [Act.put, List.setIfInBounds_toArray, List.set_cons_zero, List.set_cons_succ])
            refine wpAnyH_take (i := 1) (oi := ⟨_, _, _, _, _, _⟩) (v := ?_) rfl (by kernel_rfl) (by kernel_rfl) (by kernel_rfl) (fun _ _ _ h => h) (Or.inl ⟨rfl, ?_⟩) (by assumption) ?_
            rotate_left 1
            · intro w_ hSw; (try dsimp only at hSw); go_simp; (try with_reducible rfl)
            (try simp only [Act.put, List.setIfInBounds_toArray, List.set_cons_zero, List.set_cons_succ])
            refine wpAnyH_take (i := 2) (oi := ⟨_, _, _, _, _, _⟩) (v := ?_) rfl (by kernel_rfl) (by kernel_rfl) (by kernel_rfl) (fun _ _ _ h => h) (Or.inl ⟨rfl, ?_⟩) (by assumption) ?_
            rotate_left 1
            · intro w_ hSw; (try dsimp only at hSw); go_simp; (try with_reducible rfl)
            (try simp only [Act.put, List.setIfInBounds_toArray, List.set_cons_zero, List.set_cons_succ])
            refine wpAnyH_take (i := 3) (oi := ⟨_, _, _, _, _, _⟩) (v := ?_) rfl (by kernel_rfl) (by kernel_rfl) (by kernel_rfl) (fun _ _ _ h => h) (Or.inl ⟨rfl, ?_⟩) (by assumption) ?_
            rotate_left 1
            · intro w_ hSw; (try dsimp only at hSw); go_simp; (try with_reducible rfl)
            (try simp only [Act.put, List.setIfInBounds_toArray, List.set_cons_zero, List.set_cons_succ])
            refine wpAnyH_take (i := 4) (oi := ⟨_, _, _, _, _, _⟩) (v := ?_) rfl (by kernel_rfl) (by kernel_rfl) (by kernel_rfl) (fun _ _ _ h => h) (Or.inl ⟨rfl, ?_⟩) (by assumption) ?_
            rotate_left 1
            · intro w_ hSw; (try dsimp only at hSw); go_simp; (try with_reducible rfl)
            (try simp only [Act.put, List.setIfInBounds_toArray, List.set_cons_zero, List.set_cons_succ])
            refine wpAnyH_ready (rs := [5]) (by kernel_rfl) (by simp) ?_
            refine AllReadyH.cons (o := ⟨_, _, _, _, _, _⟩) rfl (fun K hK => ?_) AllReadyH.nil
            go_simp
            go_at_call 94
            refine (HC.out _ HBd.out).mono ?_
            rintro e w3 ⟨rfl, b3⟩
            have x1 := cell_b b3 z1
            have x2 := cell_b b3 z2
            have x3 := cell_b b3 e0
            have x4 := cell_b b3 e1
            have HB3 := Lib.hid (HBd.out.trans (b3.mono HBd.out.size))
            clear b3
            go_wp2_with fail
            refine hK.out _ _ ?_ (fun hHeld => ?_)
            · exact ⟨x1, x2, x3, x4⟩
            clear hK K
            (try simp only [Act.put, List.setIfInBounds_toArray, List.set_cons_zero, List.set_cons_succ])
            refine wpAnyH_take (i := 6) (oi := ⟨_, _, _, _, _, _⟩) (v := ?_) rfl (by kernel_rfl) (by kernel_rfl) (by kernel_rfl) (fun _ _ _ h => h) (Or.inl ⟨rfl, ?_⟩) (by assumption) ?_
            rotate_left 1
            · intro w_ hSw; (try dsimp only at hSw); go_simp; (try with_reducible rfl)
            (try simp only [Act.put, List.setIfInBounds_toArray, List.set_cons_zero, List.set_cons_succ])
            refine wpAnyH_done (by kernel_rfl) ?_ _
            refine NoPanic.normal ?_
            go_wp2_with fail
            go_roundw
            case rel => exact ⟨k + 1, by omega, by go_num, HAn, x1, x2, HB3⟩
            case measure => simp [intOf]; omega
        · obtain rfl : k = m := by omega
          have hyl := HY.out.1
          have hall := HAs.out
          rw [List.take_of_length_le (Nat.le_of_eq hyl)] at hall
          have hv2 := HYes.out hall
          rw [hyl] at hv2
          have HV2 := Lib.hid hv2
          have HAll := Lib.hid hall
          clear hyl hall hv2
          obtain ⟨w4, hw4⟩ : ∃ w4 : World, w4 = wr := ⟨_, rfl⟩
          rw [← hw4]
          rw [← hw4] at z1 z2 HBr
          clear hw4
          go_wp2_with fail
          go_loopw [7] (fun i wr => ∃ q : Nat, q ≤ k ∧ i = .int .i64 (q : Int) ∧ Hid (∀ j, j < q → brkP z fs es j = false) ∧ wr.cell? ⟨w.heap.size, 0, none⟩ = some (.int .i64 z) ∧ wr.cell? ⟨w.heap.size, 1, none⟩ = some (.slice ao n c) ∧ Hid (Below w.heap.size w wr)) (fun i _ => k - (intOf i).toNat)
          case atStart => exact ⟨0, Nat.zero_le _, rfl, (fun j hj => by omega), z1, z2, HBr⟩
          case round =>
            clear z1 z2 HBr
            obtain ⟨j, hj, rfl, HNb, z1, z2, HBr⟩ := hrel
            by_cases hlt2 : j < k
            · obtain ⟨b, o, rfl, _, _, hc⟩ := HY.out.at_ (by omega)
              obtain ⟨f, hf⟩ := get_of_lt HY.out.1 hlt2
              obtain ⟨a, p, pc, a', p', pc', e0_, e1_, ⟨q1, q2, q3⟩, ⟨r1, r2, r3⟩⟩ := hc j f hf
              have e0 : wr.cell? ⟨b, o + j * 2, none⟩ = some (.slice a p pc) := cell_b HBr.out e0_
              have e1 : wr.cell? ⟨b, o + j * 2 + 1, none⟩ = some (.slice a' p' pc') := cell_b HBr.out e1_
              have hkm : (j : Int) < (k : Int) := by omega
              have HBd := Lib.hid (HBr.out.drew)
              have hcall := fun (W : World) (hb : Below w.heap.size w W) => HHo.out lo2 hi2 a pc p f.1 lo2 hi2 a' pc' p' f.2 W hb (q3.kept (Kept.of_below hb hhi2)) (Nat.le_trans hhi2 hb.size) q1 q2 (r3.kept (Kept.of_below hb hhi2)) (Nat.le_trans hhi2 hb.size) r1 r2 (List.all_eq_true.1 HAll.out f (List.mem_of_getElem? hf))
              have hbp := brkP_at (z := z) (fs := fs) hf
              obtain ⟨t, ht⟩ : ∃ t, (cntR z fs f.1 f.2).2 = t := ⟨_, rfl⟩
              rw [ht] at hbp
              simp only [ht] at hcall
              have HBp := Lib.hid hbp
              have HC := Lib.hid hcall
              clear hc hf e0_ e1_ q1 q2 q3 r1 r2 r3 hcall hbp ht
              cases t with
              | true =>
                obtain rfl : V = ((j : Int), true) := by
                  rw [← HV2.out, firstN_some HNb.out HBp.out hlt2]; rfl
                go_wp2_with fail
                refine wp_region_noPanic ?_
                refine wp_region_held_drew (S := fun W => W.cell? ⟨w.heap.size, 0, none⟩ = some (.int .i64 z) ∧ W.cell? ⟨w.heap.size, 1, none⟩ = some (.slice ao n c) ∧ W.cell? ⟨b, o + j * 2, none⟩ = some (.slice a p pc) ∧ W.cell? ⟨b, o + j * 2 + 1, none⟩ = some (.slice a' p' pc')) (by kernel_rfl) ?_ (fun hHeld => ?_)
                · exact ⟨z1, z2, e0, e1⟩
                refine wpAnyH_take (i := 0) (oi := ⟨_, _, _, _, _, _⟩) (v := ?_) rfl (by kernel_rfl) (by kernel_rfl) (by kernel_rfl) (fun _ _ _ h => h) (Or.inl ⟨rfl, ?_⟩) (by assumption) ?_
                rotate_left 1
                · intro w_ hSw; (try dsimp only at hSw); go_simp; (try with_reducible rfl)
                (try simp only [Act.put, List.setIfInBounds_toArray, List.set_cons_zero, List.set_cons_succ])
                refine wpAnyH_take (i := 1) (oi := ⟨_, _, _, _, _, _⟩) (v := ?_) rfl (by kernel_rfl) (by kernel_rfl) (by kernel_rfl) (fun _ _ _ h => h) (Or.inl ⟨rfl, ?_⟩) (by assumption) ?_
                rotate_left 1
                · intro w_ hSw; (try dsimp only at hSw); go_simp; (try with_reducible rfl)
                (try simp only [Act.put, List.setIfInBounds_toArray, List.set_cons_zero, List.set_cons_succ])
                refine wpAnyH_take (i := 2) (oi := ⟨_, _, _, _, _, _⟩) (v := ?_) rfl (by kernel_rfl) (by kernel_rfl) (by kernel_rfl) (fun _ _ _ h => h) (Or.inl ⟨rfl, ?_⟩) (by assumption) ?_
                rotate_left 1
                · intro w_ hSw; (try dsimp only at hSw); go_simp; (try with_reducible rfl)
                (try simp only [Act.put, List.setIfInBounds_toArray, List.set_cons_zero, List.set_cons_succ])
                refine wpAnyH_take (i := 3) (oi := ⟨_, _, _, _, _, _⟩) (v := ?_) rfl (by kernel_rfl) (by kernel_rfl) (by kernel_rfl) (fun _ _ _ h => h) (Or.inl ⟨rfl, ?_⟩) (by assumption) ?_
                rotate_left 1
                · intro w_ hSw; (try dsimp only at hSw); go_simp; (try with_reducible rfl)
                (try simp only [Act.put, List.setIfInBounds_toArray, List.set_cons_zero, List.set_cons_succ])
                refine wpAnyH_take (i := 4) (oi := ⟨_, _, _, _, _, _⟩) (v := ?_) rfl (by kernel_rfl) (by kernel_rfl) (by kernel_rfl) (fun _ _ _ h => h) (Or.inl ⟨rfl, ?_⟩) (by assumption) ?_
                rotate_left 1
                · intro w_ hSw; (try dsimp only at hSw); go_simp; (try with_reducible rfl)
                (try simp only [Act.put, List.setIfInBounds_toArray, List.set_cons_zero, List.set_cons_succ])
                refine wpAnyH_ready (rs := [5]) (by kernel_rfl) (by simp) ?_
                refine AllReadyH.cons (o := ⟨_, _, _, _, _, _⟩) rfl (fun K hK => ?_) AllReadyH.nil
                go_simp
                go_at_call 95
                refine (HC.out _ HBd.out).mono ?_
                rintro e w3 ⟨rfl, b3⟩
                have x1 := cell_b b3 z1
                have x2 := cell_b b3 z2
                have x3 := cell_b b3 e0
                have x4 := cell_b b3 e1
                have HB3 := Lib.hid (HBd.out.trans (b3.mono HBd.out.size))
                clear b3
                go_wp2_with fail
                refine hK.out _ _ ?_ (fun hHeld => ?_)
                · exact ⟨x1, x2, x3, x4⟩
                clear hK K
                (try simp only [Act.put, List.setIfInBounds_toArray, List.set_cons_zero, List.set_cons_succ])
                refine wpAnyH_take (i := 6) (oi := ⟨_, _, _, _, _, _⟩) (v := ?_) rfl (by kernel_rfl) (by kernel_rfl) (by kernel_rfl) (fun _ _ _ h => h) (Or.inl ⟨rfl, ?_⟩) (by assumption) ?_
                rotate_left 1
                · intro w_ hSw; (try dsimp only at hSw); go_simp; (try with_reducible rfl)
                (try simp only [Act.put, List.setIfInBounds_toArray, List.set_cons_zero, List.set_cons_succ])
                refine wpAnyH_done (by kernel_rfl) ?_ _
                refine NoPanic.normal ?_
                go_wp2_with fail
                go_ret2
                exact ⟨rfl, HB3.out⟩
              | false =>
                have HNn : Hid (∀ i, i < j + 1 → brkP z fs es i = false) := fun i hi => by
                  by_cases h_ : i < j
                  · exact HNb.out i h_
                  · obtain rfl : i = j := by omega
                    exact HBp.out
                go_wp2_with fail
                refine wp_region_noPanic ?_
                refine wp_region_held_drew (S := fun W => W.cell? ⟨w.heap.size, 0, none⟩ = some (.int .i64 z) ∧ W.cell? ⟨w.heap.size, 1, none⟩ = some (.slice ao n c) ∧ W.cell? ⟨b, o + j * 2, none⟩ = some (.slice a p pc) ∧ W.cell? ⟨b, o + j * 2 + 1, none⟩ = some (.slice a' p' pc')) (by kernel_rfl) ?_ (fun hHeld => ?_)
                · exact ⟨z1, z2, e0, e1⟩
                refine wpAnyH_take (i := 0) (oi := ⟨_, _, _, _, _, _⟩) (v := ?_) rfl (by kernel_rfl) (by kernel_rfl) (by kernel_rfl) (fun _ _ _ h => h) (Or.inl ⟨rfl, ?_⟩) (by assumption) ?_
                rotate_left 1
                · intro w_ hSw; (try dsimp only at hSw); go_simp; (try with_reducible rfl)
                (try simp only [Act.put, List.setIfInBounds_toArray, List.set_cons_zero, List.set_cons_succ])
                refine wpAnyH_take (i := 1) (oi := ⟨_, _, _, _, _, _⟩) (v := ?_) rfl (by kernel_rfl) (by kernel_rfl) (by kernel_rfl) (fun _ _ _ h => h) (Or.inl ⟨rfl, ?_⟩) (by assumption) ?_
                rotate_left 1
                · intro w_ hSw; (try dsimp only at hSw); go_simp; (try with_reducible rfl)
                (try simp only [Act.put, List.setIfInBounds_toArray, List.set_cons_zero, List.set_cons_succ])
                refine wpAnyH_take (i := 2) (oi := ⟨_, _, _, _, _, _⟩) (v := ?_) rfl (by kernel_rfl) (by kernel_rfl) (by kernel_rfl) (fun _ _ _ h => h) (Or.inl ⟨rfl, ?_⟩) (by assumption) ?_
                rotate_left 1
                · intro w_ hSw; (try dsimp only at hSw); go_simp; (try with_reducible rfl)
                (try simp only [Act.put, List.setIfInBounds_toArray, List.set_cons_zero, List.set_cons_succ])
                refine wpAnyH_take (i := 3) (oi := ⟨_, _, _, _, _, _⟩) (v := ?_) rfl (by kernel_rfl) (by kernel_rfl) (by kernel_rfl) (fun _ _ _ h => h) (Or.inl ⟨rfl, ?_⟩) (by assumption) ?_
                rotate_left 1
                · intro w_ hSw; (try dsimp only at hSw); go_simp; (try with_reducible rfl)
                (try simp only [Act.put, List.setIfInBounds_toArray, List.set_cons_zero, List.set_cons_succ])
                refine wpAnyH_take (i := 4) (oi := ⟨_, _, _, _, _, _⟩) (v := ?_) rfl (by kernel_rfl) (by kernel_rfl) (by kernel_rfl) (fun _ _ _ h => h) (Or.inl ⟨rfl, ?_⟩) (by assumption) ?_
                rotate_left 1
                · intro w_ hSw; (try dsimp only at hSw); go_simp; (try with_reducible rfl)
                (try simp only [Act.put, List.setIfInBounds_toArray, List.set_cons_zero, List.set_cons_succ])
                refine wpAnyH_ready (rs := [5]) (by kernel_rfl) (by simp) ?_
                refine AllReadyH.cons (o := ⟨_, _, _, _, _, _⟩) rfl (fun K hK => ?_) AllReadyH.nil
                go_simp
                go_at_call 95
                refine (HC.out _ HBd.out).mono ?_
                rintro e w3 ⟨rfl, b3⟩
                have x1 := cell_b b3 z1
                have x2 := cell_b b3 z2
                have x3 := cell_b b3 e0
                have x4 := cell_b b3 e1
                have HB3 := Lib.hid (HBd.out.trans (b3.mono HBd.out.size))
                clear b3
                go_wp2_with fail
                refine hK.out _ _ ?_ (fun hHeld => ?_)
                · exact ⟨x1, x2, x3, x4⟩
                clear hK K
                (try simp only [Act.put, List.setIfInBounds_toArray, List.set_cons_zero, List.set_cons_succ])
                refine wpAnyH_take (i := 6) (oi := ⟨_, _, _, _, _, _⟩) (v := ?_) rfl (by kernel_rfl) (by kernel_rfl) (by kernel_rfl) (fun _ _ _ h => h) (Or.inl ⟨rfl, ?_⟩) (by assumption) ?_
                rotate_left 1
                · intro w_ hSw; (try dsimp only at hSw); go_simp; (try with_reducible rfl)
                (try simp only [Act.put, List.setIfInBounds_toArray, List.set_cons_zero, List.set_cons_succ])
                refine wpAnyH_done (by kernel_rfl) ?_ _
                refine NoPanic.normal ?_
                go_wp2_with fail
                go_roundw
                case rel => exact ⟨j + 1, by omega, by go_num, HNn, x1, x2, HB3⟩
                case measure => simp [intOf]; omega
            · obtain rfl : j = k := by omega
              obtain rfl : V = (-1, true) := by
                rw [← HV2.out, firstN_none HNb.out]; rfl
              go_wp2_with fail
              go_ret2
              exact ⟨rfl, HBr.out⟩
    · have h20' : (20 : Int) < (m : Int) := by omega
      rw [val_fb_no (by rw [hly, decide_eq_false h20]; simp)]
      clear hgood hr hly
      clear hv hs hy hq
      go_enter Try.func57, Try.ntmps57
      go_wp2_with fail
      refine (HG.out _ HB.out).mono ?_
      rintro e w1 ⟨rfl, b1⟩
      have HB1 := Lib.hid (HB.out.trans (b1.mono HB.out.size))
      clear b1
      unfold maxLen at hm
      go_wp2_with fail
      go_ret2
      exact ⟨rfl, HB1.out⟩

end Go.Proofs.Ytplheohkecooeaa
