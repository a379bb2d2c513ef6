/-
  Contract: impl.replaced. Conditions: the bounds that each theorem names.
-/
import Derived.Test.YtplheohkecooeaaTwo
import Derived.Test.YtplheohkecooeaaConcat
namespace Go.Proofs.Ytplheohkecooeaa
open Go.RowKit
set_option linter.unusedVariables false
set_option linter.unusedSimpArgs false
attribute [local go_sem ↓] Go.wp_at_zero Go.wp_at_succ

theorem val_rep_no {z : Int} {fs : List OpD} {xs ys : List Int} {at_ : Int} (h : (algOkB z fs && (termB fs xs && termB fs ys)) = false) : valReplaceAt z fs xs at_ ys = ([], false) := by simp [valReplaceAt, h]
theorem val_rep_out {z : Int} {fs : List OpD} {xs ys : List Int} {at_ : Int} (h : ¬ (0 ≤ at_ ∧ at_ < (xs.length : Int))) : valReplaceAt z fs xs at_ ys = ([], false) := by
  unfold valReplaceAt
  rw [decide_eq_false h]; simp
theorem val_rep_in {z : Int} {fs : List OpD} {xs ys : List Int} {k : Nat} (h : (algOkB z fs && (termB fs xs && termB fs ys)) = true) (hk : k < xs.length) : valReplaceAt z fs xs (k : Int) ys = if (repA fs xs k ys).length ≤ 60 then (repA fs xs k ys, true) else ([], false) := by
  unfold valReplaceAt
  rw [h, decide_eq_true (by omega : 0 ≤ (k : Int) ∧ (k : Int) < (xs.length : Int))]
  simp
theorem rep_len {fs : List OpD} {xs ys : List Int} {k e : Nat} (he : endA fs xs k = some e) : (repA fs xs k ys).length = k + ys.length + (xs.length - e) := by
  obtain ⟨h1, h2⟩ := endA_gt he
  unfold repA
  rw [he, List.length_append, List.length_append, List.length_take, List.length_drop]
  simp only [Option.getD_some]
  omega

/-- slices.Concat of a beginning, a list and an end. -/
theorem concat3 (B b o k d b3 o3 m2 d2 p r q e m : Nat) (xs ys : List Int) (W : World) (hl : xs.length = m) (hke : k ≤ m) (hem : e ≤ m) (hly : ys.length = m2)
    (hx : ∀ (j : Nat) (x : Int), xs[j]? = some x → W.cell? ⟨b, o + j, none⟩ = some (.int .i64 x)) (hy : ∀ (j : Nat) (x : Int), ys[j]? = some x → W.cell? ⟨b3, o3 + j, none⟩ = some (.int .i64 x))
    (hr : r = m - e) (hp : r = 0 ∨ p = o + e) (hS0 : 1 ≤ k + m2 + (m - e)) (hS1 : k + m2 + (m - e) ≤ 180)
    (q0 : W.cell? ⟨B, 0, none⟩ = some (.slice (some ⟨b, o, none⟩) k d)) (q1 : W.cell? ⟨B, 1, none⟩ = some (.slice (some ⟨b3, o3, none⟩) m2 d2)) (q2 : W.cell? ⟨B, 2, none⟩ = some (.slice (some ⟨b, p, none⟩) r q)) :
    Calls Try.prog 104 #[.slice (some ⟨B, 0, none⟩) 3 3] W
      fun ε w' => ∃ g D, ε = .returned (.slice (some ⟨g, 0, none⟩) (k + m2 + (m - e)) D) ∧ w'.ownsRow W.heap.size 3 1 (.slice (some ⟨g, 0, none⟩) (k + m2 + (m - e)) D) (k + m2 + (m - e)) ((xs.take k ++ ys ++ xs.drop e).map (Value.int .i64)) ∧ Below W.heap.size W w' := by
  have h := concat_any B 3 3 (k + m2 + (m - e)) [xs.take k, ys, xs.drop e] W (fun j zs hj => by
    match j, hj with
    | 0, hj =>
      simp at hj; subst hj
      refine ⟨b, o, k, d, q0, by rw [List.length_take]; omega, fun i x hi => ?_⟩
      rw [List.getElem?_take] at hi
      split at hi
      · exact hx i x hi
      · cases hi
    | 1, hj =>
      simp at hj; subst hj
      exact ⟨b3, o3, m2, d2, q1, hly, fun i x hi => hy i x hi⟩
    | 2, hj =>
      simp at hj; subst hj
      refine ⟨b, p, r, q, q2, by rw [List.length_drop]; omega, fun i x hi => ?_⟩
      rw [List.getElem?_drop] at hi
      rcases hp with h0 | rfl
      · have := (List.getElem?_eq_some_iff.1 hi).1; omega
      · rw [Nat.add_assoc]; exact hx (e + i) x hi) rfl (by omega) (by simp [List.length_take, List.length_drop]; omega) hS0 hS1
  refine h.mono fun ε w' ⟨g, D, h1, h2, h3⟩ => ⟨g, D, h1, ?_, h3⟩
  simpa using h2


theorem OwnsInts.lo_mono {w : World} {lo lo' hi n c : Nat} {ao : Option Addr} {xs : List Int} (h : OwnsInts w lo hi ao n c xs) (hh : lo' ≤ lo) : OwnsInts w lo' hi ao n c xs := ⟨ownsRow_base h.row hh, h.lt⟩

/-- A term with another one at a place, if that is not too long. -/
def repV (fs : List OpD) (xs : List Int) (k : Nat) (ys : List Int) : List Int × Bool := if (repA fs xs k ys).length ≤ 60 then (repA fs xs k ys, true) else ([], false)

set_option maxRecDepth 100000 in
set_option maxHeartbeats 1000000 in
theorem replaced_any (lo hi : Nat) (z : Int) (ao : Option Addr) (c n : Nat) (fs : List OpD) (lo2 hi2 : Nat) (bo : Option Addr) (d m : Nat) (xs : List Int) (k : Nat) (lo3 hi3 : Nat) (co : Option Addr) (d2 m2 : Nat) (ys : List Int) (w : World) (hv : OView w lo hi ao n fs) (hhi : hi ≤ w.heap.size) (hok : algOkB z fs = true)
    (hx : IView w lo2 hi2 bo m xs) (hhi2 : hi2 ≤ w.heap.size) (hmd : m ≤ d) (hm : d ≤ maxLen) (hq : ∀ x, x ∈ xs → (Lit.int .i64 x).wf = true) (h60 : xs.length ≤ 60) (hend : endA fs xs 0 = some xs.length) (hk : k < xs.length)
    (hy : IView w lo3 hi3 co m2 ys) (hhi3 : hi3 ≤ w.heap.size) (h602' : m2 ≤ 60) (hy0 : 0 < m2) :
    Calls Try.prog 76 #[.agg #[.int .i64 z, .slice ao n c], .slice bo m d, .int .i64 (k : Int), .slice co m2 d2] w fun e w' => ResL w w' (repV fs xs k ys).1 (repV fs xs k ys).2 e := by
  have HB := Lib.hid (below_alloc w (.cells #[.int .i64 z, .slice ao n c] 30))
  have hl := hx.1
  have hly := hy.1
  obtain ⟨e, he, he1, he2⟩ := term_sub hok hend hk
  unfold ResL repV
  rw [rep_len he, hl, hly]
  have hrep : repA fs xs k ys = xs.take k ++ ys ++ xs.drop e := by unfold repA; rw [he]; rfl
  rw [hrep]
  have hsub : (subA fs xs k).length = e - k := by unfold subA; rw [he, List.length_drop, List.length_take]; simp; omega
  have HSub := Lib.hid hsub
  have HV := Lib.hid hv
  have HX := Lib.hid hx
  have HY := Lib.hid hy
  have HQ := Lib.hid hq
  have HOk := Lib.hid hok
  have HEn := Lib.hid he
  have HL := Lib.hid hl
  have HLy := Lib.hid hly
  have hkm : (k : Int) < (m : Int) := by omega
  have h60' : m ≤ 60 := by omega
  have hem : e ≤ m := by omega
  have hed : (e : Int) ≤ (d : Int) := by omega
  have hkd : (k : Int) ≤ (d : Int) := by omega
  have hmd' := hmd
  have hm' := hm
  unfold maxLen at hm'
  clear hv hx hq hy hok hend he hl hly hrep hsub h60 he2 hk
  obtain ⟨b, o, rfl, _, _, hcx⟩ := HX.out.at_ (by omega)
  obtain ⟨b3, o3, rfl, _, _, hcy⟩ := HY.out.at_ hy0
  have HCx := Lib.hid hcx
  have HCy := Lib.hid hcy
  clear hcx hcy
  by_cases hbig : k + m2 + (m - e) ≤ 60
  · rw [if_pos hbig]
    have hgt : ¬ (60 : Int) < (m : Int) - ((e : Int) - (k : Int)) + (m2 : Int) := by omega
    by_cases hde : e = d
    · obtain rfl : m = e := by omega
      subst hde
      go_enter Try.func76, Try.ntmps76
      go_wp2_with fail
      have hcall := subIn_any lo hi lo2 hi2 z ao (some ⟨b, o, none⟩) c n m m fs xs k _ (w.alloc (.cells #[.int .i64 z, .slice ao n c] 30)) (HV.out.kept (Kept.of_below HB.out hhi)) (Nat.le_trans hhi HB.out.size) HOk.out (HX.out.kept (Kept.of_below HB.out hhi2)) (Nat.le_trans hhi2 HB.out.size) h60' hmd hm HQ.out HEn.out
      have HC2 := Lib.hid hcall
      clear hcall
      refine HC2.out.mono ?_
      rintro ε w2 ⟨a2, mm, c2, rfl, hmm, hmm0, hmc2, hcm2, hv2, b2⟩
      have HB2 := Lib.hid (HB.out.trans (b2.mono HB.out.size))
      rw [HSub.out] at hmm
      have hke2 : (k : Int) + (mm : Int) = (m : Int) := by omega
      have HCon := Lib.hid (fun (W : World) (hW : Below w2.heap.size w2 W) (q0_ : W.cell? ⟨w2.heap.size, 0, none⟩ = some (.slice (some ⟨b, o, none⟩) k m)) (q1_ : W.cell? ⟨w2.heap.size, 1, none⟩ = some (.slice (some ⟨b3, o3, none⟩) m2 d2)) (q2_ : W.cell? ⟨w2.heap.size, 2, none⟩ = some (.slice (some ⟨b, o, none⟩) 0 0)) => concat3 w2.heap.size b o k m b3 o3 m2 d2 o 0 0 m m xs ys W HL.out (by omega) (by omega) HLy.out (fun j x hj => cell_b hW (cell_b HB2.out (HCx.out j x hj))) (fun j x hj => cell_b hW (cell_b HB2.out (HCy.out j x hj))) (by omega) (.inl rfl) (by omega) (by omega) q0_ q1_ q2_ |>.mono (R' := fun ε w' => ∃ g D, ε = .returned (.slice (some ⟨g, 0, none⟩) (k + m2 + (m - m)) D) ∧ w'.ownsRow w2.heap.size 3 1 (.slice (some ⟨g, 0, none⟩) (k + m2 + (m - m)) D) (k + m2 + (m - m)) ((xs.take k ++ ys ++ xs.drop m).map (Value.int .i64)) ∧ Below w2.heap.size w2 w') fun ε w' ⟨g, D, h1_, h2_, h3_⟩ => ⟨g, D, h1_, ownsRow_base h2_ hW.size, hW.trans (h3_.mono hW.size)⟩)
      have yB : Below w2.heap.size w2 w2.drew := below_drew _
      clear b2 hv2 hmm
      go_wp2_with fail
      go_region_held3 (fun W => Below w2.heap.size w2 W) (first | assumption | (repeat (first | assumption | exact Below.refl _ _ | apply keep_drew | apply keep_alloc))) ((go_at_call 104; refine (HCon.out _ ?_ ?_ ?_ ?_).mono ?_; (focus ((repeat (first | assumption | exact Below.refl _ _ | apply keep_drew | apply keep_alloc)); done)); (focus ((simp; done))); (focus ((simp; done))); (focus ((simp; done))); rintro ε w3 ⟨g3, D3, rfl, ho3, hS⟩; have HO3_ := Lib.hid ho3; clear ho3))
      all_goals
        have HB3 := Lib.hid (HB2.out.trans (hS.mono HB2.out.size))
        go_wp2_with fail
        go_ret2
        have h_ := HO3_.out
        try rw [show k + m2 + (m - m) = k + m2 by omega] at h_
        exact ⟨some ⟨g3, 0, none⟩, _, D3, rfl, by (rw [List.length_append, List.length_append, List.length_take, List.length_drop, HL.out, HLy.out]) <;> omega, OwnsInts.of_row (ownsRow_base h_ HB2.out.size), HB3.out⟩
    · have hde' : ¬ d = e := fun h => hde h.symm
      go_enter Try.func76, Try.ntmps76
      go_wp2_with fail
      have hcall := subIn_any lo hi lo2 hi2 z ao (some ⟨b, o, none⟩) c n d m fs xs k _ (w.alloc (.cells #[.int .i64 z, .slice ao n c] 30)) (HV.out.kept (Kept.of_below HB.out hhi)) (Nat.le_trans hhi HB.out.size) HOk.out (HX.out.kept (Kept.of_below HB.out hhi2)) (Nat.le_trans hhi2 HB.out.size) h60' hmd hm HQ.out HEn.out
      have HC2 := Lib.hid hcall
      clear hcall
      refine HC2.out.mono ?_
      rintro ε w2 ⟨a2, mm, c2, rfl, hmm, hmm0, hmc2, hcm2, hv2, b2⟩
      have HB2 := Lib.hid (HB.out.trans (b2.mono HB.out.size))
      rw [HSub.out] at hmm
      have hke2 : (k : Int) + (mm : Int) = (e : Int) := by omega
      have HCon := Lib.hid (fun (W : World) (hW : Below w2.heap.size w2 W) (q0_ : W.cell? ⟨w2.heap.size, 0, none⟩ = some (.slice (some ⟨b, o, none⟩) k d)) (q1_ : W.cell? ⟨w2.heap.size, 1, none⟩ = some (.slice (some ⟨b3, o3, none⟩) m2 d2)) (q2_ : W.cell? ⟨w2.heap.size, 2, none⟩ = some (.slice (some ⟨b, o + e, none⟩) (m - e) (d - e))) => concat3 w2.heap.size b o k d b3 o3 m2 d2 (o + e) (m - e) (d - e) e m xs ys W HL.out (by omega) (by omega) HLy.out (fun j x hj => cell_b hW (cell_b HB2.out (HCx.out j x hj))) (fun j x hj => cell_b hW (cell_b HB2.out (HCy.out j x hj))) (by omega) (.inr rfl) (by omega) (by omega) q0_ q1_ q2_ |>.mono (R' := fun ε w' => ∃ g D, ε = .returned (.slice (some ⟨g, 0, none⟩) (k + m2 + (m - e)) D) ∧ w'.ownsRow w2.heap.size 3 1 (.slice (some ⟨g, 0, none⟩) (k + m2 + (m - e)) D) (k + m2 + (m - e)) ((xs.take k ++ ys ++ xs.drop e).map (Value.int .i64)) ∧ Below w2.heap.size w2 w') fun ε w' ⟨g, D, h1_, h2_, h3_⟩ => ⟨g, D, h1_, ownsRow_base h2_ hW.size, hW.trans (h3_.mono hW.size)⟩)
      have yB : Below w2.heap.size w2 w2.drew := below_drew _
      clear b2 hv2 hmm
      go_wp2_with fail
      go_region_held3 (fun W => Below w2.heap.size w2 W) (first | assumption | (repeat (first | assumption | exact Below.refl _ _ | apply keep_drew | apply keep_alloc))) ((go_at_call 104; refine (HCon.out _ ?_ ?_ ?_ ?_).mono ?_; (focus ((repeat (first | assumption | exact Below.refl _ _ | apply keep_drew | apply keep_alloc)); done)); (focus ((simp; done))); (focus ((simp; done))); (focus ((simp; done))); rintro ε w3 ⟨g3, D3, rfl, ho3, hS⟩; have HO3_ := Lib.hid ho3; clear ho3))
      all_goals
        have HB3 := Lib.hid (HB2.out.trans (hS.mono HB2.out.size))
        go_wp2_with fail
        go_ret2
        have h_ := HO3_.out
        try rw [show k + m2 + (m - m) = k + m2 by omega] at h_
        exact ⟨some ⟨g3, 0, none⟩, _, D3, rfl, by (rw [List.length_append, List.length_append, List.length_take, List.length_drop, HL.out, HLy.out]) <;> omega, OwnsInts.of_row (ownsRow_base h_ HB2.out.size), HB3.out⟩
  · rw [if_neg hbig]
    have hgt : (60 : Int) < (m : Int) - ((e : Int) - (k : Int)) + (m2 : Int) := by omega
    go_enter Try.func76, Try.ntmps76
    go_wp2_with fail
    have hcall := subIn_any lo hi lo2 hi2 z ao (some ⟨b, o, none⟩) c n d m fs xs k _ (w.alloc (.cells #[.int .i64 z, .slice ao n c] 30)) (HV.out.kept (Kept.of_below HB.out hhi)) (Nat.le_trans hhi HB.out.size) HOk.out (HX.out.kept (Kept.of_below HB.out hhi2)) (Nat.le_trans hhi2 HB.out.size) h60' hmd hm HQ.out HEn.out
    have HC2 := Lib.hid hcall
    clear hcall
    refine HC2.out.mono ?_
    rintro ε w2 ⟨a2, mm, c2, rfl, hmm, hmm0, hmc2, hcm2, hv2, b2⟩
    have HB2 := Lib.hid (HB.out.trans (b2.mono HB.out.size))
    rw [HSub.out] at hmm
    have hke2 : (k : Int) + (mm : Int) = (e : Int) := by omega
    clear b2 hv2 hmm
    go_wp2_with fail
    go_ret2
    exact ⟨none, 0, 0, rfl, rfl, ⟨World.ownsRow_nil _ _ _ _, fun k h => by simp [Value.ownBlock] at h⟩, HB2.out⟩

end Go.Proofs.Ytplheohkecooeaa
