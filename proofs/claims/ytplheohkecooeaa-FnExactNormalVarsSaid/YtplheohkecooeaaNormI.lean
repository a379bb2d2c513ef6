/-
  Contract: impl.NormalVars. Conditions: the bounds that it names.
-/
import Derived.Test.YtplheohkecooeaaNormS
import Derived.Test.YtplheohkecooeaaShelf
namespace Go.Proofs.Ytplheohkecooeaa
open Go.RowKit
set_option linter.unusedVariables false
set_option linter.unusedSimpArgs false

theorem idxBy_eq (x : Int) : ∀ (l : List Int) (i : Nat), Lib.idxByFrom (fun x y : Int => x == y) x l i = if x ∈ l then ((i + ixO l x : Nat) : Int) else -1
  | [], i => by simp [Lib.idxByFrom]
  | y :: r, i => by
    rw [Lib.idxByFrom, ixO]
    by_cases h : x = y
    · simp [h]
    · have h2 : (x == y) = false := by rw [beq_eq_false_iff_ne]; exact h
      have h3 : ¬ y = x := fun e => h e.symm
      rw [h2, idxBy_eq x r (i + 1)]
      by_cases hm : x ∈ r
      · have hm2 : x ∈ y :: r := List.mem_cons_of_mem _ hm
        simp only [Bool.false_eq_true, if_false, if_pos hm, if_pos hm2, if_neg h3]
        omega
      · have hm2 : x ∉ y :: r := by rw [List.mem_cons]; rintro (e | e); exact h e; exact hm e
        simp only [Bool.false_eq_true, if_false, if_neg hm, if_neg hm2]
theorem index_any (B t vc : Nat) (va : Option Addr) (l : List Int) (x : Int) (W : World) (h : W.ownsRow B 3 1 (.slice va t vc) t (l.map (Value.int .i64))) (ht : t ≤ 1048576) :
    Calls Try.prog 92 #[.slice va t vc, .int .i64 x] W fun e w' => e = .returned (.int .i64 (if x ∈ l then (ixO l x : Int) else -1)) ∧ w' = W := by
  have hl : l.length = t := by have := h.1; simpa using this
  rcases h.2 with ⟨h1, h2⟩ | ⟨g, cap, cur, h1, _⟩
  · subst h2
    have : l = [] := List.eq_nil_of_length_eq_zero hl
    subst this
    refine (Try.slices_Index_empty (α := Int) va vc (.int .i64 x) W).mono fun e w' ⟨he, hw⟩ => ⟨by rw [he]; simp, hw⟩
  · injection h1 with h3 h4 h5
    subst h3 h5
    refine (Try.slices_Index (Value.int .i64) (fun x y => x == y) (EqlAt.int Try.prog 3 .i64) g 0 t vc l x W (by omega) (by omega) (fun j hj => by
      have hj' : j < l.length := hj
      rw [Nat.zero_add, own_at h (List.getElem?_eq_getElem hj'), getElem!_pos l j hj'])).mono fun e w' ⟨he, hw⟩ => ⟨?_, hw⟩
    rw [he, List.take_of_length_le (by omega), Lib.idxBy, idxBy_eq]
    simp

/-- The list being renamed: what is written, and what is left. -/
def renL (xs : List Int) (k : Nat) : List Int := (normS (xs.take k)).2 ++ xs.drop k
theorem renL_len (xs : List Int) (k : Nat) (hk : k ≤ xs.length) : (renL xs k).length = xs.length := by
  unfold renL
  rw [List.length_append, (normS_len _).1, List.length_take, List.length_drop]; omega
theorem renL_op {xs : List Int} {k : Nat} {x : Int} (hx : xs[k]? = some x) (h : x < 0) : renL xs (k + 1) = renL xs k := by
  unfold renL
  rw [norm_op hx h, drop_get hx]; simp
theorem set_mid {α : Type} (a b : List α) (x y : α) : (a ++ x :: b).set a.length y = a ++ y :: b := by
  induction a with
  | nil => rfl
  | cons u a ih => simp [ih]
theorem renL_set {xs : List Int} {k : Nat} {x y : Int} (hx : xs[k]? = some x) (h : (normS (xs.take (k + 1))).2 = (normS (xs.take k)).2 ++ [y]) : renL xs (k + 1) = (renL xs k).set k y := by
  have hk := (List.getElem?_eq_some_iff.1 hx).1
  have hl : (normS (xs.take k)).2.length = k := by rw [(normS_len _).1, List.length_take]; omega
  unfold renL
  rw [h, drop_get hx]
  have := set_mid (normS (xs.take k)).2 (xs.drop (k + 1)) x y
  rw [hl] at this
  rw [this]; simp

set_option maxRecDepth 100000 in
set_option maxHeartbeats 2000000 in
theorem implNormalVars (lo hi : Nat) (z : Int) (ao : Option Addr) (c n : Nat) (fs : List OpD) (lo2 hi2 : Nat) (bo : Option Addr) (d m : Nat) (xs : List Int) (w : World) (hv : OView w lo hi ao n fs) (hhi : hi ≤ w.heap.size) (hs : ∀ (j : Nat) (f : OpD), fs[j]? = some f → f.2.length ≤ maxLen)
    (hx : IView w lo2 hi2 bo m xs) (hhi2 : hi2 ≤ w.heap.size) (hmd : m ≤ d) (hm : d ≤ maxLen) (hq : ∀ x, x ∈ xs → (Lit.int .i64 x).wf = true) :
    Calls Try.prog 47 #[.agg #[.int .i64 z, .slice ao n c], .slice bo m d] w fun e w' => ResL w w' (valNormalVars z fs xs).1 (valNormalVars z fs xs).2 e := by
  have hB0 := below_alloc w (.cells #[.int .i64 z, .slice ao n c] 30)
  have hB := below_then hB0 (below_alloc _ (.cells #[.slice bo m d] 25))
  have HB := Lib.hid hB
  have hcall := areT_one lo hi lo2 hi2 z ao bo c n d m fs xs w _ hB hv hhi hs hx hhi2 hmd hm hq (w.heap.size + 1) (by simp) (by simp) 1
  obtain ⟨r, hr⟩ : ∃ r, isTermB z fs xs = r := ⟨_, rfl⟩
  rw [hr] at hcall
  have HC := Lib.hid hcall
  obtain ⟨i0, hi0, hz0, hz1, hz2⟩ := info_parts Try.infoInt
  unfold ResL
  cases r with
  | false =>
    rw [val_norm_no hr]
    clear hB0 hB hv hs hx hq hcall hr
    go_enter Try.func47, Try.ntmps47
    go_wp2_with fail
    refine HC.out.mono ?_
    rintro e w1 ⟨rfl, b1⟩
    have HB1 := Lib.hid (HB.out.trans (b1.mono HB.out.size))
    clear b1
    go_wp2_with fail
    go_ret2
    exact ⟨none, 0, 0, rfl, rfl, ⟨World.ownsRow_nil _ _ _ _, fun k h => by simp [Value.ownBlock] at h⟩, HB1.out⟩
  | true =>
    obtain ⟨hok, h60, hend⟩ := isTermB_of hr
    rw [val_norm_yes hr]
    have hm0 : 0 < m := by have := term_pos hend; have := hx.1; omega
    have hm60 : m ≤ 60 := by have := hx.1; omega
    have HX := Lib.hid hx
    have HLn := Lib.hid (normS_len xs)
    have HRl := Lib.hid (renL_len xs)
    have HCl := Lib.hid (fun (w1 : World) (hB1 : Below w.heap.size w w1) => clone_ints lo2 hi2 bo m d xs w1 (hx.kept (Kept.of_below hB1 hhi2)) hm0 (by omega))
    clear hB0 hB hv hs hx hq hcall hr hok hend h60
    go_enter Try.func47, Try.ntmps47
    go_wp2_with fail
    refine HC.out.mono ?_
    rintro e w1 ⟨rfl, b1⟩
    have HB1 := Lib.hid (HB.out.trans (b1.mono HB.out.size))
    clear b1
    go_wp2_with fail
    refine (HCl.out _ HB1.out).mono ?_
    rintro e w2 ⟨g0, d0, rfl, ho2, b2⟩
    have HB2 := Lib.hid (HB1.out.trans (b2.mono HB1.out.size))
    have ho3 := ownsRow_base ho2 HB1.out.size
    have hg0 := own_lt ho3
    have HR0 : Hid (w2.ownsRow w.heap.size 3 1 (.slice (some ⟨g0, 0, none⟩) m d0) m ((renL xs 0).map (Value.int .i64))) := ho3
    clear b2 ho2 ho3
    go_wp2_with fail
    go_loopw [7, 8, 9, 10, 20] (fun mt _ _ _ i wr => ∃ (k t vc : Nat) (va : Option Addr), k ≤ m ∧ i = .int .i64 (k : Int) ∧ mt = .slice va t vc ∧ t ≤ k ∧ Hid (wr.ownsRow w2.heap.size 3 1 (.slice va t vc) t ((normS (xs.take k)).1.map (Value.int .i64))) ∧ Hid (wr.ownsRow w.heap.size 3 1 (.slice (some ⟨g0, 0, none⟩) m d0) m ((renL xs k).map (Value.int .i64))) ∧ Hid (Below w.heap.size w wr) ∧ w2.heap.size ≤ wr.heap.size) (fun _ _ _ _ i _ => m - (intOf i).toNat)
    case atStart => exact ⟨0, 0, 0, none, Nat.zero_le _, rfl, rfl, Nat.le_refl _, World.ownsRow_nil _ _ _ _, HR0, HB2, Nat.le_refl _⟩
    case round =>
      obtain ⟨k, t, vc, va, hk, rfl, rfl, htk, HR1, HR2, HBr, hsr⟩ := hrel
      by_cases hlt : k < m
      · obtain ⟨b, o, rfl, _, _, hc⟩ := HX.out.at_ (by omega)
        obtain ⟨x, hx⟩ := get_of_lt HX.out.1 hlt
        have cx : wr.cell? ⟨b, o + k, none⟩ = some (.int .i64 x) := cell_b HBr.out (hc k x hx)
        have HXk := Lib.hid hx
        have hkm : (k : Int) < (m : Int) := by omega
        have HLx : Hid (k < (renL xs k).length) := by unfold Hid; rw [HRl.out k (by have := HX.out.1; omega), HX.out.1]; exact hlt
        clear hc hx
        by_cases h0 : x < 0
        · have HN1 : Hid (wr.ownsRow w2.heap.size 3 1 (.slice va t vc) t ((normS (xs.take (k + 1))).1.map (Value.int .i64))) := by
            unfold Hid; rw [norm_op HXk.out h0]; exact HR1.out
          have HN2 : Hid (wr.ownsRow w.heap.size 3 1 (.slice (some ⟨g0, 0, none⟩) m d0) m ((renL xs (k + 1)).map (Value.int .i64))) := by
            unfold Hid; rw [renL_op HXk.out h0]; exact HR2.out
          go_wp2_with fail
          go_roundw
          case rel => exact ⟨k + 1, t, vc, va, by omega, by go_num, rfl, by omega, HN1, HN2, HBr, hsr⟩
          case measure => simp [intOf]; omega
        · have hcall := index_any w2.heap.size t vc va (normS (xs.take k)).1 x wr HR1.out (by omega)
          have hl1 : (normS (xs.take k)).1.length = t := by have := HR1.out.1; simpa using this
          by_cases hin : x ∈ (normS (xs.take k)).1
          · rw [if_pos hin] at hcall
            obtain ⟨q, hq⟩ : ∃ q, ixO (normS (xs.take k)).1 x = q := ⟨_, rfl⟩
            rw [hq] at hcall
            have HC2 := Lib.hid hcall
            have HNn : Hid (normS (xs.take (k + 1)) = ((normS (xs.take k)).1, (normS (xs.take k)).2 ++ [(q : Int)])) := by
              unfold Hid; rw [normS_succ HXk.out, normStep, if_neg h0, if_pos hin, ixO_eq, hq]
            have hst := HR2.out.stored k (.int .i64 (q : Int))
            have hfr := HR2.out.frozenAt k
            obtain ⟨u, hu⟩ : ∃ u, wr.cell? ⟨g0, k, none⟩ = some u := ⟨_, own_at HR2.out (List.getElem?_eq_getElem HLx.out)⟩
            have HN1 : Hid ((wr.setCell ⟨g0, k, none⟩ (.int .i64 (q : Int))).ownsRow w2.heap.size 3 1 (.slice va t vc) t ((normS (xs.take (k + 1))).1.map (Value.int .i64))) := by
              unfold Hid; rw [HNn.out]
              exact HR1.out.kept hst.2 (.inr fun e => by have := (HR1.out.lt g0 e).1; omega)
            have HN2 : Hid ((wr.setCell ⟨g0, k, none⟩ (.int .i64 (q : Int))).ownsRow w.heap.size 3 1 (.slice (some ⟨g0, 0, none⟩) m d0) m ((renL xs (k + 1)).map (Value.int .i64))) := by
              unfold Hid; rw [renL_set HXk.out (by rw [HNn.out]), List.map_set]; exact hst.1
            have HB3 := Lib.hid (HBr.out.setCell (p := ⟨g0, k, none⟩) hg0.1 (.int .i64 (q : Int)))
            have hs3 : w2.heap.size ≤ (wr.setCell ⟨g0, k, none⟩ (.int .i64 (q : Int))).heap.size := by simp; exact hsr
            clear hcall hq hl1 hst
            go_wp2_with fail
            refine HC2.out.mono ?_
            rintro e w3 ⟨rfl, rfl⟩
            go_wp2_with fail
            go_roundw
            case rel => exact ⟨k + 1, t, vc, va, by omega, by go_num, rfl, by omega, HN1, HN2, HB3, hs3⟩
            case measure => simp [intOf]; omega
          · rw [if_neg hin] at hcall
            have HC2 := Lib.hid hcall
            have hix : ixO (normS (xs.take k)).1 x = t := by
              rw [← hl1]
              refine (ixO_new fun (j : Nat) (y : Int) hy => ?_).1
              rintro rfl
              exact hin (List.mem_of_getElem? hy)
            have HNn : Hid (normS (xs.take (k + 1)) = ((normS (xs.take k)).1 ++ [x], (normS (xs.take k)).2 ++ [(t : Int)])) := by
              unfold Hid; rw [normS_succ HXk.out, normStep, if_neg h0, if_neg hin, ixO_eq, hix]
            have hapart : (Value.slice (some ⟨g0, 0, none⟩) m d0).ownBlock = none ∨ (Value.slice (some ⟨g0, 0, none⟩) m d0).ownBlock ≠ (Value.slice va t vc).ownBlock := .inr fun e => by have := (HR1.out.lt g0 e.symm).1; omega
            have HAp := Lib.hid hapart
            clear hcall hix hl1 hapart
            go_wp2_with fail
            refine HC2.out.mono ?_
            rintro e w3 ⟨rfl, rfl⟩
            go_wp2_with (at_builtin; refine wpList_append_own_at _ rfl _ _ 25 rfl w2.heap.size 3 i0 (.int .i64 0) 1 8 Try.underlying25 hi0 hz0 hz1 hz2 rfl (by decide) (.slice va t vc) t ((normS (xs.take k)).1.map (Value.int .i64)) rfl (HR1.out.alloc _) ⟨w3.heap.size, 0, none⟩ 1 1 [.int .i64 x] rfl rfl (cell_one_new _ _ _) (fun x hx => by simp at hx; subst hx; rfl) (by unfold maxLen; omega) (by omega) (by simp; omega) ?_; intro v' w4 hown' hgrow' hnil' hat'; obtain ⟨g, cap, rfl⟩ := ownsRow_succ hown'; have HE1 := Lib.hid (norm_row1 HNn.out hown'); have HE2 := Lib.hid ((HR2.out.alloc _).kept hgrow' HAp.out); have HBg := Lib.hid ((HBr.out.alloc HBr.out.size (.cells #[.int .i64 x] 3)).grown hgrow' (by have := HBr.out.size; simp; omega) (fun q hq => Nat.le_trans HB2.out.size (HR1.out.lt q hq).1)); have hsg : w2.heap.size ≤ w4.heap.size := (by have := hgrow'.size; simp at this; omega); have hfr := HE2.out.frozenAt k; have hu := own_at HE2.out (List.getElem?_eq_getElem HLx.out); clear hown' hgrow' hnil' hat')
            have hst := HE2.out.stored k (.int .i64 (t : Int))
            have HN1 : Hid ((w4.setCell ⟨g0, k, none⟩ (.int .i64 (t : Int))).ownsRow w2.heap.size 3 1 (.slice (some ⟨g, 0, none⟩) (t + 1) cap) (t + 1) ((normS (xs.take (k + 1))).1.map (Value.int .i64))) :=
              HE1.out.kept hst.2 (.inr fun e => by have := (HE1.out.lt g0 e).1; omega)
            have HN2 : Hid ((w4.setCell ⟨g0, k, none⟩ (.int .i64 (t : Int))).ownsRow w.heap.size 3 1 (.slice (some ⟨g0, 0, none⟩) m d0) m ((renL xs (k + 1)).map (Value.int .i64))) := by
              unfold Hid; rw [renL_set HXk.out (by rw [HNn.out]), List.map_set]; exact hst.1
            have HB3 := Lib.hid (HBg.out.setCell (p := ⟨g0, k, none⟩) hg0.1 (.int .i64 (t : Int)))
            have hs3 : w2.heap.size ≤ (w4.setCell ⟨g0, k, none⟩ (.int .i64 (t : Int))).heap.size := by simp; exact hsg
            clear hst
            go_wp2_with fail
            go_roundw
            case rel => exact ⟨k + 1, t + 1, cap, _, by omega, by go_num, rfl, by omega, HN1, HN2, HB3, hs3⟩
            case measure => simp [intOf]; omega
      · obtain rfl : k = m := by omega
        have hR := HR2.out
        have hrl : renL xs k = (normS xs).2 := by
          unfold renL
          rw [List.take_of_length_le (by have := HX.out.1; omega), List.drop_eq_nil_of_le (by have := HX.out.1; omega), List.append_nil]
        rw [hrl] at hR
        have HRf := Lib.hid hR
        have HKl : Hid (k = (normS xs).2.length) := by unfold Hid; have := HLn.out.1; have := HX.out.1; omega
        clear hR hrl
        go_wp2
        go_ret2
        exact ⟨_, k, d0, rfl, HKl.out, OwnsInts.of_row HRf.out, HBr.out⟩

end Go.Proofs.Ytplheohkecooeaa
