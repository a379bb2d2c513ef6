/-
  Contract: spec.NormalVars. Conditions: the bounds that it names.
-/
import Derived.Test.YtplheohkecooeaaSub
import Derived.Test.YtplheohkecooeaaNormL
import Derived.Test.YtplheohkecooeaaNormT
import Derived.RangeFuncBox
namespace Go.Proofs.Ytplheohkecooeaa
open Go.RowKit
set_option linter.unusedVariables false
set_option linter.unusedSimpArgs false
attribute [local go_sem ↓] Go.wp_at_zero Go.wp_at_succ

theorem val_norm_no {z : Int} {fs : List OpD} {xs : List Int} (h : isTermB z fs xs = false) : valNormalVars z fs xs = ([], false) := by simp [valNormalVars, h]
theorem val_norm_yes {z : Int} {fs : List OpD} {xs : List Int} (h : isTermB z fs xs = true) : valNormalVars z fs xs = ((normS xs).2, true) := by simp [valNormalVars, h]
theorem norm_row1 {w3 : World} {B g t cap : Nat} {x : Int} {L L1 : List Int} {s : List Int × List Int} {q : Int} (hn : s = (L ++ [x], L1 ++ [q])) (h : w3.ownsRow B 3 1 (.slice (some ⟨g, 0, none⟩) (t + 1) cap) (t + 1) (L.map (Value.int .i64) ++ [.int .i64 x])) :
    w3.ownsRow B 3 1 (.slice (some ⟨g, 0, none⟩) (t + 1) cap) (t + 1) (s.1.map (Value.int .i64)) := by
  rw [hn, List.map_append]; exact h
set_option maxRecDepth 100000 in
set_option maxHeartbeats 2000000 in
theorem specNormalVars (lo hi : Nat) (z : Int) (ao : Option Addr) (c n : Nat) (fs : List OpD) (lo2 hi2 : Nat) (bo : Option Addr) (d m : Nat) (xs : List Int) (w : World) (hv : OView w lo hi ao n fs) (hhi : hi ≤ w.heap.size) (hs : ∀ (j : Nat) (f : OpD), fs[j]? = some f → f.2.length ≤ maxLen)
    (hx : IView w lo2 hi2 bo m xs) (hhi2 : hi2 ≤ w.heap.size) (hmd : m ≤ d) (hm : d ≤ maxLen) (hq : ∀ x, x ∈ xs → (Lit.int .i64 x).wf = true) :
    Calls Try.prog 46 #[.agg #[.int .i64 z, .slice ao n c], .slice bo m d] w fun e w' => ResL w w' (valNormalVars z fs xs).1 (valNormalVars z fs xs).2 e := by
  have hB := below_alloc w (.cells #[.int .i64 z, .slice ao n c] 30)
  have HB := Lib.hid hB
  have hcall := l3Takes_any lo hi lo2 hi2 z ao bo c n d m fs xs _ (hv.kept (Kept.of_below hB hhi)) (Nat.le_trans hhi hB.size) hs (hx.kept (Kept.of_below hB hhi2)) (Nat.le_trans hhi2 hB.size) (Nat.le_trans hmd hm)
  obtain ⟨r, hr⟩ : ∃ r, isTermB z fs xs = r := ⟨_, rfl⟩
  rw [hr] at hcall
  have HC := Lib.hid hcall
  obtain ⟨i0, hi0, hz0, hz1, hz2⟩ := info_parts Try.infoInt
  unfold ResL
  cases r with
  | false =>
    rw [val_norm_no hr]
    clear hB hv hs hx hq hcall hr
    go_enter Try.func46, Try.ntmps46
    go_wp2_with fail
    refine HC.out.mono ?_
    rintro e w1 ⟨rfl, b1⟩
    have HB1 := Lib.hid (HB.out.trans (b1.mono HB.out.size))
    clear b1
    go_wp2_with fail
    go_ret2
    exact ⟨_, 0, 0, rfl, rfl, own_nil_res HB1.out, HB1.out.alloc HB1.out.size _⟩
  | true =>
    obtain ⟨hok, h60, hend⟩ := isTermB_of hr
    rw [val_norm_yes hr]
    have HX := Lib.hid hx
    have hm60 : m ≤ 60 := by have := hx.1; omega
    have HLn := Lib.hid (normS_len xs)
    clear hB hv hs hx hq hcall hr hok hend h60
    go_enter Try.func46, Try.ntmps46
    go_wp2_with fail
    refine HC.out.mono ?_
    rintro e' w1 ⟨rfl, b1⟩
    have HB1 := Lib.hid (HB.out.trans (b1.mono HB.out.size))
    have hO1 := own_nil_lit w1 (base := w.heap.size) HB1.out.size
    have hO2 := own_nil_lit (w1.alloc (.cells #[] 3)) (base := w.heap.size) (by have := HB1.out.size; simp; omega)
    rw [World.size_alloc] at hO2
    have HO1 := Lib.hid (hO1.alloc (.cells #[] 3))
    have HO2 := Lib.hid hO2
    have HBa := Lib.hid ((HB1.out.alloc HB1.out.size (.cells #[] 3)).alloc (by have := HB1.out.size; simp; omega) (.cells #[] 3))
    clear b1 hO1 hO2
    go_wp2_with fail
    go_loopw [6, 7, 8, 9] (fun o u i _ wr => ∃ (k g1 t1 d1 g2 d2 : Nat), k ≤ m ∧ i = .int .i64 (k : Int) ∧ o = .slice (some ⟨g1, 0, none⟩) t1 d1 ∧ u = .slice (some ⟨g2, 0, none⟩) k d2 ∧ t1 ≤ k ∧ g1 ≠ g2 ∧ Hid (wr.ownsRow w.heap.size 3 1 (.slice (some ⟨g1, 0, none⟩) t1 d1) t1 ((normS (xs.take k)).1.map (Value.int .i64))) ∧ Hid (wr.ownsRow w.heap.size 3 1 (.slice (some ⟨g2, 0, none⟩) k d2) k ((normS (xs.take k)).2.map (Value.int .i64))) ∧ Hid (Below w.heap.size w wr)) (fun _ _ i _ _ => m - (intOf i).toNat)
    case atStart => exact ⟨0, w1.heap.size, 0, 0, w1.heap.size + 1, 0, Nat.zero_le _, rfl, rfl, rfl, Nat.le_refl _, by omega, HO1, HO2, HBa⟩
    case round =>
      obtain ⟨k, g1, t1, d1, g2, d2, hk, rfl, rfl, rfl, htk, hgg, HR1, HR2, HBr⟩ := hrel
      by_cases hlt : k < m
      · obtain ⟨b, o, rfl, _, _, hc⟩ := HX.out.at_ (by omega)
        obtain ⟨x, hx⟩ := get_of_lt HX.out.1 hlt
        have cx : wr.cell? ⟨b, o + k, none⟩ = some (.int .i64 x) := cell_b HBr.out (hc k x hx)
        have HXk := Lib.hid hx
        have hkm : (k : Int) < (m : Int) := by omega
        clear hc hx
        by_cases h0 : x < 0
        · go_wp2_with (at_builtin; refine wpList_append_own_at _ rfl _ _ 25 rfl w.heap.size 3 i0 (.int .i64 0) 1 8 Try.underlying25 hi0 hz0 hz1 hz2 rfl (by decide) (.slice (some ⟨g2, 0, none⟩) k d2) k ((normS (xs.take k)).2.map (Value.int .i64)) rfl (HR2.out.alloc _) ⟨wr.heap.size, 0, none⟩ 1 1 [.int .i64 x] rfl rfl (cell_one_new _ _ _) (fun x hx => by simp at hx; subst hx; rfl) (by unfold maxLen; omega) (by omega) (by have := HBr.out.size; simp; omega) ?_; intro v' w3 hown' hgrow' hnil' hat')
          obtain ⟨g, cap, rfl⟩ := ownsRow_succ hown'
          have HB3 := Lib.hid ((HBr.out.alloc HBr.out.size (.cells #[.int .i64 x] 3)).grown hgrow' (by have := HBr.out.size; simp; omega) (fun q hq => (HR2.out.lt q hq).1))
          have HN1 : Hid (w3.ownsRow w.heap.size 3 1 (.slice (some ⟨g1, 0, none⟩) t1 d1) t1 ((normS (xs.take (k + 1))).1.map (Value.int .i64))) := by
            unfold Hid; rw [norm_op HXk.out h0]
            exact (HR1.out.alloc _).kept hgrow' (own_apart hgg)
          have HN2 : Hid (w3.ownsRow w.heap.size 3 1 (.slice (some ⟨g, 0, none⟩) (k + 1) cap) (k + 1) ((normS (xs.take (k + 1))).2.map (Value.int .i64))) := by
            unfold Hid; rw [norm_op HXk.out h0, List.map_append]; exact hown'
          have hgg2 : g1 ≠ g := by
            have h1 := (own_lt HR1.out).2
            rcases hat' with h | h
            · have : g = g2 := by simpa [Value.ownBlock] using h
              omega
            · have : g = wr.heap.size + 1 := by simpa [Value.ownBlock] using h
              omega
          clear hown' hgrow' hnil' hat' cx
          go_wp2_with fail
          go_roundw
          case rel => exact ⟨k + 1, g1, t1, d1, g, cap, by omega, by go_num, rfl, rfl, by omega, hgg2, HN1, HN2, HB3⟩
          case measure => simp [intOf]; omega
        · have hx0 : ¬ x < 0 := h0
          have hl1 : (normS (xs.take k)).1.length = t1 := by have := HR1.out.1; simpa using this
          have HL1 := Lib.hid hl1
          clear hl1
          go_wp2_with fail
          go_loopw [9] (fun p wq => ∃ q g : Nat, q ≤ t1 ∧ p = .int .i64 (q : Int) ∧ Hid (∀ j y, j < q → (normS (xs.take k)).1[j]? = some y → y ≠ x) ∧ wq = wr.drewN g) (fun p _ => t1 - (intOf p).toNat)
          case atStart => exact ⟨0, 0, Nat.zero_le _, rfl, fun j y hj => by omega, rfl⟩
          case round =>
            obtain ⟨q, gd, hq, rfl, HA, rfl⟩ := hrel
            by_cases hqt : q < t1
            · obtain ⟨y, hy⟩ := get_of_lt HL1.out hqt
              have cy : wr.cell? ⟨g1, q, none⟩ = some (.int .i64 y) := own_at HR1.out hy
              have HYq := Lib.hid hy
              have hqt' : (q : Int) < (t1 : Int) := by omega
              clear hy
              by_cases hyx : y = x
              · subst hyx
                have hne : (y != y) = false := by simp
                have HNn := Lib.hid (norm_in HXk.out (by omega) HYq.out HA.out)
                have hne2 : ((q : Int) == (t1 : Int)) = false := by rw [beq_eq_false_iff_ne]; omega
                go_wp2
                go_quiet (fail)
                obtain ⟨wd, hwd⟩ : ∃ wd, wd = (wr.drewN gd).drewN nq := ⟨_, rfl⟩
                have hbd : Below wr.heap.size wr wd := by rw [hwd]; exact below_drewN (below_drewN (Below.refl _ _) _) _
                rw [← hwd]
                have HD1 := Lib.hid (HR1.out.kept (grown_of_below hbd none) (own_em _))
                have HD2 := Lib.hid (HR2.out.kept (grown_of_below hbd none) (own_em _))
                have HDB := Lib.hid (HBr.out.trans (hbd.mono HBr.out.size))
                clear hwd hbd cx cy
                go_wp2_with (at_builtin; refine wpList_append_own_at _ rfl _ _ 25 rfl w.heap.size 3 i0 (.int .i64 0) 1 8 Try.underlying25 hi0 hz0 hz1 hz2 rfl (by decide) (.slice (some ⟨g2, 0, none⟩) k d2) k ((normS (xs.take k)).2.map (Value.int .i64)) rfl (HD2.out.alloc _) ⟨wd.heap.size, 0, none⟩ 1 1 [.int .i64 (q : Int)] rfl rfl (cell_one_new _ _ _) (fun x hx => by simp at hx; subst hx; rfl) (by unfold maxLen; omega) (by omega) (by have := HDB.out.size; simp; omega) ?_; intro v' w3 hown' hgrow' hnil' hat')
                obtain ⟨g, cap, rfl⟩ := ownsRow_succ hown'
                have HB3 := Lib.hid ((HDB.out.alloc HDB.out.size (.cells #[.int .i64 (q : Int)] 3)).grown hgrow' (by have := HDB.out.size; simp; omega) (fun q hq => (HD2.out.lt q hq).1))
                have HN1 : Hid (w3.ownsRow w.heap.size 3 1 (.slice (some ⟨g1, 0, none⟩) t1 d1) t1 ((normS (xs.take (k + 1))).1.map (Value.int .i64))) := by
                  unfold Hid; rw [HNn.out]
                  exact (HD1.out.alloc _).kept hgrow' (own_apart hgg)
                have HN2 : Hid (w3.ownsRow w.heap.size 3 1 (.slice (some ⟨g, 0, none⟩) (k + 1) cap) (k + 1) ((normS (xs.take (k + 1))).2.map (Value.int .i64))) := by
                  unfold Hid; rw [HNn.out, List.map_append]; exact hown'
                have hgg2 : g1 ≠ g := by
                  have h1 := (own_lt HD1.out).2
                  rcases hat' with h | h
                  · have : g = g2 := by simpa [Value.ownBlock] using h
                    omega
                  · have : g = wd.heap.size + 1 := by simpa [Value.ownBlock] using h
                    omega
                clear hown' hgrow' hnil' hat'
                go_wp2_with fail
                go_roundw
                case rel => exact ⟨k + 1, g1, t1, d1, g, cap, by omega, by go_num, rfl, rfl, by omega, hgg2, HN1, HN2, HB3⟩
                case measure => simp [intOf]; omega
              · have hne : (y != x) = true := by rw [bne_iff_ne]; exact hyx
                have HA2 : Hid (∀ j u, j < q + 1 → (normS (xs.take k)).1[j]? = some u → u ≠ x) := by
                  intro j u hj hu
                  by_cases hjq : j = q
                  · subst hjq
                    have := HYq.out.symm.trans hu
                    injection this with this
                    subst this; exact hyx
                  · exact HA.out j u (by omega) hu
                go_wp2
                go_quiet (fail)
                go_wp2
                go_roundw
                case rel => exact ⟨q + 1, _, by omega, by go_num, HA2, rfl⟩
                case measure => simp [intOf]; omega
            · obtain rfl : q = t1 := by omega
              have hqt' : ¬ (q : Int) < (q : Int) := by omega
              have HNn := Lib.hid (norm_new HXk.out (by omega) (fun j u hu => HA.out j u (by have := (List.getElem?_eq_some_iff.1 hu).1; have := HL1.out; omega) hu))
              rw [HL1.out] at HNn
              have hne2 : ((q : Int) == (q : Int)) = true := by simp
              go_wp2
              go_quiet (fail)
              obtain ⟨wd, hwd⟩ : ∃ wd, wd = (wr.drewN gd).drewN nq := ⟨_, rfl⟩
              have hbd : Below wr.heap.size wr wd := by rw [hwd]; exact below_drewN (below_drewN (Below.refl _ _) _) _
              rw [← hwd]
              have HD1 := Lib.hid (HR1.out.kept (grown_of_below hbd none) (own_em _))
              have HD2 := Lib.hid (HR2.out.kept (grown_of_below hbd none) (own_em _))
              have HDB := Lib.hid (HBr.out.trans (hbd.mono HBr.out.size))
              have dx : wd.cell? ⟨b, o + k, none⟩ = some (.int .i64 x) := cell_b hbd cx
              clear hwd hbd cx
              have tokA : True := trivial
              go_wp2_with ((first | (have _t := tokA; clear tokA _t; at_builtin; refine wpList_append_own_at _ rfl _ _ 25 rfl w.heap.size 3 i0 (.int .i64 0) 1 8 Try.underlying25 hi0 hz0 hz1 hz2 rfl (by decide) (.slice (some ⟨g1, 0, none⟩) q d1) q ((normS (xs.take k)).1.map (Value.int .i64)) rfl (HD1.out.alloc _) ⟨wd.heap.size, 0, none⟩ 1 1 [.int .i64 x] rfl rfl (cell_one_new _ _ _) (fun x hx => by simp at hx; subst hx; rfl) (by unfold maxLen; omega) (by omega) (by have := HDB.out.size; simp; omega) ?_; intro v' w3 hown' hgrow' hnil' hat'; obtain ⟨g, cap, rfl⟩ := ownsRow_succ hown'; have HB3 := Lib.hid ((HDB.out.alloc HDB.out.size (.cells #[.int .i64 x] 3)).grown hgrow' (by have := HDB.out.size; simp; omega) (fun q hq => (HD1.out.lt q hq).1)); have HE1 := Lib.hid (norm_row1 HNn.out hown'); have HE2 := Lib.hid ((HD2.out.alloc _).kept hgrow' (own_apart (Ne.symm hgg))); have hgg2 := apart_new (own_lt HD2.out).2 (Ne.symm hgg) hat'; clear hown' hgrow' hnil' hat' dx) | (have _t := HE2; clear _t; at_builtin; refine wpList_append_own_at _ rfl _ _ 25 rfl w.heap.size 3 i0 (.int .i64 0) 1 8 Try.underlying25 hi0 hz0 hz1 hz2 rfl (by decide) (.slice (some ⟨g2, 0, none⟩) k d2) k ((normS (xs.take k)).2.map (Value.int .i64)) rfl (HE2.out.alloc _) ⟨w3.heap.size, 0, none⟩ 1 1 [.int .i64 (q : Int)] rfl rfl (cell_one_new _ _ _) (fun x hx => by simp at hx; subst hx; rfl) (by unfold maxLen; omega) (by omega) (by have := HB3.out.size; simp; omega) ?_; intro v' w4 hown' hgrow' hnil' hat')))
              obtain ⟨gb, capb, rfl⟩ := ownsRow_succ hown'
              have HB4 := Lib.hid ((HB3.out.alloc HB3.out.size (.cells #[.int .i64 (q : Int)] 3)).grown hgrow' (by have := HB3.out.size; simp; omega) (fun q hq => (HE2.out.lt q hq).1))
              have HN1 : Hid (w4.ownsRow w.heap.size 3 1 (.slice (some ⟨g, 0, none⟩) (q + 1) cap) (q + 1) ((normS (xs.take (k + 1))).1.map (Value.int .i64))) := (HE1.out.alloc _).kept hgrow' (own_apart (Ne.symm hgg2))
              have HN2 : Hid (w4.ownsRow w.heap.size 3 1 (.slice (some ⟨gb, 0, none⟩) (k + 1) capb) (k + 1) ((normS (xs.take (k + 1))).2.map (Value.int .i64))) := by
                unfold Hid; rw [HNn.out, List.map_append]; exact hown'
              have hgg3 : g ≠ gb := by
                have h1 := (own_lt HE1.out).2
                rcases hat' with h | h
                · have : gb = g2 := by simpa [Value.ownBlock] using h
                  omega
                · have : gb = w3.heap.size + 1 := by simpa [Value.ownBlock] using h
                  omega
              clear hown' hgrow' hnil' hat'
              go_wp2_with fail
              go_roundw
              case rel => exact ⟨k + 1, g, q + 1, cap, gb, capb, by omega, by go_num, rfl, rfl, by omega, hgg3, HN1, HN2, HB4⟩
              case measure => simp [intOf]; omega
      · obtain rfl : k = m := by omega
        have hR := HR2.out
        rw [List.take_of_length_le (by have := HX.out.1; omega)] at hR
        have HRf := Lib.hid hR
        have HKl : Hid (k = (normS xs).2.length) := by unfold Hid; have := HLn.out.1; have := HX.out.1; omega
        clear hR
        go_wp2
        go_ret2
        exact ⟨_, k, d2, rfl, HKl.out, OwnsInts.of_row HRf.out, HBr.out⟩

end Go.Proofs.Ytplheohkecooeaa
