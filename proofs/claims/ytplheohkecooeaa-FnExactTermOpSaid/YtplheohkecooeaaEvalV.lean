/-
  Contracts: spec.l3Value and spec.EvalTerm. Conditions: the bounds that each theorem names.
-/
import Derived.Test.YtplheohkecooeaaIdxV
import Derived.Test.YtplheohkecooeaaEvalS
import Derived.Test.YtplheohkecooeaaEvalI
import Derived.Test.YtplheohkecooeaaNormL
namespace Go.Proofs.Ytplheohkecooeaa
open Go.RowKit
set_option linter.unusedVariables false
set_option linter.unusedSimpArgs false
attribute [local go_sem ↓] Go.wp_at_zero Go.wp_at_succ

theorem rev_get {S : List Int} {t i : Nat} {v : Int} (hl : S.length = t) (hi : i < t) (h : S[i]? = some v) : S.reverse[t - 1 - i]? = some v := by
  rw [List.getElem?_reverse (by omega), show S.length - 1 - (t - 1 - i) = i by omega]; exact h
theorem take_snoc {S : List Int} {k : Nat} {v : Int} (h : S[k]? = some v) : S.take (k + 1) = S.take k ++ [v] := by rw [List.take_add_one, h]; rfl
theorem rev_new {S : List Int} {t r : Nat} {y : Int} (hl : S.length = t) (hr : r ≤ t) : (y :: S.drop r).reverse = S.reverse.take (t - r) ++ [y] := by
  rw [List.reverse_cons]
  congr 1
  rw [← hl, ← List.reverse_drop]

theorem wrap_tr {tr : Nat} (h : tr ≤ 60) : IntKind.i64.wrap (tr : Int) = (tr : Int) := by rw [IntKind.wrap_i64]; omega
theorem wrap_sub {t i tr : Nat} (h : (t : Int) - (i : Int) = (tr : Int)) (h2 : tr ≤ 60) : IntKind.i64.wrap ((t : Int) - (i : Int)) = (tr : Int) := by rw [h]; exact wrap_tr h2

set_option maxRecDepth 100000 in
set_option maxHeartbeats 4000000 in
theorem l3Value_any (lo hi lo2 hi2 lo3 hi3 : Nat) (z : Int) (ao bo vo : Option Addr) (n c m d nv cv : Nat) (fs : List OpD) (xs vs : List Int) (w : World) (hv : OView w lo hi ao n fs) (hhi : hi ≤ w.heap.size) (hok : algOkB z fs = true)
    (hx : IView w lo2 hi2 bo m xs) (hhi2 : hi2 ≤ w.heap.size) (hvs : IView w lo3 hi3 vo nv vs) (hhi3 : hi3 ≤ w.heap.size) (h60 : xs.length ≤ 60) (hend : endA fs xs 0 = some xs.length) (hvok : allIn z vs = true) (hfit : ∀ x, x ∈ xs → x < (nv : Int)) :
    Calls Try.prog 84 #[.agg #[.int .i64 z, .slice ao n c], .slice bo m d, .slice vo nv cv] w fun e w' => e = .returned (.int .i64 (evT z fs vs xs)) ∧ Below w.heap.size w w' := by
  obtain ⟨i0, hi0, hz0, hz1, hz2⟩ := info_parts Try.infoInt
  have hl := hx.1
  have hm0 : 0 < m := by have := term_pos hend; omega
  have hm60 : m ≤ 60 := by omega
  obtain ⟨b, o, rfl, _, _, hcx⟩ := hx.at_ hm0
  have hB := below_alloc w (.cells #[.int .i64 z, .slice ao n c] 30)
  have HO0 := Lib.hid (own_nil_lit (w.alloc (.cells #[.int .i64 z, .slice ao n c] 30)) (base := w.heap.size) (by simp))
  rw [World.size_alloc] at HO0
  have HB0 := Lib.hid (hB.alloc (by simp) (.cells #[] 3))
  have HV := Lib.hid hv
  have HX := Lib.hid hcx
  have HVs := Lib.hid hvs
  have HOk := Lib.hid hok
  have HEnd := Lib.hid hend
  have HFit := Lib.hid hfit
  have HL := Lib.hid hl
  have HIn := Lib.hid (evS_in (vs := vs) hok hend hvok (by rw [hvs.1]; exact hfit))
  obtain ⟨u, hu⟩ : ∃ u, evT z fs vs xs = u := ⟨_, rfl⟩
  have HU := Lib.hid hu
  rw [hu]
  clear hB hv hok hx hvs h60 hend hvok hfit hu hl hcx
  go_enter Try.func84, Try.ntmps84
  go_wp2
  go_loopw [7, 8, 9, 10, 11] (fun sv i _ _ _ wr => ∃ (k g t D : Nat), k ≤ m ∧ i = .int .i64 ((m : Int) - 1 - (k : Int)) ∧ sv = .slice (some ⟨g, 0, none⟩) t D ∧ t ≤ k ∧ Hid ((evS z fs vs (xs.drop (m - k))).length = t) ∧ Hid (wr.ownsRow w.heap.size 3 1 (.slice (some ⟨g, 0, none⟩) t D) t ((evS z fs vs (xs.drop (m - k))).reverse.map (Value.int .i64))) ∧ Hid (Below w.heap.size w wr) ∧ wr.cell? ⟨w.heap.size, 0, none⟩ = some (.int .i64 z) ∧ wr.cell? ⟨w.heap.size, 1, none⟩ = some (.slice ao n c) ∧ w.heap.size < wr.heap.size ∧ w.heap.size < g) (fun _ i _ _ _ _ => (intOf i + 1).toNat)
  case atStart =>
    have he : evS z fs vs (xs.drop (m - 0)) = [] := evS_end (by have := HL.out; omega)
    exact ⟨0, w.heap.size + 1, 0, 0, Nat.zero_le _, by simp, rfl, Nat.le_refl _, by unfold Hid; rw [he]; rfl, by rw [he]; exact HO0, HB0, by go_simp, by go_simp, by simp; omega, by omega⟩
  case round =>
    obtain ⟨k, g, t, D, hk, rfl, rfl, htk, HLs, HR, HBr, cz, ca, hsr, hgw⟩ := hrel
    by_cases hlt : k < m
    · obtain ⟨j, hj⟩ : ∃ j : Nat, (m : Int) - 1 - (k : Int) = (j : Int) := ⟨m - 1 - k, by omega⟩
      rw [hj]
      have hjm : j < xs.length := by have := HL.out; omega
      have hjk : m - k = j + 1 := by omega
      have hjk1 : m - (k + 1) = j := by omega
      rw [hjk] at HLs HR
      have hx : xs[j]? = some (xs[j]'hjm) := List.getElem?_eq_getElem hjm
      obtain ⟨x, hxe⟩ : ∃ x, xs[j]'hjm = x := ⟨_, rfl⟩
      rw [hxe] at hx
      have cx : wr.cell? ⟨b, o + j, none⟩ = some (.int .i64 x) := cell_b HBr.out (HX.out j x hx)
      obtain ⟨S, hS⟩ : ∃ S, evS z fs vs (xs.drop (j + 1)) = S := ⟨_, rfl⟩
      have hSin : allIn z S = true := by rw [← hS]; exact HIn.out k (j + 1) (by have := HL.out; omega)
      obtain ⟨bb, hbb⟩ := term_beh HOk.out HEnd.out hx
      have hroom := (evS_room (vs := vs) HOk.out HEnd.out hx hbb).1
      have hnew : evS z fs vs (xs.drop j) = evStep z fs vs x S := by rw [evS_drop hx, hS]
      rw [hS] at HLs HR hroom
      have hjm' : (j : Int) < (m : Int) := by have := HL.out; omega
      have hj0 : (0 : Int) ≤ (j : Int) := by omega
      have HJ := Lib.hid hj
      have hjn : (j : Int) - 1 = (m : Int) - 1 - ((k + 1 : Nat) : Int) := by omega
      have HJn := Lib.hid hjn
      have HJk1 := Lib.hid hjk1
      by_cases h0 : 0 ≤ x
      · obtain ⟨v, rfl⟩ : ∃ v : Nat, x = (v : Int) := ⟨x.toNat, by omega⟩
        have hvn : v < nv := by have := HFit.out _ (List.mem_of_getElem? hx); omega
        obtain ⟨b2, o2, rfl, _, _, hc2⟩ := HVs.out.at_ (by omega)
        obtain ⟨y, hy⟩ := get_of_lt HVs.out.1 hvn
        have cy : wr.cell? ⟨b2, o2 + v, none⟩ = some (.int .i64 y) := cell_b HBr.out (hc2 v y hy)
        have hnew2 : evS z fs vs (xs.drop j) = y :: S := by
          rw [hnew, evStep, if_pos h0, show ((v : Int)).toNat = v by omega, List.getD_eq_getElem?_getD, hy]; rfl
        have Hnew := Lib.hid hnew2
        have hvn' : (v : Int) < (nv : Int) := by omega
        clear hx hxe hbb hroom hnew hnew2 hy hc2 hj hjn hjk hjk1
        go_wp2_with (at_builtin; refine wpList_append_own_at _ rfl _ _ 25 rfl w.heap.size 3 i0 (.int .i64 0) 1 8 Try.underlying25 hi0 hz0 hz1 hz2 rfl (by decide) (.slice (some ⟨g, 0, none⟩) t D) t (S.reverse.map (Value.int .i64)) rfl (HR.out.alloc _) ⟨wr.heap.size, 0, none⟩ 1 1 [.int .i64 y] rfl rfl (cell_one_new _ _ _) (fun x hx => by simp at hx; subst hx; rfl) (by unfold maxLen; omega) (by omega) (by have := HBr.out.size; simp; omega) ?_; intro v' w3 hown' hgrow' hnil' hat')
        obtain ⟨g3, cap, rfl⟩ := ownsRow_succ hown'
        have HB3 := Lib.hid ((HBr.out.alloc HBr.out.size (.cells #[.int .i64 y] 3)).grown hgrow' (by have := HBr.out.size; simp; omega) (fun q hq => (HR.out.lt q hq).1))
        have hne : w.heap.size < (wr.alloc (.cells #[.int .i64 y] 3)).heap.size := by simp; omega
        have c3 : ∀ {o_ : Nat} {v_ : Value}, wr.cell? ⟨w.heap.size, o_, none⟩ = some v_ → w3.cell? ⟨w.heap.size, o_, none⟩ = some v_ := fun h => (World.cell?_of_block (a := ⟨w.heap.size, _, none⟩) (hgrow'.block w.heap.size hne (by simp [Value.ownBlock]; omega))).trans (cell_b (below_alloc wr _) h)
        have dz := c3 cz
        have da := c3 ca
        have hg3 : w.heap.size < g3 := by
          rcases hat' with h | h
          · have : g3 = g := by simpa [Value.ownBlock] using h
            omega
          · have : g3 = wr.heap.size + 1 := by simpa [Value.ownBlock] using h
            omega
        have hs3 : w.heap.size < w3.heap.size := by have := hgrow'.size; simp at this; omega
        have HN1 : Hid ((evS z fs vs (xs.drop (m - (k + 1)))).length = t + 1) := by unfold Hid; rw [HJk1.out, Hnew.out, List.length_cons, HLs.out]
        have HN2 : Hid (w3.ownsRow w.heap.size 3 1 (.slice (some ⟨g3, 0, none⟩) (t + 1) cap) (t + 1) ((evS z fs vs (xs.drop (m - (k + 1)))).reverse.map (Value.int .i64))) := by
          unfold Hid; rw [HJk1.out, Hnew.out, List.reverse_cons, List.map_append]; exact hown'
        clear hown' hgrow' hnil' hat' cz ca cx cy c3 hne
        go_wp2_with fail
        go_roundw
        case rel => exact ⟨k + 1, g3, t + 1, cap, by omega, by first | (rw [← HJn.out]) | (congr 1; have := HJn.out; omega), rfl, by omega, HN1, HN2, HB3, dz, da, hs3, hg3⟩
        case measure => have h_ := HJ.out; (simp [intOf]) <;> omega
      · have hx0 : x < 0 := Int.not_le.1 h0
        have hb2 := hbb
        unfold beh at hb2
        rw [if_neg h0] at hb2
        obtain ⟨f, hf, rfl⟩ := Option.map_eq_some_iff.1 hb2
        obtain ⟨q, hq⟩ : ∃ q : Nat, -1 - x = (q : Int) := ⟨(-1 - x).toNat, by omega⟩
        rw [show (-1 - x).toNat = q by omega] at hf
        have hqn : q < n := by rw [← HV.out.1]; exact (List.getElem?_eq_some_iff.1 hf).1
        have hfo := (algOkB_of HOk.out).2.2 f (List.mem_of_getElem? hf)
        obtain ⟨r, hr⟩ : ∃ r : Nat, f.1 = (r : Int) := ⟨f.1.toNat, by have := (opOkB_of hfo).1; omega⟩
        have hr3 : r ≤ 3 := by have := (opOkB_of hfo).1; omega
        rw [hr] at hroom
        have hrS : r ≤ t := by have := HLs.out; omega
        have hnew2 : evS z fs vs (xs.drop j) = atA z f (S.take r) :: S.drop r := by
          rw [hnew, evStep, if_neg h0, show (-1 - x).toNat = q by omega, show fs.getD q (0, []) = f by rw [List.getD_eq_getElem?_getD, hf]; rfl, hr]; rfl
        obtain ⟨b2, o2, rfl, hbl2, hbh2, hc2⟩ := HV.out.at_ (by omega)
        obtain ⟨a2, m2, c2, k0, _, _, _, _⟩ := hc2 q f hf
        rw [hr] at k0
        have K0 := Lib.hid k0
        have hn4 : n ≤ 4 := by have := (algOkB_of HOk.out).2.1; have := HV.out.1; omega
        have hqn' : (q : Int) < (n : Int) := by omega
        obtain ⟨y, hy⟩ : ∃ y, atA z f (S.take r) = y := ⟨_, rfl⟩
        have hin2 : allIn z (S.take r) = true := by
          unfold allIn at hSin ⊢
          rw [List.all_eq_true] at hSin ⊢
          exact fun v hv => hSin v (List.mem_of_mem_take hv)
        have HIn2 := Lib.hid hin2
        have HY := Lib.hid hy
        have HF := Lib.hid hf
        have HRr := Lib.hid hr
        rw [hy] at hnew2
        have Hnew := Lib.hid hnew2
        obtain ⟨wo, hwo⟩ : ∃ wo, wo = wr := ⟨_, rfl⟩
        rw [← hwo] at HR HBr cz ca hsr cx ⊢
        clear hwo
        have HOa := Lib.hid (own_nil_lit wo (base := wo.heap.size) (Nat.le_refl _))
        have ez : (wo.alloc (.cells #[] 3)).cell? ⟨w.heap.size, 0, none⟩ = some (.int .i64 z) := cell_b (below_alloc _ _) cz
        have ea : (wo.alloc (.cells #[] 3)).cell? ⟨w.heap.size, 1, none⟩ = some (.slice (some ⟨b2, o2, none⟩) n c) := cell_b (below_alloc _ _) ca
        clear hx hxe hbb hroom hnew hb2 hc2 k0 hfo hr hf hy hin2 hnew2 hSin hj hjn hjk hjk1 hS
        go_wp2
        go_loopw [10, 11] (fun av p wr => ∃ (i g2 D2 : Nat), i ≤ r ∧ p = .int .i64 (i : Int) ∧ av = .slice (some ⟨g2, 0, none⟩) i D2 ∧ Hid (wr.ownsRow wo.heap.size 3 1 (.slice (some ⟨g2, 0, none⟩) i D2) i ((S.take i).map (Value.int .i64))) ∧ Hid (Below wo.heap.size wo wr)) (fun _ p _ => r - (intOf p).toNat)
        case atStart => exact ⟨0, wo.heap.size, 0, Nat.zero_le _, rfl, rfl, HOa, below_alloc _ _⟩
        case round =>
          obtain ⟨i, g2, D2, hir, rfl, rfl, HA, HBq⟩ := hrel
          clear ez ea
          have k1 : wr.cell? ⟨b2, o2 + q * 2, none⟩ = some (.int .i64 (r : Int)) := cell_b HBq.out (cell_b HBr.out K0.out)
          have ez : wr.cell? ⟨w.heap.size, 0, none⟩ = some (.int .i64 z) := cell_b HBq.out cz
          have ea : wr.cell? ⟨w.heap.size, 1, none⟩ = some (.slice (some ⟨b2, o2, none⟩) n c) := cell_b HBq.out ca
          by_cases hlt2 : i < r
          · obtain ⟨v, hvi⟩ := get_of_lt HLs.out (show i < t by omega)
            have hrv := rev_get HLs.out (by omega) hvi
            obtain ⟨ti, hti⟩ : ∃ ti : Nat, ti = t - 1 - i := ⟨_, rfl⟩
            rw [← hti] at hrv
            have cs : wr.cell? ⟨g, ti, none⟩ = some (.int .i64 v) := cell_b HBq.out (own_at HR.out hrv)
            have hcti : (t : Int) - 1 - (i : Int) = (ti : Int) := by omega
            have htit : (ti : Int) < (t : Int) := by omega
            have hir' : (i : Int) < (r : Int) := by omega
            have HVi := Lib.hid hvi
            clear hvi hrv hti
            go_wp2_with (at_builtin; refine wpList_append_own_at _ rfl _ _ 25 rfl wo.heap.size 3 i0 (.int .i64 0) 1 8 Try.underlying25 hi0 hz0 hz1 hz2 rfl (by decide) (.slice (some ⟨g2, 0, none⟩) i D2) i ((S.take i).map (Value.int .i64)) rfl (HA.out.alloc _) ⟨wr.heap.size, 0, none⟩ 1 1 [.int .i64 v] rfl rfl (cell_one_new _ _ _) (fun x hx => by simp at hx; subst hx; rfl) (by unfold maxLen; omega) (by omega) (by have := HBq.out.size; simp; omega) ?_; intro v' w3 hown' hgrow' hnil' hat')
            obtain ⟨g3, cap, rfl⟩ := ownsRow_succ hown'
            have HB3 := Lib.hid ((HBq.out.alloc HBq.out.size (.cells #[.int .i64 v] 3)).grown hgrow' (by have := HBq.out.size; simp; omega) (fun q hq => (HA.out.lt q hq).1))
            have HN : Hid (w3.ownsRow wo.heap.size 3 1 (.slice (some ⟨g3, 0, none⟩) (i + 1) cap) (i + 1) ((S.take (i + 1)).map (Value.int .i64))) := by
              unfold Hid; rw [take_snoc HVi.out, List.map_append]; exact hown'
            clear hown' hgrow' hnil' hat'
            go_wp2_with fail
            go_roundw
            case rel => exact ⟨i + 1, g3, cap, by omega, by go_num, rfl, HN, HB3⟩
            case measure => simp [intOf]; omega
          · obtain rfl : i = r := by omega
            have hir' : ¬ (i : Int) < (i : Int) := by omega
            obtain ⟨W0, hW0⟩ : ∃ W0, W0 = wr := ⟨_, rfl⟩
            have HBw := Lib.hid (HBr.out.trans (HBq.out.mono HBr.out.size))
            have HR0 := Lib.hid (HR.out.kept (grown_of_below HBq.out none) (own_em _))
            rw [← hW0] at HA HBq k1 ez ea HBw HR0 ⊢
            clear hW0
            have Z0 := Lib.hid ez
            have Z1 := Lib.hid ea
            obtain ⟨tr, htr⟩ : ∃ tr, tr = t - i := ⟨_, rfl⟩
            have HTr := Lib.hid htr
            have hlti : (t : Int) - (i : Int) = (tr : Int) := by omega
            have htr60 : tr ≤ 60 := by omega
            clear htr
            have HOwn := Lib.hid (fun (V : World) (hV : Below W0.heap.size W0 V) => (own_part g 0 tr D (S.reverse.take tr) V (by rw [List.length_take, List.length_reverse, HLs.out]; have := HTr.out; omega) (fun j x hj => by
              rw [List.getElem?_take] at hj
              split at hj
              · rw [Nat.zero_add]; exact cell_b hV (own_at HR0.out hj)
              · cases hj) (by omega)).mono (R' := fun ε w' => ∃ g D, ε = .returned (.slice (some ⟨g, 0, none⟩) tr D) ∧ w'.ownsRow W0.heap.size 3 1 (.slice (some ⟨g, 0, none⟩) tr D) tr ((S.reverse.take tr).map (Value.int .i64)) ∧ Below W0.heap.size W0 w' ∧ Below V.heap.size V w') fun ε w' ⟨g, D, h_, hr_, hb_⟩ => ⟨g, D, h_, ownsRow_base hr_ hV.size, hV.trans (hb_.mono hV.size), hb_⟩)
            have HVal := Lib.hid (fun (V : World) (hV : Below W0.heap.size W0 V) => by
              have hB2 : Below w.heap.size w V := HBw.out.trans (hV.mono HBw.out.size)
              have h_ := value_spec lo hi 0 V.heap.size z (some ⟨b2, o2, none⟩) (some ⟨g2, 0, none⟩) c n D2 i q fs f (S.take i) V (HV.out.kept (Kept.of_below hB2 hhi)) (Nat.le_trans hhi hB2.size) HOk.out HF.out
                (((OwnsInts.of_row HA.out).view.kept (Kept.of_below hV (Nat.le_refl _))).mono (Nat.zero_le _) hV.size) (Nat.le_refl _) HIn2.out HRr.out.symm
              rw [HY.out] at h_
              exact h_.mono (R' := fun ε w' => ε = .returned (.int .i64 y) ∧ Below W0.heap.size W0 w' ∧ Below V.heap.size V w') fun ε w' ⟨a_, b_⟩ => ⟨a_, hV.trans (b_.mono hV.size), b_⟩)
            have tokA : True := trivial
            have tokB : True := trivial
            have tokC : True := trivial
            have yB : Below W0.heap.size W0 W0.drew := below_drew _
            have htD : t ≤ D := (by rcases HR0.out.2 with ⟨h1, _⟩ | ⟨_, _, _, h1, _, _, h2, _⟩; (cases h1); (cases h1; exact h2))
            have hti2 : (tr : Int) ≤ (D : Int) := by have := HTr.out; omega
            have htr0 : (0 : Int) ≤ (tr : Int) := by omega
            have hW0w : w.heap.size < W0.heap.size := World.block_lt_of_cell? W0 _ ez
            have hwr := wrap_sub hlti htr60
            have hwr2 := wrap_tr htr60
            go_wp2_with fail
            go_region_held3 (fun V => V.cell? ⟨w.heap.size, 0, none⟩ = some (.int .i64 z) ∧ V.cell? ⟨w.heap.size, 1, none⟩ = some (.slice (some ⟨b2, o2, none⟩) n c) ∧ Below W0.heap.size W0 V) (first | assumption | (refine ⟨?_, ?_, ?_⟩; (focus (first | assumption | go_keep)); (focus (first | assumption | go_keep)); (focus (repeat (first | assumption | exact Below.refl _ _ | apply keep_drew | apply keep_alloc))))) ((first | (go_at_call 70; have _t := tokA; clear tokA _t; refine (HOwn.out _ ?_).mono ?_; (focus ((repeat (first | assumption | exact Below.refl _ _ | apply keep_drew | apply keep_alloc)); done)); rintro ε wA ⟨gA, cA, rfl, hA, BA, bA⟩; have HA_ := Lib.hid hA; have hgA := (HA_.out.lt gA rfl).1; have q0_A := cell_b BA Z0.out; have q1_A := cell_b BA Z1.out; have HbA := Lib.hid bA; clear hA bA) | (go_at_call 106; have _t := tokB; clear tokB _t; refine (HVal.out _ ?_).mono ?_; (focus ((repeat (first | assumption | exact Below.refl _ _ | apply keep_drew | apply keep_alloc)); done)); rintro ε wV ⟨rfl, BV, bV⟩; (try (have HA2_ := Lib.hid (HA_.out.kept (grown_of_below bV none) (own_em _)); clear HA_; have HA_ := HA2_; clear HA2_)); have q0_V := cell_b BV Z0.out; have q1_V := cell_b BV Z1.out; clear bV) | (have _t := HA_; clear _t; have _t := tokC; refine step_append_ints ?_ _ _ rfl W0.heap.size gA tr cA (S.reverse.take tr) ?_ ?_ ⟨wV.heap.size, 0, none⟩ 1 1 [y] ?_ rfl ?_ ?_ ?_ ?_; (focus (rfl; done)); (focus (rfl; done)); (focus ((first | exact HA_.out | exact HA_.out.alloc _ | exact HA_.out.kept (grown_of_below (below_drew _) none) (own_em _)); done)); (focus (rfl; done)); (focus (refine one_at ?_; (first | (go_simp; done) | (simp; done) | (refine cell_b HbA.out ?_; go_simp; done) | (refine cell_b HbA.out ?_; simp; done)); done)); (focus (omega; done)); (focus (refine Below.size (B := W0.heap.size) ?_; (repeat (first | assumption | exact Below.refl _ _ | apply keep_drew | apply keep_alloc)); done)); intro gC cC wC hC hgC hatC; have BC : Below W0.heap.size W0 wC := below_row hgC (by (repeat (first | assumption | exact Below.refl _ _ | apply keep_drew | apply keep_alloc))) (Below.size (B := W0.heap.size) (by (repeat (first | assumption | exact Below.refl _ _ | apply keep_drew | apply keep_alloc)))) hgA; have HC_ := Lib.hid hC; have q0_C := cell_b BC Z0.out; have q1_C := cell_b BC Z1.out; clear hC hgC hatC HA_ tokC _t) | (have _t := HA_; clear _t; have _t := tokC; refine step_append_ints ?_ _ _ rfl W0.heap.size gA tr cA (S.reverse.take tr) ?_ ?_ ⟨wA.heap.size, 0, none⟩ 1 1 [y] ?_ rfl ?_ ?_ ?_ ?_; (focus (rfl; done)); (focus (rfl; done)); (focus ((first | exact HA_.out | exact HA_.out.alloc _ | exact HA_.out.kept (grown_of_below (below_drew _) none) (own_em _)); done)); (focus (rfl; done)); (focus (refine one_at ?_; (first | (go_simp; done) | (simp; done) | (refine cell_b HbA.out ?_; go_simp; done) | (refine cell_b HbA.out ?_; simp; done)); done)); (focus (omega; done)); (focus (refine Below.size (B := W0.heap.size) ?_; (repeat (first | assumption | exact Below.refl _ _ | apply keep_drew | apply keep_alloc)); done)); intro gC cC wC hC hgC hatC; have BC : Below W0.heap.size W0 wC := below_row hgC (by (repeat (first | assumption | exact Below.refl _ _ | apply keep_drew | apply keep_alloc))) (Below.size (B := W0.heap.size) (by (repeat (first | assumption | exact Below.refl _ _ | apply keep_drew | apply keep_alloc)))) hgA; have HC_ := Lib.hid hC; have q0_C := cell_b BC Z0.out; have q1_C := cell_b BC Z1.out; clear hC hgC hatC HA_ tokC _t)))
            all_goals
              clear hwr hwr2
              have hgC := (HC_.out.lt gC rfl).1
              have HN1 : Hid ((evS z fs vs (xs.drop (m - (k + 1)))).length = tr + 1) := by unfold Hid; rw [HJk1.out, Hnew.out, List.length_cons, List.length_drop, HLs.out, HTr.out]
              have HN2 : Hid (wC.ownsRow w.heap.size 3 1 (.slice (some ⟨gC, 0, none⟩) (tr + 1) cC) (tr + 1) ((evS z fs vs (xs.drop (m - (k + 1)))).reverse.map (Value.int .i64))) := by
                unfold Hid; rw [HJk1.out, Hnew.out, rev_new HLs.out hrS, ← HTr.out]; exact ownsRow_base HC_.out (by omega)
              have HBC := Lib.hid (HBw.out.trans (BC.mono HBw.out.size))
              have hsC : w.heap.size < wC.heap.size := by have := BC.size; omega
              go_wp2_with fail
              go_roundw
              case rel => exact ⟨k + 1, gC, tr + 1, cC, by omega, by first | (rw [← HJn.out]) | (congr 1; have := HJn.out; omega), rfl, by have := HTr.out; omega, HN1, HN2, HBC, q0_C, q1_C, hsC, by omega⟩
              case measure => have h_ := HJ.out; (simp [intOf]) <;> omega
    · obtain rfl : k = m := by omega
      have hneg : (k : Int) - 1 - (k : Int) = -1 := by omega
      rw [hneg]
      have h1 := evS_one (vs := vs) HOk.out HEnd.out
      have hdr : xs.drop (k - k) = xs := by rw [Nat.sub_self]; rfl
      rw [hdr] at HLs HR
      obtain ⟨y, hy⟩ : ∃ y, evS z fs vs xs = [y] := List.length_eq_one_iff.1 h1
      have hev : u = y := by rw [← HU.out]; unfold evT; rw [hy]; rfl
      have HEv := Lib.hid hev
      have ht1 : t = 1 := by rw [← HLs.out, hy]; rfl
      subst ht1
      have c0 := own_at HR.out (j := 0) (y := y) (by rw [hy]; rfl)
      clear hy hev hdr h1
      go_wp2
      go_ret
      exact ⟨ret_int HEv.out.symm, HBr.out⟩

end Go.Proofs.Ytplheohkecooeaa
