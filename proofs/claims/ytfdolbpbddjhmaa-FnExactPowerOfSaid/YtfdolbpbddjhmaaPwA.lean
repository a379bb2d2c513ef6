/-
  Contracts: impl.oneElement and spec.l8One. Conditions: the bounds that each theorem names.
-/
import Derived.Test.YtfdolbpbddjhmaaPdD
namespace Go.Proofs.Ytfdolbpbddjhmaa
open Go.RowKit
set_option linter.unusedVariables false
set_option linter.unusedSimpArgs false

theorem one_row (w : World) (B : Nat) (hB : B ≤ w.heap.size) : (w.alloc (.cells #[.int .i64 0] 3)).ownsRow B 3 1 (.slice (some ⟨w.heap.size, 0, none⟩) 1 1) 1 (([0] : List Int).map (Value.int .i64)) :=
  World.ownsRow_lit (base := B) (e := 3) (size := 1) w #[.int .i64 0] 1 hB (by decide) (by simp)

set_option maxHeartbeats 4000000 in
theorem one_impl (lo hi : Nat) (z : Int) (ao : Option Addr) (c n : Nat) (fs : List OpD) (w : World) (hv : OView w lo hi ao n fs) (hhi : hi ≤ w.heap.size) (hok : algOkB z fs = true) :
    Calls Try.prog 67 #[.agg #[.int .i64 z, .slice ao n c]] w fun e w' => NewAlgP w w' 1 (fs.map oneO) e := by
  obtain ⟨⟨z1, z8⟩, hn4_, hall⟩ := algOkB_of hok
  have hl1 := hv.1
  have hn4 : n ≤ 4 := by omega
  obtain ⟨F, hF⟩ : ∃ F : Nat → OpD, F = fun j => oneO (fs.getD j (0, [])) := ⟨_, rfl⟩
  have HFk := Lib.hid (fun (k : Nat) (f : OpD) (hf : fs[k]? = some f) => show F k = (f.1, [0]) by rw [hF]; dsimp only; rw [List.getD_eq_getElem?_getD, hf]; rfl)
  have HFf := Lib.hid (fun (j : Nat) (hj : j < fs.length) => show F j = (fs.map oneO).getD j (0, []) by
    have hf : fs[j]? = some (fs[j]'hj) := List.getElem?_eq_getElem hj
    rw [HFk.out j _ hf, List.getD_eq_getElem?_getD, List.getElem?_map, hf]; rfl)
  have HV := Lib.hid hv
  have HAl := Lib.hid hall
  obtain ⟨i0, hi0, hz0, hz1, hz2⟩ := info_parts Try.infoOp
  obtain ⟨wR, hwR⟩ : ∃ wR : World, wR = (w.alloc (.cells #[.int .i64 z, .slice ao n c] 28)).alloc (.cells #[.int .i64 0, .slice none 0 0] 28) := ⟨_, rfl⟩
  have hsR : wR.heap.size = w.heap.size + 1 + 1 := by rw [hwR]; simp
  have bR : Below w.heap.size w wR := by rw [hwR]; exact below_then (below_alloc _ _) (below_alloc _ _)
  have cR : wR.cell? ⟨w.heap.size, 1, none⟩ = some (.slice ao n c) := by rw [hwR]; exact cell_b (below_alloc _ _) (by simp)
  have hRR : wR.heap[w.heap.size + 1]? = some (.cells #[.int .i64 0, .slice none 0 0] 28 (0, 0)) := by
    have h := heap_alloc_new (w.alloc (.cells #[.int .i64 z, .slice ao n c] 28)) (.cells #[.int .i64 0, .slice none 0 0] 28)
    rw [World.size_alloc, ← hwR] at h
    exact h
  obtain ⟨wO, hwO⟩ : ∃ wO : World, wO = wR.alloc (.cells #[.int .i64 1, .slice none 0 0] 28) := ⟨_, rfl⟩
  have hsO : wO.heap.size = w.heap.size + 1 + 1 + 1 := by rw [hwO]; simp [hsR]
  have bO : Below wR.heap.size wR wO := by rw [hwO]; exact below_alloc _ _
  have HB0 := Lib.hid (below_then bR bO)
  have ca : wO.cell? ⟨w.heap.size, 1, none⟩ = some (.slice ao n c) := cell_b bO cR
  have HR0 := Lib.hid ((bO.block _ (by omega)).trans hRR)
  have HO0 : Hid (wO.heap[w.heap.size + 1 + 1]? = some (.cells #[.int .i64 1, .slice none 0 0] 28 (0, 0))) := by
    have h := heap_alloc_new wR (.cells #[.int .i64 1, .slice none 0 0] 28)
    rw [hsR, ← hwO] at h
    exact h
  clear hv hok hall hF hn4_ hl1 bR bO hRR
  go_enter Try.func67, Try.ntmps67
  go_wp2_with fail
  rw [← hwR]
  go_wp2_with fail
  rw [← hwO]
  clear hwR hwO cR hsR
  go_wp2_with fail
  go_loopw [5, 10] (fun s5 i wr => ∃ (k : Nat) (v : Value), k ≤ n ∧ i = .int .i64 (k : Int) ∧ Hid (Built wr (w.heap.size + 1 + 1 + 1) v k F) ∧ Hid (wr.heap[w.heap.size + 1 + 1]? = some (.cells #[.int .i64 1, v] 28 (0, 0))) ∧ Hid (wr.heap[w.heap.size + 1]? = some (.cells #[.int .i64 0, .slice none 0 0] 28 (0, 0))) ∧ Hid (Below w.heap.size w wr) ∧ w.heap.size + 1 + 1 < wr.heap.size) (fun _ i _ => n - (intOf i).toNat)
  case atStart => exact ⟨0, _, Nat.zero_le _, rfl, Built.nil _ _ _, HO0, HR0, HB0, by omega⟩
  case round =>
    obtain ⟨k, v, hk, rfl, HBu, HO, HR, HBr, hsr⟩ := hrel
    clear ca HR0 HO0 HB0 hsO
    by_cases hlt : k < n
    · obtain ⟨f, hf⟩ := get_of_lt HV.out.1 hlt
      obtain ⟨b2, o2, rfl, _, hb2, hc⟩ := HV.out.at_ (by omega)
      obtain ⟨ta, tm, tc, c0, c1, htm, htc, hvt⟩ := hc k _ hf
      have hfo := HAl.out f (List.mem_of_getElem? hf)
      obtain ⟨r, hr⟩ : ∃ r : Int, f.1 = r := ⟨_, rfl⟩
      have e0 : wr.cell? ⟨b2, o2 + k * 2, none⟩ = some (.int .i64 r) := cell_b HBr.out (by rw [← hr]; exact c0)
      have e1 : wr.cell? ⟨b2, o2 + k * 2 + 1, none⟩ = some (.slice ta tm tc) := cell_b HBr.out c1
      have HFe : Hid (F k = (r, [0])) := by unfold Hid; rw [HFk.out k f hf, hr]
      have hkn : (k : Int) < (n : Int) := by omega
      obtain ⟨G, C, HTt, HRow⟩ := HBu.out
      obtain ⟨ua, uc, hvv⟩ := own_form HRow
      have HTt_ := Lib.hid HTt
      have HRow_ := Lib.hid HRow
      subst hvv
      obtain ⟨wi, hwi⟩ : ∃ wi : World, wi = (wr.alloc (.cells #[.int .i64 r, .slice ta tm tc] 64)).alloc (.cells #[.int .i64 0] 3) := ⟨_, rfl⟩
      have hsi : wi.heap.size = wr.heap.size + 1 + 1 := by rw [hwi]; simp
      have hBi : Below wr.heap.size wr wi := by rw [hwi]; exact below_then (below_alloc _ _) (below_alloc _ _)
      have HT1 : Hid (wi.ownsRow wr.heap.size 3 1 (.slice (some ⟨wr.heap.size + 1, 0, none⟩) 1 1) 1 (([0] : List Int).map (Value.int .i64))) := by
        have h := one_row (wr.alloc (.cells #[.int .i64 r, .slice ta tm tc] 64)) wr.heap.size (by simp)
        rw [← hwi, World.size_alloc] at h
        exact h
      have HBi := Lib.hid hBi
      have HRi := Lib.hid (HRow.kept (grown_of_below hBi none) (own_em _))
      have hOi := (hBi.block _ hsr).trans HO.out
      have HOi := Lib.hid hOi
      obtain ⟨q0, q1, qf⟩ := box_cells HO.out
      obtain ⟨d0, d1, df⟩ := box_cells hOi
      have HWi := Lib.hid hwi
      clear hc c0 c1 hvt hf hfo hr HTt HRow hBi hOi hb2 htm htc
      rw [hwi] at d1
      have d1' := d1
      clear hwi
      go_wp2_with (at_builtin; refine wpList_append_own _ rfl _ _ 26 rfl (w.heap.size + 1 + 1 + 1) 64 i0 (.agg #[.int .i64 0, .slice none 0 0]) 2 32 Try.underlying26 hi0 hz0 hz1 hz2 rfl (by decide) (.slice ua k uc) k (flatN k G C F) rfl (by rw [← HWi.out]; exact HRi.out.alloc _) ⟨wr.heap.size + 1 + 1, 0, none⟩ 1 1 [.int .i64 r, .slice (some ⟨wr.heap.size + 1, 0, none⟩) 1 1] rfl rfl (by rw [← HWi.out, ← hsi]; exact news_two _ _ _) (by simp [Value.oneCell']) (by unfold maxLen; omega) (by omega) (by simp; omega) ?_; rw [← HWi.out]; intro v' w5 hown' hgrow' hnil'; obtain ⟨g5, cap5, rfl⟩ := ownsRow_succ hown'; have HO5 : Hid (w5.heap[w.heap.size + 1 + 1]? = some (.cells #[.int .i64 1, .slice ua k uc] 28 (0, 0))) := (hgrow'.block _ (by simp; omega) (fun e => by have h_ := (HRi.out.lt _ e.symm).1; omega)).trans ((Below.heap_alloc _ _ _ (by omega)).trans HOi.out); have d15 := (box_cells HO5.out).2.1; have f15 := (box_cells HO5.out).2.2 1; have HOwn5 := Lib.hid hown'; have HGrow5 := Lib.hid hgrow'; clear hown' hgrow' hnil')
      have HNew : Hid (Built (w5.setCell ⟨w.heap.size + 1 + 1, 1, none⟩ (.slice (some ⟨g5, 0, none⟩) (k + 1) cap5)) (w.heap.size + 1 + 1 + 1) (.slice (some ⟨g5, 0, none⟩) (k + 1) cap5) (k + 1) F) :=
        (Built.push HTt_.out HRow_.out HBi.out (by omega) rfl HT1.out HFe.out HOwn5.out HGrow5.out).setFar (by show w.heap.size + 1 + 1 < _; omega) _
      have HO6 := Lib.hid (box_set1 (v := .slice (some ⟨g5, 0, none⟩) (k + 1) cap5) HO5.out)
      have hz5 : w.heap.size + 1 + 1 < w5.heap.size := (Array.getElem?_eq_some_iff.1 HO5.out).1
      have hfar : ∀ b, b < w.heap.size + 1 + 1 → (w5.setCell ⟨w.heap.size + 1 + 1, 1, none⟩ (.slice (some ⟨g5, 0, none⟩) (k + 1) cap5)).heap[b]? = wi.heap[b]? := fun b hb => by
        rw [Below.heap_setCell _ _ _ _ (by show b ≠ w.heap.size + 1 + 1; omega), HGrow5.out.block b (by simp; omega) (fun e => by have h_ := (HRi.out.lt b e.symm).1; omega), Below.heap_alloc _ _ _ (by omega)]
      have HR6 : Hid ((w5.setCell ⟨w.heap.size + 1 + 1, 1, none⟩ (.slice (some ⟨g5, 0, none⟩) (k + 1) cap5)).heap[w.heap.size + 1]? = some (.cells #[.int .i64 0, .slice none 0 0] 28 (0, 0))) := (hfar _ (by omega)).trans ((HBi.out.block _ (by omega)).trans HR.out)
      have HB6 : Hid (Below w.heap.size w (w5.setCell ⟨w.heap.size + 1 + 1, 1, none⟩ (.slice (some ⟨g5, 0, none⟩) (k + 1) cap5))) :=
        (((HBr.out.trans (HBi.out.mono HBr.out.size)).alloc (by omega) _).grown HGrow5.out (by simp; omega) (fun b hb => by have h_ := (HRi.out.lt b hb).1; omega)).setCell (by show _ ≤ w.heap.size + 1 + 1; omega) _
      have hz6 : w.heap.size + 1 + 1 < (w5.setCell ⟨w.heap.size + 1 + 1, 1, none⟩ (.slice (some ⟨g5, 0, none⟩) (k + 1) cap5)).heap.size := by simpa [World.setCell] using hz5
      obtain ⟨w6, hw6⟩ : ∃ w6, w6 = w5.setCell ⟨w.heap.size + 1 + 1, 1, none⟩ (.slice (some ⟨g5, 0, none⟩) (k + 1) cap5) := ⟨_, rfl⟩
      clear hfar d1 d1' d0
      go_wp2_with fail
      rw [← hw6] at HNew HO6 HR6 HB6 hz6 ⊢
      clear hw6 d15 f15
      go_roundw
      case rel => exact ⟨k + 1, _, by omega, by go_num, HNew, HO6, HR6, HB6, hz6⟩
      case measure => simp [intOf]; omega
    · obtain rfl : k = n := by omega
      obtain ⟨_, hrow, _⟩ := HBu.out.row
      obtain ⟨va, vc, rfl⟩ := own_form hrow
      obtain ⟨d0, d1, _⟩ := box_cells HO.out
      obtain ⟨r0, r1, rf⟩ := box_cells HR.out
      obtain ⟨G, C, hops⟩ := HBu.out.ops (fs := fs.map oneO) (fun j hj => (HFf.out j (by have := HV.out.1; omega)))
      have HOps := Lib.hid hops
      have HLen : Hid (k = (fs.map oneO).length) := by unfold Hid; rw [List.length_map, HV.out.1]
      have hkn : ¬ (k : Int) < (k : Int) := by omega
      clear hrow hops
      go_wp2_with fail
      have hK : ∀ (v1 v2 : Value), Kept (w.heap.size + 1 + 1 + 1) wr.heap.size wr ((wr.setCell ⟨w.heap.size + 1, 0, none⟩ v1).setCell ⟨w.heap.size + 1, 1, none⟩ v2) := by
        intro v1 v2 q h1 h2
        rw [Below.heap_setCell _ _ _ _ (by show q ≠ w.heap.size + 1; omega), Below.heap_setCell _ _ _ _ (by show q ≠ w.heap.size + 1; omega)]
      refine bodyPost_ret (v := .agg #[.int .i64 1, .slice va k vc]) (by simp [results, Try.results67, go_sem, r0, r1]) rfl (by unfold NewAlgP; exact ⟨va, k, vc, G, C, rfl, HLen.out, ((HOps.out.kept (hK _ _)).lo_mono (by omega)).hi_mono (by simp [World.setCell]), (HBr.out.setCell (by show _ ≤ _; simp) _).setCell (by show _ ≤ _; simp) _⟩)

set_option maxHeartbeats 4000000 in
theorem one_spec8 (lo hi : Nat) (z : Int) (ao : Option Addr) (c n : Nat) (fs : List OpD) (w : World) (hv : OView w lo hi ao n fs) (hhi : hi ≤ w.heap.size) (hok : algOkB z fs = true) :
    Calls Try.prog 65 #[.agg #[.int .i64 z, .slice ao n c]] w fun e w' => NewAlgP w w' 1 (fs.map oneO) e := by
  obtain ⟨⟨z1, z8⟩, hn4_, hall⟩ := algOkB_of hok
  have hl1 := hv.1
  have hn4 : n ≤ 4 := by omega
  obtain ⟨F, hF⟩ : ∃ F : Nat → OpD, F = fun j => oneO (fs.getD j (0, [])) := ⟨_, rfl⟩
  have HFk := Lib.hid (fun (k : Nat) (f : OpD) (hf : fs[k]? = some f) => show F k = (f.1, [0]) by rw [hF]; dsimp only; rw [List.getD_eq_getElem?_getD, hf]; rfl)
  have HFf := Lib.hid (fun (j : Nat) (hj : j < fs.length) => show F j = (fs.map oneO).getD j (0, []) by
    have hf : fs[j]? = some (fs[j]'hj) := List.getElem?_eq_getElem hj
    rw [HFk.out j _ hf, List.getD_eq_getElem?_getD, List.getElem?_map, hf]; rfl)
  have HV := Lib.hid hv
  have HAl := Lib.hid hall
  obtain ⟨i0, hi0, hz0, hz1, hz2⟩ := info_parts Try.infoOp
  obtain ⟨wR, hwR⟩ : ∃ wR : World, wR = (w.alloc (.cells #[.int .i64 z, .slice ao n c] 28)).alloc (.cells #[.int .i64 0, .slice none 0 0] 28) := ⟨_, rfl⟩
  have hsR : wR.heap.size = w.heap.size + 1 + 1 := by rw [hwR]; simp
  have bR : Below w.heap.size w wR := by rw [hwR]; exact below_then (below_alloc _ _) (below_alloc _ _)
  have cR : wR.cell? ⟨w.heap.size, 1, none⟩ = some (.slice ao n c) := by rw [hwR]; exact cell_b (below_alloc _ _) (by simp)
  have hRR : wR.heap[w.heap.size + 1]? = some (.cells #[.int .i64 0, .slice none 0 0] 28 (0, 0)) := by
    have h := heap_alloc_new (w.alloc (.cells #[.int .i64 z, .slice ao n c] 28)) (.cells #[.int .i64 0, .slice none 0 0] 28)
    rw [World.size_alloc, ← hwR] at h
    exact h
  obtain ⟨wE, hwE⟩ : ∃ wE : World, wE = wR.alloc (.cells #[] 64) := ⟨_, rfl⟩
  have hsE : wE.heap.size = w.heap.size + 1 + 1 + 1 := by rw [hwE]; simp [hsR]
  have bE : Below wR.heap.size wR wE := by rw [hwE]; exact below_alloc _ _
  obtain ⟨wO, hwO⟩ : ∃ wO : World, wO = wE.alloc (.cells #[.int .i64 1, .slice (some ⟨w.heap.size + 1 + 1, 0, none⟩) 0 0] 28) := ⟨_, rfl⟩
  have hsO : wO.heap.size = w.heap.size + 1 + 1 + 1 + 1 := by rw [hwO]; simp [hsE]
  have bO : Below wE.heap.size wE wO := by rw [hwO]; exact below_alloc _ _
  have bRO := below_then bE bO
  have HB0 := Lib.hid (below_then bR bRO)
  have ca : wO.cell? ⟨w.heap.size, 1, none⟩ = some (.slice ao n c) := cell_b bRO cR
  have HR0 := Lib.hid ((bRO.block _ (by omega)).trans hRR)
  have HBu0 : Hid (Built wO (w.heap.size + 1 + 1) (.slice (some ⟨w.heap.size + 1 + 1, 0, none⟩) 0 0) 0 F) := by
    have h := Built.lit wR (w.heap.size + 1 + 1) (by omega) F
    rw [← hwE, hsR] at h
    exact h.below bO
  have HO0 : Hid (wO.heap[w.heap.size + 1 + 1 + 1]? = some (.cells #[.int .i64 1, .slice (some ⟨w.heap.size + 1 + 1, 0, none⟩) 0 0] 28 (0, 0))) := by
    have h := heap_alloc_new wE (.cells #[.int .i64 1, .slice (some ⟨w.heap.size + 1 + 1, 0, none⟩) 0 0] 28)
    rw [hsE, ← hwO] at h
    exact h
  clear hv hok hall hF hn4_ hl1 bR bO bE bRO hRR
  go_enter Try.func65, Try.ntmps65
  go_wp2_with fail
  rw [← hwR]
  go_wp2_with fail
  rw [← hwE]
  rw [← hwO]
  clear hwR hwE hwO cR hsR hsE
  go_wp2_with fail
  go_loopw [4] (fun i wr => ∃ (k : Nat) (v : Value), k ≤ n ∧ i = .int .i64 (k : Int) ∧ Hid (Built wr (w.heap.size + 1 + 1) v k F) ∧ Hid (wr.heap[w.heap.size + 1 + 1 + 1]? = some (.cells #[.int .i64 1, v] 28 (0, 0))) ∧ Hid (wr.heap[w.heap.size + 1]? = some (.cells #[.int .i64 0, .slice none 0 0] 28 (0, 0))) ∧ wr.cell? ⟨w.heap.size, 1, none⟩ = some (.slice ao n c) ∧ Hid (Below w.heap.size w wr) ∧ w.heap.size + 1 + 1 + 1 < wr.heap.size) (fun i _ => n - (intOf i).toNat)
  case atStart => exact ⟨0, _, Nat.zero_le _, rfl, HBu0, HO0, HR0, ca, HB0, by omega⟩
  case round =>
    obtain ⟨k, v, hk, rfl, HBu, HO, HR, da, HBr, hsr⟩ := hrel
    clear ca HR0 HO0 HB0 HBu0 hsO
    by_cases hlt : k < n
    · obtain ⟨f, hf⟩ := get_of_lt HV.out.1 hlt
      obtain ⟨b2, o2, rfl, _, hb2, hc⟩ := HV.out.at_ (by omega)
      obtain ⟨ta, tm, tc, c0, c1, htm, htc, hvt⟩ := hc k _ hf
      obtain ⟨r, hr⟩ : ∃ r : Int, f.1 = r := ⟨_, rfl⟩
      have e0 : wr.cell? ⟨b2, o2 + k * 2, none⟩ = some (.int .i64 r) := cell_b HBr.out (by rw [← hr]; exact c0)
      have HFe : Hid (F k = (r, [0])) := by unfold Hid; rw [HFk.out k f hf, hr]
      have hkn : (k : Int) < (n : Int) := by omega
      obtain ⟨G, C, HTt, HRow⟩ := HBu.out
      obtain ⟨ua, uc, hvv⟩ := own_form HRow
      have HTt_ := Lib.hid HTt
      have HRow_ := Lib.hid HRow
      have hNb := row_block HRow HO.out (by decide)
      have HNb := Lib.hid hNb
      subst hvv
      obtain ⟨wi, hwi⟩ : ∃ wi : World, wi = wr.drew.alloc (.cells #[.int .i64 0] 3) := ⟨_, rfl⟩
      have hsi : wi.heap.size = wr.heap.size + 1 := by rw [hwi]; simp
      have hBi : Below wr.heap.size wr wi := by rw [hwi]; exact below_then (below_drew _) (below_alloc _ _)
      have HT1 : Hid (wi.ownsRow wr.heap.size 3 1 (.slice (some ⟨wr.heap.size, 0, none⟩) 1 1) 1 (([0] : List Int).map (Value.int .i64))) := by
        have h := one_row wr.drew wr.heap.size (Nat.le_refl _)
        rw [← hwi] at h
        exact h
      have HBi := Lib.hid hBi
      have HRi := Lib.hid (HRow.kept (grown_of_below hBi none) (own_em _))
      have hOi := (hBi.block _ hsr).trans HO.out
      have HOi := Lib.hid hOi
      obtain ⟨d0, d1, df⟩ := box_cells HO.out
      have HWi := Lib.hid hwi
      clear hc c0 c1 hvt hf hr HTt HRow hBi hOi hb2 htm htc hNb hwi d0 df
      have W1 := below_alloc wr (.cells #[.int .i64 0] 3)
      have W2 := below_then W1 (below_alloc (wr.alloc (.cells #[.int .i64 0] 3)) (.cells #[.int .i64 r, .slice (some ⟨wr.heap.size, 0, none⟩) 1 1] 64))
      have da1 := cell_b W1 da
      have e01 := cell_b W1 e0
      have d11 := cell_b W1 d1
      have d12 := cell_b W2 d1
      clear W1 W2
      go_wp2_with fail
      go_region_law ((refine step_append_lies _ rfl _ _ _ rfl (w.heap.size + 1 + 1) 64 i0 _ 2 32 Try.underlying26 hi0 hz0 hz1 hz2 rfl (by decide) (.slice ua k uc) k (flatN k G C F) rfl (((HRow_.out.kept (grown_of_below (below_drew _) none) (own_em _)).alloc _).alloc _) ⟨wr.heap.size + 1, 0, none⟩ 1 1 [.int .i64 r, .slice (some ⟨wr.heap.size, 0, none⟩) 1 1] rfl rfl (by have h := news_two (w := wr.drew.alloc (.cells #[.int .i64 0] 3)) (.int .i64 r) (.slice (some ⟨wr.heap.size, 0, none⟩) 1 1) 64; rw [World.size_alloc] at h; exact h) (by simp [Value.oneCell']) (by decide) (by unfold maxLen; omega) (by omega) (by simp; omega) _ rfl ?_; intro g5 cap5 w5 hown' hgrow0 hat' hlt'; have hgrow' : (wi.alloc (.cells #[.int .i64 r, .slice (some ⟨wr.heap.size, 0, none⟩) 1 1] 64)).grownBy w5 (Value.slice ua k uc).ownBlock := (by rw [HWi.out]; exact hgrow0); have HO5 : Hid (w5.heap[w.heap.size + 1 + 1 + 1]? = some (.cells #[.int .i64 1, .slice ua k uc] 28 (0, 0))) := (hgrow'.block _ (by simp; omega) (fun e => HNb.out e.symm)).trans ((Below.heap_alloc _ _ _ (by omega)).trans HOi.out); have d15 := (box_cells HO5.out).2.1; have f15 := (box_cells HO5.out).2.2 1; have HOwn5 := Lib.hid hown'; have HGrow5 := Lib.hid hgrow'; clear hown' hgrow' hgrow0 hat'))
      all_goals
        have HNew : Hid (Built (w5.setCell ⟨w.heap.size + 1 + 1 + 1, 1, none⟩ (.slice (some ⟨g5, 0, none⟩) (k + 1) cap5)) (w.heap.size + 1 + 1) (.slice (some ⟨g5, 0, none⟩) (k + 1) cap5) (k + 1) F) :=
          (Built.push HTt_.out HRow_.out HBi.out (by omega) rfl HT1.out HFe.out HOwn5.out HGrow5.out).setBox HO5.out
        have HO6 := Lib.hid (box_set1 (v := .slice (some ⟨g5, 0, none⟩) (k + 1) cap5) HO5.out)
        have hz5 : w.heap.size + 1 + 1 + 1 < w5.heap.size := (Array.getElem?_eq_some_iff.1 HO5.out).1
        have hfar : ∀ b, b < w.heap.size + 1 + 1 → (w5.setCell ⟨w.heap.size + 1 + 1 + 1, 1, none⟩ (.slice (some ⟨g5, 0, none⟩) (k + 1) cap5)).heap[b]? = wi.heap[b]? := fun b hb => by
          rw [Below.heap_setCell _ _ _ _ (by show b ≠ w.heap.size + 1 + 1 + 1; omega), HGrow5.out.block b (by simp; omega) (fun e => by have h_ := (HRi.out.lt b e.symm).1; omega), Below.heap_alloc _ _ _ (by omega)]
        have HR6 : Hid ((w5.setCell ⟨w.heap.size + 1 + 1 + 1, 1, none⟩ (.slice (some ⟨g5, 0, none⟩) (k + 1) cap5)).heap[w.heap.size + 1]? = some (.cells #[.int .i64 0, .slice none 0 0] 28 (0, 0))) := (hfar _ (by omega)).trans ((HBi.out.block _ (by omega)).trans HR.out)
        have da6 : (w5.setCell ⟨w.heap.size + 1 + 1 + 1, 1, none⟩ (.slice (some ⟨g5, 0, none⟩) (k + 1) cap5)).cell? ⟨w.heap.size, 1, none⟩ = some (.slice (some ⟨b2, o2, none⟩) n c) := (World.cell?_of_block (a := ⟨w.heap.size, 1, none⟩) ((hfar w.heap.size (by omega)).trans (HBi.out.block _ (by omega)))).trans da
        have HB6 : Hid (Below w.heap.size w (w5.setCell ⟨w.heap.size + 1 + 1 + 1, 1, none⟩ (.slice (some ⟨g5, 0, none⟩) (k + 1) cap5))) :=
          (((HBr.out.trans (HBi.out.mono HBr.out.size)).alloc (by omega) _).grown HGrow5.out (by simp; omega) (fun b hb => by have h_ := (HRi.out.lt b hb).1; omega)).setCell (by show _ ≤ w.heap.size + 1 + 1 + 1; omega) _
        have hz6 : w.heap.size + 1 + 1 + 1 < (w5.setCell ⟨w.heap.size + 1 + 1 + 1, 1, none⟩ (.slice (some ⟨g5, 0, none⟩) (k + 1) cap5)).heap.size := by simpa [World.setCell] using hz5
        obtain ⟨w6, hw6⟩ : ∃ w6, w6 = w5.setCell ⟨w.heap.size + 1 + 1 + 1, 1, none⟩ (.slice (some ⟨g5, 0, none⟩) (k + 1) cap5) := ⟨_, rfl⟩
        rw [← hw6] at HNew HO6 HR6 da6 HB6 hz6 ⊢
        clear hw6 hfar d15 f15 d1 da da1 e01 d11 d12
        go_wp2_with fail
        go_roundw
        case rel => exact ⟨k + 1, _, by omega, by go_num, HNew, HO6, HR6, da6, HB6, hz6⟩
        case measure => simp [intOf]; omega
    · obtain rfl : k = n := by omega
      obtain ⟨_, hrow, _⟩ := HBu.out.row
      obtain ⟨va, vc, rfl⟩ := own_form hrow
      obtain ⟨d0, d1, _⟩ := box_cells HO.out
      obtain ⟨r0, r1, rf⟩ := box_cells HR.out
      obtain ⟨G, C, hops⟩ := HBu.out.ops (fs := fs.map oneO) (fun j hj => (HFf.out j (by have := HV.out.1; omega)))
      have HOps := Lib.hid hops
      have HLen : Hid (k = (fs.map oneO).length) := by unfold Hid; rw [List.length_map, HV.out.1]
      have hkn : ¬ (k : Int) < (k : Int) := by omega
      clear hrow hops
      go_wp2_with fail
      have hK : ∀ (v1 v2 : Value), Kept (w.heap.size + 1 + 1) wr.heap.size wr ((wr.setCell ⟨w.heap.size + 1, 0, none⟩ v1).setCell ⟨w.heap.size + 1, 1, none⟩ v2) := by
        intro v1 v2 q h1 h2
        rw [Below.heap_setCell _ _ _ _ (by show q ≠ w.heap.size + 1; omega), Below.heap_setCell _ _ _ _ (by show q ≠ w.heap.size + 1; omega)]
      refine bodyPost_ret (v := .agg #[.int .i64 1, .slice va k vc]) (by simp [results, Try.results65, go_sem, r0, r1]) rfl (by unfold NewAlgP; exact ⟨va, k, vc, G, C, rfl, HLen.out, ((HOps.out.kept (hK _ _)).lo_mono (by omega)).hi_mono (by simp [World.setCell]), (HBr.out.setCell (by show _ ≤ _; simp) _).setCell (by show _ ≤ _; simp) _⟩)

end Go.Proofs.Ytfdolbpbddjhmaa
