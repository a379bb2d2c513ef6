/-
  Contract: impl.SubalgebraOf, whose closure tells the places. Conditions: the bounds that each theorem names.
-/
import Derived.Test.YtcmjkfcgekmomaaOpF
import Derived.Test.YtcmjkfcgekmomaaPlc
namespace Go.Proofs.Ytcmjkfcgekmomaa
open Go.RowKit
set_option linter.unusedVariables false
set_option linter.unusedSimpArgs false

theorem cell_new1 (W : World) (v : Value) (T : TypeId) : (W.alloc (.cells #[v] T)).cell? ⟨W.heap.size, 0, none⟩ = some v := by simp
set_option maxHeartbeats 1000000 in
theorem placeC_any (B lo hi b o t vc : Nat) (l : List Int) (x : Int) (W : World) (h : IView W lo hi (some ⟨b, o, none⟩) t l) (h0 : 0 < t) (ht : t ≤ 1048576) (hc : W.cell? ⟨B, 0, none⟩ = some (.slice (some ⟨b, o, none⟩) t vc)) :
    Calls Try.prog 62 (#[.int .i64 x] ++ #[.pointer (some ⟨B, 0, none⟩)]) W fun e W' => e = .returned (.int .i64 (plI l x)) ∧ Below W.heap.size W W' := by
  have HP := Lib.hid (place_impl lo hi b o t vc l x W h h0 ht)
  obtain ⟨v, hv⟩ : ∃ v, plI l x = v := ⟨_, rfl⟩
  rw [hv] at HP ⊢
  clear h hv
  go_enter Try.func62, Try.ntmps62
  go_wp2_with fail
  refine HP.out.mono ?_
  rintro e w1 ⟨rfl, rfl⟩
  go_wp2_with fail
  go_ret
  exact ⟨rfl, Below.refl _ _⟩

theorem setN_nil : setN [] = 0 := rfl
theorem sbaB_sub {z : Int} {fs : List OpD} {xs : List Int} (h : sbaB z fs xs = false) (h2 : subuB z fs xs = true) : xs = [] := by
  simp only [sbaB, h2, Bool.true_and, Bool.not_eq_false'] at h
  exact List.isEmpty_iff.1 h
theorem sbaB_yes {z : Int} {fs : List OpD} {xs : List Int} (h : sbaB z fs xs = true) : subuB z fs xs = true := by
  simp only [sbaB, Bool.and_eq_true] at h
  exact h.1
theorem sbaB_set {z : Int} {fs : List OpD} {xs : List Int} (h : sbaB z fs xs = true) : setN xs ≠ 0 := by
  obtain ⟨_, _, _, h4, h5, _⟩ := sbaB_of h
  intro h0
  rw [h0] at h4
  have h6 : (listK 0 8).length = 0 := rfl
  rw [h4] at h6
  omega

set_option maxHeartbeats 1000000 in
theorem isba_no (lo hi : Nat) (z : Int) (ao : Option Addr) (c n : Nat) (fs : List OpD) (lo2 hi2 : Nat) (bo : Option Addr) (d m : Nat) (xs : List Int) (w : World) (hv : OView w lo hi ao n fs) (hhi : hi ≤ w.heap.size) (hs : ∀ (j : Nat) (f : OpD), fs[j]? = some f → f.2.length ≤ maxLen)
    (hx : IView w lo2 hi2 bo m xs) (hhi2 : hi2 ≤ w.heap.size) (hm : m ≤ maxLen) (hno : sbaB z fs xs = false) :
    Calls Try.prog 26 #[.agg #[.int .i64 z, .slice ao n c], .slice bo m d] w fun e w' => e = .returned (.tuple #[.agg #[.int .i64 0, .slice none 0 0], .bool false]) ∧ Below w.heap.size w w' := by
  have hB := (((Below.refl w.heap.size w).alloc (Nat.le_refl _) (.cells #[.int .i64 z, .slice ao n c] 31)).alloc (by simp) (.cells #[.slice bo m d] 25)).alloc (by simp only [World.size_alloc]; omega) (.cells #[.int .i64 0, .slice none 0 0] 31)
  have HB := Lib.hid hB
  have HR0 : Hid ((((w.alloc (.cells #[.int .i64 z, .slice ao n c] 31)).alloc (.cells #[.slice bo m d] 25)).alloc (.cells #[.int .i64 0, .slice none 0 0] 31)).heap[w.heap.size + 1 + 1]? = some (.cells #[.int .i64 0, .slice none 0 0] 31 (0, 0))) := by
    have h := heap_alloc_new ((w.alloc (.cells #[.int .i64 z, .slice ao n c] 31)).alloc (.cells #[.slice bo m d] 25)) (.cells #[.int .i64 0, .slice none 0 0] 31)
    rw [World.size_alloc, World.size_alloc] at h
    exact h
  have hC := subOf_any lo hi z ao c n fs lo2 hi2 bo d m xs _ (hv.kept (Kept.of_below hB hhi)) (Nat.le_trans hhi hB.size) hs (hx.kept (Kept.of_below hB hhi2)) (Nat.le_trans hhi2 hB.size) hm
  obtain ⟨t, ht⟩ : ∃ t, subuB z fs xs = t := ⟨_, rfl⟩
  rw [ht] at hC
  cases t with
  | false =>
    simp only [Bool.false_eq_true, if_false] at hC
    have HC := Lib.hid hC
    clear hv hs hx hB hC
    go_enter Try.func26, Try.ntmps26
    go_wp2_with fail
    refine HC.out.mono ?_
    rintro e w1 ⟨rfl, b1⟩
    have HB1 := Lib.hid (HB.out.trans (b1.mono HB.out.size))
    obtain ⟨r0, r1, rf⟩ := box_cells ((b1.block _ (by simp)).trans HR0.out)
    clear b1
    go_wp2_with fail
    refine bodyPost_ret (v := .tuple #[.agg #[.int .i64 0, .slice none 0 0], .bool false]) (by simp [results, Try.results26, go_sem, r0, r1]) rfl ⟨rfl, (HB1.out.setCell (by show w.heap.size ≤ w.heap.size + 1 + 1; omega) _).setCell (by show w.heap.size ≤ w.heap.size + 1 + 1; omega) _⟩
  | true =>
    simp only [if_true] at hC
    rw [sbaB_sub hno ht, setN_nil] at hC
    have HC := Lib.hid hC
    clear hv hs hx hB hC
    go_enter Try.func26, Try.ntmps26
    go_wp2_with fail
    refine HC.out.mono ?_
    rintro e w1 ⟨rfl, b1⟩
    have HB1 := Lib.hid (HB.out.trans (b1.mono HB.out.size))
    obtain ⟨r0, r1, rf⟩ := box_cells ((b1.block _ (by simp)).trans HR0.out)
    clear b1
    go_wp2_with fail
    refine bodyPost_ret (v := .tuple #[.agg #[.int .i64 0, .slice none 0 0], .bool false]) (by simp [results, Try.results26, go_sem, r0, r1]) rfl ⟨rfl, (HB1.out.setCell (by show w.heap.size ≤ w.heap.size + 1 + 1; omega) _).setCell (by show w.heap.size ≤ w.heap.size + 1 + 1; omega) _⟩

set_option maxRecDepth 100000 in
set_option maxHeartbeats 4000000 in
theorem isba_yes (lo hi : Nat) (z : Int) (ao : Option Addr) (c n : Nat) (fs : List OpD) (lo2 hi2 : Nat) (bo : Option Addr) (d m : Nat) (xs : List Int) (w : World) (hv : OView w lo hi ao n fs) (hhi : hi ≤ w.heap.size) (hs : ∀ (j : Nat) (f : OpD), fs[j]? = some f → f.2.length ≤ maxLen)
    (hx : IView w lo2 hi2 bo m xs) (hhi2 : hi2 ≤ w.heap.size) (hm : m ≤ maxLen) (hyes : sbaB z fs xs = true) :
    Calls Try.prog 26 #[.agg #[.int .i64 z, .slice ao n c], .slice bo m d] w fun e w' => ResA w w' (xs.length : Int) (fs.map (sbO z xs)) true e := by
  obtain ⟨hok, _, ha, _, h1, h8⟩ := sbaB_of hyes
  obtain ⟨⟨hy1, hy2⟩, hn4_, hall⟩ := algOkB_of hok
  obtain ⟨zn, rfl⟩ : ∃ zn : Nat, z = (zn : Int) := ⟨z.toNat, by omega⟩
  have hB := (((Below.refl w.heap.size w).alloc (Nat.le_refl _) (.cells #[.int .i64 (zn : Int), .slice ao n c] 31)).alloc (by simp) (.cells #[.slice bo m d] 25)).alloc (by simp only [World.size_alloc]; omega) (.cells #[.int .i64 0, .slice none 0 0] 31)
  have HB := Lib.hid hB
  have HR0 : Hid ((((w.alloc (.cells #[.int .i64 (zn : Int), .slice ao n c] 31)).alloc (.cells #[.slice bo m d] 25)).alloc (.cells #[.int .i64 0, .slice none 0 0] 31)).heap[w.heap.size + 1 + 1]? = some (.cells #[.int .i64 0, .slice none 0 0] 31 (0, 0))) := by
    have h := heap_alloc_new ((w.alloc (.cells #[.int .i64 (zn : Int), .slice ao n c] 31)).alloc (.cells #[.slice bo m d] 25)) (.cells #[.int .i64 0, .slice none 0 0] 31)
    rw [World.size_alloc, World.size_alloc] at h
    exact h
  have hC := subOf_any lo hi (zn : Int) ao c n fs lo2 hi2 bo d m xs _ (hv.kept (Kept.of_below hB hhi)) (Nat.le_trans hhi hB.size) hs (hx.kept (Kept.of_below hB hhi2)) (Nat.le_trans hhi2 hB.size) hm
  rw [sbaB_yes hyes] at hC
  simp only [if_true] at hC
  have hs0 := sbaB_set hyes
  obtain ⟨S, hS⟩ : ∃ S, setN xs = S := ⟨_, rfl⟩
  rw [hS] at hC hs0
  have HC := Lib.hid hC
  have hxl := hx.1
  have hn4 : n ≤ 4 := by have := hv.1; omega
  have hm1 : 1 ≤ m := by omega
  have hm8 : m ≤ 8 := by omega
  obtain ⟨b3, o3, rfl, _, hb3, _⟩ := hx.at_ (by omega)
  have cz0 : (((w.alloc (.cells #[.int .i64 (zn : Int), .slice ao n c] 31)).alloc (.cells #[.slice (some ⟨b3, o3, none⟩) m d] 25)).alloc (.cells #[.int .i64 0, .slice none 0 0] 31)).cell? ⟨w.heap.size, 0, none⟩ = some (.int .i64 (zn : Int)) := cell_b (below_then (below_alloc _ _) (below_alloc _ _)) (by simp)
  have ca0 : (((w.alloc (.cells #[.int .i64 (zn : Int), .slice ao n c] 31)).alloc (.cells #[.slice (some ⟨b3, o3, none⟩) m d] 25)).alloc (.cells #[.int .i64 0, .slice none 0 0] 31)).cell? ⟨w.heap.size, 1, none⟩ = some (.slice ao n c) := cell_b (below_then (below_alloc _ _) (below_alloc _ _)) (by simp)
  have cs0 : (((w.alloc (.cells #[.int .i64 (zn : Int), .slice ao n c] 31)).alloc (.cells #[.slice (some ⟨b3, o3, none⟩) m d] 25)).alloc (.cells #[.int .i64 0, .slice none 0 0] 31)).cell? ⟨w.heap.size + 1, 0, none⟩ = some (.slice (some ⟨b3, o3, none⟩) m d) := cell_b (below_alloc _ _) (by have h_ := cell_new1 (w.alloc (.cells #[.int .i64 (zn : Int), .slice ao n c] 31)) (.slice (some ⟨b3, o3, none⟩) m d) 25; rw [World.size_alloc] at h_; exact h_)
  have hmf : ∀ (fn : Fn) (first cap : Array Value) (w : World), (Instr.makeFunc fn first cap).run Try.prog w = .ok (.func fn first cap) w := fun _ _ _ _ => rfl
  obtain ⟨F, hF⟩ : ∃ F : Nat → OpD, F = fun j => sbO (zn : Int) xs (fs.getD j (0, [])) := ⟨_, rfl⟩
  have HFk := Lib.hid (fun (k : Nat) (f : OpD) (hf : fs[k]? = some f) => show F k = sbO (zn : Int) xs f by rw [hF]; dsimp only; rw [List.getD_eq_getElem?_getD, hf]; rfl)
  have HFf := Lib.hid (fun (j : Nat) (hj : j < fs.length) => show F j = (fs.map (sbO (zn : Int) xs)).getD j (0, []) by
    have hf : fs[j]? = some (fs[j]'hj) := List.getElem?_eq_getElem hj
    rw [HFk.out j _ hf, List.getD_eq_getElem?_getD, List.getElem?_map, hf]; rfl)
  have HV := Lib.hid hv
  have HX := Lib.hid hx
  have HOk := Lib.hid hok
  have HAl := Lib.hid hall
  have HA := Lib.hid ha
  obtain ⟨i0, hi0, hz0, hz1, hz2⟩ := info_parts Try.infoOp
  rw [hxl]
  unfold ResA
  have hzn1 : 1 ≤ zn := by omega
  have hzn8 : zn ≤ 8 := by omega
  have HXl := Lib.hid hxl
  have hS0 : ((S : Int) == 0) = false := by simp; omega
  clear hv hs hx hok hall ha hC hB hyes hS hF hxl h1 h8 hn4_ hy1 hy2 hs0
  go_enter Try.func26, Try.ntmps26
  go_wp2_with fail
  refine HC.out.mono ?_
  rintro e w1 ⟨rfl, b1⟩
  have HB1 := Lib.hid (HB.out.trans (b1.mono HB.out.size))
  have hz : w.heap.size + 1 + 1 < w1.heap.size := by have := b1.size; simp at this; omega
  have HR1 := Lib.hid ((b1.block _ (by simp)).trans HR0.out)
  have cz : w1.cell? ⟨w.heap.size, 0, none⟩ = some (.int .i64 (zn : Int)) := cell_b b1 cz0
  have ca : w1.cell? ⟨w.heap.size, 1, none⟩ = some (.slice ao n c) := cell_b b1 ca0
  have cs : w1.cell? ⟨w.heap.size + 1, 0, none⟩ = some (.slice (some ⟨b3, o3, none⟩) m d) := cell_b b1 cs0
  clear b1 cz0 ca0 cs0
  have HB2 := Lib.hid (HB1.out.alloc HB1.out.size (.cells #[.int .i64 (m : Int), .slice none 0 0] 31))
  have hR2 : Hid ((w1.alloc (.cells #[.int .i64 (m : Int), .slice none 0 0] 31)).heap[w.heap.size + 1 + 1]? = some (.cells #[.int .i64 0, .slice none 0 0] 31 (0, 0))) := (Below.heap_alloc _ _ _ hz).trans HR1.out
  have hO2 : Hid ((w1.alloc (.cells #[.int .i64 (m : Int), .slice none 0 0] 31)).heap[w1.heap.size]? = some (.cells #[.int .i64 (m : Int), .slice none 0 0] 31 (0, 0))) := heap_alloc_new _ _
  have ca2 : (w1.alloc (.cells #[.int .i64 (m : Int), .slice none 0 0] 31)).cell? ⟨w.heap.size, 1, none⟩ = some (.slice ao n c) := cell_b (below_alloc _ _) ca
  have cz2 : (w1.alloc (.cells #[.int .i64 (m : Int), .slice none 0 0] 31)).cell? ⟨w.heap.size, 0, none⟩ = some (.int .i64 (zn : Int)) := cell_b (below_alloc _ _) cz
  have cs2 : (w1.alloc (.cells #[.int .i64 (m : Int), .slice none 0 0] 31)).cell? ⟨w.heap.size + 1, 0, none⟩ = some (.slice (some ⟨b3, o3, none⟩) m d) := cell_b (below_alloc _ _) cs
  go_wp2_with fail
  go_loopw [10, 30] (fun s10 i wr => ∃ (k : Nat) (v : Value), k ≤ n ∧ i = .int .i64 (k : Int) ∧ Hid (Built wr (w1.heap.size + 1) v k F) ∧ Hid (wr.heap[w1.heap.size]? = some (.cells #[.int .i64 (m : Int), v] 31 (0, 0))) ∧ Hid (wr.heap[w.heap.size + 1 + 1]? = some (.cells #[.int .i64 0, .slice none 0 0] 31 (0, 0))) ∧ wr.cell? ⟨w.heap.size, 0, none⟩ = some (.int .i64 (zn : Int)) ∧ wr.cell? ⟨w.heap.size + 1, 0, none⟩ = some (.slice (some ⟨b3, o3, none⟩) m d) ∧ Hid (Below w.heap.size w wr) ∧ w1.heap.size < wr.heap.size) (fun _ i _ => n - (intOf i).toNat)
  case atStart => exact ⟨0, _, Nat.zero_le _, rfl, Built.nil _ _ _, hO2, hR2, cz2, cs2, HB2, by simp⟩
  case round =>
    obtain ⟨k, v, hk, rfl, HBu, HO, HR, dz, ds, HBr, hsr⟩ := hrel
    clear cz ca cs ca2 cz2 cs2 hO2 hR2
    by_cases hlt : k < n
    · obtain ⟨f, hf⟩ := get_of_lt HV.out.1 hlt
      obtain ⟨b2, o2, rfl, _, hb2, hc⟩ := HV.out.at_ (by omega)
      obtain ⟨ta, tm, tc, c0, c1, htm, htc, hvt⟩ := hc k _ hf
      have e0 : wr.cell? ⟨b2, o2 + k * 2, none⟩ = some (.int .i64 f.1) := cell_b HBr.out c0
      have e1 : wr.cell? ⟨b2, o2 + k * 2 + 1, none⟩ = some (.slice ta tm tc) := cell_b HBr.out c1
      have hfo := HAl.out f (List.mem_of_getElem? hf)
      obtain ⟨r, hr, ht1⟩ : ∃ r : Nat, f.1 = (r : Int) ∧ 1 ≤ f.2.length := by
        obtain ⟨_, r, _, h1, _, _, _, h3, _⟩ := op_nat2 (show (1 : Int) ≤ zn by omega) (by omega) hfo
        exact ⟨r, h1, h3⟩
      rw [hvt.1] at ht1
      rw [hr] at e0
      obtain ⟨bt, ot, rfl, _, _, _⟩ := hvt.at_ (by omega)
      have hkn : (k : Int) < (n : Int) := by omega
      have hsz := HBr.out.size
      have HF : Hid (F k = ((r : Int), sbT (zn : Int) xs f (sbL xs f))) := by unfold Hid; rw [HFk.out k f hf, sbO, hr]
      have HLn : Hid (sbL xs f = (sbT (zn : Int) xs f (sbL xs f)).length) := by unfold Hid; rw [sbT_len]
      have hcp := fun (W : World) (hW : Below w.heap.size w W) (hc_ : W.cell? ⟨w.heap.size + 1, 0, none⟩ = some (.slice (some ⟨b3, o3, none⟩) m d)) => opF_any 62 #[.pointer (some ⟨w.heap.size + 1, 0, none⟩)] (plI xs) lo hi lo2 hi2 zn f bt ot tm tc b3 o3 m d r xs W (hvt.kept (Kept.of_below hW hhi)) (Nat.le_trans hhi hW.size) hr hfo hzn1 hzn8 (HX.out.kept (Kept.of_below hW hhi2)) (Nat.le_trans hhi2 hW.size) hm1 hm8 HA.out
        (enters_of Try.func62 (by kernel_rfl) rfl)
        (fun V y hV _ => placeC_any (w.heap.size + 1) lo2 hi2 b3 o3 m d xs y V (HX.out.kept (Kept.of_below (hW.trans (hV.mono hW.size)) hhi2)) hm1 (by omega) (cell_b hV hc_))
      simp only [sf_sb] at hcp
      obtain ⟨T, hT⟩ : ∃ T, sbT (zn : Int) xs f (sbL xs f) = T := ⟨_, rfl⟩
      rw [hT] at HF HLn
      simp only [hT] at hcp
      obtain ⟨nq, hnq⟩ : ∃ nq, sbL xs f = nq := ⟨_, rfl⟩
      rw [hnq] at HLn
      simp only [hnq] at hcp
      have HCq := Lib.hid hcp
      obtain ⟨G, C, HTb, HRow⟩ := (HBu.out.below (below_alloc wr (.cells #[.int .i64 (r : Int), .slice (some ⟨bt, ot, none⟩) tm tc] 66)))
      obtain ⟨va, vc, hvv⟩ := own_form HRow
      have HT_ := Lib.hid HTb
      have HRow_ := Lib.hid HRow
      clear hc c0 c1 hf hvt hfo hcp hT hnq HTb HRow ht1
      subst hvv
      go_wp2_with fail
      obtain ⟨fb, hfb⟩ : ∃ fb, fb = wr.heap.size := ⟨_, rfl⟩
      have HNfb : Hid (∀ b, (Value.slice va k vc).ownBlock = some b → b < fb) := fun b hb => by
        obtain ⟨_, _, _, hR0⟩ := HBu.out
        have h_ := (hR0.lt b hb).2
        omega
      have hfb1 : w1.heap.size < fb := by omega
      obtain ⟨wi, hwi⟩ : ∃ wi : World, wi = wr.alloc (.cells #[.int .i64 (r : Int), .slice (some ⟨bt, ot, none⟩) tm tc] 66) := ⟨_, rfl⟩
      have bwi : Below wr.heap.size wr wi := by rw [hwi]; exact below_alloc _ _
      have j0 : wi.cell? ⟨fb, 0, none⟩ = some (.int .i64 (r : Int)) := by rw [hwi, hfb]; simp
      have j1 : wi.cell? ⟨fb, 1, none⟩ = some (.slice (some ⟨bt, ot, none⟩) tm tc) := by rw [hwi, hfb]; simp
      have jz : wi.cell? ⟨w.heap.size, 0, none⟩ = some (.int .i64 (zn : Int)) := cell_b bwi dz
      have js : wi.cell? ⟨w.heap.size + 1, 0, none⟩ = some (.slice (some ⟨b3, o3, none⟩) m d) := cell_b bwi ds
      have HO2 := Lib.hid ((bwi.block _ hsr).trans HO.out)
      have HR2 := Lib.hid ((bwi.block _ (by omega)).trans HR.out)
      have HBr2 := Lib.hid (HBr.out.trans (bwi.mono hsz))
      have hfbl : fb < wi.heap.size := by rw [hwi, hfb]; simp
      have hsr2 : w1.heap.size < wi.heap.size := by have := bwi.size; omega
      rw [← hfb]
      rw [← hwi] at HT_ HRow_ ⊢
      have hsz2 := HBr2.out.size
      clear hfb hwi bwi HO HR HBr hsr dz ds e0 e1 HBu hsz
      obtain ⟨d0, d1, df⟩ := box_cells HO2.out
      have df1 := df 1
      have HCp := Lib.hid (fun (W : World) (hW : Below wi.heap.size wi W) => HCq.out W (HBr2.out.trans (hW.mono hsz2)) (cell_b hW js))
      have hbd : Below wi.heap.size wi wi.drew := below_drew _
      clear d0 df HCq
      go_wp2_with fail
      have HKq : Hid (∀ W, Below wi.heap.size wi W → (fun W => W.cell? ⟨w.heap.size, 0, none⟩ = some (.int .i64 (zn : Int)) ∧ W.cell? ⟨fb, 0, none⟩ = some (.int .i64 (r : Int)) ∧ W.cell? ⟨fb, 1, none⟩ = some (.slice (some ⟨bt, ot, none⟩) tm tc) ∧ W.cell? ⟨w.heap.size + 1, 0, none⟩ = some (.slice (some ⟨b3, o3, none⟩) m d)) W) := fun W hW => ⟨cell_b hW jz, cell_b hW j0, cell_b hW j1, cell_b hW js⟩
      refine wp_region_noPanic ?_
      refine wp_region_held_drew (S := fun W => W.cell? ⟨w.heap.size, 0, none⟩ = some (.int .i64 (zn : Int)) ∧ W.cell? ⟨fb, 0, none⟩ = some (.int .i64 (r : Int)) ∧ W.cell? ⟨fb, 1, none⟩ = some (.slice (some ⟨bt, ot, none⟩) tm tc) ∧ W.cell? ⟨w.heap.size + 1, 0, none⟩ = some (.slice (some ⟨b3, o3, none⟩) m d)) (by kernel_rfl) ?_ (fun hHeld => ?_)
      · exact HKq.out _ (below_drew _)
      refine wpAnyH_take (i := 0) (oi := ⟨_, _, _, _, _, _⟩) (v := ?_) rfl (by kernel_rfl) (by kernel_rfl) (by kernel_rfl) (fun _ _ _ h => h) (Or.inl ⟨rfl, ?_⟩) (by assumption) ?_
      rotate_left 1
      · intro w_ hSw; (try dsimp only at hSw); go_simp; (try with_reducible rfl)
      (try simp only [Act.put, List.setIfInBounds_toArray, List.set_cons_zero, List.set_cons_succ])
      refine wpAnyH_take (i := 2) (oi := ⟨_, _, _, _, _, _⟩) (v := ?_) rfl (by kernel_rfl) (by kernel_rfl) (by kernel_rfl) (fun _ _ _ h => h) (Or.inl ⟨rfl, ?_⟩) (by assumption) ?_
      rotate_left 1
      · intro w_ hSw; (try dsimp only at hSw); go_simp; (try with_reducible rfl)
      (try simp only [Act.put, List.setIfInBounds_toArray, List.set_cons_zero, List.set_cons_succ])
      refine wpAnyH_take (i := 3) (oi := ⟨_, _, _, _, _, _⟩) (v := ?_) rfl (by kernel_rfl) (by kernel_rfl) (by kernel_rfl) (fun _ _ _ h => h) (Or.inl ⟨rfl, ?_⟩) (by assumption) ?_
      rotate_left 1
      · intro w_ hSw; (try dsimp only at hSw); go_simp; (try with_reducible rfl)
      (try simp only [Act.put, List.setIfInBounds_toArray, List.set_cons_zero, List.set_cons_succ])
      refine wpAnyH_take (i := 4) (oi := ⟨_, _, _, _, _, _⟩) (v := ?_) rfl (by kernel_rfl) (by kernel_rfl) (by kernel_rfl) (fun _ _ _ h => h) (Or.inl ⟨rfl, ?_⟩) (by assumption) ?_
      rotate_left 1
      · intro w_ hSw; (try dsimp only at hSw); go_simp; (try with_reducible rfl)
      (try simp only [Act.put, List.setIfInBounds_toArray, List.set_cons_zero, List.set_cons_succ])
      refine wpAnyH_take (i := 5) (oi := ⟨_, _, _, _, _, _⟩) (v := ?_) rfl (by kernel_rfl) (by kernel_rfl) (by kernel_rfl) (fun _ _ _ h => h) (Or.inl ⟨rfl, ?_⟩) (by assumption) ?_
      rotate_left 1
      · intro w_ hSw; (try dsimp only at hSw); go_simp; (try with_reducible rfl)
      (try simp only [Act.put, List.setIfInBounds_toArray, List.set_cons_zero, List.set_cons_succ])
      refine wpAnyH_take (i := 6) (oi := ⟨_, _, _, _, _, _⟩) (v := ?_) rfl (by kernel_rfl) (by kernel_rfl) (by kernel_rfl) (fun _ _ _ h => h) (Or.inl ⟨rfl, ?_⟩) (by assumption) ?_
      rotate_left 1
      · intro w_ hSw; (try dsimp only at hSw); go_simp; (try with_reducible rfl)
      (try simp only [Act.put, List.setIfInBounds_toArray, List.set_cons_zero, List.set_cons_succ])
      refine wpAnyH_ready (rs := [1, 7]) (by kernel_rfl) (by simp) ?_
      refine (AllReadyH.cons (o := ⟨_, _, _, _, _, _⟩) rfl (fun K hK => ?_) (AllReadyH.cons (o := ⟨_, _, _, _, _, _⟩) rfl (fun K hK => ?_) AllReadyH.nil))
      · go_simp
        refine hK.out _ _ ?_ (fun hHeld => ?_)
        · exact HKq.out _ (below_drew wi)
        clear hK K
        (try simp only [Act.put, List.setIfInBounds_toArray, List.set_cons_zero, List.set_cons_succ])
        refine wpAnyH_ready (rs := [7]) (by kernel_rfl) (by simp) ?_
        refine (AllReadyH.cons (o := ⟨_, _, _, _, _, _⟩) rfl (fun K hK => ?_) AllReadyH.nil)
        go_simp
        go_at_call 61
        refine (HCp.out _ (below_drew _)).mono ?_
        rintro e w3 ⟨g, dd, rfl, ho, b3⟩
        have B3 : Below wi.heap.size wi w3 := below_then (below_drew _) b3
        have d13 : w3.cell? ⟨w1.heap.size, 1, none⟩ = some (.slice va k vc) := cell_b B3 d1
        have z3 : wi.heap.size ≤ w3.heap.size := B3.size
        have zO3 : w1.heap.size < w3.heap.size := (by omega)
        have HO3 := Lib.hid ho
        have HB3 := Lib.hid B3
        have HO3b : Hid (w3.heap[w1.heap.size]? = some (.cells #[.int .i64 (m : Int), .slice va k vc] 31 (0, 0))) := (B3.block _ hsr2).trans HO2.out
        clear ho b3 B3
        refine hK.out _ _ ?_ (fun hHeld => ?_)
        · exact HKq.out _ HB3.out
        clear hK K
        (try simp only [Act.put, List.setIfInBounds_toArray, List.set_cons_zero, List.set_cons_succ])
        refine wpAnyH_ready (rs := [8]) (by kernel_rfl) (by simp) ?_
        refine (AllReadyH.cons (o := ⟨_, _, _, _, _, _⟩) rfl (fun K hK => ?_) AllReadyH.nil)
        go_simp
        have HBB : Hid (Below wi.heap.size wi (w3.alloc (.cells #[.int .i64 (r : Int), .slice (some ⟨g, 0, none⟩) nq dd] 66))) := HB3.out.alloc z3 _
        have d1b : (w3.alloc (.cells #[.int .i64 (r : Int), .slice (some ⟨g, 0, none⟩) nq dd] 66)).cell? ⟨w1.heap.size, 1, none⟩ = some (.slice va k vc) := cell_b HBB.out d1
        refine hK.out _ _ ?_ (fun hHeld => ?_)
        · exact HKq.out _ HBB.out
        clear hK K
        (try simp only [Act.put, List.setIfInBounds_toArray, List.set_cons_zero, List.set_cons_succ])
        refine wpAnyH_ready (rs := [9]) (by kernel_rfl) (by simp) ?_
        refine (AllReadyH.cons (o := ⟨_, _, _, _, _, _⟩) rfl (fun K hK => ?_) AllReadyH.nil)
        refine step_append_lies _ rfl _ _ _ rfl (w1.heap.size + 1) 66 i0 _ 2 32 Try.underlying29 hi0 hz0 hz1 hz2 rfl (by decide) (.slice va k vc) k (flatN k G C F) rfl ((HRow_.out.kept (grown_of_below HB3.out none) (own_em _)).alloc _) ⟨w3.heap.size, 0, none⟩ 1 1 [.int .i64 (r : Int), .slice (some ⟨g, 0, none⟩) nq dd] rfl rfl (news_two _ _ _) (by simp [Value.oneCell']) (by decide) (by unfold maxLen; omega) (by omega) (by simp; omega) _ rfl ?_
        intro g4 cap4 w4 hown4 hgrow4 hat4 hlt4
        have HO4 : Hid (w4.heap[w1.heap.size]? = some (.cells #[.int .i64 (m : Int), .slice va k vc] 31 (0, 0))) := (hgrow4.block _ (by simp; omega) (fun e => by have h_ := (HRow_.out.lt w1.heap.size e.symm).1; omega)).trans ((Below.heap_alloc _ _ _ (by omega)).trans HO3b.out)
        have hfr4 : ∀ q, q < wi.heap.size → (Value.slice va k vc).ownBlock ≠ some q → w4.heap[q]? = wi.heap[q]? := fun q hq hn => by
          rw [hgrow4.block q (by simp; omega) (fun e => hn e.symm), Below.heap_alloc _ _ _ (by omega), HB3.out.block q (by omega)]
        have hS4 : (fun W => W.cell? ⟨w.heap.size, 0, none⟩ = some (.int .i64 (zn : Int)) ∧ W.cell? ⟨fb, 0, none⟩ = some (.int .i64 (r : Int)) ∧ W.cell? ⟨fb, 1, none⟩ = some (.slice (some ⟨bt, ot, none⟩) tm tc) ∧ W.cell? ⟨w.heap.size + 1, 0, none⟩ = some (.slice (some ⟨b3, o3, none⟩) m d)) w4 := ⟨(World.cell?_of_block (a := ⟨w.heap.size, 0, none⟩) (hfr4 w.heap.size (by omega) (fun e => by have h_ := (HRow_.out.lt _ e).1; omega))).trans jz, (World.cell?_of_block (a := ⟨fb, 0, none⟩) (hfr4 fb hfbl (fun e => by have h_ := HNfb.out _ e; omega))).trans j0, (World.cell?_of_block (a := ⟨fb, 1, none⟩) (hfr4 fb hfbl (fun e => by have h_ := HNfb.out _ e; omega))).trans j1, (World.cell?_of_block (a := ⟨w.heap.size + 1, 0, none⟩) (hfr4 (w.heap.size + 1) (by omega) (fun e => by have h_ := (HRow_.out.lt _ e).1; omega))).trans js⟩
        have HS4 : Hid (∀ (u : Value), (fun W => W.cell? ⟨w.heap.size, 0, none⟩ = some (.int .i64 (zn : Int)) ∧ W.cell? ⟨fb, 0, none⟩ = some (.int .i64 (r : Int)) ∧ W.cell? ⟨fb, 1, none⟩ = some (.slice (some ⟨bt, ot, none⟩) tm tc) ∧ W.cell? ⟨w.heap.size + 1, 0, none⟩ = some (.slice (some ⟨b3, o3, none⟩) m d)) (w4.setCell ⟨w1.heap.size, 1, none⟩ u)) := fun u => ⟨(World.cell?_setCell_other _ _ _ _ (fun e => (show w1.heap.size ≠ w.heap.size by omega) (congrArg Addr.block e))).trans hS4.1, (World.cell?_setCell_other _ _ _ _ (fun e => (show w1.heap.size ≠ fb by omega) (congrArg Addr.block e))).trans hS4.2.1, (World.cell?_setCell_other _ _ _ _ (fun e => (show w1.heap.size ≠ fb by omega) (congrArg Addr.block e))).trans hS4.2.2.1, (World.cell?_setCell_other _ _ _ _ (fun e => (show w1.heap.size ≠ w.heap.size + 1 by omega) (congrArg Addr.block e))).trans hS4.2.2.2⟩
        have HS4a := Lib.hid hS4
        have d14 := (box_cells HO4.out).2.1
        have f14 := (box_cells HO4.out).2.2 1
        have HOwn4 := Lib.hid hown4
        have HGrow4 := Lib.hid hgrow4
        clear hown4 hgrow4 hat4 hfr4 hS4
        refine hK.out _ _ ?_ (fun hHeld => ?_)
        · exact HS4a.out
        clear hK K
        (try simp only [Act.put, List.setIfInBounds_toArray, List.set_cons_zero, List.set_cons_succ])
        refine wpAnyH_take (i := 10) (oi := ⟨_, _, _, _, _, _⟩) (v := ?_) rfl (by kernel_rfl) (by kernel_rfl) (by kernel_rfl) (fun _ _ _ h => h) (Or.inl ⟨rfl, ?_⟩) (by assumption) ?_
        rotate_left 1
        · intro w_ hSw; (try dsimp only at hSw); go_simp; (try with_reducible rfl)
        (try simp only [Act.put, List.setIfInBounds_toArray, List.set_cons_zero, List.set_cons_succ])
        refine wpAnyH_ready (rs := [11]) (by kernel_rfl) (by simp) ?_
        refine (AllReadyH.cons (o := ⟨_, _, _, _, _, _⟩) rfl (fun K hK => ?_) AllReadyH.nil)
        go_simp
        refine hK.out _ _ ?_ (fun hHeld => ?_)
        · exact HS4.out _
        clear hK K
        (try simp only [Act.put, List.setIfInBounds_toArray, List.set_cons_zero, List.set_cons_succ])
        refine wpAnyH_done (by kernel_rfl) ?_ _
        refine NoPanic.normal ?_
        have HNew : Hid (Built (w4.setCell ⟨w1.heap.size, 1, none⟩ (.slice (some ⟨g4, 0, none⟩) (k + 1) cap4)) (w1.heap.size + 1) (.slice (some ⟨g4, 0, none⟩) (k + 1) cap4) (k + 1) F) :=
          (Built.push HT_.out HRow_.out HB3.out (by omega) HLn.out HO3.out HF.out HOwn4.out HGrow4.out).setFar (by show w1.heap.size < _; omega) _
        have HO5 := Lib.hid (box_set1 (v := .slice (some ⟨g4, 0, none⟩) (k + 1) cap4) HO4.out)
        have hz5 : w1.heap.size < w4.heap.size := by have := HGrow4.out.size; simp at this; omega
        have hfar : ∀ q, q < w1.heap.size → (w4.setCell ⟨w1.heap.size, 1, none⟩ (.slice (some ⟨g4, 0, none⟩) (k + 1) cap4)).heap[q]? = wi.heap[q]? := fun q hq => by
          rw [Below.heap_setCell _ _ _ _ (by show q ≠ w1.heap.size; omega), HGrow4.out.block q (by simp; omega) (fun e => by have h_ := (HRow_.out.lt q e.symm).1; omega), Below.heap_alloc _ _ _ (by omega), HB3.out.block q (by omega)]
        have HR5 : Hid ((w4.setCell ⟨w1.heap.size, 1, none⟩ (.slice (some ⟨g4, 0, none⟩) (k + 1) cap4)).heap[w.heap.size + 1 + 1]? = some (.cells #[.int .i64 0, .slice none 0 0] 31 (0, 0))) := (hfar _ (by omega)).trans HR2.out
        have dz5 : (w4.setCell ⟨w1.heap.size, 1, none⟩ (.slice (some ⟨g4, 0, none⟩) (k + 1) cap4)).cell? ⟨w.heap.size, 0, none⟩ = some (.int .i64 (zn : Int)) := (World.cell?_of_block (a := ⟨w.heap.size, 0, none⟩) (hfar w.heap.size (by omega))).trans jz
        have ds5 : (w4.setCell ⟨w1.heap.size, 1, none⟩ (.slice (some ⟨g4, 0, none⟩) (k + 1) cap4)).cell? ⟨w.heap.size + 1, 0, none⟩ = some (.slice (some ⟨b3, o3, none⟩) m d) := (World.cell?_of_block (a := ⟨w.heap.size + 1, 0, none⟩) (hfar (w.heap.size + 1) (by omega))).trans js
        have HB5 : Hid (Below w.heap.size w (w4.setCell ⟨w1.heap.size, 1, none⟩ (.slice (some ⟨g4, 0, none⟩) (k + 1) cap4))) :=
          (((HBr2.out.trans (HB3.out.mono hsz2)).alloc (by omega) _).grown HGrow4.out (by simp; omega) (fun q hq => by have h_ := (HRow_.out.lt q hq).1; omega)).setCell (by show _ ≤ w1.heap.size; omega) _
        have hz6 : w1.heap.size < (w4.setCell ⟨w1.heap.size, 1, none⟩ (.slice (some ⟨g4, 0, none⟩) (k + 1) cap4)).heap.size := by simpa [World.setCell] using hz5
        obtain ⟨w5, hw5⟩ : ∃ w5, w5 = w4.setCell ⟨w1.heap.size, 1, none⟩ (.slice (some ⟨g4, 0, none⟩) (k + 1) cap4) := ⟨_, rfl⟩
        rw [← hw5] at HNew HO5 HR5 dz5 ds5 HB5 hz6 ⊢
        clear hw5 hfar d14 f14 d13 d1 df1 j0 j1 jz js
        go_wp2_with fail
        go_roundw
        case rel => exact ⟨k + 1, _, by omega, by go_num, HNew, HO5, HR5, dz5, ds5, HB5, hz6⟩
        case measure => simp [intOf]; omega
      · go_simp
        go_at_call 61
        refine (HCp.out _ (below_drew _)).mono ?_
        rintro e w3 ⟨g, dd, rfl, ho, b3⟩
        have B3 : Below wi.heap.size wi w3 := below_then (below_drew _) b3
        have d13 : w3.cell? ⟨w1.heap.size, 1, none⟩ = some (.slice va k vc) := cell_b B3 d1
        have z3 : wi.heap.size ≤ w3.heap.size := B3.size
        have zO3 : w1.heap.size < w3.heap.size := (by omega)
        have HO3 := Lib.hid ho
        have HB3 := Lib.hid B3
        have HO3b : Hid (w3.heap[w1.heap.size]? = some (.cells #[.int .i64 (m : Int), .slice va k vc] 31 (0, 0))) := (B3.block _ hsr2).trans HO2.out
        clear ho b3 B3
        refine hK.out _ _ ?_ (fun hHeld => ?_)
        · exact HKq.out _ HB3.out
        clear hK K
        (try simp only [Act.put, List.setIfInBounds_toArray, List.set_cons_zero, List.set_cons_succ])
        refine wpAnyH_ready (rs := [1, 8]) (by kernel_rfl) (by simp) ?_
        refine (AllReadyH.cons (o := ⟨_, _, _, _, _, _⟩) rfl (fun K hK => ?_) (AllReadyH.cons (o := ⟨_, _, _, _, _, _⟩) rfl (fun K hK => ?_) AllReadyH.nil))
        · go_simp
          refine hK.out _ _ ?_ (fun hHeld => ?_)
          · exact HKq.out _ HB3.out
          clear hK K
          (try simp only [Act.put, List.setIfInBounds_toArray, List.set_cons_zero, List.set_cons_succ])
          refine wpAnyH_ready (rs := [8]) (by kernel_rfl) (by simp) ?_
          refine (AllReadyH.cons (o := ⟨_, _, _, _, _, _⟩) rfl (fun K hK => ?_) AllReadyH.nil)
          go_simp
          have HBB : Hid (Below wi.heap.size wi (w3.alloc (.cells #[.int .i64 (r : Int), .slice (some ⟨g, 0, none⟩) nq dd] 66))) := HB3.out.alloc z3 _
          have d1b : (w3.alloc (.cells #[.int .i64 (r : Int), .slice (some ⟨g, 0, none⟩) nq dd] 66)).cell? ⟨w1.heap.size, 1, none⟩ = some (.slice va k vc) := cell_b HBB.out d1
          refine hK.out _ _ ?_ (fun hHeld => ?_)
          · exact HKq.out _ HBB.out
          clear hK K
          (try simp only [Act.put, List.setIfInBounds_toArray, List.set_cons_zero, List.set_cons_succ])
          refine wpAnyH_ready (rs := [9]) (by kernel_rfl) (by simp) ?_
          refine (AllReadyH.cons (o := ⟨_, _, _, _, _, _⟩) rfl (fun K hK => ?_) AllReadyH.nil)
          refine step_append_lies _ rfl _ _ _ rfl (w1.heap.size + 1) 66 i0 _ 2 32 Try.underlying29 hi0 hz0 hz1 hz2 rfl (by decide) (.slice va k vc) k (flatN k G C F) rfl ((HRow_.out.kept (grown_of_below HB3.out none) (own_em _)).alloc _) ⟨w3.heap.size, 0, none⟩ 1 1 [.int .i64 (r : Int), .slice (some ⟨g, 0, none⟩) nq dd] rfl rfl (news_two _ _ _) (by simp [Value.oneCell']) (by decide) (by unfold maxLen; omega) (by omega) (by simp; omega) _ rfl ?_
          intro g4 cap4 w4 hown4 hgrow4 hat4 hlt4
          have HO4 : Hid (w4.heap[w1.heap.size]? = some (.cells #[.int .i64 (m : Int), .slice va k vc] 31 (0, 0))) := (hgrow4.block _ (by simp; omega) (fun e => by have h_ := (HRow_.out.lt w1.heap.size e.symm).1; omega)).trans ((Below.heap_alloc _ _ _ (by omega)).trans HO3b.out)
          have hfr4 : ∀ q, q < wi.heap.size → (Value.slice va k vc).ownBlock ≠ some q → w4.heap[q]? = wi.heap[q]? := fun q hq hn => by
            rw [hgrow4.block q (by simp; omega) (fun e => hn e.symm), Below.heap_alloc _ _ _ (by omega), HB3.out.block q (by omega)]
          have hS4 : (fun W => W.cell? ⟨w.heap.size, 0, none⟩ = some (.int .i64 (zn : Int)) ∧ W.cell? ⟨fb, 0, none⟩ = some (.int .i64 (r : Int)) ∧ W.cell? ⟨fb, 1, none⟩ = some (.slice (some ⟨bt, ot, none⟩) tm tc) ∧ W.cell? ⟨w.heap.size + 1, 0, none⟩ = some (.slice (some ⟨b3, o3, none⟩) m d)) w4 := ⟨(World.cell?_of_block (a := ⟨w.heap.size, 0, none⟩) (hfr4 w.heap.size (by omega) (fun e => by have h_ := (HRow_.out.lt _ e).1; omega))).trans jz, (World.cell?_of_block (a := ⟨fb, 0, none⟩) (hfr4 fb hfbl (fun e => by have h_ := HNfb.out _ e; omega))).trans j0, (World.cell?_of_block (a := ⟨fb, 1, none⟩) (hfr4 fb hfbl (fun e => by have h_ := HNfb.out _ e; omega))).trans j1, (World.cell?_of_block (a := ⟨w.heap.size + 1, 0, none⟩) (hfr4 (w.heap.size + 1) (by omega) (fun e => by have h_ := (HRow_.out.lt _ e).1; omega))).trans js⟩
          have HS4 : Hid (∀ (u : Value), (fun W => W.cell? ⟨w.heap.size, 0, none⟩ = some (.int .i64 (zn : Int)) ∧ W.cell? ⟨fb, 0, none⟩ = some (.int .i64 (r : Int)) ∧ W.cell? ⟨fb, 1, none⟩ = some (.slice (some ⟨bt, ot, none⟩) tm tc) ∧ W.cell? ⟨w.heap.size + 1, 0, none⟩ = some (.slice (some ⟨b3, o3, none⟩) m d)) (w4.setCell ⟨w1.heap.size, 1, none⟩ u)) := fun u => ⟨(World.cell?_setCell_other _ _ _ _ (fun e => (show w1.heap.size ≠ w.heap.size by omega) (congrArg Addr.block e))).trans hS4.1, (World.cell?_setCell_other _ _ _ _ (fun e => (show w1.heap.size ≠ fb by omega) (congrArg Addr.block e))).trans hS4.2.1, (World.cell?_setCell_other _ _ _ _ (fun e => (show w1.heap.size ≠ fb by omega) (congrArg Addr.block e))).trans hS4.2.2.1, (World.cell?_setCell_other _ _ _ _ (fun e => (show w1.heap.size ≠ w.heap.size + 1 by omega) (congrArg Addr.block e))).trans hS4.2.2.2⟩
          have HS4a := Lib.hid hS4
          have d14 := (box_cells HO4.out).2.1
          have f14 := (box_cells HO4.out).2.2 1
          have HOwn4 := Lib.hid hown4
          have HGrow4 := Lib.hid hgrow4
          clear hown4 hgrow4 hat4 hfr4 hS4
          refine hK.out _ _ ?_ (fun hHeld => ?_)
          · exact HS4a.out
          clear hK K
          (try simp only [Act.put, List.setIfInBounds_toArray, List.set_cons_zero, List.set_cons_succ])
          refine wpAnyH_take (i := 10) (oi := ⟨_, _, _, _, _, _⟩) (v := ?_) rfl (by kernel_rfl) (by kernel_rfl) (by kernel_rfl) (fun _ _ _ h => h) (Or.inl ⟨rfl, ?_⟩) (by assumption) ?_
          rotate_left 1
          · intro w_ hSw; (try dsimp only at hSw); go_simp; (try with_reducible rfl)
          (try simp only [Act.put, List.setIfInBounds_toArray, List.set_cons_zero, List.set_cons_succ])
          refine wpAnyH_ready (rs := [11]) (by kernel_rfl) (by simp) ?_
          refine (AllReadyH.cons (o := ⟨_, _, _, _, _, _⟩) rfl (fun K hK => ?_) AllReadyH.nil)
          go_simp
          refine hK.out _ _ ?_ (fun hHeld => ?_)
          · exact HS4.out _
          clear hK K
          (try simp only [Act.put, List.setIfInBounds_toArray, List.set_cons_zero, List.set_cons_succ])
          refine wpAnyH_done (by kernel_rfl) ?_ _
          refine NoPanic.normal ?_
          have HNew : Hid (Built (w4.setCell ⟨w1.heap.size, 1, none⟩ (.slice (some ⟨g4, 0, none⟩) (k + 1) cap4)) (w1.heap.size + 1) (.slice (some ⟨g4, 0, none⟩) (k + 1) cap4) (k + 1) F) :=
            (Built.push HT_.out HRow_.out HB3.out (by omega) HLn.out HO3.out HF.out HOwn4.out HGrow4.out).setFar (by show w1.heap.size < _; omega) _
          have HO5 := Lib.hid (box_set1 (v := .slice (some ⟨g4, 0, none⟩) (k + 1) cap4) HO4.out)
          have hz5 : w1.heap.size < w4.heap.size := by have := HGrow4.out.size; simp at this; omega
          have hfar : ∀ q, q < w1.heap.size → (w4.setCell ⟨w1.heap.size, 1, none⟩ (.slice (some ⟨g4, 0, none⟩) (k + 1) cap4)).heap[q]? = wi.heap[q]? := fun q hq => by
            rw [Below.heap_setCell _ _ _ _ (by show q ≠ w1.heap.size; omega), HGrow4.out.block q (by simp; omega) (fun e => by have h_ := (HRow_.out.lt q e.symm).1; omega), Below.heap_alloc _ _ _ (by omega), HB3.out.block q (by omega)]
          have HR5 : Hid ((w4.setCell ⟨w1.heap.size, 1, none⟩ (.slice (some ⟨g4, 0, none⟩) (k + 1) cap4)).heap[w.heap.size + 1 + 1]? = some (.cells #[.int .i64 0, .slice none 0 0] 31 (0, 0))) := (hfar _ (by omega)).trans HR2.out
          have dz5 : (w4.setCell ⟨w1.heap.size, 1, none⟩ (.slice (some ⟨g4, 0, none⟩) (k + 1) cap4)).cell? ⟨w.heap.size, 0, none⟩ = some (.int .i64 (zn : Int)) := (World.cell?_of_block (a := ⟨w.heap.size, 0, none⟩) (hfar w.heap.size (by omega))).trans jz
          have ds5 : (w4.setCell ⟨w1.heap.size, 1, none⟩ (.slice (some ⟨g4, 0, none⟩) (k + 1) cap4)).cell? ⟨w.heap.size + 1, 0, none⟩ = some (.slice (some ⟨b3, o3, none⟩) m d) := (World.cell?_of_block (a := ⟨w.heap.size + 1, 0, none⟩) (hfar (w.heap.size + 1) (by omega))).trans js
          have HB5 : Hid (Below w.heap.size w (w4.setCell ⟨w1.heap.size, 1, none⟩ (.slice (some ⟨g4, 0, none⟩) (k + 1) cap4))) :=
            (((HBr2.out.trans (HB3.out.mono hsz2)).alloc (by omega) _).grown HGrow4.out (by simp; omega) (fun q hq => by have h_ := (HRow_.out.lt q hq).1; omega)).setCell (by show _ ≤ w1.heap.size; omega) _
          have hz6 : w1.heap.size < (w4.setCell ⟨w1.heap.size, 1, none⟩ (.slice (some ⟨g4, 0, none⟩) (k + 1) cap4)).heap.size := by simpa [World.setCell] using hz5
          obtain ⟨w5, hw5⟩ : ∃ w5, w5 = w4.setCell ⟨w1.heap.size, 1, none⟩ (.slice (some ⟨g4, 0, none⟩) (k + 1) cap4) := ⟨_, rfl⟩
          rw [← hw5] at HNew HO5 HR5 dz5 ds5 HB5 hz6 ⊢
          clear hw5 hfar d14 f14 d13 d1 df1 j0 j1 jz js
          go_wp2_with fail
          go_roundw
          case rel => exact ⟨k + 1, _, by omega, by go_num, HNew, HO5, HR5, dz5, ds5, HB5, hz6⟩
          case measure => simp [intOf]; omega
        · go_simp
          have HBB : Hid (Below wi.heap.size wi (w3.alloc (.cells #[.int .i64 (r : Int), .slice (some ⟨g, 0, none⟩) nq dd] 66))) := HB3.out.alloc z3 _
          have d1b : (w3.alloc (.cells #[.int .i64 (r : Int), .slice (some ⟨g, 0, none⟩) nq dd] 66)).cell? ⟨w1.heap.size, 1, none⟩ = some (.slice va k vc) := cell_b HBB.out d1
          refine hK.out _ _ ?_ (fun hHeld => ?_)
          · exact HKq.out _ HBB.out
          clear hK K
          (try simp only [Act.put, List.setIfInBounds_toArray, List.set_cons_zero, List.set_cons_succ])
          refine wpAnyH_ready (rs := [1]) (by kernel_rfl) (by simp) ?_
          refine (AllReadyH.cons (o := ⟨_, _, _, _, _, _⟩) rfl (fun K hK => ?_) AllReadyH.nil)
          go_simp
          refine hK.out _ _ ?_ (fun hHeld => ?_)
          · exact HKq.out _ HBB.out
          clear hK K
          (try simp only [Act.put, List.setIfInBounds_toArray, List.set_cons_zero, List.set_cons_succ])
          refine wpAnyH_ready (rs := [9]) (by kernel_rfl) (by simp) ?_
          refine (AllReadyH.cons (o := ⟨_, _, _, _, _, _⟩) rfl (fun K hK => ?_) AllReadyH.nil)
          refine step_append_lies _ rfl _ _ _ rfl (w1.heap.size + 1) 66 i0 _ 2 32 Try.underlying29 hi0 hz0 hz1 hz2 rfl (by decide) (.slice va k vc) k (flatN k G C F) rfl ((HRow_.out.kept (grown_of_below HB3.out none) (own_em _)).alloc _) ⟨w3.heap.size, 0, none⟩ 1 1 [.int .i64 (r : Int), .slice (some ⟨g, 0, none⟩) nq dd] rfl rfl (news_two _ _ _) (by simp [Value.oneCell']) (by decide) (by unfold maxLen; omega) (by omega) (by simp; omega) _ rfl ?_
          intro g4 cap4 w4 hown4 hgrow4 hat4 hlt4
          have HO4 : Hid (w4.heap[w1.heap.size]? = some (.cells #[.int .i64 (m : Int), .slice va k vc] 31 (0, 0))) := (hgrow4.block _ (by simp; omega) (fun e => by have h_ := (HRow_.out.lt w1.heap.size e.symm).1; omega)).trans ((Below.heap_alloc _ _ _ (by omega)).trans HO3b.out)
          have hfr4 : ∀ q, q < wi.heap.size → (Value.slice va k vc).ownBlock ≠ some q → w4.heap[q]? = wi.heap[q]? := fun q hq hn => by
            rw [hgrow4.block q (by simp; omega) (fun e => hn e.symm), Below.heap_alloc _ _ _ (by omega), HB3.out.block q (by omega)]
          have hS4 : (fun W => W.cell? ⟨w.heap.size, 0, none⟩ = some (.int .i64 (zn : Int)) ∧ W.cell? ⟨fb, 0, none⟩ = some (.int .i64 (r : Int)) ∧ W.cell? ⟨fb, 1, none⟩ = some (.slice (some ⟨bt, ot, none⟩) tm tc) ∧ W.cell? ⟨w.heap.size + 1, 0, none⟩ = some (.slice (some ⟨b3, o3, none⟩) m d)) w4 := ⟨(World.cell?_of_block (a := ⟨w.heap.size, 0, none⟩) (hfr4 w.heap.size (by omega) (fun e => by have h_ := (HRow_.out.lt _ e).1; omega))).trans jz, (World.cell?_of_block (a := ⟨fb, 0, none⟩) (hfr4 fb hfbl (fun e => by have h_ := HNfb.out _ e; omega))).trans j0, (World.cell?_of_block (a := ⟨fb, 1, none⟩) (hfr4 fb hfbl (fun e => by have h_ := HNfb.out _ e; omega))).trans j1, (World.cell?_of_block (a := ⟨w.heap.size + 1, 0, none⟩) (hfr4 (w.heap.size + 1) (by omega) (fun e => by have h_ := (HRow_.out.lt _ e).1; omega))).trans js⟩
          have HS4 : Hid (∀ (u : Value), (fun W => W.cell? ⟨w.heap.size, 0, none⟩ = some (.int .i64 (zn : Int)) ∧ W.cell? ⟨fb, 0, none⟩ = some (.int .i64 (r : Int)) ∧ W.cell? ⟨fb, 1, none⟩ = some (.slice (some ⟨bt, ot, none⟩) tm tc) ∧ W.cell? ⟨w.heap.size + 1, 0, none⟩ = some (.slice (some ⟨b3, o3, none⟩) m d)) (w4.setCell ⟨w1.heap.size, 1, none⟩ u)) := fun u => ⟨(World.cell?_setCell_other _ _ _ _ (fun e => (show w1.heap.size ≠ w.heap.size by omega) (congrArg Addr.block e))).trans hS4.1, (World.cell?_setCell_other _ _ _ _ (fun e => (show w1.heap.size ≠ fb by omega) (congrArg Addr.block e))).trans hS4.2.1, (World.cell?_setCell_other _ _ _ _ (fun e => (show w1.heap.size ≠ fb by omega) (congrArg Addr.block e))).trans hS4.2.2.1, (World.cell?_setCell_other _ _ _ _ (fun e => (show w1.heap.size ≠ w.heap.size + 1 by omega) (congrArg Addr.block e))).trans hS4.2.2.2⟩
          have HS4a := Lib.hid hS4
          have d14 := (box_cells HO4.out).2.1
          have f14 := (box_cells HO4.out).2.2 1
          have HOwn4 := Lib.hid hown4
          have HGrow4 := Lib.hid hgrow4
          clear hown4 hgrow4 hat4 hfr4 hS4
          refine hK.out _ _ ?_ (fun hHeld => ?_)
          · exact HS4a.out
          clear hK K
          (try simp only [Act.put, List.setIfInBounds_toArray, List.set_cons_zero, List.set_cons_succ])
          refine wpAnyH_take (i := 10) (oi := ⟨_, _, _, _, _, _⟩) (v := ?_) rfl (by kernel_rfl) (by kernel_rfl) (by kernel_rfl) (fun _ _ _ h => h) (Or.inl ⟨rfl, ?_⟩) (by assumption) ?_
          rotate_left 1
          · intro w_ hSw; (try dsimp only at hSw); go_simp; (try with_reducible rfl)
          (try simp only [Act.put, List.setIfInBounds_toArray, List.set_cons_zero, List.set_cons_succ])
          refine wpAnyH_ready (rs := [11]) (by kernel_rfl) (by simp) ?_
          refine (AllReadyH.cons (o := ⟨_, _, _, _, _, _⟩) rfl (fun K hK => ?_) AllReadyH.nil)
          go_simp
          refine hK.out _ _ ?_ (fun hHeld => ?_)
          · exact HS4.out _
          clear hK K
          (try simp only [Act.put, List.setIfInBounds_toArray, List.set_cons_zero, List.set_cons_succ])
          refine wpAnyH_done (by kernel_rfl) ?_ _
          refine NoPanic.normal ?_
          have HNew : Hid (Built (w4.setCell ⟨w1.heap.size, 1, none⟩ (.slice (some ⟨g4, 0, none⟩) (k + 1) cap4)) (w1.heap.size + 1) (.slice (some ⟨g4, 0, none⟩) (k + 1) cap4) (k + 1) F) :=
            (Built.push HT_.out HRow_.out HB3.out (by omega) HLn.out HO3.out HF.out HOwn4.out HGrow4.out).setFar (by show w1.heap.size < _; omega) _
          have HO5 := Lib.hid (box_set1 (v := .slice (some ⟨g4, 0, none⟩) (k + 1) cap4) HO4.out)
          have hz5 : w1.heap.size < w4.heap.size := by have := HGrow4.out.size; simp at this; omega
          have hfar : ∀ q, q < w1.heap.size → (w4.setCell ⟨w1.heap.size, 1, none⟩ (.slice (some ⟨g4, 0, none⟩) (k + 1) cap4)).heap[q]? = wi.heap[q]? := fun q hq => by
            rw [Below.heap_setCell _ _ _ _ (by show q ≠ w1.heap.size; omega), HGrow4.out.block q (by simp; omega) (fun e => by have h_ := (HRow_.out.lt q e.symm).1; omega), Below.heap_alloc _ _ _ (by omega), HB3.out.block q (by omega)]
          have HR5 : Hid ((w4.setCell ⟨w1.heap.size, 1, none⟩ (.slice (some ⟨g4, 0, none⟩) (k + 1) cap4)).heap[w.heap.size + 1 + 1]? = some (.cells #[.int .i64 0, .slice none 0 0] 31 (0, 0))) := (hfar _ (by omega)).trans HR2.out
          have dz5 : (w4.setCell ⟨w1.heap.size, 1, none⟩ (.slice (some ⟨g4, 0, none⟩) (k + 1) cap4)).cell? ⟨w.heap.size, 0, none⟩ = some (.int .i64 (zn : Int)) := (World.cell?_of_block (a := ⟨w.heap.size, 0, none⟩) (hfar w.heap.size (by omega))).trans jz
          have ds5 : (w4.setCell ⟨w1.heap.size, 1, none⟩ (.slice (some ⟨g4, 0, none⟩) (k + 1) cap4)).cell? ⟨w.heap.size + 1, 0, none⟩ = some (.slice (some ⟨b3, o3, none⟩) m d) := (World.cell?_of_block (a := ⟨w.heap.size + 1, 0, none⟩) (hfar (w.heap.size + 1) (by omega))).trans js
          have HB5 : Hid (Below w.heap.size w (w4.setCell ⟨w1.heap.size, 1, none⟩ (.slice (some ⟨g4, 0, none⟩) (k + 1) cap4))) :=
            (((HBr2.out.trans (HB3.out.mono hsz2)).alloc (by omega) _).grown HGrow4.out (by simp; omega) (fun q hq => by have h_ := (HRow_.out.lt q hq).1; omega)).setCell (by show _ ≤ w1.heap.size; omega) _
          have hz6 : w1.heap.size < (w4.setCell ⟨w1.heap.size, 1, none⟩ (.slice (some ⟨g4, 0, none⟩) (k + 1) cap4)).heap.size := by simpa [World.setCell] using hz5
          obtain ⟨w5, hw5⟩ : ∃ w5, w5 = w4.setCell ⟨w1.heap.size, 1, none⟩ (.slice (some ⟨g4, 0, none⟩) (k + 1) cap4) := ⟨_, rfl⟩
          rw [← hw5] at HNew HO5 HR5 dz5 ds5 HB5 hz6 ⊢
          clear hw5 hfar d14 f14 d13 d1 df1 j0 j1 jz js
          go_wp2_with fail
          go_roundw
          case rel => exact ⟨k + 1, _, by omega, by go_num, HNew, HO5, HR5, dz5, ds5, HB5, hz6⟩
          case measure => simp [intOf]; omega
    · obtain rfl : k = n := by omega
      obtain ⟨_, hrow, _⟩ := HBu.out.row
      obtain ⟨va, vc, rfl⟩ := own_form hrow
      obtain ⟨d0, d1, _⟩ := box_cells HO.out
      obtain ⟨r0, r1, rf⟩ := box_cells HR.out
      obtain ⟨G, C, hops⟩ := HBu.out.ops (fs := fs.map (sbO (zn : Int) xs)) (fun j hj => (HFf.out j (by have := HV.out.1; omega)))
      have HOps := Lib.hid hops
      have HLen : Hid (k = (fs.map (sbO (zn : Int) xs)).length) := by unfold Hid; rw [List.length_map, HV.out.1]
      clear hrow hops
      go_wp2_with fail
      have hK : ∀ (v1 v2 : Value), Kept (w1.heap.size + 1) wr.heap.size wr ((wr.setCell ⟨w.heap.size + 1 + 1, 0, none⟩ v1).setCell ⟨w.heap.size + 1 + 1, 1, none⟩ v2) := by
        intro v1 v2 q h1 h2
        rw [Below.heap_setCell _ _ _ _ (by show q ≠ w.heap.size + 1 + 1; omega), Below.heap_setCell _ _ _ _ (by show q ≠ w.heap.size + 1 + 1; omega)]
      refine bodyPost_ret (v := .tuple #[.agg #[.int .i64 (m : Int), .slice va k vc], .bool true]) (by simp [results, Try.results26, go_sem, r0, r1]) rfl ⟨va, k, vc, G, C, rfl, HLen.out, ((HOps.out.kept (hK _ _)).lo_mono (by omega)).hi_mono (by simp [World.setCell]), (HBr.out.setCell (by show w.heap.size ≤ w.heap.size + 1 + 1; omega) _).setCell (by show w.heap.size ≤ w.heap.size + 1 + 1; omega) _⟩

theorem implSubalgebraOf (lo hi : Nat) (z : Int) (ao : Option Addr) (c n : Nat) (fs : List OpD) (lo2 hi2 : Nat) (bo : Option Addr) (d m : Nat) (xs : List Int) (w : World) (hv : OView w lo hi ao n fs) (hhi : hi ≤ w.heap.size) (hs : ∀ (j : Nat) (f : OpD), fs[j]? = some f → f.2.length ≤ maxLen)
    (hx : IView w lo2 hi2 bo m xs) (hhi2 : hi2 ≤ w.heap.size) (hm : m ≤ maxLen) :
    Calls Try.prog 26 #[.agg #[.int .i64 z, .slice ao n c], .slice bo m d] w fun e w' => ResA w w' (valSubalgebraOf z fs xs).1 (valSubalgebraOf z fs xs).2.1 (valSubalgebraOf z fs xs).2.2 e := by
  cases h : sbaB z fs xs with
  | true =>
    rw [show valSubalgebraOf z fs xs = ((xs.length : Int), fs.map (sbO z xs), true) by simp [valSubalgebraOf, h]]
    exact isba_yes lo hi z ao c n fs lo2 hi2 bo d m xs w hv hhi hs hx hhi2 hm h
  | false =>
    rw [show valSubalgebraOf z fs xs = (0, [], false) by simp [valSubalgebraOf, h]]
    refine (isba_no lo hi z ao c n fs lo2 hi2 bo d m xs w hv hhi hs hx hhi2 hm h).mono fun e w' ⟨he, hb⟩ => ?_
    exact ⟨none, 0, 0, fun _ => 0, fun _ => 0, he, rfl, OwnsOps.nil _ _ _ _ _ _, hb⟩

end Go.Proofs.Ytcmjkfcgekmomaa
