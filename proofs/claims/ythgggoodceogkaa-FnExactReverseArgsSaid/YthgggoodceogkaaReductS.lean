/-
  Contract: spec.ReductTo. Conditions: the bounds that each theorem names.
-/
import Derived.Test.YthgggoodceogkaaElems
import Derived.Test.YthgggoodceogkaaReductI
namespace Go.Proofs.Ythgggoodceogkaa
open Go.RowKit
set_option linter.unusedVariables false
set_option linter.unusedSimpArgs false

theorem sred_no (lo hi : Nat) (z : Int) (ao : Option Addr) (c n : Nat) (fs : List OpD) (lo2 hi2 : Nat) (bo : Option Addr) (d m : Nat) (xs : List Int) (w : World) (hv : OView w lo hi ao n fs) (hhi : hi ≤ w.heap.size) (hs : ∀ (j : Nat) (f : OpD), fs[j]? = some f → f.2.length ≤ maxLen)
    (hx : IView w lo2 hi2 bo m xs) (hhi2 : hi2 ≤ w.heap.size) (hm : m ≤ maxLen) (hno : redB z fs xs = false) :
    Calls Try.prog 38 #[.agg #[.int .i64 z, .slice ao n c], .slice bo m d] w fun e w' => e = .returned (.tuple #[.agg #[.int .i64 0, .slice none 0 0], .bool false]) ∧ Below w.heap.size w w' := by
  unfold maxLen at hm
  have hB := ((Below.refl w.heap.size w).alloc (Nat.le_refl _) (.cells #[.int .i64 z, .slice ao n c] 29)).alloc (by simp) (.cells #[.int .i64 0, .slice none 0 0] 29)
  have HB := Lib.hid hB
  have hG := good_any lo hi z ao c n fs _ (hv.kept (Kept.of_below hB hhi)) (Nat.le_trans hhi hB.size) hs
  obtain ⟨t, ht⟩ : ∃ t, algOkB z fs = t := ⟨_, rfl⟩
  rw [ht] at hG
  have HG := Lib.hid hG
  have hl := hv.1
  have hxl := hx.1
  cases t with
  | false =>
    clear hG hB hs hv ht hx hno hl hxl
    go_enter Try.func38, Try.ntmps38
    go_wp2_with fail
    refine HG.out.mono ?_
    rintro e w1 ⟨rfl, b1⟩
    obtain ⟨hcc, hff⟩ := bcell b1
    have HB1 := Lib.hid (HB.out.trans (b1.mono HB.out.size))
    clear b1
    go_wp2_with fail
    refine bodyPost_ret (v := .tuple #[.agg #[.int .i64 0, .slice none 0 0], .bool false]) (by simp [results, Try.results38, go_sem, hcc]) rfl ⟨rfl, (HB1.out.setCell (by show _ ≤ _; simp) _).setCell (by show _ ≤ _; simp) _⟩
  | true =>
    have hn4 : n ≤ 4 := by have := (algOkB_of ht).2.1; omega
    by_cases h4 : m ≤ 4
    · have hall : allIn (n : Int) xs = false := by
        rw [redB, ht, hl, hxl] at hno
        simpa [h4] using hno
      have hE := Lib.hid (fun (w1 : World) (hw : Below w.heap.size w w1) => elems_spec lo2 hi2 (n : Int) bo d m xs w1 (hx.kept (Kept.of_below hw hhi2)) (by omega) (by omega) (by unfold maxLen; omega))
      rw [hall] at hE
      clear hG hB hs hv ht hx hno hl hxl hall
      go_enter Try.func38, Try.ntmps38
      go_wp2_with fail
      refine HG.out.mono ?_
      rintro e w1 ⟨rfl, b1⟩
      obtain ⟨hcc, hff⟩ := bcell b1
      have HB1 := Lib.hid (HB.out.trans (b1.mono HB.out.size))
      clear b1
      go_wp2_with fail
      refine (hE.out _ HB1.out).mono ?_
      rintro e w2 ⟨rfl, rfl⟩
      go_wp2_with fail
      refine bodyPost_ret (v := .tuple #[.agg #[.int .i64 0, .slice none 0 0], .bool false]) (by simp [results, Try.results38, go_sem, hcc]) rfl ⟨rfl, (HB1.out.setCell (by show _ ≤ _; simp) _).setCell (by show _ ≤ _; simp) _⟩
    · clear hG hB hs hv ht hx hno hl hxl
      go_enter Try.func38, Try.ntmps38
      go_wp2_with fail
      refine HG.out.mono ?_
      rintro e w1 ⟨rfl, b1⟩
      obtain ⟨hcc, hff⟩ := bcell b1
      have HB1 := Lib.hid (HB.out.trans (b1.mono HB.out.size))
      clear b1
      go_wp2_with fail
      refine bodyPost_ret (v := .tuple #[.agg #[.int .i64 0, .slice none 0 0], .bool false]) (by simp [results, Try.results38, go_sem, hcc]) rfl ⟨rfl, (HB1.out.setCell (by show _ ≤ _; simp) _).setCell (by show _ ≤ _; simp) _⟩

set_option maxRecDepth 100000 in
set_option maxHeartbeats 4000000 in
theorem sred_yes (lo hi : Nat) (z : Int) (ao : Option Addr) (c n : Nat) (fs : List OpD) (lo2 hi2 : Nat) (bo : Option Addr) (d m : Nat) (xs : List Int) (w : World) (hv : OView w lo hi ao n fs) (hhi : hi ≤ w.heap.size) (hs : ∀ (j : Nat) (f : OpD), fs[j]? = some f → f.2.length ≤ maxLen)
    (hx : IView w lo2 hi2 bo m xs) (hhi2 : hi2 ≤ w.heap.size) (hyes : redB z fs xs = true) :
    Calls Try.prog 38 #[.agg #[.int .i64 z, .slice ao n c], .slice bo m d] w fun e w' => ResA w w' z (xs.map (opD fs)) true e := by
  obtain ⟨hok, hx4, hall⟩ := red_of hyes
  have hB := ((Below.refl w.heap.size w).alloc (Nat.le_refl _) (.cells #[.int .i64 z, .slice ao n c] 29)).alloc (by simp) (.cells #[.int .i64 0, .slice none 0 0] 29)
  have HB := Lib.hid hB
  have hG := good_any lo hi z ao c n fs _ (hv.kept (Kept.of_below hB hhi)) (Nat.le_trans hhi hB.size) hs
  rw [hok] at hG
  have HG := Lib.hid hG
  have hn4 : n ≤ 4 := by have := (algOkB_of hok).2.1; have := hv.1; omega
  have hm4 : m ≤ 4 := by have := hx.1; omega
  have hE := Lib.hid (fun (w1 : World) (hw : Below w.heap.size w w1) => elems_spec lo2 hi2 (n : Int) bo d m xs w1 (hx.kept (Kept.of_below hw hhi2)) (by omega) (by omega) (by unfold maxLen; omega))
  rw [← hv.1, hall, hv.1] at hE
  have HV := Lib.hid hv
  have HX := Lib.hid hx
  have HAll := Lib.hid hall
  have HOk := Lib.hid hok
  obtain ⟨i0, hi0, hz0, hz1, hz2⟩ := info_parts Try.infoOp
  unfold ResA
  clear hG hB hs hv hx hall hok hyes hx4
  go_enter Try.func38, Try.ntmps38
  go_wp2_with fail
  refine HG.out.mono ?_
  rintro e w1 ⟨rfl, b1⟩
  obtain ⟨hcc, hff⟩ := bcell b1
  have HB1 := Lib.hid (HB.out.trans (b1.mono HB.out.size))
  have hz : w.heap.size + 1 < w1.heap.size := by have := b1.size; simp at this; omega
  have hR1 : w1.heap[w.heap.size + 1]? = some (.cells #[.int .i64 0, .slice none 0 0] 29 (0, 0)) := by
    rw [b1.block _ (by simp)]
    have h := heap_alloc_new (w.alloc (.cells #[.int .i64 z, .slice ao n c] 29)) (.cells #[.int .i64 0, .slice none 0 0] 29)
    rw [World.size_alloc] at h
    exact h
  have HR1 := Lib.hid hR1
  clear b1 hR1
  go_wp2_with fail
  refine (hE.out _ HB1.out).mono ?_
  rintro e w2 ⟨rfl, rfl⟩
  have ca : w1.cell? ⟨w.heap.size, 1, none⟩ = some (.slice ao n c) := by rw [hcc _ _ (by simp; omega)]; go_simp
  have cz : w1.cell? ⟨w.heap.size, 0, none⟩ = some (.int .i64 z) := by rw [hcc _ _ (by simp; omega)]; go_simp
  clear hcc hff
  go_wp2_with fail
  have HB2 := Lib.hid (HB1.out.alloc HB1.out.size (.cells #[.int .i64 z, .slice none 0 0] 29))
  have hR2 : Hid ((w1.alloc (.cells #[.int .i64 z, .slice none 0 0] 29)).heap[w.heap.size + 1]? = some (.cells #[.int .i64 0, .slice none 0 0] 29 (0, 0))) := (Below.heap_alloc _ _ _ hz).trans HR1.out
  have hO2 : Hid ((w1.alloc (.cells #[.int .i64 z, .slice none 0 0] 29)).heap[w1.heap.size]? = some (.cells #[.int .i64 z, .slice none 0 0] 29 (0, 0))) := heap_alloc_new _ _
  have ca2 : (w1.alloc (.cells #[.int .i64 z, .slice none 0 0] 29)).cell? ⟨w.heap.size, 1, none⟩ = some (.slice ao n c) := (World.cell?_alloc_lt w1 _ ⟨w.heap.size, 1, none⟩ (by show w.heap.size < _; omega)).trans ca
  go_loopw [7] (fun i wr => ∃ (k : Nat) (v : Value), k ≤ m ∧ i = .int .i64 (k : Int) ∧ Hid (Built wr (w1.heap.size + 1) v k (fun j => opD fs (xs.getD j 0))) ∧ Hid (wr.heap[w1.heap.size]? = some (.cells #[.int .i64 z, v] 29 (0, 0))) ∧ Hid (wr.heap[w.heap.size + 1]? = some (.cells #[.int .i64 0, .slice none 0 0] 29 (0, 0))) ∧ wr.cell? ⟨w.heap.size, 1, none⟩ = some (.slice ao n c) ∧ Hid (Below w.heap.size w wr) ∧ w1.heap.size < wr.heap.size) (fun i _ => m - (intOf i).toNat)
  case atStart => exact ⟨0, _, Nat.zero_le _, rfl, Built.nil _ _ _, hO2, hR2, ca2, HB2, by simp⟩
  case round =>
    obtain ⟨k, v, hk, rfl, HBu, HO, HR, da, HBr, hsr⟩ := hrel
    clear cz ca ca2 hO2 hR2
    by_cases hlt : k < m
    · obtain ⟨b, o, rfl, _, _, hcx⟩ := HX.out.at_ (by omega)
      obtain ⟨x, hx⟩ := get_of_lt HX.out.1 hlt
      have ex : wr.cell? ⟨b, o + k, none⟩ = some (.int .i64 x) := cell_b HBr.out (hcx k x hx)
      obtain ⟨x0, x1⟩ := allIn_get HAll.out hx
      obtain ⟨q, rfl, hf, hmem⟩ := opD_mem x0 x1
      have hqn : q < n := by have := HV.out.1; omega
      obtain ⟨b2, o2, rfl, _, hb2, hc⟩ := HV.out.at_ (by omega)
      obtain ⟨a, tm, tc, c0, c1, htm, htc, hvt⟩ := hc q _ hf
      have e0 : wr.cell? ⟨b2, o2 + q * 2, none⟩ = some (.int .i64 (opD fs (q : Int)).1) := cell_b HBr.out c0
      have e1 : wr.cell? ⟨b2, o2 + q * 2 + 1, none⟩ = some (.slice a tm tc) := cell_b HBr.out c1
      have htl := table_le HOk.out hmem
      rw [hvt.1] at htl
      obtain ⟨d0, d1, df⟩ := box_cells HO.out
      obtain ⟨r, hr⟩ : ∃ r, (opD fs (q : Int)).1 = r := ⟨_, rfl⟩
      obtain ⟨ts, hts⟩ : ∃ ts, (opD fs (q : Int)).2 = ts := ⟨_, rfl⟩
      have HF : Hid (opD fs (xs.getD k 0) = (r, ts)) := by
        unfold Hid
        rw [getD_of hx, ← hr, ← hts]
      have hsz := HBr.out.size
      rw [hts] at hvt
      have hcp := fun (W : World) (hW : Below wr.heap.size wr W) => l2Copy_any lo hi r a tc tm ts W (hvt.kept (Kept.of_below (HBr.out.trans (hW.mono hsz)) hhi)) (by have := hW.size; omega) htl.1 (by omega)
      have HCp := Lib.hid hcp
      have HLen := Lib.hid hvt.1
      rw [hr] at e0
      have HD := Lib.hid (And.intro d0 df)
      have df1 := df 1
      obtain ⟨G, C, HTb, HRow⟩ := HBu.out
      obtain ⟨va, vc, hvv⟩ := own_form HRow
      have HT_ := Lib.hid HTb
      have HRow_ := Lib.hid HRow
      have hbd : Below wr.heap.size wr wr.drew := below_drew _
      clear hcx hx c0 c1 hc hvt hcp htc hf hmem hr hts d0 df HTb HRow htl
      subst hvv
      go_wp2_with fail
      go_region_law ((first | (refine step_append_lies _ rfl _ _ _ rfl (w1.heap.size + 1) 56 i0 _ 2 32 Try.underlying27 hi0 hz0 hz1 hz2 rfl (by decide) (.slice va k vc) k (flatN k G C (fun j => opD fs (xs.getD j 0))) rfl ((HRow_.out.kept (grown_of_below HB3.out none) (own_em _)).alloc _) ⟨w3.heap.size, 0, none⟩ 1 1 [.int .i64 r, .slice (some ⟨g, 0, none⟩) tm dd] rfl rfl (news_two _ _ _) (by simp [Value.oneCell']) (by decide) (by unfold maxLen; omega) (by omega) (by simp; omega) _ rfl ?_; intro g4 cap4 w4 hown4 hgrow4 hat4 hlt4; have HO4 : Hid (w4.heap[w1.heap.size]? = some (.cells #[.int .i64 z, .slice va k vc] 29 (0, 0))) := (hgrow4.block _ (by simp; omega) (fun e => by have h_ := (HRow_.out.lt w1.heap.size e.symm).1; omega)).trans ((Below.heap_alloc _ _ _ (by omega)).trans HO3b.out); have d14 := (box_cells HO4.out).2.1; have f14 := (box_cells HO4.out).2.2 1; have HOwn4 := Lib.hid hown4; have HGrow4 := Lib.hid hgrow4; clear hown4 hgrow4 hat4) | (go_simp; go_at_call 68; refine (HCp.out _ ?_).mono ?_; exact below_drew _; rintro e w3 ⟨g, dd, rfl, ho, b3⟩; have B3 : Below wr.heap.size wr w3 := below_then (below_drew _) b3; have d13 : w3.cell? ⟨w1.heap.size, 1, none⟩ = some (.slice va k vc) := cell_b B3 d1; have z3 : wr.heap.size ≤ w3.heap.size := B3.size; have zO3 : w1.heap.size < w3.heap.size := (by omega); have HO3 := Lib.hid ho; have HB3 := Lib.hid B3; have HO3b : Hid (w3.heap[w1.heap.size]? = some (.cells #[.int .i64 z, .slice va k vc] 29 (0, 0))) := (B3.block _ hsr).trans HO.out; clear ho b3 B3)))
      all_goals
        have HNew : Hid (Built (w4.setCell ⟨w1.heap.size, 1, none⟩ (.slice (some ⟨g4, 0, none⟩) (k + 1) cap4)) (w1.heap.size + 1) (.slice (some ⟨g4, 0, none⟩) (k + 1) cap4) (k + 1) (fun j => opD fs (xs.getD j 0))) :=
          (Built.push HT_.out HRow_.out HB3.out (by omega) HLen.out.symm HO3.out HF.out HOwn4.out HGrow4.out).setFar (by show w1.heap.size < _; omega) _
        have HO5 := Lib.hid (box_set1 (v := .slice (some ⟨g4, 0, none⟩) (k + 1) cap4) HO4.out)
        have hz5 : w1.heap.size < w4.heap.size := by have := HGrow4.out.size; simp at this; omega
        have hfar : ∀ q, q < w1.heap.size → (w4.setCell ⟨w1.heap.size, 1, none⟩ (.slice (some ⟨g4, 0, none⟩) (k + 1) cap4)).heap[q]? = wr.heap[q]? := fun q hq => by
          rw [Below.heap_setCell _ _ _ _ (by show q ≠ w1.heap.size; omega), HGrow4.out.block q (by simp; omega) (fun e => by have h_ := (HRow_.out.lt q e.symm).1; omega), Below.heap_alloc _ _ _ (by omega), HB3.out.block q (by omega)]
        have HR5 : Hid ((w4.setCell ⟨w1.heap.size, 1, none⟩ (.slice (some ⟨g4, 0, none⟩) (k + 1) cap4)).heap[w.heap.size + 1]? = some (.cells #[.int .i64 0, .slice none 0 0] 29 (0, 0))) := (hfar _ (by omega)).trans HR.out
        have da5 : (w4.setCell ⟨w1.heap.size, 1, none⟩ (.slice (some ⟨g4, 0, none⟩) (k + 1) cap4)).cell? ⟨w.heap.size, 1, none⟩ = some (.slice (some ⟨b2, o2, none⟩) n c) := (World.cell?_of_block (a := ⟨w.heap.size, 1, none⟩) (hfar w.heap.size (by omega))).trans da
        have HB5 : Hid (Below w.heap.size w (w4.setCell ⟨w1.heap.size, 1, none⟩ (.slice (some ⟨g4, 0, none⟩) (k + 1) cap4))) :=
          (((HBr.out.trans (HB3.out.mono hsz)).alloc (by omega) _).grown HGrow4.out (by simp; omega) (fun q hq => by have h_ := (HRow_.out.lt q hq).1; omega)).setCell (by show _ ≤ w1.heap.size; omega) _
        have hz6 : w1.heap.size < (w4.setCell ⟨w1.heap.size, 1, none⟩ (.slice (some ⟨g4, 0, none⟩) (k + 1) cap4)).heap.size := by simpa [World.setCell] using hz5
        obtain ⟨w5, hw5⟩ : ∃ w5, w5 = w4.setCell ⟨w1.heap.size, 1, none⟩ (.slice (some ⟨g4, 0, none⟩) (k + 1) cap4) := ⟨_, rfl⟩
        rw [← hw5] at HNew HO5 HR5 da5 HB5 hz6 ⊢
        clear hw5 hfar d14 f14 d13 d1 df1 e0 e1 ex
        go_wp2_with fail
        go_roundw
        case rel => exact ⟨k + 1, _, by omega, by go_num, HNew, HO5, HR5, da5, HB5, hz6⟩
        case measure => simp [intOf]; omega
    · obtain rfl : k = m := by omega
      obtain ⟨_, hrow, _⟩ := HBu.out.row
      obtain ⟨va, vc, rfl⟩ := own_form hrow
      obtain ⟨d0, d1, _⟩ := box_cells HO.out
      obtain ⟨r0, r1, rf⟩ := box_cells HR.out
      obtain ⟨G, C, hops⟩ := HBu.out.ops (fs := xs.map (opD fs)) (fun j hj => map_getD (by have := HX.out.1; omega))
      have HOps := Lib.hid hops
      have HLen : Hid (k = (xs.map (opD fs)).length) := by unfold Hid; rw [List.length_map, HX.out.1]
      clear hrow hops
      go_wp2_with fail
      have hK : ∀ (v1 v2 : Value), Kept (w1.heap.size + 1) wr.heap.size wr ((wr.setCell ⟨w.heap.size + 1, 0, none⟩ v1).setCell ⟨w.heap.size + 1, 1, none⟩ v2) := by
        intro v1 v2 q h1 h2
        rw [Below.heap_setCell _ _ _ _ (by show q ≠ w.heap.size + 1; omega), Below.heap_setCell _ _ _ _ (by show q ≠ w.heap.size + 1; omega)]
      refine bodyPost_ret (v := .tuple #[.agg #[.int .i64 z, .slice va k vc], .bool true]) (by simp [results, Try.results38, go_sem, r0, r1]) rfl ⟨va, k, vc, G, C, rfl, HLen.out, ((HOps.out.kept (hK _ _)).lo_mono (by omega)).hi_mono (by simp [World.setCell]), (HBr.out.setCell (by show _ ≤ _; simp) _).setCell (by show _ ≤ _; simp) _⟩

theorem specReductTo (lo hi : Nat) (z : Int) (ao : Option Addr) (c n : Nat) (fs : List OpD) (lo2 hi2 : Nat) (bo : Option Addr) (d m : Nat) (xs : List Int) (w : World) (hv : OView w lo hi ao n fs) (hhi : hi ≤ w.heap.size) (hs : ∀ (j : Nat) (f : OpD), fs[j]? = some f → f.2.length ≤ maxLen)
    (hx : IView w lo2 hi2 bo m xs) (hhi2 : hi2 ≤ w.heap.size) (hm : m ≤ maxLen) :
    Calls Try.prog 38 #[.agg #[.int .i64 z, .slice ao n c], .slice bo m d] w fun e w' => ResA w w' (valReductTo z fs xs).1 (valReductTo z fs xs).2.1 (valReductTo z fs xs).2.2 e := by
  cases h : redB z fs xs with
  | true =>
    rw [show valReductTo z fs xs = (z, xs.map (opD fs), true) by simp [valReductTo, h]]
    exact sred_yes lo hi z ao c n fs lo2 hi2 bo d m xs w hv hhi hs hx hhi2 h
  | false =>
    rw [show valReductTo z fs xs = (0, [], false) by simp [valReductTo, h]]
    refine (sred_no lo hi z ao c n fs lo2 hi2 bo d m xs w hv hhi hs hx hhi2 hm h).mono fun e w' ⟨he, hb⟩ => ?_
    exact ⟨none, 0, 0, fun _ => 0, fun _ => 0, he, rfl, OwnsOps.nil _ _ _ _ _ _, hb⟩

end Go.Proofs.Ythgggoodceogkaa
