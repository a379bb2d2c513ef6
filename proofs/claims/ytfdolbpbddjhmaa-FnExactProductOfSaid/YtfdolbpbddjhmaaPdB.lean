/-
  Contract: impl.ProductOf. Conditions: the bounds that it names.
-/
import Derived.Test.YtfdolbpbddjhmaaPdA
import Derived.Deep.AppendLies
import Derived.Deep.RegionLaw
namespace Go.Proofs.Ytfdolbpbddjhmaa
open Go.RowKit
set_option linter.unusedVariables false
set_option linter.unusedSimpArgs false

theorem Bx2.same {w w1 w2 : World} {z z1 : Int} {ao bo : Option Addr} {n c m d : Nat} (h : Bx2 w w1 z ao n c z1 bo m d) (b : Below w.heap.size w w2) (hs : ∀ q, q < w.heap.size + 2 → w2.heap[q]? = w1.heap[q]?) : Bx2 w w2 z ao n c z1 bo m d :=
  ⟨(World.cell?_of_block (a := ⟨w.heap.size, 0, none⟩) (hs w.heap.size (by omega))).trans h.z0, (World.cell?_of_block (a := ⟨w.heap.size, 1, none⟩) (hs w.heap.size (by omega))).trans h.a0,
    (World.cell?_of_block (a := ⟨w.heap.size + 1, 0, none⟩) (hs (w.heap.size + 1) (by omega))).trans h.z1, (World.cell?_of_block (a := ⟨w.heap.size + 1, 1, none⟩) (hs (w.heap.size + 1) (by omega))).trans h.a1, b⟩

/-- ProductOf's answer. -/
def prdB (z y : Int) (fs gs : List OpD) : Bool := sameH z y fs gs && decide (z * y ≤ 8)
def valProductOf (z : Int) (fs : List OpD) (y : Int) (gs : List OpD) : Int × List OpD × Bool := if prdB z y fs gs then (z * y, prdL z y fs gs, true) else (0, [], false)
theorem prdB_of {z y : Int} {fs gs : List OpD} (h : prdB z y fs gs = true) : sameH z y fs gs = true ∧ z * y ≤ 8 := by
  simpa [prdB] using h
theorem smallProductOf (z : Int) (fs : List OpD) (y : Int) (gs : List OpD) : (valProductOf z fs y gs).2.1.length + osum (valProductOf z fs y gs).2.1 ≤ 4194304 := by
  unfold valProductOf
  split
  · rename_i h
    obtain ⟨h1, h8⟩ := prdB_of h
    obtain ⟨a, b, e⟩ := sameH_of h1
    exact alg_small (prdL_ok a b e h8)
  · simp [osum]
theorem mul_bd {z y : Int} (h1 : 1 ≤ z) (h2 : z ≤ 8) (h3 : 1 ≤ y) (h4 : y ≤ 8) : 1 ≤ z * y ∧ z * y ≤ 64 := by
  have := Int.mul_le_mul h2 h4 (by omega) (by omega)
  exact ⟨mul_size h1 h3, by omega⟩

set_option maxHeartbeats 2000000 in
theorem iprd_no (lo hi : Nat) (z : Int) (ao : Option Addr) (c n : Nat) (fs : List OpD) (lo2 hi2 : Nat) (y : Int) (bo : Option Addr) (d m : Nat) (gs : List OpD) (w : World) (hv : OView w lo hi ao n fs) (hhi : hi ≤ w.heap.size) (hs : ∀ (j : Nat) (f : OpD), fs[j]? = some f → f.2.length ≤ maxLen) (hu : OView w lo2 hi2 bo m gs) (hhi2 : hi2 ≤ w.heap.size) (hs2 : ∀ (j : Nat) (f : OpD), gs[j]? = some f → f.2.length ≤ maxLen) (hno : prdB z y fs gs = false) :
    Calls Try.prog 18 #[.agg #[.int .i64 z, .slice ao n c], .agg #[.int .i64 y, .slice bo m d]] w fun e w' => e = .returned (.tuple #[.agg #[.int .i64 0, .slice none 0 0], .bool false]) ∧ Below w.heap.size w w' := by
  obtain ⟨wB, hwB, hbx, hszB⟩ := bx2_new w z ao n c y bo m d 28
  obtain ⟨wo, hwo⟩ : ∃ wo : World, wo = wB.alloc (.cells #[.int .i64 0, .slice none 0 0] 28) := ⟨_, rfl⟩
  have hbx' : Bx2 w wo z ao n c y bo m d := by rw [hwo]; exact hbx.below (below_alloc _ _)
  have hso : wo.heap.size = w.heap.size + 1 + 1 + 1 := by rw [hwo]; simp [hszB]
  have HRes : Hid (wo.heap[w.heap.size + 1 + 1]? = some (.cells #[.int .i64 0, .slice none 0 0] 28 (0, 0))) := by
    have h := heap_alloc_new wB (.cells #[.int .i64 0, .slice none 0 0] 28)
    rw [hszB] at h
    rw [hwo]; exact h
  have hC := fun (W : World) (hW : Bx2 w W z ao n c y bo m d) => implSameType lo hi z ao c n fs lo2 hi2 y bo d m gs W (hv.kept (Kept.of_below hW.bel hhi)) (Nat.le_trans hhi hW.bel.size) hs (hu.kept (Kept.of_below hW.bel hhi2)) (Nat.le_trans hhi2 hW.bel.size) hs2
  obtain ⟨cz, ca, cz1, ca1, cB⟩ := hbx'
  have HBx := Lib.hid (Bx2.mk cz ca cz1 ca1 cB)
  obtain ⟨t, ht⟩ : ∃ t, sameH z y fs gs = t := ⟨_, rfl⟩
  obtain ⟨t2, ht2⟩ : ∃ t, (valSameType z fs y gs).2 = t := ⟨_, rfl⟩
  have ht_ : (valSameType z fs y gs).1 = t := ht
  rw [ht_, ht2] at hC
  have HC := Lib.hid hC
  cases t with
  | false =>
    clear hv hs hu hs2 hbx hC cB ht ht2 ht_ hno hszB
    go_enter Try.func18, Try.ntmps18
    go_wp2_with fail
    rw [← hwB]
    rw [← hwo]
    clear hwo hwB
    go_wp2_with fail
    refine (HC.out _ HBx.out).mono ?_
    rintro e w1 ⟨rfl, b1⟩
    have HB1 := Lib.hid (HBx.out.below b1).bel
    obtain ⟨r0, r1, rf⟩ := box_cells ((b1.block _ (by omega)).trans HRes.out)
    clear b1 cz ca cz1 ca1
    go_wp2_with fail
    refine bodyPost_ret (v := .tuple #[.agg #[.int .i64 0, .slice none 0 0], .bool false]) (by simp [results, Try.results18, go_sem, r0, r1]) rfl ⟨rfl, (HB1.out.setCell (by show _ ≤ _; simp; omega) _).setCell (by show _ ≤ _; simp; omega) _⟩
  | true =>
    obtain ⟨hok, hok2, _⟩ := sameH_of ht
    obtain ⟨⟨z1, z8⟩, _, _⟩ := algOkB_of hok
    obtain ⟨⟨y1, y8⟩, _, _⟩ := algOkB_of hok2
    obtain ⟨p1, p64⟩ := mul_bd z1 z8 y1 y8
    have hbig : ¬ z * y ≤ 8 := by
      intro h
      rw [prdB, ht] at hno
      simp [h] at hno
    have HI := Lib.hid (fun (W : World) => isSize_any (z * y) W)
    rw [inB_no (by omega)] at HI
    clear hv hs hu hs2 hbx hC cB ht ht2 ht_ hno hszB hok hok2
    go_enter Try.func18, Try.ntmps18
    go_wp2_with fail
    rw [← hwB]
    rw [← hwo]
    clear hwo hwB
    go_wp2_with fail
    refine (HC.out _ HBx.out).mono ?_
    rintro e w1 ⟨rfl, b1⟩
    have HBx1 := Lib.hid (HBx.out.below b1)
    have HB1 := Lib.hid HBx1.out.bel
    clear cz ca cz1 ca1
    obtain ⟨cz, ca, cz1, ca1, cB⟩ := HBx1.out
    obtain ⟨r0, r1, rf⟩ := box_cells ((b1.block _ (by omega)).trans HRes.out)
    clear b1 cB
    go_wp2_with fail
    refine (HI.out _).mono ?_
    rintro e w2 ⟨rfl, rfl⟩
    go_wp2_with fail
    refine bodyPost_ret (v := .tuple #[.agg #[.int .i64 0, .slice none 0 0], .bool false]) (by simp [results, Try.results18, go_sem, r0, r1]) rfl ⟨rfl, (HB1.out.setCell (by show _ ≤ _; simp; omega) _).setCell (by show _ ≤ _; simp; omega) _⟩

set_option maxRecDepth 100000 in
set_option maxHeartbeats 8000000 in
theorem iprd_yes (lo hi : Nat) (z : Int) (ao : Option Addr) (c n : Nat) (fs : List OpD) (lo2 hi2 : Nat) (y : Int) (bo : Option Addr) (d m : Nat) (gs : List OpD) (w : World) (hv : OView w lo hi ao n fs) (hhi : hi ≤ w.heap.size) (hs : ∀ (j : Nat) (f : OpD), fs[j]? = some f → f.2.length ≤ maxLen) (hu : OView w lo2 hi2 bo m gs) (hhi2 : hi2 ≤ w.heap.size) (hs2 : ∀ (j : Nat) (f : OpD), gs[j]? = some f → f.2.length ≤ maxLen) (hyes : prdB z y fs gs = true) :
    Calls Try.prog 18 #[.agg #[.int .i64 z, .slice ao n c], .agg #[.int .i64 y, .slice bo m d]] w fun e w' => ResA w w' (z * y) (prdL z y fs gs) true e := by
  obtain ⟨hsm, h8⟩ := prdB_of hyes
  obtain ⟨hok, hok2, hty⟩ := sameH_of hsm
  obtain ⟨⟨z1, z8⟩, hn4_, hall⟩ := algOkB_of hok
  obtain ⟨⟨y1, y8⟩, hm4_, hall2⟩ := algOkB_of hok2
  have hp1 := mul_size z1 y1
  have hl1 := hv.1
  have hl2 := hu.1
  have hnm : n = m := by have := type_len hty; omega
  have hn4 : n ≤ 4 := by omega
  obtain ⟨wB, hwB, hbx, hszB⟩ := bx2_new w z ao n c y bo m d 28
  obtain ⟨wo, hwo⟩ : ∃ wo : World, wo = wB.alloc (.cells #[.int .i64 0, .slice none 0 0] 28) := ⟨_, rfl⟩
  have hbx' : Bx2 w wo z ao n c y bo m d := by rw [hwo]; exact hbx.below (below_alloc _ _)
  have hso : wo.heap.size = w.heap.size + 1 + 1 + 1 := by rw [hwo]; simp [hszB]
  have HRes : Hid (wo.heap[w.heap.size + 1 + 1]? = some (.cells #[.int .i64 0, .slice none 0 0] 28 (0, 0))) := by
    have h := heap_alloc_new wB (.cells #[.int .i64 0, .slice none 0 0] 28)
    rw [hszB] at h
    rw [hwo]; exact h
  have hC := fun (W : World) (hW : Bx2 w W z ao n c y bo m d) => implSameType lo hi z ao c n fs lo2 hi2 y bo d m gs W (hv.kept (Kept.of_below hW.bel hhi)) (Nat.le_trans hhi hW.bel.size) hs (hu.kept (Kept.of_below hW.bel hhi2)) (Nat.le_trans hhi2 hW.bel.size) hs2
  obtain ⟨cz, ca, cz1, ca1, cB⟩ := hbx'
  have HBx := Lib.hid (Bx2.mk cz ca cz1 ca1 cB)
  have ht_ : (valSameType z fs y gs).1 = true := hsm
  obtain ⟨t2, ht2⟩ : ∃ t, (valSameType z fs y gs).2 = t := ⟨_, rfl⟩
  rw [ht_, ht2] at hC
  have HC := Lib.hid hC
  have HI := Lib.hid (fun (W : World) => isSize_any (z * y) W)
  rw [inB_yes hp1 h8] at HI
  obtain ⟨F, hF⟩ : ∃ F : Nat → OpD, F = fun j => prO z y (fs.getD j (0, [])) (gs.getD j (0, [])) := ⟨_, rfl⟩
  have HFk := Lib.hid (fun (k : Nat) (f g : OpD) (hf : fs[k]? = some f) (hg : gs[k]? = some g) => show F k = prO z y f g by rw [hF]; dsimp only; rw [List.getD_eq_getElem?_getD, List.getD_eq_getElem?_getD, hf, hg]; rfl)
  have HFf := Lib.hid (fun (j : Nat) (hj : j < fs.length) => show F j = (prdL z y fs gs).getD j (0, []) by
    have hf : fs[j]? = some (fs[j]'hj) := List.getElem?_eq_getElem hj
    have hg : gs[j]? = some (gs[j]'(by have := type_len hty; omega)) := List.getElem?_eq_getElem _
    rw [HFk.out j _ _ hf hg, List.getD_eq_getElem?_getD, prdL_get hf hg]; rfl)
  have HV := Lib.hid hv
  have HU := Lib.hid hu
  have HAl := Lib.hid hall
  have HAl2 := Lib.hid hall2
  have HTy := Lib.hid hty
  have HLr := Lib.hid (prdL_len (z := z) (y := y) hty)
  obtain ⟨i0, hi0, hz0, hz1, hz2⟩ := info_parts Try.infoOp
  have HNM := Lib.hid hnm
  clear hv hs hu hs2 hbx hC cB ht2 ht_ hyes hszB hok hok2 hall hall2 hty hsm hF hn4_ hm4_ hl1 hl2 hnm
  go_enter Try.func18, Try.ntmps18
  go_wp2_with fail
  rw [← hwB]
  rw [← hwo]
  clear hwo hwB
  go_wp2_with fail
  refine (HC.out _ HBx.out).mono ?_
  rintro e w1 ⟨rfl, b1⟩
  have HBx1 := Lib.hid (HBx.out.below b1)
  have hz : w.heap.size + 1 + 1 < w1.heap.size := by have := b1.size; omega
  have HR1 := Lib.hid ((b1.block _ (by omega)).trans HRes.out)
  clear cz ca cz1 ca1
  obtain ⟨cz, ca, cz1, ca1, cB⟩ := HBx1.out
  clear b1 cB hso
  go_wp2_with fail
  refine (HI.out _).mono ?_
  rintro e w2 ⟨rfl, rfl⟩
  have HBx2 := Lib.hid (HBx1.out.below (below_alloc w1 (.cells #[.int .i64 (z * y), .slice none 0 0] 28)))
  have hR2 : Hid ((w1.alloc (.cells #[.int .i64 (z * y), .slice none 0 0] 28)).heap[w.heap.size + 1 + 1]? = some (.cells #[.int .i64 0, .slice none 0 0] 28 (0, 0))) := (Below.heap_alloc _ _ _ hz).trans HR1.out
  have hO2 : Hid ((w1.alloc (.cells #[.int .i64 (z * y), .slice none 0 0] 28)).heap[w1.heap.size]? = some (.cells #[.int .i64 (z * y), .slice none 0 0] 28 (0, 0))) := heap_alloc_new _ _
  have ca2 : (w1.alloc (.cells #[.int .i64 (z * y), .slice none 0 0] 28)).cell? ⟨w.heap.size, 1, none⟩ = some (.slice ao n c) := cell_b (below_alloc _ _) ca
  go_wp2_with fail
  go_loopw [9, 37] (fun s9 i wr => ∃ (k : Nat) (v : Value), k ≤ n ∧ i = .int .i64 (k : Int) ∧ Hid (Built wr (w1.heap.size + 1) v k F) ∧ Hid (wr.heap[w1.heap.size]? = some (.cells #[.int .i64 (z * y), v] 28 (0, 0))) ∧ Hid (wr.heap[w.heap.size + 1 + 1]? = some (.cells #[.int .i64 0, .slice none 0 0] 28 (0, 0))) ∧ Hid (Bx2 w wr z ao n c y bo m d) ∧ w1.heap.size < wr.heap.size) (fun _ i _ => n - (intOf i).toNat)
  case atStart => exact ⟨0, _, Nat.zero_le _, rfl, Built.nil _ _ _, hO2, hR2, HBx2, by simp⟩
  case round =>
    obtain ⟨k, v, hk, rfl, HBu, HO, HR, HBxr, hsr⟩ := hrel
    clear cz ca cz1 ca1 ca2 hO2 hR2
    by_cases hlt : k < n
    · obtain ⟨f, hf⟩ := get_of_lt HV.out.1 hlt
      obtain ⟨g, hg⟩ := get_of_lt HU.out.1 (show k < m by have := HNM.out; omega)
      have hfo := HAl.out f (List.mem_of_getElem? hf)
      have hgo := HAl2.out g (List.mem_of_getElem? hg)
      obtain ⟨r, hr⟩ : ∃ r : Nat, f.1 = (r : Int) := ⟨f.1.toNat, by have := (opOkB_of hfo).1; omega⟩
      have hr2 : g.1 = (r : Int) := by rw [← type_get HTy.out hf hg]; exact hr
      have hkn : (k : Int) < (n : Int) := by omega
      have hsz := HBxr.out.bel.size
      have HF : Hid (F k = ((r : Int), prT z y f g (prL (z * y) f))) := by unfold Hid; rw [HFk.out k f g hf hg, prO, hr]
      have HLn : Hid (prL (z * y) f = (prT z y f g (prL (z * y) f)).length) := by unfold Hid; rw [prT_len]
      have hcp := fun (W : World) (hW : Below w.heap.size w W) => prodOp_any lo hi z ao c n fs lo2 hi2 y bo d m gs k r f g W (HV.out.kept (Kept.of_below hW hhi)) (Nat.le_trans hhi hW.size) (HU.out.kept (Kept.of_below hW hhi2)) (Nat.le_trans hhi2 hW.size) hf hg hr hr2 z1 y1 z8 y8 h8 hfo hgo
      obtain ⟨T, hT⟩ : ∃ T, prT z y f g (prL (z * y) f) = T := ⟨_, rfl⟩
      rw [hT] at HF HLn
      simp only [hT] at hcp
      obtain ⟨nq, hnq⟩ : ∃ nq, prL (z * y) f = nq := ⟨_, rfl⟩
      rw [hnq] at HLn
      simp only [hnq] at hcp
      have HCq := Lib.hid hcp
      obtain ⟨G, C, HTb, HRow⟩ := HBu.out
      obtain ⟨va, vc, hvv⟩ := own_form HRow
      have HT_ := Lib.hid HTb
      have HRow_ := Lib.hid HRow
      clear hf hg hfo hgo hcp hT hnq HTb HRow hr hr2
      subst hvv
      obtain ⟨d0, d1, df⟩ := box_cells HO.out
      have df1 := df 1
      obtain ⟨cz, ca, cz1, ca1, cB⟩ := HBxr.out
      have HCp := Lib.hid (fun (W : World) (hW : Below wr.heap.size wr W) => HCq.out W (HBxr.out.bel.trans (hW.mono hsz)))
      have hbd : Below wr.heap.size wr wr.drew := below_drew _
      clear d0 df HCq cB
      go_wp2_with fail
      go_region_law ((first | (refine step_append_lies _ rfl _ _ _ rfl (w1.heap.size + 1) 64 i0 _ 2 32 Try.underlying26 hi0 hz0 hz1 hz2 rfl (by decide) (.slice va k vc) k (flatN k G C F) rfl ((HRow_.out.kept (grown_of_below HB3.out none) (own_em _)).alloc _) ⟨w3.heap.size, 0, none⟩ 1 1 [.int .i64 (r : Int), .slice (some ⟨g, 0, none⟩) nq dd] rfl rfl (news_two _ _ _) (by simp [Value.oneCell']) (by decide) (by unfold maxLen; omega) (by omega) (by simp; omega) _ rfl ?_; intro g4 cap4 w4 hown4 hgrow4 hat4 hlt4; have HO4 : Hid (w4.heap[w1.heap.size]? = some (.cells #[.int .i64 (z * y), .slice va k vc] 28 (0, 0))) := (hgrow4.block _ (by simp; omega) (fun e => by have h_ := (HRow_.out.lt w1.heap.size e.symm).1; omega)).trans ((Below.heap_alloc _ _ _ (by omega)).trans HO3b.out); have d14 := (box_cells HO4.out).2.1; have f14 := (box_cells HO4.out).2.2 1; have HOwn4 := Lib.hid hown4; have HGrow4 := Lib.hid hgrow4; clear hown4 hgrow4 hat4) | (go_simp; go_at_call 58; refine (HCp.out _ ?_).mono ?_; exact below_drew _; rintro e w3 ⟨g, dd, rfl, ho, b3⟩; have B3 : Below wr.heap.size wr w3 := below_then (below_drew _) b3; have d13 : w3.cell? ⟨w1.heap.size, 1, none⟩ = some (.slice va k vc) := cell_b B3 d1; have z3 : wr.heap.size ≤ w3.heap.size := B3.size; have zO3 : w1.heap.size < w3.heap.size := (by omega); have HO3 := Lib.hid ho; have HB3 := Lib.hid B3; have HO3b : Hid (w3.heap[w1.heap.size]? = some (.cells #[.int .i64 (z * y), .slice va k vc] 28 (0, 0))) := (B3.block _ hsr).trans HO.out; clear ho b3 B3)))
      all_goals
        have HNew : Hid (Built (w4.setCell ⟨w1.heap.size, 1, none⟩ (.slice (some ⟨g4, 0, none⟩) (k + 1) cap4)) (w1.heap.size + 1) (.slice (some ⟨g4, 0, none⟩) (k + 1) cap4) (k + 1) F) :=
          (Built.push HT_.out HRow_.out HB3.out (by omega) HLn.out HO3.out HF.out HOwn4.out HGrow4.out).setFar (by show w1.heap.size < _; omega) _
        have HO5 := Lib.hid (box_set1 (v := .slice (some ⟨g4, 0, none⟩) (k + 1) cap4) HO4.out)
        have hz5 : w1.heap.size < w4.heap.size := by have := HGrow4.out.size; simp at this; omega
        have hfar : ∀ q, q < w1.heap.size → (w4.setCell ⟨w1.heap.size, 1, none⟩ (.slice (some ⟨g4, 0, none⟩) (k + 1) cap4)).heap[q]? = wr.heap[q]? := fun q hq => by
          rw [Below.heap_setCell _ _ _ _ (by show q ≠ w1.heap.size; omega), HGrow4.out.block q (by simp; omega) (fun e => by have h_ := (HRow_.out.lt q e.symm).1; omega), Below.heap_alloc _ _ _ (by omega), HB3.out.block q (by omega)]
        have HR5 : Hid ((w4.setCell ⟨w1.heap.size, 1, none⟩ (.slice (some ⟨g4, 0, none⟩) (k + 1) cap4)).heap[w.heap.size + 1 + 1]? = some (.cells #[.int .i64 0, .slice none 0 0] 28 (0, 0))) := (hfar _ (by omega)).trans HR.out
        have HBx5 : Hid (Bx2 w (w4.setCell ⟨w1.heap.size, 1, none⟩ (.slice (some ⟨g4, 0, none⟩) (k + 1) cap4)) z ao n c y bo m d) :=
          HBxr.out.same ((((HBxr.out.bel.trans (HB3.out.mono hsz)).alloc (by omega) _).grown HGrow4.out (by simp; omega) (fun q hq => by have h_ := (HRow_.out.lt q hq).1; omega)).setCell (by show _ ≤ w1.heap.size; omega) _) (fun q hq => hfar q (by omega))
        have hz6 : w1.heap.size < (w4.setCell ⟨w1.heap.size, 1, none⟩ (.slice (some ⟨g4, 0, none⟩) (k + 1) cap4)).heap.size := by simpa [World.setCell] using hz5
        obtain ⟨w5, hw5⟩ : ∃ w5, w5 = w4.setCell ⟨w1.heap.size, 1, none⟩ (.slice (some ⟨g4, 0, none⟩) (k + 1) cap4) := ⟨_, rfl⟩
        rw [← hw5] at HNew HO5 HR5 HBx5 hz6 ⊢
        clear hw5 hfar d14 f14 d13 d1 df1
        go_wp2_with fail
        go_roundw
        case rel => exact ⟨k + 1, _, by omega, by go_num, HNew, HO5, HR5, HBx5, hz6⟩
        case measure => simp [intOf]; omega
    · obtain rfl : k = n := by omega
      obtain ⟨_, hrow, _⟩ := HBu.out.row
      obtain ⟨va, vc, rfl⟩ := own_form hrow
      obtain ⟨d0, d1, _⟩ := box_cells HO.out
      obtain ⟨r0, r1, rf⟩ := box_cells HR.out
      obtain ⟨G, C, hops⟩ := HBu.out.ops (fs := prdL z y fs gs) (fun j hj => (HFf.out j (by have := HV.out.1; omega)))
      have HOps := Lib.hid hops
      have HLen : Hid (k = (prdL z y fs gs).length) := by unfold Hid; rw [HLr.out, HV.out.1]
      have hkn : ¬ (k : Int) < (k : Int) := by omega
      clear hrow hops
      go_wp2_with fail
      have hK : ∀ (v1 v2 : Value), Kept (w1.heap.size + 1) wr.heap.size wr ((wr.setCell ⟨w.heap.size + 1 + 1, 0, none⟩ v1).setCell ⟨w.heap.size + 1 + 1, 1, none⟩ v2) := by
        intro v1 v2 q h1 h2
        rw [Below.heap_setCell _ _ _ _ (by show q ≠ w.heap.size + 1 + 1; omega), Below.heap_setCell _ _ _ _ (by show q ≠ w.heap.size + 1 + 1; omega)]
      refine bodyPost_ret (v := .tuple #[.agg #[.int .i64 (z * y), .slice va k vc], .bool true]) (by simp [results, Try.results18, go_sem, r0, r1]) rfl (by unfold ResA; exact ⟨va, k, vc, G, C, rfl, HLen.out, ((HOps.out.kept (hK _ _)).lo_mono (by omega)).hi_mono (by simp [World.setCell]), (HBxr.out.bel.setCell (by show _ ≤ _; simp; omega) _).setCell (by show _ ≤ _; simp; omega) _⟩)

theorem implProductOf (lo hi : Nat) (z : Int) (ao : Option Addr) (c n : Nat) (fs : List OpD) (lo2 hi2 : Nat) (y : Int) (bo : Option Addr) (d m : Nat) (gs : List OpD) (w : World) (hv : OView w lo hi ao n fs) (hhi : hi ≤ w.heap.size) (hs : ∀ (j : Nat) (f : OpD), fs[j]? = some f → f.2.length ≤ maxLen) (hu : OView w lo2 hi2 bo m gs) (hhi2 : hi2 ≤ w.heap.size) (hs2 : ∀ (j : Nat) (f : OpD), gs[j]? = some f → f.2.length ≤ maxLen) :
    Calls Try.prog 18 #[.agg #[.int .i64 z, .slice ao n c], .agg #[.int .i64 y, .slice bo m d]] w fun e w' => ResA w w' (valProductOf z fs y gs).1 (valProductOf z fs y gs).2.1 (valProductOf z fs y gs).2.2 e := by
  cases h : prdB z y fs gs with
  | true =>
    rw [show valProductOf z fs y gs = (z * y, prdL z y fs gs, true) by simp [valProductOf, h]]
    exact iprd_yes lo hi z ao c n fs lo2 hi2 y bo d m gs w hv hhi hs hu hhi2 hs2 h
  | false =>
    rw [show valProductOf z fs y gs = (0, [], false) by simp [valProductOf, h]]
    refine (iprd_no lo hi z ao c n fs lo2 hi2 y bo d m gs w hv hhi hs hu hhi2 hs2 h).mono fun e w' ⟨he, hb⟩ => ?_
    exact ⟨none, 0, 0, fun _ => 0, fun _ => 0, he, rfl, OwnsOps.nil _ _ _ _ _ _, hb⟩

end Go.Proofs.Ytfdolbpbddjhmaa
