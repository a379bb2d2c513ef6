/-
  Contracts: impl.copyAlgebra and spec.l2Own: a copy of an algebra in memory of the call's own. Conditions: the bounds that each theorem names.
-/
import Derived.Test.YthgggoodceogkaaReductS
import Derived.Deep.DrawnRows
namespace Go.Proofs.Ythgggoodceogkaa
open Go.RowKit
set_option linter.unusedVariables false
set_option linter.unusedSimpArgs false
attribute [local go_sem ↓] Go.wp_at_zero Go.wp_at_succ

/-- An algebra, as a result in memory of the call's own. -/
def ResB (w w' : World) (z : Int) (fs : List OpD) (e : Ending) : Prop :=
  ∃ ao n c G C, e = .returned (.agg #[.int .i64 z, .slice ao n c]) ∧ n = fs.length ∧ OwnsOps w' w.heap.size w'.heap.size (.slice ao n c) n G C (fun j => fs.getD j (0, [])) ∧ Below w.heap.size w w'

theorem getD_op {fs : List OpD} {k : Nat} {f : OpD} (h : fs[k]? = some f) : fs.getD k (0, []) = f := by rw [List.getD_eq_getElem?_getD, h]; rfl

set_option maxRecDepth 100000 in
set_option maxHeartbeats 4000000 in
theorem copyAlg_any (lo hi : Nat) (z : Int) (ao : Option Addr) (c n : Nat) (fs : List OpD) (w : World) (hv : OView w lo hi ao n fs) (hhi : hi ≤ w.heap.size) (hn4 : n ≤ 4) (hs : ∀ (j : Nat) (f : OpD), fs[j]? = some f → 1 ≤ f.2.length ∧ f.2.length ≤ 512) :
    Calls Try.prog 74 #[.agg #[.int .i64 z, .slice ao n c]] w fun e w' => ResB w w' z fs e := by
  have HV := Lib.hid hv
  have HS := Lib.hid hs
  obtain ⟨i0, hi0, hz0, hz1, hz2⟩ := info_parts Try.infoOp
  have hB := (((Below.refl w.heap.size w).alloc (Nat.le_refl _) (.cells #[.int .i64 z, .slice ao n c] 29)).alloc (by simp) (.cells #[.int .i64 0, .slice none 0 0] 29)).alloc (by simp; omega) (.cells #[.int .i64 z, .slice none 0 0] 29)
  have HB2 := Lib.hid hB
  unfold ResB
  clear hv hs hB
  go_enter Try.func74, Try.ntmps74
  go_wp2_with fail
  have hR2 : Hid ((((w.alloc (.cells #[.int .i64 z, .slice ao n c] 29)).alloc (.cells #[.int .i64 0, .slice none 0 0] 29)).alloc (.cells #[.int .i64 z, .slice none 0 0] 29)).heap[w.heap.size + 1]? = some (.cells #[.int .i64 0, .slice none 0 0] 29 (0, 0))) := by
    unfold Hid
    rw [Below.heap_alloc _ _ _ (by simp)]
    have h := heap_alloc_new (w.alloc (.cells #[.int .i64 z, .slice ao n c] 29)) (.cells #[.int .i64 0, .slice none 0 0] 29)
    rw [World.size_alloc] at h
    exact h
  have hO2 : Hid ((((w.alloc (.cells #[.int .i64 z, .slice ao n c] 29)).alloc (.cells #[.int .i64 0, .slice none 0 0] 29)).alloc (.cells #[.int .i64 z, .slice none 0 0] 29)).heap[w.heap.size + 1 + 1]? = some (.cells #[.int .i64 z, .slice none 0 0] 29 (0, 0))) := by
    have h := heap_alloc_new ((w.alloc (.cells #[.int .i64 z, .slice ao n c] 29)).alloc (.cells #[.int .i64 0, .slice none 0 0] 29)) (.cells #[.int .i64 z, .slice none 0 0] 29)
    rw [World.size_alloc, World.size_alloc] at h
    exact h
  have ca2 : (((w.alloc (.cells #[.int .i64 z, .slice ao n c] 29)).alloc (.cells #[.int .i64 0, .slice none 0 0] 29)).alloc (.cells #[.int .i64 z, .slice none 0 0] 29)).cell? ⟨w.heap.size, 1, none⟩ = some (.slice ao n c) := by go_simp
  go_loopw [5, 12] (fun s5 i wr => ∃ (k : Nat) (v : Value), k ≤ n ∧ i = .int .i64 (k : Int) ∧ Hid (Built wr (w.heap.size + 1 + 1 + 1) v k (fun j => fs.getD j (0, []))) ∧ Hid (wr.heap[w.heap.size + 1 + 1]? = some (.cells #[.int .i64 z, v] 29 (0, 0))) ∧ Hid (wr.heap[w.heap.size + 1]? = some (.cells #[.int .i64 0, .slice none 0 0] 29 (0, 0))) ∧ wr.cell? ⟨w.heap.size, 1, none⟩ = some (.slice ao n c) ∧ Hid (Below w.heap.size w wr) ∧ w.heap.size + 1 + 1 < wr.heap.size) (fun _ i _ => n - (intOf i).toNat)
  case atStart => exact ⟨0, _, Nat.zero_le _, rfl, Built.nil _ _ _, hO2, hR2, ca2, HB2, by simp⟩
  case round =>
    obtain ⟨k, v, hk, rfl, HBu, HO, HR, da, HBr, hsr⟩ := hrel
    clear ca2 hO2 hR2
    by_cases hlt : k < n
    · obtain ⟨b2, o2, rfl, _, hb2, hc⟩ := HV.out.at_ (by omega)
      obtain ⟨f, hf⟩ := get_of_lt HV.out.1 hlt
      obtain ⟨a, tm, tc, c0, c1, htm, htc, hvt⟩ := hc k f hf
      have htl := HS.out k f hf
      rw [hvt.1] at htl
      have e0 : wr.cell? ⟨b2, o2 + k * 2, none⟩ = some (.int .i64 f.1) := cell_b HBr.out c0
      have e1 : wr.cell? ⟨b2, o2 + k * 2 + 1, none⟩ = some (.slice a tm tc) := cell_b HBr.out c1
      obtain ⟨r, hr⟩ : ∃ r, f.1 = r := ⟨_, rfl⟩
      obtain ⟨ts, hts⟩ : ∃ ts, f.2 = ts := ⟨_, rfl⟩
      have HF : Hid (fs.getD k (0, []) = (r, ts)) := by
        unfold Hid
        rw [getD_op hf, ← hr, ← hts]
      rw [hts] at hvt
      rw [hr] at e0
      have HLen := Lib.hid hvt.1
      have HVT := Lib.hid hvt
      clear c0 c1 hc hvt hf hr hts
      go_wp2_with fail
      have HBu' : Hid (Built (wr.alloc (.cells #[.int .i64 r, .slice a tm tc] 56)) (w.heap.size + 1 + 1 + 1) v k (fun j => fs.getD j (0, []))) := HBu.out.below (below_alloc _ _)
      have HO' : Hid ((wr.alloc (.cells #[.int .i64 r, .slice a tm tc] 56)).heap[w.heap.size + 1 + 1]? = some (.cells #[.int .i64 z, v] 29 (0, 0))) := (Below.heap_alloc _ _ _ hsr).trans HO.out
      have HR' : Hid ((wr.alloc (.cells #[.int .i64 r, .slice a tm tc] 56)).heap[w.heap.size + 1]? = some (.cells #[.int .i64 0, .slice none 0 0] 29 (0, 0))) := (Below.heap_alloc _ _ _ (by omega)).trans HR.out
      have da' : (wr.alloc (.cells #[.int .i64 r, .slice a tm tc] 56)).cell? ⟨w.heap.size, 1, none⟩ = some (.slice (some ⟨b2, o2, none⟩) n c) := cell_b (below_alloc _ _) da
      have HBr' := Lib.hid (HBr.out.alloc HBr.out.size (.cells #[.int .i64 r, .slice a tm tc] 56))
      have hsr' : w.heap.size + 1 + 1 < (wr.alloc (.cells #[.int .i64 r, .slice a tm tc] 56)).heap.size := by simp; omega
      have x0 : (wr.alloc (.cells #[.int .i64 r, .slice a tm tc] 56)).cell? ⟨wr.heap.size, 0, none⟩ = some (.int .i64 r) := by simp
      have x1 : (wr.alloc (.cells #[.int .i64 r, .slice a tm tc] 56)).cell? ⟨wr.heap.size, 1, none⟩ = some (.slice a tm tc) := by simp
      obtain ⟨wp, hwp⟩ : ∃ wp : Nat, wp = wr.heap.size := ⟨_, rfl⟩
      rw [← hwp] at x0 x1 ⊢
      obtain ⟨wa, hwa⟩ : ∃ wa, wa = wr.alloc (.cells #[.int .i64 r, .slice a tm tc] 56) := ⟨_, rfl⟩
      rw [← hwa] at HBu' HO' HR' da' HBr' hsr' x0 x1 ⊢
      clear hwa hwp HBu HO HR da HBr hsr e0 e1 wr
      obtain ⟨wr, hwr⟩ : ∃ x : World, x = wa := ⟨_, rfl⟩
      subst hwr
      have HBu := HBu'
      have HO := HO'
      have HR := HR'
      have da := da'
      have HBr := HBr'
      have hsr := hsr'
      clear HBu' HO' HR' da' HBr' hsr' 
      obtain ⟨d0, d1, df⟩ := box_cells HO.out
      have hsz := HBr.out.size
      have hcp := fun (W : World) (hW : Below wr.heap.size wr W) => copyOp_any lo hi r a tc tm ts W (HVT.out.kept (Kept.of_below (HBr.out.trans (hW.mono hsz)) hhi)) (by have := hW.size; omega) htl.1 (by omega)
      have HCp := Lib.hid hcp
      have HD := Lib.hid (And.intro d0 df)
      have df1 := df 1
      obtain ⟨G, C, HTb, HRow⟩ := HBu.out
      obtain ⟨va, vc, hvv⟩ := own_form HRow
      have HT_ := Lib.hid HTb
      have HRow_ := Lib.hid HRow
      have hbd : Below wr.heap.size wr wr.drew := below_drew _
      clear hcp d0 df HTb HRow htl
      subst hvv
      skip
      go_region_law ((first | (refine step_append_lies _ rfl _ _ _ rfl (w.heap.size + 1 + 1 + 1) 56 i0 _ 2 32 Try.underlying27 hi0 hz0 hz1 hz2 rfl (by decide) (.slice va k vc) k (flatN k G C (fun j => fs.getD j (0, []))) rfl ((HRow_.out.kept (grown_of_below HB3.out none) (own_em _)).alloc _) ⟨w3.heap.size, 0, none⟩ 1 1 [.int .i64 r, .slice (some ⟨g, 0, none⟩) tm dd] rfl rfl (news_two _ _ _) (by simp [Value.oneCell']) (by decide) (by unfold maxLen; omega) (by omega) (by simp; omega) _ rfl ?_; intro g4 cap4 w4 hown4 hgrow4 hat4 hlt4; have HO4 : Hid (w4.heap[w.heap.size + 1 + 1]? = some (.cells #[.int .i64 z, .slice va k vc] 29 (0, 0))) := (hgrow4.block _ (by simp; omega) (fun e => by have h_ := (HRow_.out.lt (w.heap.size + 1 + 1) e.symm).1; omega)).trans ((Below.heap_alloc _ _ _ (by omega)).trans HO3b.out); have d14 := (box_cells HO4.out).2.1; have f14 := (box_cells HO4.out).2.2 1; have HOwn4 := Lib.hid hown4; have HGrow4 := Lib.hid hgrow4; clear hown4 hgrow4 hat4) | (go_simp; go_at_call 69; refine (HCp.out _ ?_).mono ?_; exact below_drew _; rintro e w3 ⟨g, dd, rfl, ho, b3⟩; have B3 : Below wr.heap.size wr w3 := below_then (below_drew _) b3; have d13 : w3.cell? ⟨w.heap.size + 1 + 1, 1, none⟩ = some (.slice va k vc) := cell_b B3 d1; have z3 : wr.heap.size ≤ w3.heap.size := B3.size; have zO3 : w.heap.size + 1 + 1 < w3.heap.size := (by omega); have HO3 := Lib.hid ho; have HB3 := Lib.hid B3; have HO3b : Hid (w3.heap[w.heap.size + 1 + 1]? = some (.cells #[.int .i64 z, .slice va k vc] 29 (0, 0))) := (B3.block _ hsr).trans HO.out; clear ho b3 B3)))
      all_goals
        have HNew : Hid (Built (w4.setCell ⟨w.heap.size + 1 + 1, 1, none⟩ (.slice (some ⟨g4, 0, none⟩) (k + 1) cap4)) (w.heap.size + 1 + 1 + 1) (.slice (some ⟨g4, 0, none⟩) (k + 1) cap4) (k + 1) (fun j => fs.getD j (0, []))) :=
          (Built.push HT_.out HRow_.out HB3.out (by omega) HLen.out.symm HO3.out HF.out HOwn4.out HGrow4.out).setFar (by show w.heap.size + 1 + 1 < _; omega) _
        have HO5 := Lib.hid (box_set1 (v := .slice (some ⟨g4, 0, none⟩) (k + 1) cap4) HO4.out)
        have hz5 : w.heap.size + 1 + 1 < w4.heap.size := by have := HGrow4.out.size; simp at this; omega
        have hfar : ∀ q, q < w.heap.size + 1 + 1 → (w4.setCell ⟨w.heap.size + 1 + 1, 1, none⟩ (.slice (some ⟨g4, 0, none⟩) (k + 1) cap4)).heap[q]? = wr.heap[q]? := fun q hq => by
          rw [Below.heap_setCell _ _ _ _ (by show q ≠ w.heap.size + 1 + 1; omega), HGrow4.out.block q (by simp; omega) (fun e => by have h_ := (HRow_.out.lt q e.symm).1; omega), Below.heap_alloc _ _ _ (by omega), HB3.out.block q (by omega)]
        have HR5 : Hid ((w4.setCell ⟨w.heap.size + 1 + 1, 1, none⟩ (.slice (some ⟨g4, 0, none⟩) (k + 1) cap4)).heap[w.heap.size + 1]? = some (.cells #[.int .i64 0, .slice none 0 0] 29 (0, 0))) := (hfar _ (by omega)).trans HR.out
        have da5 : (w4.setCell ⟨w.heap.size + 1 + 1, 1, none⟩ (.slice (some ⟨g4, 0, none⟩) (k + 1) cap4)).cell? ⟨w.heap.size, 1, none⟩ = some (.slice (some ⟨b2, o2, none⟩) n c) := (World.cell?_of_block (a := ⟨w.heap.size, 1, none⟩) (hfar w.heap.size (by omega))).trans da
        have HB5 : Hid (Below w.heap.size w (w4.setCell ⟨w.heap.size + 1 + 1, 1, none⟩ (.slice (some ⟨g4, 0, none⟩) (k + 1) cap4))) :=
          (((HBr.out.trans (HB3.out.mono hsz)).alloc (by omega) _).grown HGrow4.out (by simp; omega) (fun q hq => by have h_ := (HRow_.out.lt q hq).1; omega)).setCell (by show _ ≤ w.heap.size + 1 + 1; omega) _
        have hz6 : w.heap.size + 1 + 1 < (w4.setCell ⟨w.heap.size + 1 + 1, 1, none⟩ (.slice (some ⟨g4, 0, none⟩) (k + 1) cap4)).heap.size := by simpa [World.setCell] using hz5
        obtain ⟨w5, hw5⟩ : ∃ w5, w5 = w4.setCell ⟨w.heap.size + 1 + 1, 1, none⟩ (.slice (some ⟨g4, 0, none⟩) (k + 1) cap4) := ⟨_, rfl⟩
        rw [← hw5] at HNew HO5 HR5 da5 HB5 hz6 ⊢
        clear hw5 hfar d14 f14 d13 d1 df1 x0 x1
        go_wp2_with fail
        go_roundw
        case rel => exact ⟨k + 1, _, by omega, by go_num, HNew, HO5, HR5, da5, HB5, hz6⟩
        case measure => simp [intOf]; omega
    · obtain rfl : k = n := by omega
      obtain ⟨_, hrow, _⟩ := HBu.out.row
      obtain ⟨va, vc, rfl⟩ := own_form hrow
      obtain ⟨d0, d1, _⟩ := box_cells HO.out
      obtain ⟨r0, r1, rf⟩ := box_cells HR.out
      obtain ⟨G, C, hops⟩ := HBu.out.ops (fs := fs) (fun j hj => rfl)
      have HOps := Lib.hid hops
      have HLen : Hid (k = fs.length) := HV.out.1.symm
      clear hrow hops
      go_wp2_with fail
      have hK : ∀ (v1 v2 : Value), Kept (w.heap.size + 1 + 1 + 1) wr.heap.size wr ((wr.setCell ⟨w.heap.size + 1, 0, none⟩ v1).setCell ⟨w.heap.size + 1, 1, none⟩ v2) := by
        intro v1 v2 q h1 h2
        rw [Below.heap_setCell _ _ _ _ (by show q ≠ w.heap.size + 1; omega), Below.heap_setCell _ _ _ _ (by show q ≠ w.heap.size + 1; omega)]
      refine bodyPost_ret (v := .agg #[.int .i64 z, .slice va k vc]) (by simp [results, Try.results74, go_sem, r0, r1]) rfl ⟨va, k, vc, G, C, rfl, HLen.out, ((HOps.out.kept (hK _ _)).lo_mono (by omega)).hi_mono (by simp [World.setCell]), (HBr.out.setCell (by show _ ≤ _; simp) _).setCell (by show _ ≤ _; simp) _⟩

set_option maxRecDepth 100000 in
set_option maxHeartbeats 4000000 in
theorem l2Own_any (lo hi : Nat) (z : Int) (ao : Option Addr) (c n : Nat) (fs : List OpD) (w : World) (hv : OView w lo hi ao n fs) (hhi : hi ≤ w.heap.size) (hn4 : n ≤ 4) (hs : ∀ (j : Nat) (f : OpD), fs[j]? = some f → 1 ≤ f.2.length ∧ f.2.length ≤ 512) :
    Calls Try.prog 71 #[.agg #[.int .i64 z, .slice ao n c]] w fun e w' => ResB w w' z fs e := by
  have HV := Lib.hid hv
  have HS := Lib.hid hs
  obtain ⟨i0, hi0, hz0, hz1, hz2⟩ := info_parts Try.infoOp
  have hB := (((Below.refl w.heap.size w).alloc (Nat.le_refl _) (.cells #[.int .i64 z, .slice ao n c] 29)).alloc (by simp) (.cells #[.int .i64 0, .slice none 0 0] 29)).alloc (by simp; omega) (.cells #[.int .i64 z, .slice none 0 0] 29)
  have HB2 := Lib.hid hB
  unfold ResB
  clear hv hs hB
  go_enter Try.func71, Try.ntmps71
  go_wp2_with fail
  have hR2 : Hid ((((w.alloc (.cells #[.int .i64 z, .slice ao n c] 29)).alloc (.cells #[.int .i64 0, .slice none 0 0] 29)).alloc (.cells #[.int .i64 z, .slice none 0 0] 29)).heap[w.heap.size + 1]? = some (.cells #[.int .i64 0, .slice none 0 0] 29 (0, 0))) := by
    unfold Hid
    rw [Below.heap_alloc _ _ _ (by simp)]
    have h := heap_alloc_new (w.alloc (.cells #[.int .i64 z, .slice ao n c] 29)) (.cells #[.int .i64 0, .slice none 0 0] 29)
    rw [World.size_alloc] at h
    exact h
  have hO2 : Hid ((((w.alloc (.cells #[.int .i64 z, .slice ao n c] 29)).alloc (.cells #[.int .i64 0, .slice none 0 0] 29)).alloc (.cells #[.int .i64 z, .slice none 0 0] 29)).heap[w.heap.size + 1 + 1]? = some (.cells #[.int .i64 z, .slice none 0 0] 29 (0, 0))) := by
    have h := heap_alloc_new ((w.alloc (.cells #[.int .i64 z, .slice ao n c] 29)).alloc (.cells #[.int .i64 0, .slice none 0 0] 29)) (.cells #[.int .i64 z, .slice none 0 0] 29)
    rw [World.size_alloc, World.size_alloc] at h
    exact h
  have ca2 : (((w.alloc (.cells #[.int .i64 z, .slice ao n c] 29)).alloc (.cells #[.int .i64 0, .slice none 0 0] 29)).alloc (.cells #[.int .i64 z, .slice none 0 0] 29)).cell? ⟨w.heap.size, 1, none⟩ = some (.slice ao n c) := by go_simp
  go_loopw [4] (fun i wr => ∃ (k : Nat) (v : Value), k ≤ n ∧ i = .int .i64 (k : Int) ∧ Hid (Built wr (w.heap.size + 1 + 1 + 1) v k (fun j => fs.getD j (0, []))) ∧ Hid (wr.heap[w.heap.size + 1 + 1]? = some (.cells #[.int .i64 z, v] 29 (0, 0))) ∧ Hid (wr.heap[w.heap.size + 1]? = some (.cells #[.int .i64 0, .slice none 0 0] 29 (0, 0))) ∧ wr.cell? ⟨w.heap.size, 1, none⟩ = some (.slice ao n c) ∧ Hid (Below w.heap.size w wr) ∧ w.heap.size + 1 + 1 < wr.heap.size) (fun i _ => n - (intOf i).toNat)
  case atStart => exact ⟨0, _, Nat.zero_le _, rfl, Built.nil _ _ _, hO2, hR2, ca2, HB2, by simp⟩
  case round =>
    obtain ⟨k, v, hk, rfl, HBu, HO, HR, da, HBr, hsr⟩ := hrel
    clear ca2 hO2 hR2
    by_cases hlt : k < n
    · obtain ⟨b2, o2, rfl, _, hb2, hc⟩ := HV.out.at_ (by omega)
      obtain ⟨f, hf⟩ := get_of_lt HV.out.1 hlt
      obtain ⟨a, tm, tc, c0, c1, htm, htc, hvt⟩ := hc k f hf
      have htl := HS.out k f hf
      rw [hvt.1] at htl
      have e0 : wr.cell? ⟨b2, o2 + k * 2, none⟩ = some (.int .i64 f.1) := cell_b HBr.out c0
      have e1 : wr.cell? ⟨b2, o2 + k * 2 + 1, none⟩ = some (.slice a tm tc) := cell_b HBr.out c1
      obtain ⟨r, hr⟩ : ∃ r, f.1 = r := ⟨_, rfl⟩
      obtain ⟨ts, hts⟩ : ∃ ts, f.2 = ts := ⟨_, rfl⟩
      have HF : Hid (fs.getD k (0, []) = (r, ts)) := by
        unfold Hid
        rw [getD_op hf, ← hr, ← hts]
      rw [hts] at hvt
      rw [hr] at e0
      have HLen := Lib.hid hvt.1
      have HVT := Lib.hid hvt
      clear c0 c1 hc hvt hf hr hts
      skip
      obtain ⟨d0, d1, df⟩ := box_cells HO.out
      have hsz := HBr.out.size
      have hcp := fun (W : World) (hW : Below wr.heap.size wr W) => l2Copy_any lo hi r a tc tm ts W (HVT.out.kept (Kept.of_below (HBr.out.trans (hW.mono hsz)) hhi)) (by have := hW.size; omega) htl.1 (by omega)
      have HCp := Lib.hid hcp
      have HD := Lib.hid (And.intro d0 df)
      have df1 := df 1
      obtain ⟨G, C, HTb, HRow⟩ := HBu.out
      obtain ⟨va, vc, hvv⟩ := own_form HRow
      have HT_ := Lib.hid HTb
      have HRow_ := Lib.hid HRow
      have hbd : Below wr.heap.size wr wr.drew := below_drew _
      clear hcp d0 df HTb HRow htl
      subst hvv
      go_wp2_with fail
      go_region_law ((first | (refine step_append_lies _ rfl _ _ _ rfl (w.heap.size + 1 + 1 + 1) 56 i0 _ 2 32 Try.underlying27 hi0 hz0 hz1 hz2 rfl (by decide) (.slice va k vc) k (flatN k G C (fun j => fs.getD j (0, []))) rfl ((HRow_.out.kept (grown_of_below HB3.out none) (own_em _)).alloc _) ⟨w3.heap.size, 0, none⟩ 1 1 [.int .i64 r, .slice (some ⟨g, 0, none⟩) tm dd] rfl rfl (news_two _ _ _) (by simp [Value.oneCell']) (by decide) (by unfold maxLen; omega) (by omega) (by simp; omega) _ rfl ?_; intro g4 cap4 w4 hown4 hgrow4 hat4 hlt4; have HO4 : Hid (w4.heap[w.heap.size + 1 + 1]? = some (.cells #[.int .i64 z, .slice va k vc] 29 (0, 0))) := (hgrow4.block _ (by simp; omega) (fun e => by have h_ := (HRow_.out.lt (w.heap.size + 1 + 1) e.symm).1; omega)).trans ((Below.heap_alloc _ _ _ (by omega)).trans HO3b.out); have d14 := (box_cells HO4.out).2.1; have f14 := (box_cells HO4.out).2.2 1; have HOwn4 := Lib.hid hown4; have HGrow4 := Lib.hid hgrow4; clear hown4 hgrow4 hat4) | (go_simp; go_at_call 68; refine (HCp.out _ ?_).mono ?_; exact below_drew _; rintro e w3 ⟨g, dd, rfl, ho, b3⟩; have B3 : Below wr.heap.size wr w3 := below_then (below_drew _) b3; have d13 : w3.cell? ⟨w.heap.size + 1 + 1, 1, none⟩ = some (.slice va k vc) := cell_b B3 d1; have z3 : wr.heap.size ≤ w3.heap.size := B3.size; have zO3 : w.heap.size + 1 + 1 < w3.heap.size := (by omega); have HO3 := Lib.hid ho; have HB3 := Lib.hid B3; have HO3b : Hid (w3.heap[w.heap.size + 1 + 1]? = some (.cells #[.int .i64 z, .slice va k vc] 29 (0, 0))) := (B3.block _ hsr).trans HO.out; clear ho b3 B3)))
      all_goals
        have HNew : Hid (Built (w4.setCell ⟨w.heap.size + 1 + 1, 1, none⟩ (.slice (some ⟨g4, 0, none⟩) (k + 1) cap4)) (w.heap.size + 1 + 1 + 1) (.slice (some ⟨g4, 0, none⟩) (k + 1) cap4) (k + 1) (fun j => fs.getD j (0, []))) :=
          (Built.push HT_.out HRow_.out HB3.out (by omega) HLen.out.symm HO3.out HF.out HOwn4.out HGrow4.out).setFar (by show w.heap.size + 1 + 1 < _; omega) _
        have HO5 := Lib.hid (box_set1 (v := .slice (some ⟨g4, 0, none⟩) (k + 1) cap4) HO4.out)
        have hz5 : w.heap.size + 1 + 1 < w4.heap.size := by have := HGrow4.out.size; simp at this; omega
        have hfar : ∀ q, q < w.heap.size + 1 + 1 → (w4.setCell ⟨w.heap.size + 1 + 1, 1, none⟩ (.slice (some ⟨g4, 0, none⟩) (k + 1) cap4)).heap[q]? = wr.heap[q]? := fun q hq => by
          rw [Below.heap_setCell _ _ _ _ (by show q ≠ w.heap.size + 1 + 1; omega), HGrow4.out.block q (by simp; omega) (fun e => by have h_ := (HRow_.out.lt q e.symm).1; omega), Below.heap_alloc _ _ _ (by omega), HB3.out.block q (by omega)]
        have HR5 : Hid ((w4.setCell ⟨w.heap.size + 1 + 1, 1, none⟩ (.slice (some ⟨g4, 0, none⟩) (k + 1) cap4)).heap[w.heap.size + 1]? = some (.cells #[.int .i64 0, .slice none 0 0] 29 (0, 0))) := (hfar _ (by omega)).trans HR.out
        have da5 : (w4.setCell ⟨w.heap.size + 1 + 1, 1, none⟩ (.slice (some ⟨g4, 0, none⟩) (k + 1) cap4)).cell? ⟨w.heap.size, 1, none⟩ = some (.slice (some ⟨b2, o2, none⟩) n c) := (World.cell?_of_block (a := ⟨w.heap.size, 1, none⟩) (hfar w.heap.size (by omega))).trans da
        have HB5 : Hid (Below w.heap.size w (w4.setCell ⟨w.heap.size + 1 + 1, 1, none⟩ (.slice (some ⟨g4, 0, none⟩) (k + 1) cap4))) :=
          (((HBr.out.trans (HB3.out.mono hsz)).alloc (by omega) _).grown HGrow4.out (by simp; omega) (fun q hq => by have h_ := (HRow_.out.lt q hq).1; omega)).setCell (by show _ ≤ w.heap.size + 1 + 1; omega) _
        have hz6 : w.heap.size + 1 + 1 < (w4.setCell ⟨w.heap.size + 1 + 1, 1, none⟩ (.slice (some ⟨g4, 0, none⟩) (k + 1) cap4)).heap.size := by simpa [World.setCell] using hz5
        obtain ⟨w5, hw5⟩ : ∃ w5, w5 = w4.setCell ⟨w.heap.size + 1 + 1, 1, none⟩ (.slice (some ⟨g4, 0, none⟩) (k + 1) cap4) := ⟨_, rfl⟩
        rw [← hw5] at HNew HO5 HR5 da5 HB5 hz6 ⊢
        clear hw5 hfar d14 f14 d13 d1 df1 e0 e1
        go_wp2_with fail
        go_roundw
        case rel => exact ⟨k + 1, _, by omega, by go_num, HNew, HO5, HR5, da5, HB5, hz6⟩
        case measure => simp [intOf]; omega
    · obtain rfl : k = n := by omega
      obtain ⟨_, hrow, _⟩ := HBu.out.row
      obtain ⟨va, vc, rfl⟩ := own_form hrow
      obtain ⟨d0, d1, _⟩ := box_cells HO.out
      obtain ⟨r0, r1, rf⟩ := box_cells HR.out
      obtain ⟨G, C, hops⟩ := HBu.out.ops (fs := fs) (fun j hj => rfl)
      have HOps := Lib.hid hops
      have HLen : Hid (k = fs.length) := HV.out.1.symm
      clear hrow hops
      go_wp2_with fail
      have hK : ∀ (v1 v2 : Value), Kept (w.heap.size + 1 + 1 + 1) wr.heap.size wr ((wr.setCell ⟨w.heap.size + 1, 0, none⟩ v1).setCell ⟨w.heap.size + 1, 1, none⟩ v2) := by
        intro v1 v2 q h1 h2
        rw [Below.heap_setCell _ _ _ _ (by show q ≠ w.heap.size + 1; omega), Below.heap_setCell _ _ _ _ (by show q ≠ w.heap.size + 1; omega)]
      refine bodyPost_ret (v := .agg #[.int .i64 z, .slice va k vc]) (by simp [results, Try.results71, go_sem, r0, r1]) rfl ⟨va, k, vc, G, C, rfl, HLen.out, ((HOps.out.kept (hK _ _)).lo_mono (by omega)).hi_mono (by simp [World.setCell]), (HBr.out.setCell (by show _ ≤ _; simp) _).setCell (by show _ ≤ _; simp) _⟩

end Go.Proofs.Ythgggoodceogkaa
