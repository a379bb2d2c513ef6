/-
  Contract: spec.l5Sort: a list put into a row of lists in their order. Conditions: the bounds that it names.
-/
import Derived.Test.YtbpbbmfgkejgaaaRowV
import Derived.Test.YtbpbbmfgkejgaaaLess5
import Derived.Test.YtbpbbmfgkejgaaaOwn
import Derived.Deep.RegionLaw
import Derived.Deep.DrawnRows
namespace Go.Proofs.Ytbpbbmfgkejgaaa
open Go.RowKit
set_option linter.unusedVariables false
set_option linter.unusedSimpArgs false
attribute [local go_sem ↓] Go.wp_at_zero Go.wp_at_succ

set_option maxHeartbeats 4000000 in
set_option maxRecDepth 100000 in
theorem l5Sort_any (B g n c : Nat) (vs : List Value) (ls : List (List Int)) (bo : Option Addr) (m d : Nat) (xs : List Int) (w : World) (h : w.ownsRow B 40 1 (.slice (some ⟨g, 0, none⟩) n c) n vs) (hI : InnL w B vs ls) (hx : IView w B w.heap.size bo m xs) (hmd : m ≤ d) (hd : d ≤ maxLen) (hn : n ≤ 4096) (hB : B ≤ w.heap.size) (hA : Asc ls) (h8 : ∀ y, y ∈ ls → y.length ≤ 8) (hm : m ≤ 8) :
    Calls Try.prog 69 #[.slice (some ⟨g, 0, none⟩) n c, .slice bo m d] w fun e w' => ∃ (g' c' : Nat) (vs' : List Value), e = .returned (.slice (some ⟨g', 0, none⟩) (n + 1) c') ∧ w'.ownsRow B 40 1 (.slice (some ⟨g', 0, none⟩) (n + 1) c') (n + 1) vs' ∧ InnL w' B vs' (insL ls xs) ∧ Below w.heap.size w w' := by
  have hlv : vs.length = n := by have := h.1; simpa using this
  have hll : ls.length = n := by rw [← hI.1, hlv]
  have hnc : n ≤ c := by
    rcases h.2 with ⟨h0, _⟩ | ⟨_, _, _, hv, _, _, h2, _⟩
    · cases h0
    · cases hv; exact h2
  have hcm : c ≤ maxLen := by
    rcases h.2 with ⟨h0, _⟩ | ⟨_, _, _, hv, _, _, _, h2, _⟩
    · cases h0
    · cases hv; exact h2
  have HR := Lib.hid h
  have HI := Lib.hid hI
  have HX := Lib.hid hx
  have HA := Lib.hid hA
  have H8 := Lib.hid h8
  have HLv := Lib.hid hlv
  have HLl := Lib.hid hll
  have HB0 := Lib.hid hB
  have hxl := Lib.hid hx.1
  clear h hI hx hA h8 hlv hll hB
  go_enter Try.func69, Try.ntmps69
  go_wp2_with fail
  go_loopw [5] (fun i wr => ∃ (k : Nat), k ≤ n ∧ i = .int .i64 (k : Int) ∧ Hid (∀ j y, k ≤ j → ls[j]? = some y → befB xs y = true) ∧ Hid (wr.heap.size = w.heap.size) ∧ Hid (∃ q, wr = w.drewN q) ∧ Hid (Below w.heap.size w wr)) (fun i _ => (intOf i).toNat)
  case atStart => exact ⟨n, Nat.le_refl _, rfl, fun j y hj hy => by (have := (List.getElem?_eq_some_iff.1 hy).1; have := HLl.out; omega), rfl, ⟨0, rfl⟩, Below.refl _ _⟩
  case round =>
    obtain ⟨k, hk, rfl, HAft, HW, HQr, HBr⟩ := hrel
    by_cases hk0' : k = 0
    · have hkz : ¬ (0 : Int) < (k : Int) := by omega
      have HBef : Hid (∀ y, 1 ≤ k → ls[k - 1]? = some y → befB xs y = false) := fun y h_ => by omega
      clear hk0'
      have hk0 : (0 : Int) ≤ (k : Int) := by omega
      have hkn' : (k : Int) ≤ (n : Int) := by omega
      have hkc' : (k : Int) ≤ (c : Int) := by omega
      have HIns : Hid (insL ls xs = ls.take k ++ xs :: ls.drop k) := insL_at HA.out (by rw [HLl.out]; exact hk) HAft.out HBef.out
      by_cases hkc : k = c
      · have hkn2 : k = n := by omega
        subst hkc
        subst hkn2
        go_wp2_with fail
        refine wp_region_any (by kernel_rfl) ?_
        (try (change wpAny _ _ _ _ _ _ _ (World.drew _)))
        refine wpAny_take (i := 1) (oi := ⟨_, _, _, _, _, _⟩) (v := ?_) rfl (by kernel_rfl) (by kernel_rfl) (by kernel_rfl) (fun _ _ _ h => h) (Or.inl ⟨by rfl, ?_⟩) ?_
        rotate_left 1
        · intro w_; go_simp; (try with_reducible rfl)
        (try simp only [Act.put, List.setIfInBounds_toArray, List.set_cons_zero, List.set_cons_succ])
        refine wpAny_take (i := 2) (oi := ⟨_, _, _, _, _, _⟩) (v := ?_) rfl (by kernel_rfl) (by kernel_rfl) (by kernel_rfl) (fun _ _ _ h => h) (Or.inl ⟨by rfl, ?_⟩) ?_
        rotate_left 1
        · intro w_; go_simp; (try with_reducible rfl)
        (try simp only [Act.put, List.setIfInBounds_toArray, List.set_cons_zero, List.set_cons_succ])
        refine wpAny_take (i := 3) (oi := ⟨_, _, _, _, _, _⟩) (v := ?_) rfl (by kernel_rfl) (by kernel_rfl) (by kernel_rfl) (fun _ _ _ h => h) (Or.inl ⟨by rfl, ?_⟩) ?_
        rotate_left 1
        · intro w_; go_simp; (try with_reducible rfl)
        (try simp only [Act.put, List.setIfInBounds_toArray, List.set_cons_zero, List.set_cons_succ])
        refine wpAny_take (i := 5) (oi := ⟨_, _, _, _, _, _⟩) (v := ?_) rfl (by kernel_rfl) (by kernel_rfl) (by kernel_rfl) (fun _ _ _ h => h) (Or.inl ⟨by rfl, ?_⟩) ?_
        rotate_left 1
        · intro w_; go_simp; (try with_reducible rfl)
        (try simp only [Act.put, List.setIfInBounds_toArray, List.set_cons_zero, List.set_cons_succ])
        refine wpAny_take (i := 8) (oi := ⟨_, _, _, _, _, _⟩) (v := ?_) rfl (by kernel_rfl) (by kernel_rfl) (by kernel_rfl) (fun _ _ _ h => h) (Or.inl ⟨by rfl, ?_⟩) ?_
        rotate_left 1
        · intro w_; go_simp; (try with_reducible rfl)
        (try simp only [Act.put, List.setIfInBounds_toArray, List.set_cons_zero, List.set_cons_succ])
        refine wpAny_take (i := 9) (oi := ⟨_, _, _, _, _, _⟩) (v := ?_) rfl (by kernel_rfl) (by kernel_rfl) (by kernel_rfl) (fun _ _ _ h => h) (Or.inl ⟨by rfl, ?_⟩) ?_
        rotate_left 1
        · intro w_; go_simp; (try with_reducible rfl)
        (try simp only [Act.put, List.setIfInBounds_toArray, List.set_cons_zero, List.set_cons_succ])
        refine wpAny_take (i := 10) (oi := ⟨_, _, _, _, _, _⟩) (v := ?_) rfl (by kernel_rfl) (by kernel_rfl) (by kernel_rfl) (fun _ _ _ h => h) (Or.inl ⟨by rfl, ?_⟩) ?_
        rotate_left 1
        · intro w_; go_simp; (try with_reducible rfl)
        (try simp only [Act.put, List.setIfInBounds_toArray, List.set_cons_zero, List.set_cons_succ])
        refine wpAny_ready (rs := [0, 6]) (by kernel_rfl) (by simp) ?_
        refine AllReady.cons (o := ⟨_, _, _, _, _, _⟩) rfl (fun K hK => ?_) (AllReady.cons (o := ⟨_, _, _, _, _, _⟩) rfl (fun K hK => ?_) AllReady.nil)
        · go_simp
          refine hK _ _ ?_
          clear hK K
          (try simp only [Act.put, List.setIfInBounds_toArray, List.set_cons_zero, List.set_cons_succ])
          refine wpAny_ready (rs := [4, 6]) (by kernel_rfl) (by simp) ?_
          refine AllReady.cons (o := ⟨_, _, _, _, _, _⟩) rfl (fun K hK => ?_) (AllReady.cons (o := ⟨_, _, _, _, _, _⟩) rfl (fun K hK => ?_) AllReady.nil)
          · have hN : w.heap.size ≤ wr.drew.heap.size := Nat.le_of_eq HW.out.symm
            have HBW : Hid (Below w.heap.size w (wr.drew.alloc (.cells #[] 40))) := below_then (below_then HBr.out (below_drew wr)) (below_alloc _ _)
            refine step_append_lists (g0 := wr.heap.size) (c0 := 0) (c := k) ?_ _ _ rfl w.heap.size 0 ([]) ?_ ?_ ⟨g, 0, none⟩ k (vs.take k) ?_ ?_ ?_ ?_ k ?_ ?_ ?_ ?_
            · rfl
            · rfl
            · exact own_nilL wr.drew hN
            · rfl
            · (rw [List.length_take, HLv.out]; omega)
            · exact take_atV (HR.out.kept (grown_of_below HBW.out none) (own_em _))
            · exact (HI.out.take k).flat
            · omega
            · omega
            · exact HBW.out.size
            intro gA cA wA hoA hgA
            have HBA : Hid (Below w.heap.size w wA) := HBW.out.grown hgA HBW.out.size (fun q_ hq_ => by cases hq_; exact hN)
            have HOA : Hid (wA.ownsRow w.heap.size 40 1 (.slice (some ⟨gA, 0, none⟩) k cA) k (vs.take k)) := by unfold Hid; simpa using hoA
            clear hoA hgA
            refine hK _ _ ?_
            clear hK K
            (try simp only [Act.put, List.setIfInBounds_toArray, List.set_cons_zero, List.set_cons_succ])
            refine wpAny_ready (rs := [6]) (by kernel_rfl) (by simp) ?_
            refine AllReady.cons (o := ⟨_, _, _, _, _, _⟩) rfl (fun K hK => ?_) AllReady.nil
            go_simp
            refine hK _ _ ?_
            clear hK K
            (try simp only [Act.put, List.setIfInBounds_toArray, List.set_cons_zero, List.set_cons_succ])
            obtain ⟨wT, hwT⟩ : ∃ wT, wT = wA.alloc (.cells #[.slice bo m d] 40) := ⟨_, rfl⟩
            obtain ⟨gS, hgS⟩ : ∃ gS, gS = wA.heap.size := ⟨_, rfl⟩
            have HBT : Hid (Below w.heap.size w wT) := by rw [hwT]; exact below_then HBA.out (below_alloc _ _)
            have HOT : Hid (wT.ownsRow w.heap.size 40 1 (.slice (some ⟨gA, 0, none⟩) k cA) k (vs.take k)) := by rw [hwT]; exact HOA.out.alloc _
            have HST : Hid (wT.cell? ⟨gS, 0, none⟩ = some (.slice bo m d)) := by unfold Hid; rw [hwT, hgS]; simp
            rw [← hwT, ← hgS]
            clear hwT hgS
            refine wpAny_ready (rs := [7]) (by kernel_rfl) (by simp) ?_
            refine AllReady.cons (o := ⟨_, _, _, _, _, _⟩) rfl (fun K hK => ?_) AllReady.nil
            refine step_append_lists (g0 := gA) (c0 := cA) (c := 1) ?_ _ _ rfl w.heap.size k (vs.take k) ?_ ?_ ⟨gS, 0, none⟩ 1 ([.slice bo m d]) ?_ ?_ ?_ ?_ (k + 1) ?_ ?_ ?_ ?_
            · rfl
            · rfl
            · exact HOT.out
            · rfl
            · rfl
            · exact one_atV HST.out
            · (intro u hu; simp at hu; subst hu; rfl)
            · omega
            · omega
            · exact HBT.out.size
            intro gB cB wB hoB hgB
            have HBB : Hid (Below w.heap.size w wB) := HBT.out.grown hgB HBT.out.size (fun q_ hq_ => by cases hq_; exact (HOT.out.lt gA rfl).1)
            have HOB := Lib.hid hoB
            clear hoB hgB
            refine hK _ _ ?_
            clear hK K
            (try simp only [Act.put, List.setIfInBounds_toArray, List.set_cons_zero, List.set_cons_succ])
            refine wpAny_ready (rs := [11]) (by kernel_rfl) (by simp) ?_
            refine AllReady.cons (o := ⟨_, _, _, _, _, _⟩) rfl (fun K hK => ?_) AllReady.nil
            refine step_append_lists (g0 := gB) (c0 := cB) (c := 0) ?_ _ _ rfl w.heap.size (k + 1) (vs.take k ++ [.slice bo m d]) ?_ ?_ ⟨g, 0, none⟩ 0 (vs.drop k) ?_ ?_ ?_ ?_ (k + 1) ?_ ?_ ?_ ?_
            · rfl
            · rfl
            · exact HOB.out
            · rfl
            · (rw [List.length_drop, HLv.out]; omega)
            · exact drop_atV (HR.out.kept (grown_of_below HBB.out none) (own_em _)) (fun h_ => absurd h_ (by omega))
            · exact (HI.out.drop k).flat
            · omega
            · omega
            · exact HBB.out.size
            intro gC cC wC hoC hgC
            have HBC : Hid (Below w.heap.size w wC) := HBB.out.grown hgC HBB.out.size (fun q_ hq_ => by cases hq_; exact (HOB.out.lt gB rfl).1)
            have HOC := Lib.hid hoC
            clear hoC hgC
            refine hK _ _ ?_
            clear hK K
            (try simp only [Act.put, List.setIfInBounds_toArray, List.set_cons_zero, List.set_cons_succ])
            refine wpAny_take (i := 12) (oi := ⟨_, _, _, _, _, _⟩) (v := ?_) rfl (by kernel_rfl) (by kernel_rfl) (by kernel_rfl) (fun _ _ _ h => h) (Or.inl ⟨by rfl, ?_⟩) ?_
            rotate_left 1
            · intro w_; go_simp; (try with_reducible rfl)
            (try simp only [Act.put, List.setIfInBounds_toArray, List.set_cons_zero, List.set_cons_succ])
            refine wpAny_done (by kernel_rfl) ?_ _
            go_wp2_with fail
            go_ret
            refine ⟨gC, cC, _, rfl, ownsRow_base HOC.out HB0.out, ?_, HBC.out⟩
            rw [HIns.out]
            have hx_ := InnL.one (InnerAt.below (B := B) (v := .slice bo m d) ⟨bo, m, d, rfl, hmd, hd, HX.out⟩ HBC.out)
            have h_ := (((HI.out.below HBC.out).take k).append hx_).append ((HI.out.below HBC.out).drop k)
            simpa using h_
          · go_simp
            refine hK _ _ ?_
            clear hK K
            (try simp only [Act.put, List.setIfInBounds_toArray, List.set_cons_zero, List.set_cons_succ])
            refine wpAny_ready (rs := [4]) (by kernel_rfl) (by simp) ?_
            refine AllReady.cons (o := ⟨_, _, _, _, _, _⟩) rfl (fun K hK => ?_) AllReady.nil
            have hN : w.heap.size ≤ wr.drew.heap.size := Nat.le_of_eq HW.out.symm
            have HBW : Hid (Below w.heap.size w ((wr.drew.alloc (.cells #[] 40)).alloc (.cells #[.slice bo m d] 40))) := below_then (below_then (below_then HBr.out (below_drew wr)) (below_alloc _ _)) (below_alloc _ _)
            have hS0 : ((wr.drew.alloc (.cells #[] 40)).alloc (.cells #[.slice bo m d] 40)).cell? ⟨wr.heap.size + 1, 0, none⟩ = some (.slice bo m d) := by have h_ := cell_new0 (wr.drew.alloc (.cells #[] 40)) (.slice bo m d) 40; rw [World.size_alloc] at h_; exact h_
            refine step_append_lists (g0 := wr.heap.size) (c0 := 0) (c := k) ?_ _ _ rfl w.heap.size 0 ([]) ?_ ?_ ⟨g, 0, none⟩ k (vs.take k) ?_ ?_ ?_ ?_ k ?_ ?_ ?_ ?_
            · rfl
            · rfl
            · exact (own_nilL wr.drew hN).alloc _
            · rfl
            · (rw [List.length_take, HLv.out]; omega)
            · exact take_atV (HR.out.kept (grown_of_below HBW.out none) (own_em _))
            · exact (HI.out.take k).flat
            · omega
            · omega
            · exact HBW.out.size
            intro gA cA wT hoA hgA
            have HBT : Hid (Below w.heap.size w wT) := HBW.out.grown hgA HBW.out.size (fun q_ hq_ => by cases hq_; have := HW.out; omega)
            have HOT : Hid (wT.ownsRow w.heap.size 40 1 (.slice (some ⟨gA, 0, none⟩) k cA) k (vs.take k)) := by unfold Hid; simpa using hoA
            have HST : Hid (wT.cell? ⟨wr.heap.size + 1, 0, none⟩ = some (.slice bo m d)) := hgA.cell hS0 (by simp)
            obtain ⟨gS, hgS⟩ : ∃ gS, gS = wr.heap.size + 1 := ⟨_, rfl⟩
            rw [← hgS] at HST
            clear hoA hgA hS0
            refine hK _ _ ?_
            clear hK K
            (try simp only [Act.put, List.setIfInBounds_toArray, List.set_cons_zero, List.set_cons_succ])
            (try rw [← hgS])
            clear hgS
            refine wpAny_ready (rs := [7]) (by kernel_rfl) (by simp) ?_
            refine AllReady.cons (o := ⟨_, _, _, _, _, _⟩) rfl (fun K hK => ?_) AllReady.nil
            refine step_append_lists (g0 := gA) (c0 := cA) (c := 1) ?_ _ _ rfl w.heap.size k (vs.take k) ?_ ?_ ⟨gS, 0, none⟩ 1 ([.slice bo m d]) ?_ ?_ ?_ ?_ (k + 1) ?_ ?_ ?_ ?_
            · rfl
            · rfl
            · exact HOT.out
            · rfl
            · rfl
            · exact one_atV HST.out
            · (intro u hu; simp at hu; subst hu; rfl)
            · omega
            · omega
            · exact HBT.out.size
            intro gB cB wB hoB hgB
            have HBB : Hid (Below w.heap.size w wB) := HBT.out.grown hgB HBT.out.size (fun q_ hq_ => by cases hq_; exact (HOT.out.lt gA rfl).1)
            have HOB := Lib.hid hoB
            clear hoB hgB
            refine hK _ _ ?_
            clear hK K
            (try simp only [Act.put, List.setIfInBounds_toArray, List.set_cons_zero, List.set_cons_succ])
            refine wpAny_ready (rs := [11]) (by kernel_rfl) (by simp) ?_
            refine AllReady.cons (o := ⟨_, _, _, _, _, _⟩) rfl (fun K hK => ?_) AllReady.nil
            refine step_append_lists (g0 := gB) (c0 := cB) (c := 0) ?_ _ _ rfl w.heap.size (k + 1) (vs.take k ++ [.slice bo m d]) ?_ ?_ ⟨g, 0, none⟩ 0 (vs.drop k) ?_ ?_ ?_ ?_ (k + 1) ?_ ?_ ?_ ?_
            · rfl
            · rfl
            · exact HOB.out
            · rfl
            · (rw [List.length_drop, HLv.out]; omega)
            · exact drop_atV (HR.out.kept (grown_of_below HBB.out none) (own_em _)) (fun h_ => absurd h_ (by omega))
            · exact (HI.out.drop k).flat
            · omega
            · omega
            · exact HBB.out.size
            intro gC cC wC hoC hgC
            have HBC : Hid (Below w.heap.size w wC) := HBB.out.grown hgC HBB.out.size (fun q_ hq_ => by cases hq_; exact (HOB.out.lt gB rfl).1)
            have HOC := Lib.hid hoC
            clear hoC hgC
            refine hK _ _ ?_
            clear hK K
            (try simp only [Act.put, List.setIfInBounds_toArray, List.set_cons_zero, List.set_cons_succ])
            refine wpAny_take (i := 12) (oi := ⟨_, _, _, _, _, _⟩) (v := ?_) rfl (by kernel_rfl) (by kernel_rfl) (by kernel_rfl) (fun _ _ _ h => h) (Or.inl ⟨by rfl, ?_⟩) ?_
            rotate_left 1
            · intro w_; go_simp; (try with_reducible rfl)
            (try simp only [Act.put, List.setIfInBounds_toArray, List.set_cons_zero, List.set_cons_succ])
            refine wpAny_done (by kernel_rfl) ?_ _
            go_wp2_with fail
            go_ret
            refine ⟨gC, cC, _, rfl, ownsRow_base HOC.out HB0.out, ?_, HBC.out⟩
            rw [HIns.out]
            have hx_ := InnL.one (InnerAt.below (B := B) (v := .slice bo m d) ⟨bo, m, d, rfl, hmd, hd, HX.out⟩ HBC.out)
            have h_ := (((HI.out.below HBC.out).take k).append hx_).append ((HI.out.below HBC.out).drop k)
            simpa using h_
        · go_simp
          refine hK _ _ ?_
          clear hK K
          (try simp only [Act.put, List.setIfInBounds_toArray, List.set_cons_zero, List.set_cons_succ])
          refine wpAny_ready (rs := [0]) (by kernel_rfl) (by simp) ?_
          refine AllReady.cons (o := ⟨_, _, _, _, _, _⟩) rfl (fun K hK => ?_) AllReady.nil
          go_simp
          refine hK _ _ ?_
          clear hK K
          (try simp only [Act.put, List.setIfInBounds_toArray, List.set_cons_zero, List.set_cons_succ])
          refine wpAny_ready (rs := [4]) (by kernel_rfl) (by simp) ?_
          refine AllReady.cons (o := ⟨_, _, _, _, _, _⟩) rfl (fun K hK => ?_) AllReady.nil
          have hN : w.heap.size ≤ wr.drew.heap.size := Nat.le_of_eq HW.out.symm
          have HBW : Hid (Below w.heap.size w ((wr.drew.alloc (.cells #[.slice bo m d] 40)).alloc (.cells #[] 40))) := below_then (below_then (below_then HBr.out (below_drew wr)) (below_alloc _ _)) (below_alloc _ _)
          have hS0 : ((wr.drew.alloc (.cells #[.slice bo m d] 40)).alloc (.cells #[] 40)).cell? ⟨wr.heap.size, 0, none⟩ = some (.slice bo m d) := cell_b (below_alloc (wr.drew.alloc (.cells #[.slice bo m d] 40)) _) (cell_new0 wr.drew (.slice bo m d) 40)
          refine step_append_lists (g0 := wr.heap.size + 1) (c0 := 0) (c := k) ?_ _ _ rfl w.heap.size 0 ([]) ?_ ?_ ⟨g, 0, none⟩ k (vs.take k) ?_ ?_ ?_ ?_ k ?_ ?_ ?_ ?_
          · rfl
          · rfl
          · (have h_ := own_nilL (wr.drew.alloc (.cells #[.slice bo m d] 40)) (base := w.heap.size) (by rw [World.size_alloc]; exact Nat.le_succ_of_le hN); rw [World.size_alloc] at h_; exact h_)
          · rfl
          · (rw [List.length_take, HLv.out]; omega)
          · exact take_atV (HR.out.kept (grown_of_below HBW.out none) (own_em _))
          · exact (HI.out.take k).flat
          · omega
          · omega
          · exact HBW.out.size
          intro gA cA wT hoA hgA
          have HBT : Hid (Below w.heap.size w wT) := HBW.out.grown hgA HBW.out.size (fun q_ hq_ => by cases hq_; have := HW.out; omega)
          have HOT : Hid (wT.ownsRow w.heap.size 40 1 (.slice (some ⟨gA, 0, none⟩) k cA) k (vs.take k)) := by unfold Hid; simpa using hoA
          have HST : Hid (wT.cell? ⟨wr.heap.size, 0, none⟩ = some (.slice bo m d)) := hgA.cell hS0 (by simp)
          obtain ⟨gS, hgS⟩ : ∃ gS, gS = wr.heap.size := ⟨_, rfl⟩
          rw [← hgS] at HST
          clear hoA hgA hS0
          refine hK _ _ ?_
          clear hK K
          (try simp only [Act.put, List.setIfInBounds_toArray, List.set_cons_zero, List.set_cons_succ])
          (try rw [← hgS])
          clear hgS
          refine wpAny_ready (rs := [7]) (by kernel_rfl) (by simp) ?_
          refine AllReady.cons (o := ⟨_, _, _, _, _, _⟩) rfl (fun K hK => ?_) AllReady.nil
          refine step_append_lists (g0 := gA) (c0 := cA) (c := 1) ?_ _ _ rfl w.heap.size k (vs.take k) ?_ ?_ ⟨gS, 0, none⟩ 1 ([.slice bo m d]) ?_ ?_ ?_ ?_ (k + 1) ?_ ?_ ?_ ?_
          · rfl
          · rfl
          · exact HOT.out
          · rfl
          · rfl
          · exact one_atV HST.out
          · (intro u hu; simp at hu; subst hu; rfl)
          · omega
          · omega
          · exact HBT.out.size
          intro gB cB wB hoB hgB
          have HBB : Hid (Below w.heap.size w wB) := HBT.out.grown hgB HBT.out.size (fun q_ hq_ => by cases hq_; exact (HOT.out.lt gA rfl).1)
          have HOB := Lib.hid hoB
          clear hoB hgB
          refine hK _ _ ?_
          clear hK K
          (try simp only [Act.put, List.setIfInBounds_toArray, List.set_cons_zero, List.set_cons_succ])
          refine wpAny_ready (rs := [11]) (by kernel_rfl) (by simp) ?_
          refine AllReady.cons (o := ⟨_, _, _, _, _, _⟩) rfl (fun K hK => ?_) AllReady.nil
          refine step_append_lists (g0 := gB) (c0 := cB) (c := 0) ?_ _ _ rfl w.heap.size (k + 1) (vs.take k ++ [.slice bo m d]) ?_ ?_ ⟨g, 0, none⟩ 0 (vs.drop k) ?_ ?_ ?_ ?_ (k + 1) ?_ ?_ ?_ ?_
          · rfl
          · rfl
          · exact HOB.out
          · rfl
          · (rw [List.length_drop, HLv.out]; omega)
          · exact drop_atV (HR.out.kept (grown_of_below HBB.out none) (own_em _)) (fun h_ => absurd h_ (by omega))
          · exact (HI.out.drop k).flat
          · omega
          · omega
          · exact HBB.out.size
          intro gC cC wC hoC hgC
          have HBC : Hid (Below w.heap.size w wC) := HBB.out.grown hgC HBB.out.size (fun q_ hq_ => by cases hq_; exact (HOB.out.lt gB rfl).1)
          have HOC := Lib.hid hoC
          clear hoC hgC
          refine hK _ _ ?_
          clear hK K
          (try simp only [Act.put, List.setIfInBounds_toArray, List.set_cons_zero, List.set_cons_succ])
          refine wpAny_take (i := 12) (oi := ⟨_, _, _, _, _, _⟩) (v := ?_) rfl (by kernel_rfl) (by kernel_rfl) (by kernel_rfl) (fun _ _ _ h => h) (Or.inl ⟨by rfl, ?_⟩) ?_
          rotate_left 1
          · intro w_; go_simp; (try with_reducible rfl)
          (try simp only [Act.put, List.setIfInBounds_toArray, List.set_cons_zero, List.set_cons_succ])
          refine wpAny_done (by kernel_rfl) ?_ _
          go_wp2_with fail
          go_ret
          refine ⟨gC, cC, _, rfl, ownsRow_base HOC.out HB0.out, ?_, HBC.out⟩
          rw [HIns.out]
          have hx_ := InnL.one (InnerAt.below (B := B) (v := .slice bo m d) ⟨bo, m, d, rfl, hmd, hd, HX.out⟩ HBC.out)
          have h_ := (((HI.out.below HBC.out).take k).append hx_).append ((HI.out.below HBC.out).drop k)
          simpa using h_

      · have hck : ¬ c = k := fun h_ => hkc h_.symm
        go_wp2_with fail
        refine wp_region_any (by kernel_rfl) ?_
        (try (change wpAny _ _ _ _ _ _ _ (World.drew _)))
        refine wpAny_take (i := 1) (oi := ⟨_, _, _, _, _, _⟩) (v := ?_) rfl (by kernel_rfl) (by kernel_rfl) (by kernel_rfl) (fun _ _ _ h => h) (Or.inl ⟨by rfl, ?_⟩) ?_
        rotate_left 1
        · intro w_; go_simp; (try with_reducible rfl)
        (try simp only [Act.put, List.setIfInBounds_toArray, List.set_cons_zero, List.set_cons_succ])
        refine wpAny_take (i := 2) (oi := ⟨_, _, _, _, _, _⟩) (v := ?_) rfl (by kernel_rfl) (by kernel_rfl) (by kernel_rfl) (fun _ _ _ h => h) (Or.inl ⟨by rfl, ?_⟩) ?_
        rotate_left 1
        · intro w_; go_simp; (try with_reducible rfl)
        (try simp only [Act.put, List.setIfInBounds_toArray, List.set_cons_zero, List.set_cons_succ])
        refine wpAny_take (i := 3) (oi := ⟨_, _, _, _, _, _⟩) (v := ?_) rfl (by kernel_rfl) (by kernel_rfl) (by kernel_rfl) (fun _ _ _ h => h) (Or.inl ⟨by rfl, ?_⟩) ?_
        rotate_left 1
        · intro w_; go_simp; (try with_reducible rfl)
        (try simp only [Act.put, List.setIfInBounds_toArray, List.set_cons_zero, List.set_cons_succ])
        refine wpAny_take (i := 5) (oi := ⟨_, _, _, _, _, _⟩) (v := ?_) rfl (by kernel_rfl) (by kernel_rfl) (by kernel_rfl) (fun _ _ _ h => h) (Or.inl ⟨by rfl, ?_⟩) ?_
        rotate_left 1
        · intro w_; go_simp; (try with_reducible rfl)
        (try simp only [Act.put, List.setIfInBounds_toArray, List.set_cons_zero, List.set_cons_succ])
        refine wpAny_take (i := 8) (oi := ⟨_, _, _, _, _, _⟩) (v := ?_) rfl (by kernel_rfl) (by kernel_rfl) (by kernel_rfl) (fun _ _ _ h => h) (Or.inl ⟨by rfl, ?_⟩) ?_
        rotate_left 1
        · intro w_; go_simp; (try with_reducible rfl)
        (try simp only [Act.put, List.setIfInBounds_toArray, List.set_cons_zero, List.set_cons_succ])
        refine wpAny_take (i := 9) (oi := ⟨_, _, _, _, _, _⟩) (v := ?_) rfl (by kernel_rfl) (by kernel_rfl) (by kernel_rfl) (fun _ _ _ h => h) (Or.inl ⟨by rfl, ?_⟩) ?_
        rotate_left 1
        · intro w_; go_simp; (try with_reducible rfl)
        (try simp only [Act.put, List.setIfInBounds_toArray, List.set_cons_zero, List.set_cons_succ])
        refine wpAny_take (i := 10) (oi := ⟨_, _, _, _, _, _⟩) (v := ?_) rfl (by kernel_rfl) (by kernel_rfl) (by kernel_rfl) (fun _ _ _ h => h) (Or.inl ⟨by rfl, ?_⟩) ?_
        rotate_left 1
        · intro w_; go_simp; (try with_reducible rfl)
        (try simp only [Act.put, List.setIfInBounds_toArray, List.set_cons_zero, List.set_cons_succ])
        refine wpAny_ready (rs := [0, 6]) (by kernel_rfl) (by simp) ?_
        refine AllReady.cons (o := ⟨_, _, _, _, _, _⟩) rfl (fun K hK => ?_) (AllReady.cons (o := ⟨_, _, _, _, _, _⟩) rfl (fun K hK => ?_) AllReady.nil)
        · go_simp
          refine hK _ _ ?_
          clear hK K
          (try simp only [Act.put, List.setIfInBounds_toArray, List.set_cons_zero, List.set_cons_succ])
          refine wpAny_ready (rs := [4, 6]) (by kernel_rfl) (by simp) ?_
          refine AllReady.cons (o := ⟨_, _, _, _, _, _⟩) rfl (fun K hK => ?_) (AllReady.cons (o := ⟨_, _, _, _, _, _⟩) rfl (fun K hK => ?_) AllReady.nil)
          · have hN : w.heap.size ≤ wr.drew.heap.size := Nat.le_of_eq HW.out.symm
            have HBW : Hid (Below w.heap.size w (wr.drew.alloc (.cells #[] 40))) := below_then (below_then HBr.out (below_drew wr)) (below_alloc _ _)
            refine step_append_lists (g0 := wr.heap.size) (c0 := 0) (c := c) ?_ _ _ rfl w.heap.size 0 ([]) ?_ ?_ ⟨g, 0, none⟩ k (vs.take k) ?_ ?_ ?_ ?_ k ?_ ?_ ?_ ?_
            · rfl
            · rfl
            · exact own_nilL wr.drew hN
            · rfl
            · (rw [List.length_take, HLv.out]; omega)
            · exact take_atV (HR.out.kept (grown_of_below HBW.out none) (own_em _))
            · exact (HI.out.take k).flat
            · omega
            · omega
            · exact HBW.out.size
            intro gA cA wA hoA hgA
            have HBA : Hid (Below w.heap.size w wA) := HBW.out.grown hgA HBW.out.size (fun q_ hq_ => by cases hq_; exact hN)
            have HOA : Hid (wA.ownsRow w.heap.size 40 1 (.slice (some ⟨gA, 0, none⟩) k cA) k (vs.take k)) := by unfold Hid; simpa using hoA
            clear hoA hgA
            refine hK _ _ ?_
            clear hK K
            (try simp only [Act.put, List.setIfInBounds_toArray, List.set_cons_zero, List.set_cons_succ])
            refine wpAny_ready (rs := [6]) (by kernel_rfl) (by simp) ?_
            refine AllReady.cons (o := ⟨_, _, _, _, _, _⟩) rfl (fun K hK => ?_) AllReady.nil
            go_simp
            refine hK _ _ ?_
            clear hK K
            (try simp only [Act.put, List.setIfInBounds_toArray, List.set_cons_zero, List.set_cons_succ])
            obtain ⟨wT, hwT⟩ : ∃ wT, wT = wA.alloc (.cells #[.slice bo m d] 40) := ⟨_, rfl⟩
            obtain ⟨gS, hgS⟩ : ∃ gS, gS = wA.heap.size := ⟨_, rfl⟩
            have HBT : Hid (Below w.heap.size w wT) := by rw [hwT]; exact below_then HBA.out (below_alloc _ _)
            have HOT : Hid (wT.ownsRow w.heap.size 40 1 (.slice (some ⟨gA, 0, none⟩) k cA) k (vs.take k)) := by rw [hwT]; exact HOA.out.alloc _
            have HST : Hid (wT.cell? ⟨gS, 0, none⟩ = some (.slice bo m d)) := by unfold Hid; rw [hwT, hgS]; simp
            rw [← hwT, ← hgS]
            clear hwT hgS
            refine wpAny_ready (rs := [7]) (by kernel_rfl) (by simp) ?_
            refine AllReady.cons (o := ⟨_, _, _, _, _, _⟩) rfl (fun K hK => ?_) AllReady.nil
            refine step_append_lists (g0 := gA) (c0 := cA) (c := 1) ?_ _ _ rfl w.heap.size k (vs.take k) ?_ ?_ ⟨gS, 0, none⟩ 1 ([.slice bo m d]) ?_ ?_ ?_ ?_ (k + 1) ?_ ?_ ?_ ?_
            · rfl
            · rfl
            · exact HOT.out
            · rfl
            · rfl
            · exact one_atV HST.out
            · (intro u hu; simp at hu; subst hu; rfl)
            · omega
            · omega
            · exact HBT.out.size
            intro gB cB wB hoB hgB
            have HBB : Hid (Below w.heap.size w wB) := HBT.out.grown hgB HBT.out.size (fun q_ hq_ => by cases hq_; exact (HOT.out.lt gA rfl).1)
            have HOB := Lib.hid hoB
            clear hoB hgB
            refine hK _ _ ?_
            clear hK K
            (try simp only [Act.put, List.setIfInBounds_toArray, List.set_cons_zero, List.set_cons_succ])
            refine wpAny_ready (rs := [11]) (by kernel_rfl) (by simp) ?_
            refine AllReady.cons (o := ⟨_, _, _, _, _, _⟩) rfl (fun K hK => ?_) AllReady.nil
            refine step_append_lists (g0 := gB) (c0 := cB) (c := (c - k)) ?_ _ _ rfl w.heap.size (k + 1) (vs.take k ++ [.slice bo m d]) ?_ ?_ ⟨g, k, none⟩ (n - k) (vs.drop k) ?_ ?_ ?_ ?_ (n + 1) ?_ ?_ ?_ ?_
            · rfl
            · rfl
            · exact HOB.out
            · rfl
            · (rw [List.length_drop, HLv.out])
            · exact drop_atV (HR.out.kept (grown_of_below HBB.out none) (own_em _)) (fun _ => rfl)
            · exact (HI.out.drop k).flat
            · omega
            · omega
            · exact HBB.out.size
            intro gC cC wC hoC hgC
            have HBC : Hid (Below w.heap.size w wC) := HBB.out.grown hgC HBB.out.size (fun q_ hq_ => by cases hq_; exact (HOB.out.lt gB rfl).1)
            have HOC := Lib.hid hoC
            clear hoC hgC
            refine hK _ _ ?_
            clear hK K
            (try simp only [Act.put, List.setIfInBounds_toArray, List.set_cons_zero, List.set_cons_succ])
            refine wpAny_take (i := 12) (oi := ⟨_, _, _, _, _, _⟩) (v := ?_) rfl (by kernel_rfl) (by kernel_rfl) (by kernel_rfl) (fun _ _ _ h => h) (Or.inl ⟨by rfl, ?_⟩) ?_
            rotate_left 1
            · intro w_; go_simp; (try with_reducible rfl)
            (try simp only [Act.put, List.setIfInBounds_toArray, List.set_cons_zero, List.set_cons_succ])
            refine wpAny_done (by kernel_rfl) ?_ _
            go_wp2_with fail
            go_ret
            refine ⟨gC, cC, _, rfl, ownsRow_base HOC.out HB0.out, ?_, HBC.out⟩
            rw [HIns.out]
            have hx_ := InnL.one (InnerAt.below (B := B) (v := .slice bo m d) ⟨bo, m, d, rfl, hmd, hd, HX.out⟩ HBC.out)
            have h_ := (((HI.out.below HBC.out).take k).append hx_).append ((HI.out.below HBC.out).drop k)
            simpa using h_
          · go_simp
            refine hK _ _ ?_
            clear hK K
            (try simp only [Act.put, List.setIfInBounds_toArray, List.set_cons_zero, List.set_cons_succ])
            refine wpAny_ready (rs := [4]) (by kernel_rfl) (by simp) ?_
            refine AllReady.cons (o := ⟨_, _, _, _, _, _⟩) rfl (fun K hK => ?_) AllReady.nil
            have hN : w.heap.size ≤ wr.drew.heap.size := Nat.le_of_eq HW.out.symm
            have HBW : Hid (Below w.heap.size w ((wr.drew.alloc (.cells #[] 40)).alloc (.cells #[.slice bo m d] 40))) := below_then (below_then (below_then HBr.out (below_drew wr)) (below_alloc _ _)) (below_alloc _ _)
            have hS0 : ((wr.drew.alloc (.cells #[] 40)).alloc (.cells #[.slice bo m d] 40)).cell? ⟨wr.heap.size + 1, 0, none⟩ = some (.slice bo m d) := by have h_ := cell_new0 (wr.drew.alloc (.cells #[] 40)) (.slice bo m d) 40; rw [World.size_alloc] at h_; exact h_
            refine step_append_lists (g0 := wr.heap.size) (c0 := 0) (c := c) ?_ _ _ rfl w.heap.size 0 ([]) ?_ ?_ ⟨g, 0, none⟩ k (vs.take k) ?_ ?_ ?_ ?_ k ?_ ?_ ?_ ?_
            · rfl
            · rfl
            · exact (own_nilL wr.drew hN).alloc _
            · rfl
            · (rw [List.length_take, HLv.out]; omega)
            · exact take_atV (HR.out.kept (grown_of_below HBW.out none) (own_em _))
            · exact (HI.out.take k).flat
            · omega
            · omega
            · exact HBW.out.size
            intro gA cA wT hoA hgA
            have HBT : Hid (Below w.heap.size w wT) := HBW.out.grown hgA HBW.out.size (fun q_ hq_ => by cases hq_; have := HW.out; omega)
            have HOT : Hid (wT.ownsRow w.heap.size 40 1 (.slice (some ⟨gA, 0, none⟩) k cA) k (vs.take k)) := by unfold Hid; simpa using hoA
            have HST : Hid (wT.cell? ⟨wr.heap.size + 1, 0, none⟩ = some (.slice bo m d)) := hgA.cell hS0 (by simp)
            obtain ⟨gS, hgS⟩ : ∃ gS, gS = wr.heap.size + 1 := ⟨_, rfl⟩
            rw [← hgS] at HST
            clear hoA hgA hS0
            refine hK _ _ ?_
            clear hK K
            (try simp only [Act.put, List.setIfInBounds_toArray, List.set_cons_zero, List.set_cons_succ])
            (try rw [← hgS])
            clear hgS
            refine wpAny_ready (rs := [7]) (by kernel_rfl) (by simp) ?_
            refine AllReady.cons (o := ⟨_, _, _, _, _, _⟩) rfl (fun K hK => ?_) AllReady.nil
            refine step_append_lists (g0 := gA) (c0 := cA) (c := 1) ?_ _ _ rfl w.heap.size k (vs.take k) ?_ ?_ ⟨gS, 0, none⟩ 1 ([.slice bo m d]) ?_ ?_ ?_ ?_ (k + 1) ?_ ?_ ?_ ?_
            · rfl
            · rfl
            · exact HOT.out
            · rfl
            · rfl
            · exact one_atV HST.out
            · (intro u hu; simp at hu; subst hu; rfl)
            · omega
            · omega
            · exact HBT.out.size
            intro gB cB wB hoB hgB
            have HBB : Hid (Below w.heap.size w wB) := HBT.out.grown hgB HBT.out.size (fun q_ hq_ => by cases hq_; exact (HOT.out.lt gA rfl).1)
            have HOB := Lib.hid hoB
            clear hoB hgB
            refine hK _ _ ?_
            clear hK K
            (try simp only [Act.put, List.setIfInBounds_toArray, List.set_cons_zero, List.set_cons_succ])
            refine wpAny_ready (rs := [11]) (by kernel_rfl) (by simp) ?_
            refine AllReady.cons (o := ⟨_, _, _, _, _, _⟩) rfl (fun K hK => ?_) AllReady.nil
            refine step_append_lists (g0 := gB) (c0 := cB) (c := (c - k)) ?_ _ _ rfl w.heap.size (k + 1) (vs.take k ++ [.slice bo m d]) ?_ ?_ ⟨g, k, none⟩ (n - k) (vs.drop k) ?_ ?_ ?_ ?_ (n + 1) ?_ ?_ ?_ ?_
            · rfl
            · rfl
            · exact HOB.out
            · rfl
            · (rw [List.length_drop, HLv.out])
            · exact drop_atV (HR.out.kept (grown_of_below HBB.out none) (own_em _)) (fun _ => rfl)
            · exact (HI.out.drop k).flat
            · omega
            · omega
            · exact HBB.out.size
            intro gC cC wC hoC hgC
            have HBC : Hid (Below w.heap.size w wC) := HBB.out.grown hgC HBB.out.size (fun q_ hq_ => by cases hq_; exact (HOB.out.lt gB rfl).1)
            have HOC := Lib.hid hoC
            clear hoC hgC
            refine hK _ _ ?_
            clear hK K
            (try simp only [Act.put, List.setIfInBounds_toArray, List.set_cons_zero, List.set_cons_succ])
            refine wpAny_take (i := 12) (oi := ⟨_, _, _, _, _, _⟩) (v := ?_) rfl (by kernel_rfl) (by kernel_rfl) (by kernel_rfl) (fun _ _ _ h => h) (Or.inl ⟨by rfl, ?_⟩) ?_
            rotate_left 1
            · intro w_; go_simp; (try with_reducible rfl)
            (try simp only [Act.put, List.setIfInBounds_toArray, List.set_cons_zero, List.set_cons_succ])
            refine wpAny_done (by kernel_rfl) ?_ _
            go_wp2_with fail
            go_ret
            refine ⟨gC, cC, _, rfl, ownsRow_base HOC.out HB0.out, ?_, HBC.out⟩
            rw [HIns.out]
            have hx_ := InnL.one (InnerAt.below (B := B) (v := .slice bo m d) ⟨bo, m, d, rfl, hmd, hd, HX.out⟩ HBC.out)
            have h_ := (((HI.out.below HBC.out).take k).append hx_).append ((HI.out.below HBC.out).drop k)
            simpa using h_
        · go_simp
          refine hK _ _ ?_
          clear hK K
          (try simp only [Act.put, List.setIfInBounds_toArray, List.set_cons_zero, List.set_cons_succ])
          refine wpAny_ready (rs := [0]) (by kernel_rfl) (by simp) ?_
          refine AllReady.cons (o := ⟨_, _, _, _, _, _⟩) rfl (fun K hK => ?_) AllReady.nil
          go_simp
          refine hK _ _ ?_
          clear hK K
          (try simp only [Act.put, List.setIfInBounds_toArray, List.set_cons_zero, List.set_cons_succ])
          refine wpAny_ready (rs := [4]) (by kernel_rfl) (by simp) ?_
          refine AllReady.cons (o := ⟨_, _, _, _, _, _⟩) rfl (fun K hK => ?_) AllReady.nil
          have hN : w.heap.size ≤ wr.drew.heap.size := Nat.le_of_eq HW.out.symm
          have HBW : Hid (Below w.heap.size w ((wr.drew.alloc (.cells #[.slice bo m d] 40)).alloc (.cells #[] 40))) := below_then (below_then (below_then HBr.out (below_drew wr)) (below_alloc _ _)) (below_alloc _ _)
          have hS0 : ((wr.drew.alloc (.cells #[.slice bo m d] 40)).alloc (.cells #[] 40)).cell? ⟨wr.heap.size, 0, none⟩ = some (.slice bo m d) := cell_b (below_alloc (wr.drew.alloc (.cells #[.slice bo m d] 40)) _) (cell_new0 wr.drew (.slice bo m d) 40)
          refine step_append_lists (g0 := wr.heap.size + 1) (c0 := 0) (c := c) ?_ _ _ rfl w.heap.size 0 ([]) ?_ ?_ ⟨g, 0, none⟩ k (vs.take k) ?_ ?_ ?_ ?_ k ?_ ?_ ?_ ?_
          · rfl
          · rfl
          · (have h_ := own_nilL (wr.drew.alloc (.cells #[.slice bo m d] 40)) (base := w.heap.size) (by rw [World.size_alloc]; exact Nat.le_succ_of_le hN); rw [World.size_alloc] at h_; exact h_)
          · rfl
          · (rw [List.length_take, HLv.out]; omega)
          · exact take_atV (HR.out.kept (grown_of_below HBW.out none) (own_em _))
          · exact (HI.out.take k).flat
          · omega
          · omega
          · exact HBW.out.size
          intro gA cA wT hoA hgA
          have HBT : Hid (Below w.heap.size w wT) := HBW.out.grown hgA HBW.out.size (fun q_ hq_ => by cases hq_; have := HW.out; omega)
          have HOT : Hid (wT.ownsRow w.heap.size 40 1 (.slice (some ⟨gA, 0, none⟩) k cA) k (vs.take k)) := by unfold Hid; simpa using hoA
          have HST : Hid (wT.cell? ⟨wr.heap.size, 0, none⟩ = some (.slice bo m d)) := hgA.cell hS0 (by simp)
          obtain ⟨gS, hgS⟩ : ∃ gS, gS = wr.heap.size := ⟨_, rfl⟩
          rw [← hgS] at HST
          clear hoA hgA hS0
          refine hK _ _ ?_
          clear hK K
          (try simp only [Act.put, List.setIfInBounds_toArray, List.set_cons_zero, List.set_cons_succ])
          (try rw [← hgS])
          clear hgS
          refine wpAny_ready (rs := [7]) (by kernel_rfl) (by simp) ?_
          refine AllReady.cons (o := ⟨_, _, _, _, _, _⟩) rfl (fun K hK => ?_) AllReady.nil
          refine step_append_lists (g0 := gA) (c0 := cA) (c := 1) ?_ _ _ rfl w.heap.size k (vs.take k) ?_ ?_ ⟨gS, 0, none⟩ 1 ([.slice bo m d]) ?_ ?_ ?_ ?_ (k + 1) ?_ ?_ ?_ ?_
          · rfl
          · rfl
          · exact HOT.out
          · rfl
          · rfl
          · exact one_atV HST.out
          · (intro u hu; simp at hu; subst hu; rfl)
          · omega
          · omega
          · exact HBT.out.size
          intro gB cB wB hoB hgB
          have HBB : Hid (Below w.heap.size w wB) := HBT.out.grown hgB HBT.out.size (fun q_ hq_ => by cases hq_; exact (HOT.out.lt gA rfl).1)
          have HOB := Lib.hid hoB
          clear hoB hgB
          refine hK _ _ ?_
          clear hK K
          (try simp only [Act.put, List.setIfInBounds_toArray, List.set_cons_zero, List.set_cons_succ])
          refine wpAny_ready (rs := [11]) (by kernel_rfl) (by simp) ?_
          refine AllReady.cons (o := ⟨_, _, _, _, _, _⟩) rfl (fun K hK => ?_) AllReady.nil
          refine step_append_lists (g0 := gB) (c0 := cB) (c := (c - k)) ?_ _ _ rfl w.heap.size (k + 1) (vs.take k ++ [.slice bo m d]) ?_ ?_ ⟨g, k, none⟩ (n - k) (vs.drop k) ?_ ?_ ?_ ?_ (n + 1) ?_ ?_ ?_ ?_
          · rfl
          · rfl
          · exact HOB.out
          · rfl
          · (rw [List.length_drop, HLv.out])
          · exact drop_atV (HR.out.kept (grown_of_below HBB.out none) (own_em _)) (fun _ => rfl)
          · exact (HI.out.drop k).flat
          · omega
          · omega
          · exact HBB.out.size
          intro gC cC wC hoC hgC
          have HBC : Hid (Below w.heap.size w wC) := HBB.out.grown hgC HBB.out.size (fun q_ hq_ => by cases hq_; exact (HOB.out.lt gB rfl).1)
          have HOC := Lib.hid hoC
          clear hoC hgC
          refine hK _ _ ?_
          clear hK K
          (try simp only [Act.put, List.setIfInBounds_toArray, List.set_cons_zero, List.set_cons_succ])
          refine wpAny_take (i := 12) (oi := ⟨_, _, _, _, _, _⟩) (v := ?_) rfl (by kernel_rfl) (by kernel_rfl) (by kernel_rfl) (fun _ _ _ h => h) (Or.inl ⟨by rfl, ?_⟩) ?_
          rotate_left 1
          · intro w_; go_simp; (try with_reducible rfl)
          (try simp only [Act.put, List.setIfInBounds_toArray, List.set_cons_zero, List.set_cons_succ])
          refine wpAny_done (by kernel_rfl) ?_ _
          go_wp2_with fail
          go_ret
          refine ⟨gC, cC, _, rfl, ownsRow_base HOC.out HB0.out, ?_, HBC.out⟩
          rw [HIns.out]
          have hx_ := InnL.one (InnerAt.below (B := B) (v := .slice bo m d) ⟨bo, m, d, rfl, hmd, hd, HX.out⟩ HBC.out)
          have h_ := (((HI.out.below HBC.out).take k).append hx_).append ((HI.out.below HBC.out).drop k)
          simpa using h_

    · obtain ⟨j, hj⟩ : ∃ j, k = j + 1 := ⟨k - 1, by omega⟩
      have HJ := Lib.hid hj
      have hkz : (0 : Int) < (k : Int) := by omega
      have hwr : IntKind.i64.wrap ((k : Int) - 1) = (j : Int) := by rw [IntKind.wrap_i64]; omega
      obtain ⟨a2, m2, c2, y, hv, hy, hm2, hc2, hvy⟩ := HI.out.at_ (j := j) (by rw [HLl.out]; omega)
      have hcell : wr.cell? ⟨g, j, none⟩ = some (.slice a2 m2 c2) := by
        refine cell_b HBr.out ?_
        rw [HR.out.cellAt j (by omega)]
        exact hv
      have hm8 : m2 ≤ 8 := by rw [← hvy.1]; exact H8.out y (List.mem_of_getElem? hy)
      have HVy := Lib.hid (hvy.kept (Kept.of_below HBr.out (Nat.le_refl _)))
      have HXr := Lib.hid (HX.out.kept (Kept.of_below HBr.out (Nat.le_refl _)))
      have HY := Lib.hid hy
      have hly := hvy.1
      have hsub : (k : Int) - 1 = (j : Int) := by omega
      have hjn : (j : Int) < (n : Int) := by omega
      have hNext : Hid (befB xs y = true → ∀ i y', j ≤ i → ls[i]? = some y' → befB xs y' = true) := fun hb i y' hi hy' => by
        by_cases hij : i = j
        · subst hij; rw [HY.out] at hy'; cases hy'; exact hb
        · exact HAft.out i y' (by have h_ := HJ.out; omega) hy'
      have hStop : Hid (befB xs y = false → ∀ y', 1 ≤ k → ls[k - 1]? = some y' → befB xs y' = false) := fun hb y' _ hy' => by
        rw [show k - 1 = j by omega, HY.out] at hy'; cases hy'; exact hb
      clear hv hy hvy hj hk0'
      by_cases hlt : m < m2
      · have hlt' : (m : Int) < (m2 : Int) := by omega
        have HN := Lib.hid (hNext.out (befB_lt (by have := hxl.out; omega)))
        clear hNext hStop
        go_wp2_with fail
        go_roundw
        case rel => exact ⟨j, by have h_ := HJ.out; omega, by go_num, HN, HW, HQr, HBr⟩
        case measure => have h_ := HJ.out; simp [intOf]; omega
      · have hlt' : ¬ (m : Int) < (m2 : Int) := by omega
        by_cases heq : m = m2
        · subst heq
          have heq' : ((m : Int) == (m : Int)) = true := by simp
          obtain ⟨u, hu⟩ : ∃ u, befB xs y = u := ⟨_, rfl⟩
          have hC := l5Less_any B w.heap.size B w.heap.size m d c2 bo a2 xs y wr HXr.out HVy.out (by omega)
          rw [hu] at hC
          have HC := Lib.hid hC
          cases u with
          | true =>
            have HN := Lib.hid (hNext.out hu)
            clear hNext hStop hC hu
            go_wp2_with fail
            refine HC.out.mono ?_
            rintro e w2 ⟨rfl, hq2⟩
            have HB2 : Hid (Below w.heap.size w w2) := below_drawn HBr.out hq2
            have HW2 : Hid (w2.heap.size = w.heap.size) := by obtain ⟨q, rfl⟩ := hq2; exact HW.out
            have HQ2 : Hid (∃ q, w2 = w.drewN q) := by
              obtain ⟨q, rfl⟩ := hq2
              obtain ⟨q0, h0⟩ := HQr.out
              exact ⟨q0 + q, by rw [h0, World.drewN_drewN]⟩
            clear hq2
            go_wp2_with fail
            go_roundw
            case rel => exact ⟨j, by have h_ := HJ.out; omega, by go_num, HN, HW2, HQ2, HB2⟩
            case measure => have h_ := HJ.out; simp [intOf]; omega
          | false =>
            have HBef' := Lib.hid (hStop.out hu)
            clear hNext hStop hC hu
            go_wp2_with fail
            refine HC.out.mono ?_
            rintro e wr2 ⟨rfl, hq2⟩
            have HBr2 : Hid (Below w.heap.size w wr2) := below_drawn HBr.out hq2
            have HW2 : Hid (wr2.heap.size = w.heap.size) := by obtain ⟨q, rfl⟩ := hq2; exact HW.out
            clear hq2 hcell HC HVy HXr HW HQr HBr
            have HBef := HBef'
            clear HBef'
            have hk0 : (0 : Int) ≤ (k : Int) := by omega
            have hkn' : (k : Int) ≤ (n : Int) := by omega
            have hkc' : (k : Int) ≤ (c : Int) := by omega
            have HIns : Hid (insL ls xs = ls.take k ++ xs :: ls.drop k) := insL_at HA.out (by rw [HLl.out]; exact hk) HAft.out HBef.out
            by_cases hkc : k = c
            · have hkn2 : k = n := by omega
              subst hkc
              subst hkn2
              go_wp2_with fail
              refine wp_region_any (by kernel_rfl) ?_
              (try (change wpAny _ _ _ _ _ _ _ (World.drew _)))
              refine wpAny_take (i := 1) (oi := ⟨_, _, _, _, _, _⟩) (v := ?_) rfl (by kernel_rfl) (by kernel_rfl) (by kernel_rfl) (fun _ _ _ h => h) (Or.inl ⟨by rfl, ?_⟩) ?_
              rotate_left 1
              · intro w_; go_simp; (try with_reducible rfl)
              (try simp only [Act.put, List.setIfInBounds_toArray, List.set_cons_zero, List.set_cons_succ])
              refine wpAny_take (i := 2) (oi := ⟨_, _, _, _, _, _⟩) (v := ?_) rfl (by kernel_rfl) (by kernel_rfl) (by kernel_rfl) (fun _ _ _ h => h) (Or.inl ⟨by rfl, ?_⟩) ?_
              rotate_left 1
              · intro w_; go_simp; (try with_reducible rfl)
              (try simp only [Act.put, List.setIfInBounds_toArray, List.set_cons_zero, List.set_cons_succ])
              refine wpAny_take (i := 3) (oi := ⟨_, _, _, _, _, _⟩) (v := ?_) rfl (by kernel_rfl) (by kernel_rfl) (by kernel_rfl) (fun _ _ _ h => h) (Or.inl ⟨by rfl, ?_⟩) ?_
              rotate_left 1
              · intro w_; go_simp; (try with_reducible rfl)
              (try simp only [Act.put, List.setIfInBounds_toArray, List.set_cons_zero, List.set_cons_succ])
              refine wpAny_take (i := 5) (oi := ⟨_, _, _, _, _, _⟩) (v := ?_) rfl (by kernel_rfl) (by kernel_rfl) (by kernel_rfl) (fun _ _ _ h => h) (Or.inl ⟨by rfl, ?_⟩) ?_
              rotate_left 1
              · intro w_; go_simp; (try with_reducible rfl)
              (try simp only [Act.put, List.setIfInBounds_toArray, List.set_cons_zero, List.set_cons_succ])
              refine wpAny_take (i := 8) (oi := ⟨_, _, _, _, _, _⟩) (v := ?_) rfl (by kernel_rfl) (by kernel_rfl) (by kernel_rfl) (fun _ _ _ h => h) (Or.inl ⟨by rfl, ?_⟩) ?_
              rotate_left 1
              · intro w_; go_simp; (try with_reducible rfl)
              (try simp only [Act.put, List.setIfInBounds_toArray, List.set_cons_zero, List.set_cons_succ])
              refine wpAny_take (i := 9) (oi := ⟨_, _, _, _, _, _⟩) (v := ?_) rfl (by kernel_rfl) (by kernel_rfl) (by kernel_rfl) (fun _ _ _ h => h) (Or.inl ⟨by rfl, ?_⟩) ?_
              rotate_left 1
              · intro w_; go_simp; (try with_reducible rfl)
              (try simp only [Act.put, List.setIfInBounds_toArray, List.set_cons_zero, List.set_cons_succ])
              refine wpAny_take (i := 10) (oi := ⟨_, _, _, _, _, _⟩) (v := ?_) rfl (by kernel_rfl) (by kernel_rfl) (by kernel_rfl) (fun _ _ _ h => h) (Or.inl ⟨by rfl, ?_⟩) ?_
              rotate_left 1
              · intro w_; go_simp; (try with_reducible rfl)
              (try simp only [Act.put, List.setIfInBounds_toArray, List.set_cons_zero, List.set_cons_succ])
              refine wpAny_ready (rs := [0, 6]) (by kernel_rfl) (by simp) ?_
              refine AllReady.cons (o := ⟨_, _, _, _, _, _⟩) rfl (fun K hK => ?_) (AllReady.cons (o := ⟨_, _, _, _, _, _⟩) rfl (fun K hK => ?_) AllReady.nil)
              · go_simp
                refine hK _ _ ?_
                clear hK K
                (try simp only [Act.put, List.setIfInBounds_toArray, List.set_cons_zero, List.set_cons_succ])
                refine wpAny_ready (rs := [4, 6]) (by kernel_rfl) (by simp) ?_
                refine AllReady.cons (o := ⟨_, _, _, _, _, _⟩) rfl (fun K hK => ?_) (AllReady.cons (o := ⟨_, _, _, _, _, _⟩) rfl (fun K hK => ?_) AllReady.nil)
                · have hN : w.heap.size ≤ wr2.drew.heap.size := Nat.le_of_eq HW2.out.symm
                  have HBW : Hid (Below w.heap.size w (wr2.drew.alloc (.cells #[] 40))) := below_then (below_then HBr2.out (below_drew wr2)) (below_alloc _ _)
                  refine step_append_lists (g0 := wr2.heap.size) (c0 := 0) (c := k) ?_ _ _ rfl w.heap.size 0 ([]) ?_ ?_ ⟨g, 0, none⟩ k (vs.take k) ?_ ?_ ?_ ?_ k ?_ ?_ ?_ ?_
                  · rfl
                  · rfl
                  · exact own_nilL wr2.drew hN
                  · rfl
                  · (rw [List.length_take, HLv.out]; omega)
                  · exact take_atV (HR.out.kept (grown_of_below HBW.out none) (own_em _))
                  · exact (HI.out.take k).flat
                  · omega
                  · omega
                  · exact HBW.out.size
                  intro gA cA wA hoA hgA
                  have HBA : Hid (Below w.heap.size w wA) := HBW.out.grown hgA HBW.out.size (fun q_ hq_ => by cases hq_; exact hN)
                  have HOA : Hid (wA.ownsRow w.heap.size 40 1 (.slice (some ⟨gA, 0, none⟩) k cA) k (vs.take k)) := by unfold Hid; simpa using hoA
                  clear hoA hgA
                  refine hK _ _ ?_
                  clear hK K
                  (try simp only [Act.put, List.setIfInBounds_toArray, List.set_cons_zero, List.set_cons_succ])
                  refine wpAny_ready (rs := [6]) (by kernel_rfl) (by simp) ?_
                  refine AllReady.cons (o := ⟨_, _, _, _, _, _⟩) rfl (fun K hK => ?_) AllReady.nil
                  go_simp
                  refine hK _ _ ?_
                  clear hK K
                  (try simp only [Act.put, List.setIfInBounds_toArray, List.set_cons_zero, List.set_cons_succ])
                  obtain ⟨wT, hwT⟩ : ∃ wT, wT = wA.alloc (.cells #[.slice bo m d] 40) := ⟨_, rfl⟩
                  obtain ⟨gS, hgS⟩ : ∃ gS, gS = wA.heap.size := ⟨_, rfl⟩
                  have HBT : Hid (Below w.heap.size w wT) := by rw [hwT]; exact below_then HBA.out (below_alloc _ _)
                  have HOT : Hid (wT.ownsRow w.heap.size 40 1 (.slice (some ⟨gA, 0, none⟩) k cA) k (vs.take k)) := by rw [hwT]; exact HOA.out.alloc _
                  have HST : Hid (wT.cell? ⟨gS, 0, none⟩ = some (.slice bo m d)) := by unfold Hid; rw [hwT, hgS]; simp
                  rw [← hwT, ← hgS]
                  clear hwT hgS
                  refine wpAny_ready (rs := [7]) (by kernel_rfl) (by simp) ?_
                  refine AllReady.cons (o := ⟨_, _, _, _, _, _⟩) rfl (fun K hK => ?_) AllReady.nil
                  refine step_append_lists (g0 := gA) (c0 := cA) (c := 1) ?_ _ _ rfl w.heap.size k (vs.take k) ?_ ?_ ⟨gS, 0, none⟩ 1 ([.slice bo m d]) ?_ ?_ ?_ ?_ (k + 1) ?_ ?_ ?_ ?_
                  · rfl
                  · rfl
                  · exact HOT.out
                  · rfl
                  · rfl
                  · exact one_atV HST.out
                  · (intro u hu; simp at hu; subst hu; rfl)
                  · omega
                  · omega
                  · exact HBT.out.size
                  intro gB cB wB hoB hgB
                  have HBB : Hid (Below w.heap.size w wB) := HBT.out.grown hgB HBT.out.size (fun q_ hq_ => by cases hq_; exact (HOT.out.lt gA rfl).1)
                  have HOB := Lib.hid hoB
                  clear hoB hgB
                  refine hK _ _ ?_
                  clear hK K
                  (try simp only [Act.put, List.setIfInBounds_toArray, List.set_cons_zero, List.set_cons_succ])
                  refine wpAny_ready (rs := [11]) (by kernel_rfl) (by simp) ?_
                  refine AllReady.cons (o := ⟨_, _, _, _, _, _⟩) rfl (fun K hK => ?_) AllReady.nil
                  refine step_append_lists (g0 := gB) (c0 := cB) (c := 0) ?_ _ _ rfl w.heap.size (k + 1) (vs.take k ++ [.slice bo m d]) ?_ ?_ ⟨g, 0, none⟩ 0 (vs.drop k) ?_ ?_ ?_ ?_ (k + 1) ?_ ?_ ?_ ?_
                  · rfl
                  · rfl
                  · exact HOB.out
                  · rfl
                  · (rw [List.length_drop, HLv.out]; omega)
                  · exact drop_atV (HR.out.kept (grown_of_below HBB.out none) (own_em _)) (fun h_ => absurd h_ (by omega))
                  · exact (HI.out.drop k).flat
                  · omega
                  · omega
                  · exact HBB.out.size
                  intro gC cC wC hoC hgC
                  have HBC : Hid (Below w.heap.size w wC) := HBB.out.grown hgC HBB.out.size (fun q_ hq_ => by cases hq_; exact (HOB.out.lt gB rfl).1)
                  have HOC := Lib.hid hoC
                  clear hoC hgC
                  refine hK _ _ ?_
                  clear hK K
                  (try simp only [Act.put, List.setIfInBounds_toArray, List.set_cons_zero, List.set_cons_succ])
                  refine wpAny_take (i := 12) (oi := ⟨_, _, _, _, _, _⟩) (v := ?_) rfl (by kernel_rfl) (by kernel_rfl) (by kernel_rfl) (fun _ _ _ h => h) (Or.inl ⟨by rfl, ?_⟩) ?_
                  rotate_left 1
                  · intro w_; go_simp; (try with_reducible rfl)
                  (try simp only [Act.put, List.setIfInBounds_toArray, List.set_cons_zero, List.set_cons_succ])
                  refine wpAny_done (by kernel_rfl) ?_ _
                  go_wp2_with fail
                  go_ret
                  refine ⟨gC, cC, _, rfl, ownsRow_base HOC.out HB0.out, ?_, HBC.out⟩
                  rw [HIns.out]
                  have hx_ := InnL.one (InnerAt.below (B := B) (v := .slice bo m d) ⟨bo, m, d, rfl, hmd, hd, HX.out⟩ HBC.out)
                  have h_ := (((HI.out.below HBC.out).take k).append hx_).append ((HI.out.below HBC.out).drop k)
                  simpa using h_
                · go_simp
                  refine hK _ _ ?_
                  clear hK K
                  (try simp only [Act.put, List.setIfInBounds_toArray, List.set_cons_zero, List.set_cons_succ])
                  refine wpAny_ready (rs := [4]) (by kernel_rfl) (by simp) ?_
                  refine AllReady.cons (o := ⟨_, _, _, _, _, _⟩) rfl (fun K hK => ?_) AllReady.nil
                  have hN : w.heap.size ≤ wr2.drew.heap.size := Nat.le_of_eq HW2.out.symm
                  have HBW : Hid (Below w.heap.size w ((wr2.drew.alloc (.cells #[] 40)).alloc (.cells #[.slice bo m d] 40))) := below_then (below_then (below_then HBr2.out (below_drew wr2)) (below_alloc _ _)) (below_alloc _ _)
                  have hS0 : ((wr2.drew.alloc (.cells #[] 40)).alloc (.cells #[.slice bo m d] 40)).cell? ⟨wr2.heap.size + 1, 0, none⟩ = some (.slice bo m d) := by have h_ := cell_new0 (wr2.drew.alloc (.cells #[] 40)) (.slice bo m d) 40; rw [World.size_alloc] at h_; exact h_
                  refine step_append_lists (g0 := wr2.heap.size) (c0 := 0) (c := k) ?_ _ _ rfl w.heap.size 0 ([]) ?_ ?_ ⟨g, 0, none⟩ k (vs.take k) ?_ ?_ ?_ ?_ k ?_ ?_ ?_ ?_
                  · rfl
                  · rfl
                  · exact (own_nilL wr2.drew hN).alloc _
                  · rfl
                  · (rw [List.length_take, HLv.out]; omega)
                  · exact take_atV (HR.out.kept (grown_of_below HBW.out none) (own_em _))
                  · exact (HI.out.take k).flat
                  · omega
                  · omega
                  · exact HBW.out.size
                  intro gA cA wT hoA hgA
                  have HBT : Hid (Below w.heap.size w wT) := HBW.out.grown hgA HBW.out.size (fun q_ hq_ => by cases hq_; have := HW2.out; omega)
                  have HOT : Hid (wT.ownsRow w.heap.size 40 1 (.slice (some ⟨gA, 0, none⟩) k cA) k (vs.take k)) := by unfold Hid; simpa using hoA
                  have HST : Hid (wT.cell? ⟨wr2.heap.size + 1, 0, none⟩ = some (.slice bo m d)) := hgA.cell hS0 (by simp)
                  obtain ⟨gS, hgS⟩ : ∃ gS, gS = wr2.heap.size + 1 := ⟨_, rfl⟩
                  rw [← hgS] at HST
                  clear hoA hgA hS0
                  refine hK _ _ ?_
                  clear hK K
                  (try simp only [Act.put, List.setIfInBounds_toArray, List.set_cons_zero, List.set_cons_succ])
                  (try rw [← hgS])
                  clear hgS
                  refine wpAny_ready (rs := [7]) (by kernel_rfl) (by simp) ?_
                  refine AllReady.cons (o := ⟨_, _, _, _, _, _⟩) rfl (fun K hK => ?_) AllReady.nil
                  refine step_append_lists (g0 := gA) (c0 := cA) (c := 1) ?_ _ _ rfl w.heap.size k (vs.take k) ?_ ?_ ⟨gS, 0, none⟩ 1 ([.slice bo m d]) ?_ ?_ ?_ ?_ (k + 1) ?_ ?_ ?_ ?_
                  · rfl
                  · rfl
                  · exact HOT.out
                  · rfl
                  · rfl
                  · exact one_atV HST.out
                  · (intro u hu; simp at hu; subst hu; rfl)
                  · omega
                  · omega
                  · exact HBT.out.size
                  intro gB cB wB hoB hgB
                  have HBB : Hid (Below w.heap.size w wB) := HBT.out.grown hgB HBT.out.size (fun q_ hq_ => by cases hq_; exact (HOT.out.lt gA rfl).1)
                  have HOB := Lib.hid hoB
                  clear hoB hgB
                  refine hK _ _ ?_
                  clear hK K
                  (try simp only [Act.put, List.setIfInBounds_toArray, List.set_cons_zero, List.set_cons_succ])
                  refine wpAny_ready (rs := [11]) (by kernel_rfl) (by simp) ?_
                  refine AllReady.cons (o := ⟨_, _, _, _, _, _⟩) rfl (fun K hK => ?_) AllReady.nil
                  refine step_append_lists (g0 := gB) (c0 := cB) (c := 0) ?_ _ _ rfl w.heap.size (k + 1) (vs.take k ++ [.slice bo m d]) ?_ ?_ ⟨g, 0, none⟩ 0 (vs.drop k) ?_ ?_ ?_ ?_ (k + 1) ?_ ?_ ?_ ?_
                  · rfl
                  · rfl
                  · exact HOB.out
                  · rfl
                  · (rw [List.length_drop, HLv.out]; omega)
                  · exact drop_atV (HR.out.kept (grown_of_below HBB.out none) (own_em _)) (fun h_ => absurd h_ (by omega))
                  · exact (HI.out.drop k).flat
                  · omega
                  · omega
                  · exact HBB.out.size
                  intro gC cC wC hoC hgC
                  have HBC : Hid (Below w.heap.size w wC) := HBB.out.grown hgC HBB.out.size (fun q_ hq_ => by cases hq_; exact (HOB.out.lt gB rfl).1)
                  have HOC := Lib.hid hoC
                  clear hoC hgC
                  refine hK _ _ ?_
                  clear hK K
                  (try simp only [Act.put, List.setIfInBounds_toArray, List.set_cons_zero, List.set_cons_succ])
                  refine wpAny_take (i := 12) (oi := ⟨_, _, _, _, _, _⟩) (v := ?_) rfl (by kernel_rfl) (by kernel_rfl) (by kernel_rfl) (fun _ _ _ h => h) (Or.inl ⟨by rfl, ?_⟩) ?_
                  rotate_left 1
                  · intro w_; go_simp; (try with_reducible rfl)
                  (try simp only [Act.put, List.setIfInBounds_toArray, List.set_cons_zero, List.set_cons_succ])
                  refine wpAny_done (by kernel_rfl) ?_ _
                  go_wp2_with fail
                  go_ret
                  refine ⟨gC, cC, _, rfl, ownsRow_base HOC.out HB0.out, ?_, HBC.out⟩
                  rw [HIns.out]
                  have hx_ := InnL.one (InnerAt.below (B := B) (v := .slice bo m d) ⟨bo, m, d, rfl, hmd, hd, HX.out⟩ HBC.out)
                  have h_ := (((HI.out.below HBC.out).take k).append hx_).append ((HI.out.below HBC.out).drop k)
                  simpa using h_
              · go_simp
                refine hK _ _ ?_
                clear hK K
                (try simp only [Act.put, List.setIfInBounds_toArray, List.set_cons_zero, List.set_cons_succ])
                refine wpAny_ready (rs := [0]) (by kernel_rfl) (by simp) ?_
                refine AllReady.cons (o := ⟨_, _, _, _, _, _⟩) rfl (fun K hK => ?_) AllReady.nil
                go_simp
                refine hK _ _ ?_
                clear hK K
                (try simp only [Act.put, List.setIfInBounds_toArray, List.set_cons_zero, List.set_cons_succ])
                refine wpAny_ready (rs := [4]) (by kernel_rfl) (by simp) ?_
                refine AllReady.cons (o := ⟨_, _, _, _, _, _⟩) rfl (fun K hK => ?_) AllReady.nil
                have hN : w.heap.size ≤ wr2.drew.heap.size := Nat.le_of_eq HW2.out.symm
                have HBW : Hid (Below w.heap.size w ((wr2.drew.alloc (.cells #[.slice bo m d] 40)).alloc (.cells #[] 40))) := below_then (below_then (below_then HBr2.out (below_drew wr2)) (below_alloc _ _)) (below_alloc _ _)
                have hS0 : ((wr2.drew.alloc (.cells #[.slice bo m d] 40)).alloc (.cells #[] 40)).cell? ⟨wr2.heap.size, 0, none⟩ = some (.slice bo m d) := cell_b (below_alloc (wr2.drew.alloc (.cells #[.slice bo m d] 40)) _) (cell_new0 wr2.drew (.slice bo m d) 40)
                refine step_append_lists (g0 := wr2.heap.size + 1) (c0 := 0) (c := k) ?_ _ _ rfl w.heap.size 0 ([]) ?_ ?_ ⟨g, 0, none⟩ k (vs.take k) ?_ ?_ ?_ ?_ k ?_ ?_ ?_ ?_
                · rfl
                · rfl
                · (have h_ := own_nilL (wr2.drew.alloc (.cells #[.slice bo m d] 40)) (base := w.heap.size) (by rw [World.size_alloc]; exact Nat.le_succ_of_le hN); rw [World.size_alloc] at h_; exact h_)
                · rfl
                · (rw [List.length_take, HLv.out]; omega)
                · exact take_atV (HR.out.kept (grown_of_below HBW.out none) (own_em _))
                · exact (HI.out.take k).flat
                · omega
                · omega
                · exact HBW.out.size
                intro gA cA wT hoA hgA
                have HBT : Hid (Below w.heap.size w wT) := HBW.out.grown hgA HBW.out.size (fun q_ hq_ => by cases hq_; have := HW2.out; omega)
                have HOT : Hid (wT.ownsRow w.heap.size 40 1 (.slice (some ⟨gA, 0, none⟩) k cA) k (vs.take k)) := by unfold Hid; simpa using hoA
                have HST : Hid (wT.cell? ⟨wr2.heap.size, 0, none⟩ = some (.slice bo m d)) := hgA.cell hS0 (by simp)
                obtain ⟨gS, hgS⟩ : ∃ gS, gS = wr2.heap.size := ⟨_, rfl⟩
                rw [← hgS] at HST
                clear hoA hgA hS0
                refine hK _ _ ?_
                clear hK K
                (try simp only [Act.put, List.setIfInBounds_toArray, List.set_cons_zero, List.set_cons_succ])
                (try rw [← hgS])
                clear hgS
                refine wpAny_ready (rs := [7]) (by kernel_rfl) (by simp) ?_
                refine AllReady.cons (o := ⟨_, _, _, _, _, _⟩) rfl (fun K hK => ?_) AllReady.nil
                refine step_append_lists (g0 := gA) (c0 := cA) (c := 1) ?_ _ _ rfl w.heap.size k (vs.take k) ?_ ?_ ⟨gS, 0, none⟩ 1 ([.slice bo m d]) ?_ ?_ ?_ ?_ (k + 1) ?_ ?_ ?_ ?_
                · rfl
                · rfl
                · exact HOT.out
                · rfl
                · rfl
                · exact one_atV HST.out
                · (intro u hu; simp at hu; subst hu; rfl)
                · omega
                · omega
                · exact HBT.out.size
                intro gB cB wB hoB hgB
                have HBB : Hid (Below w.heap.size w wB) := HBT.out.grown hgB HBT.out.size (fun q_ hq_ => by cases hq_; exact (HOT.out.lt gA rfl).1)
                have HOB := Lib.hid hoB
                clear hoB hgB
                refine hK _ _ ?_
                clear hK K
                (try simp only [Act.put, List.setIfInBounds_toArray, List.set_cons_zero, List.set_cons_succ])
                refine wpAny_ready (rs := [11]) (by kernel_rfl) (by simp) ?_
                refine AllReady.cons (o := ⟨_, _, _, _, _, _⟩) rfl (fun K hK => ?_) AllReady.nil
                refine step_append_lists (g0 := gB) (c0 := cB) (c := 0) ?_ _ _ rfl w.heap.size (k + 1) (vs.take k ++ [.slice bo m d]) ?_ ?_ ⟨g, 0, none⟩ 0 (vs.drop k) ?_ ?_ ?_ ?_ (k + 1) ?_ ?_ ?_ ?_
                · rfl
                · rfl
                · exact HOB.out
                · rfl
                · (rw [List.length_drop, HLv.out]; omega)
                · exact drop_atV (HR.out.kept (grown_of_below HBB.out none) (own_em _)) (fun h_ => absurd h_ (by omega))
                · exact (HI.out.drop k).flat
                · omega
                · omega
                · exact HBB.out.size
                intro gC cC wC hoC hgC
                have HBC : Hid (Below w.heap.size w wC) := HBB.out.grown hgC HBB.out.size (fun q_ hq_ => by cases hq_; exact (HOB.out.lt gB rfl).1)
                have HOC := Lib.hid hoC
                clear hoC hgC
                refine hK _ _ ?_
                clear hK K
                (try simp only [Act.put, List.setIfInBounds_toArray, List.set_cons_zero, List.set_cons_succ])
                refine wpAny_take (i := 12) (oi := ⟨_, _, _, _, _, _⟩) (v := ?_) rfl (by kernel_rfl) (by kernel_rfl) (by kernel_rfl) (fun _ _ _ h => h) (Or.inl ⟨by rfl, ?_⟩) ?_
                rotate_left 1
                · intro w_; go_simp; (try with_reducible rfl)
                (try simp only [Act.put, List.setIfInBounds_toArray, List.set_cons_zero, List.set_cons_succ])
                refine wpAny_done (by kernel_rfl) ?_ _
                go_wp2_with fail
                go_ret
                refine ⟨gC, cC, _, rfl, ownsRow_base HOC.out HB0.out, ?_, HBC.out⟩
                rw [HIns.out]
                have hx_ := InnL.one (InnerAt.below (B := B) (v := .slice bo m d) ⟨bo, m, d, rfl, hmd, hd, HX.out⟩ HBC.out)
                have h_ := (((HI.out.below HBC.out).take k).append hx_).append ((HI.out.below HBC.out).drop k)
                simpa using h_

            · have hck : ¬ c = k := fun h_ => hkc h_.symm
              go_wp2_with fail
              refine wp_region_any (by kernel_rfl) ?_
              (try (change wpAny _ _ _ _ _ _ _ (World.drew _)))
              refine wpAny_take (i := 1) (oi := ⟨_, _, _, _, _, _⟩) (v := ?_) rfl (by kernel_rfl) (by kernel_rfl) (by kernel_rfl) (fun _ _ _ h => h) (Or.inl ⟨by rfl, ?_⟩) ?_
              rotate_left 1
              · intro w_; go_simp; (try with_reducible rfl)
              (try simp only [Act.put, List.setIfInBounds_toArray, List.set_cons_zero, List.set_cons_succ])
              refine wpAny_take (i := 2) (oi := ⟨_, _, _, _, _, _⟩) (v := ?_) rfl (by kernel_rfl) (by kernel_rfl) (by kernel_rfl) (fun _ _ _ h => h) (Or.inl ⟨by rfl, ?_⟩) ?_
              rotate_left 1
              · intro w_; go_simp; (try with_reducible rfl)
              (try simp only [Act.put, List.setIfInBounds_toArray, List.set_cons_zero, List.set_cons_succ])
              refine wpAny_take (i := 3) (oi := ⟨_, _, _, _, _, _⟩) (v := ?_) rfl (by kernel_rfl) (by kernel_rfl) (by kernel_rfl) (fun _ _ _ h => h) (Or.inl ⟨by rfl, ?_⟩) ?_
              rotate_left 1
              · intro w_; go_simp; (try with_reducible rfl)
              (try simp only [Act.put, List.setIfInBounds_toArray, List.set_cons_zero, List.set_cons_succ])
              refine wpAny_take (i := 5) (oi := ⟨_, _, _, _, _, _⟩) (v := ?_) rfl (by kernel_rfl) (by kernel_rfl) (by kernel_rfl) (fun _ _ _ h => h) (Or.inl ⟨by rfl, ?_⟩) ?_
              rotate_left 1
              · intro w_; go_simp; (try with_reducible rfl)
              (try simp only [Act.put, List.setIfInBounds_toArray, List.set_cons_zero, List.set_cons_succ])
              refine wpAny_take (i := 8) (oi := ⟨_, _, _, _, _, _⟩) (v := ?_) rfl (by kernel_rfl) (by kernel_rfl) (by kernel_rfl) (fun _ _ _ h => h) (Or.inl ⟨by rfl, ?_⟩) ?_
              rotate_left 1
              · intro w_; go_simp; (try with_reducible rfl)
              (try simp only [Act.put, List.setIfInBounds_toArray, List.set_cons_zero, List.set_cons_succ])
              refine wpAny_take (i := 9) (oi := ⟨_, _, _, _, _, _⟩) (v := ?_) rfl (by kernel_rfl) (by kernel_rfl) (by kernel_rfl) (fun _ _ _ h => h) (Or.inl ⟨by rfl, ?_⟩) ?_
              rotate_left 1
              · intro w_; go_simp; (try with_reducible rfl)
              (try simp only [Act.put, List.setIfInBounds_toArray, List.set_cons_zero, List.set_cons_succ])
              refine wpAny_take (i := 10) (oi := ⟨_, _, _, _, _, _⟩) (v := ?_) rfl (by kernel_rfl) (by kernel_rfl) (by kernel_rfl) (fun _ _ _ h => h) (Or.inl ⟨by rfl, ?_⟩) ?_
              rotate_left 1
              · intro w_; go_simp; (try with_reducible rfl)
              (try simp only [Act.put, List.setIfInBounds_toArray, List.set_cons_zero, List.set_cons_succ])
              refine wpAny_ready (rs := [0, 6]) (by kernel_rfl) (by simp) ?_
              refine AllReady.cons (o := ⟨_, _, _, _, _, _⟩) rfl (fun K hK => ?_) (AllReady.cons (o := ⟨_, _, _, _, _, _⟩) rfl (fun K hK => ?_) AllReady.nil)
              · go_simp
                refine hK _ _ ?_
                clear hK K
                (try simp only [Act.put, List.setIfInBounds_toArray, List.set_cons_zero, List.set_cons_succ])
                refine wpAny_ready (rs := [4, 6]) (by kernel_rfl) (by simp) ?_
                refine AllReady.cons (o := ⟨_, _, _, _, _, _⟩) rfl (fun K hK => ?_) (AllReady.cons (o := ⟨_, _, _, _, _, _⟩) rfl (fun K hK => ?_) AllReady.nil)
                · have hN : w.heap.size ≤ wr2.drew.heap.size := Nat.le_of_eq HW2.out.symm
                  have HBW : Hid (Below w.heap.size w (wr2.drew.alloc (.cells #[] 40))) := below_then (below_then HBr2.out (below_drew wr2)) (below_alloc _ _)
                  refine step_append_lists (g0 := wr2.heap.size) (c0 := 0) (c := c) ?_ _ _ rfl w.heap.size 0 ([]) ?_ ?_ ⟨g, 0, none⟩ k (vs.take k) ?_ ?_ ?_ ?_ k ?_ ?_ ?_ ?_
                  · rfl
                  · rfl
                  · exact own_nilL wr2.drew hN
                  · rfl
                  · (rw [List.length_take, HLv.out]; omega)
                  · exact take_atV (HR.out.kept (grown_of_below HBW.out none) (own_em _))
                  · exact (HI.out.take k).flat
                  · omega
                  · omega
                  · exact HBW.out.size
                  intro gA cA wA hoA hgA
                  have HBA : Hid (Below w.heap.size w wA) := HBW.out.grown hgA HBW.out.size (fun q_ hq_ => by cases hq_; exact hN)
                  have HOA : Hid (wA.ownsRow w.heap.size 40 1 (.slice (some ⟨gA, 0, none⟩) k cA) k (vs.take k)) := by unfold Hid; simpa using hoA
                  clear hoA hgA
                  refine hK _ _ ?_
                  clear hK K
                  (try simp only [Act.put, List.setIfInBounds_toArray, List.set_cons_zero, List.set_cons_succ])
                  refine wpAny_ready (rs := [6]) (by kernel_rfl) (by simp) ?_
                  refine AllReady.cons (o := ⟨_, _, _, _, _, _⟩) rfl (fun K hK => ?_) AllReady.nil
                  go_simp
                  refine hK _ _ ?_
                  clear hK K
                  (try simp only [Act.put, List.setIfInBounds_toArray, List.set_cons_zero, List.set_cons_succ])
                  obtain ⟨wT, hwT⟩ : ∃ wT, wT = wA.alloc (.cells #[.slice bo m d] 40) := ⟨_, rfl⟩
                  obtain ⟨gS, hgS⟩ : ∃ gS, gS = wA.heap.size := ⟨_, rfl⟩
                  have HBT : Hid (Below w.heap.size w wT) := by rw [hwT]; exact below_then HBA.out (below_alloc _ _)
                  have HOT : Hid (wT.ownsRow w.heap.size 40 1 (.slice (some ⟨gA, 0, none⟩) k cA) k (vs.take k)) := by rw [hwT]; exact HOA.out.alloc _
                  have HST : Hid (wT.cell? ⟨gS, 0, none⟩ = some (.slice bo m d)) := by unfold Hid; rw [hwT, hgS]; simp
                  rw [← hwT, ← hgS]
                  clear hwT hgS
                  refine wpAny_ready (rs := [7]) (by kernel_rfl) (by simp) ?_
                  refine AllReady.cons (o := ⟨_, _, _, _, _, _⟩) rfl (fun K hK => ?_) AllReady.nil
                  refine step_append_lists (g0 := gA) (c0 := cA) (c := 1) ?_ _ _ rfl w.heap.size k (vs.take k) ?_ ?_ ⟨gS, 0, none⟩ 1 ([.slice bo m d]) ?_ ?_ ?_ ?_ (k + 1) ?_ ?_ ?_ ?_
                  · rfl
                  · rfl
                  · exact HOT.out
                  · rfl
                  · rfl
                  · exact one_atV HST.out
                  · (intro u hu; simp at hu; subst hu; rfl)
                  · omega
                  · omega
                  · exact HBT.out.size
                  intro gB cB wB hoB hgB
                  have HBB : Hid (Below w.heap.size w wB) := HBT.out.grown hgB HBT.out.size (fun q_ hq_ => by cases hq_; exact (HOT.out.lt gA rfl).1)
                  have HOB := Lib.hid hoB
                  clear hoB hgB
                  refine hK _ _ ?_
                  clear hK K
                  (try simp only [Act.put, List.setIfInBounds_toArray, List.set_cons_zero, List.set_cons_succ])
                  refine wpAny_ready (rs := [11]) (by kernel_rfl) (by simp) ?_
                  refine AllReady.cons (o := ⟨_, _, _, _, _, _⟩) rfl (fun K hK => ?_) AllReady.nil
                  refine step_append_lists (g0 := gB) (c0 := cB) (c := (c - k)) ?_ _ _ rfl w.heap.size (k + 1) (vs.take k ++ [.slice bo m d]) ?_ ?_ ⟨g, k, none⟩ (n - k) (vs.drop k) ?_ ?_ ?_ ?_ (n + 1) ?_ ?_ ?_ ?_
                  · rfl
                  · rfl
                  · exact HOB.out
                  · rfl
                  · (rw [List.length_drop, HLv.out])
                  · exact drop_atV (HR.out.kept (grown_of_below HBB.out none) (own_em _)) (fun _ => rfl)
                  · exact (HI.out.drop k).flat
                  · omega
                  · omega
                  · exact HBB.out.size
                  intro gC cC wC hoC hgC
                  have HBC : Hid (Below w.heap.size w wC) := HBB.out.grown hgC HBB.out.size (fun q_ hq_ => by cases hq_; exact (HOB.out.lt gB rfl).1)
                  have HOC := Lib.hid hoC
                  clear hoC hgC
                  refine hK _ _ ?_
                  clear hK K
                  (try simp only [Act.put, List.setIfInBounds_toArray, List.set_cons_zero, List.set_cons_succ])
                  refine wpAny_take (i := 12) (oi := ⟨_, _, _, _, _, _⟩) (v := ?_) rfl (by kernel_rfl) (by kernel_rfl) (by kernel_rfl) (fun _ _ _ h => h) (Or.inl ⟨by rfl, ?_⟩) ?_
                  rotate_left 1
                  · intro w_; go_simp; (try with_reducible rfl)
                  (try simp only [Act.put, List.setIfInBounds_toArray, List.set_cons_zero, List.set_cons_succ])
                  refine wpAny_done (by kernel_rfl) ?_ _
                  go_wp2_with fail
                  go_ret
                  refine ⟨gC, cC, _, rfl, ownsRow_base HOC.out HB0.out, ?_, HBC.out⟩
                  rw [HIns.out]
                  have hx_ := InnL.one (InnerAt.below (B := B) (v := .slice bo m d) ⟨bo, m, d, rfl, hmd, hd, HX.out⟩ HBC.out)
                  have h_ := (((HI.out.below HBC.out).take k).append hx_).append ((HI.out.below HBC.out).drop k)
                  simpa using h_
                · go_simp
                  refine hK _ _ ?_
                  clear hK K
                  (try simp only [Act.put, List.setIfInBounds_toArray, List.set_cons_zero, List.set_cons_succ])
                  refine wpAny_ready (rs := [4]) (by kernel_rfl) (by simp) ?_
                  refine AllReady.cons (o := ⟨_, _, _, _, _, _⟩) rfl (fun K hK => ?_) AllReady.nil
                  have hN : w.heap.size ≤ wr2.drew.heap.size := Nat.le_of_eq HW2.out.symm
                  have HBW : Hid (Below w.heap.size w ((wr2.drew.alloc (.cells #[] 40)).alloc (.cells #[.slice bo m d] 40))) := below_then (below_then (below_then HBr2.out (below_drew wr2)) (below_alloc _ _)) (below_alloc _ _)
                  have hS0 : ((wr2.drew.alloc (.cells #[] 40)).alloc (.cells #[.slice bo m d] 40)).cell? ⟨wr2.heap.size + 1, 0, none⟩ = some (.slice bo m d) := by have h_ := cell_new0 (wr2.drew.alloc (.cells #[] 40)) (.slice bo m d) 40; rw [World.size_alloc] at h_; exact h_
                  refine step_append_lists (g0 := wr2.heap.size) (c0 := 0) (c := c) ?_ _ _ rfl w.heap.size 0 ([]) ?_ ?_ ⟨g, 0, none⟩ k (vs.take k) ?_ ?_ ?_ ?_ k ?_ ?_ ?_ ?_
                  · rfl
                  · rfl
                  · exact (own_nilL wr2.drew hN).alloc _
                  · rfl
                  · (rw [List.length_take, HLv.out]; omega)
                  · exact take_atV (HR.out.kept (grown_of_below HBW.out none) (own_em _))
                  · exact (HI.out.take k).flat
                  · omega
                  · omega
                  · exact HBW.out.size
                  intro gA cA wT hoA hgA
                  have HBT : Hid (Below w.heap.size w wT) := HBW.out.grown hgA HBW.out.size (fun q_ hq_ => by cases hq_; have := HW2.out; omega)
                  have HOT : Hid (wT.ownsRow w.heap.size 40 1 (.slice (some ⟨gA, 0, none⟩) k cA) k (vs.take k)) := by unfold Hid; simpa using hoA
                  have HST : Hid (wT.cell? ⟨wr2.heap.size + 1, 0, none⟩ = some (.slice bo m d)) := hgA.cell hS0 (by simp)
                  obtain ⟨gS, hgS⟩ : ∃ gS, gS = wr2.heap.size + 1 := ⟨_, rfl⟩
                  rw [← hgS] at HST
                  clear hoA hgA hS0
                  refine hK _ _ ?_
                  clear hK K
                  (try simp only [Act.put, List.setIfInBounds_toArray, List.set_cons_zero, List.set_cons_succ])
                  (try rw [← hgS])
                  clear hgS
                  refine wpAny_ready (rs := [7]) (by kernel_rfl) (by simp) ?_
                  refine AllReady.cons (o := ⟨_, _, _, _, _, _⟩) rfl (fun K hK => ?_) AllReady.nil
                  refine step_append_lists (g0 := gA) (c0 := cA) (c := 1) ?_ _ _ rfl w.heap.size k (vs.take k) ?_ ?_ ⟨gS, 0, none⟩ 1 ([.slice bo m d]) ?_ ?_ ?_ ?_ (k + 1) ?_ ?_ ?_ ?_
                  · rfl
                  · rfl
                  · exact HOT.out
                  · rfl
                  · rfl
                  · exact one_atV HST.out
                  · (intro u hu; simp at hu; subst hu; rfl)
                  · omega
                  · omega
                  · exact HBT.out.size
                  intro gB cB wB hoB hgB
                  have HBB : Hid (Below w.heap.size w wB) := HBT.out.grown hgB HBT.out.size (fun q_ hq_ => by cases hq_; exact (HOT.out.lt gA rfl).1)
                  have HOB := Lib.hid hoB
                  clear hoB hgB
                  refine hK _ _ ?_
                  clear hK K
                  (try simp only [Act.put, List.setIfInBounds_toArray, List.set_cons_zero, List.set_cons_succ])
                  refine wpAny_ready (rs := [11]) (by kernel_rfl) (by simp) ?_
                  refine AllReady.cons (o := ⟨_, _, _, _, _, _⟩) rfl (fun K hK => ?_) AllReady.nil
                  refine step_append_lists (g0 := gB) (c0 := cB) (c := (c - k)) ?_ _ _ rfl w.heap.size (k + 1) (vs.take k ++ [.slice bo m d]) ?_ ?_ ⟨g, k, none⟩ (n - k) (vs.drop k) ?_ ?_ ?_ ?_ (n + 1) ?_ ?_ ?_ ?_
                  · rfl
                  · rfl
                  · exact HOB.out
                  · rfl
                  · (rw [List.length_drop, HLv.out])
                  · exact drop_atV (HR.out.kept (grown_of_below HBB.out none) (own_em _)) (fun _ => rfl)
                  · exact (HI.out.drop k).flat
                  · omega
                  · omega
                  · exact HBB.out.size
                  intro gC cC wC hoC hgC
                  have HBC : Hid (Below w.heap.size w wC) := HBB.out.grown hgC HBB.out.size (fun q_ hq_ => by cases hq_; exact (HOB.out.lt gB rfl).1)
                  have HOC := Lib.hid hoC
                  clear hoC hgC
                  refine hK _ _ ?_
                  clear hK K
                  (try simp only [Act.put, List.setIfInBounds_toArray, List.set_cons_zero, List.set_cons_succ])
                  refine wpAny_take (i := 12) (oi := ⟨_, _, _, _, _, _⟩) (v := ?_) rfl (by kernel_rfl) (by kernel_rfl) (by kernel_rfl) (fun _ _ _ h => h) (Or.inl ⟨by rfl, ?_⟩) ?_
                  rotate_left 1
                  · intro w_; go_simp; (try with_reducible rfl)
                  (try simp only [Act.put, List.setIfInBounds_toArray, List.set_cons_zero, List.set_cons_succ])
                  refine wpAny_done (by kernel_rfl) ?_ _
                  go_wp2_with fail
                  go_ret
                  refine ⟨gC, cC, _, rfl, ownsRow_base HOC.out HB0.out, ?_, HBC.out⟩
                  rw [HIns.out]
                  have hx_ := InnL.one (InnerAt.below (B := B) (v := .slice bo m d) ⟨bo, m, d, rfl, hmd, hd, HX.out⟩ HBC.out)
                  have h_ := (((HI.out.below HBC.out).take k).append hx_).append ((HI.out.below HBC.out).drop k)
                  simpa using h_
              · go_simp
                refine hK _ _ ?_
                clear hK K
                (try simp only [Act.put, List.setIfInBounds_toArray, List.set_cons_zero, List.set_cons_succ])
                refine wpAny_ready (rs := [0]) (by kernel_rfl) (by simp) ?_
                refine AllReady.cons (o := ⟨_, _, _, _, _, _⟩) rfl (fun K hK => ?_) AllReady.nil
                go_simp
                refine hK _ _ ?_
                clear hK K
                (try simp only [Act.put, List.setIfInBounds_toArray, List.set_cons_zero, List.set_cons_succ])
                refine wpAny_ready (rs := [4]) (by kernel_rfl) (by simp) ?_
                refine AllReady.cons (o := ⟨_, _, _, _, _, _⟩) rfl (fun K hK => ?_) AllReady.nil
                have hN : w.heap.size ≤ wr2.drew.heap.size := Nat.le_of_eq HW2.out.symm
                have HBW : Hid (Below w.heap.size w ((wr2.drew.alloc (.cells #[.slice bo m d] 40)).alloc (.cells #[] 40))) := below_then (below_then (below_then HBr2.out (below_drew wr2)) (below_alloc _ _)) (below_alloc _ _)
                have hS0 : ((wr2.drew.alloc (.cells #[.slice bo m d] 40)).alloc (.cells #[] 40)).cell? ⟨wr2.heap.size, 0, none⟩ = some (.slice bo m d) := cell_b (below_alloc (wr2.drew.alloc (.cells #[.slice bo m d] 40)) _) (cell_new0 wr2.drew (.slice bo m d) 40)
                refine step_append_lists (g0 := wr2.heap.size + 1) (c0 := 0) (c := c) ?_ _ _ rfl w.heap.size 0 ([]) ?_ ?_ ⟨g, 0, none⟩ k (vs.take k) ?_ ?_ ?_ ?_ k ?_ ?_ ?_ ?_
                · rfl
                · rfl
                · (have h_ := own_nilL (wr2.drew.alloc (.cells #[.slice bo m d] 40)) (base := w.heap.size) (by rw [World.size_alloc]; exact Nat.le_succ_of_le hN); rw [World.size_alloc] at h_; exact h_)
                · rfl
                · (rw [List.length_take, HLv.out]; omega)
                · exact take_atV (HR.out.kept (grown_of_below HBW.out none) (own_em _))
                · exact (HI.out.take k).flat
                · omega
                · omega
                · exact HBW.out.size
                intro gA cA wT hoA hgA
                have HBT : Hid (Below w.heap.size w wT) := HBW.out.grown hgA HBW.out.size (fun q_ hq_ => by cases hq_; have := HW2.out; omega)
                have HOT : Hid (wT.ownsRow w.heap.size 40 1 (.slice (some ⟨gA, 0, none⟩) k cA) k (vs.take k)) := by unfold Hid; simpa using hoA
                have HST : Hid (wT.cell? ⟨wr2.heap.size, 0, none⟩ = some (.slice bo m d)) := hgA.cell hS0 (by simp)
                obtain ⟨gS, hgS⟩ : ∃ gS, gS = wr2.heap.size := ⟨_, rfl⟩
                rw [← hgS] at HST
                clear hoA hgA hS0
                refine hK _ _ ?_
                clear hK K
                (try simp only [Act.put, List.setIfInBounds_toArray, List.set_cons_zero, List.set_cons_succ])
                (try rw [← hgS])
                clear hgS
                refine wpAny_ready (rs := [7]) (by kernel_rfl) (by simp) ?_
                refine AllReady.cons (o := ⟨_, _, _, _, _, _⟩) rfl (fun K hK => ?_) AllReady.nil
                refine step_append_lists (g0 := gA) (c0 := cA) (c := 1) ?_ _ _ rfl w.heap.size k (vs.take k) ?_ ?_ ⟨gS, 0, none⟩ 1 ([.slice bo m d]) ?_ ?_ ?_ ?_ (k + 1) ?_ ?_ ?_ ?_
                · rfl
                · rfl
                · exact HOT.out
                · rfl
                · rfl
                · exact one_atV HST.out
                · (intro u hu; simp at hu; subst hu; rfl)
                · omega
                · omega
                · exact HBT.out.size
                intro gB cB wB hoB hgB
                have HBB : Hid (Below w.heap.size w wB) := HBT.out.grown hgB HBT.out.size (fun q_ hq_ => by cases hq_; exact (HOT.out.lt gA rfl).1)
                have HOB := Lib.hid hoB
                clear hoB hgB
                refine hK _ _ ?_
                clear hK K
                (try simp only [Act.put, List.setIfInBounds_toArray, List.set_cons_zero, List.set_cons_succ])
                refine wpAny_ready (rs := [11]) (by kernel_rfl) (by simp) ?_
                refine AllReady.cons (o := ⟨_, _, _, _, _, _⟩) rfl (fun K hK => ?_) AllReady.nil
                refine step_append_lists (g0 := gB) (c0 := cB) (c := (c - k)) ?_ _ _ rfl w.heap.size (k + 1) (vs.take k ++ [.slice bo m d]) ?_ ?_ ⟨g, k, none⟩ (n - k) (vs.drop k) ?_ ?_ ?_ ?_ (n + 1) ?_ ?_ ?_ ?_
                · rfl
                · rfl
                · exact HOB.out
                · rfl
                · (rw [List.length_drop, HLv.out])
                · exact drop_atV (HR.out.kept (grown_of_below HBB.out none) (own_em _)) (fun _ => rfl)
                · exact (HI.out.drop k).flat
                · omega
                · omega
                · exact HBB.out.size
                intro gC cC wC hoC hgC
                have HBC : Hid (Below w.heap.size w wC) := HBB.out.grown hgC HBB.out.size (fun q_ hq_ => by cases hq_; exact (HOB.out.lt gB rfl).1)
                have HOC := Lib.hid hoC
                clear hoC hgC
                refine hK _ _ ?_
                clear hK K
                (try simp only [Act.put, List.setIfInBounds_toArray, List.set_cons_zero, List.set_cons_succ])
                refine wpAny_take (i := 12) (oi := ⟨_, _, _, _, _, _⟩) (v := ?_) rfl (by kernel_rfl) (by kernel_rfl) (by kernel_rfl) (fun _ _ _ h => h) (Or.inl ⟨by rfl, ?_⟩) ?_
                rotate_left 1
                · intro w_; go_simp; (try with_reducible rfl)
                (try simp only [Act.put, List.setIfInBounds_toArray, List.set_cons_zero, List.set_cons_succ])
                refine wpAny_done (by kernel_rfl) ?_ _
                go_wp2_with fail
                go_ret
                refine ⟨gC, cC, _, rfl, ownsRow_base HOC.out HB0.out, ?_, HBC.out⟩
                rw [HIns.out]
                have hx_ := InnL.one (InnerAt.below (B := B) (v := .slice bo m d) ⟨bo, m, d, rfl, hmd, hd, HX.out⟩ HBC.out)
                have h_ := (((HI.out.below HBC.out).take k).append hx_).append ((HI.out.below HBC.out).drop k)
                simpa using h_

        · have heq' : ((m : Int) == (m2 : Int)) = false := by rw [beq_eq_false_iff_ne]; omega
          have HBef' := Lib.hid (hStop.out (befB_gt (by have := hxl.out; omega)))
          clear hNext hStop
          have HBef := HBef'
          clear HBef'
          have hk0 : (0 : Int) ≤ (k : Int) := by omega
          have hkn' : (k : Int) ≤ (n : Int) := by omega
          have hkc' : (k : Int) ≤ (c : Int) := by omega
          have HIns : Hid (insL ls xs = ls.take k ++ xs :: ls.drop k) := insL_at HA.out (by rw [HLl.out]; exact hk) HAft.out HBef.out
          by_cases hkc : k = c
          · have hkn2 : k = n := by omega
            subst hkc
            subst hkn2
            go_wp2_with fail
            refine wp_region_any (by kernel_rfl) ?_
            (try (change wpAny _ _ _ _ _ _ _ (World.drew _)))
            refine wpAny_take (i := 1) (oi := ⟨_, _, _, _, _, _⟩) (v := ?_) rfl (by kernel_rfl) (by kernel_rfl) (by kernel_rfl) (fun _ _ _ h => h) (Or.inl ⟨by rfl, ?_⟩) ?_
            rotate_left 1
            · intro w_; go_simp; (try with_reducible rfl)
            (try simp only [Act.put, List.setIfInBounds_toArray, List.set_cons_zero, List.set_cons_succ])
            refine wpAny_take (i := 2) (oi := ⟨_, _, _, _, _, _⟩) (v := ?_) rfl (by kernel_rfl) (by kernel_rfl) (by kernel_rfl) (fun _ _ _ h => h) (Or.inl ⟨by rfl, ?_⟩) ?_
            rotate_left 1
            · intro w_; go_simp; (try with_reducible rfl)
            (try simp only [Act.put, List.setIfInBounds_toArray, List.set_cons_zero, List.set_cons_succ])
            refine wpAny_take (i := 3) (oi := ⟨_, _, _, _, _, _⟩) (v := ?_) rfl (by kernel_rfl) (by kernel_rfl) (by kernel_rfl) (fun _ _ _ h => h) (Or.inl ⟨by rfl, ?_⟩) ?_
            rotate_left 1
            · intro w_; go_simp; (try with_reducible rfl)
            (try simp only [Act.put, List.setIfInBounds_toArray, List.set_cons_zero, List.set_cons_succ])
            refine wpAny_take (i := 5) (oi := ⟨_, _, _, _, _, _⟩) (v := ?_) rfl (by kernel_rfl) (by kernel_rfl) (by kernel_rfl) (fun _ _ _ h => h) (Or.inl ⟨by rfl, ?_⟩) ?_
            rotate_left 1
            · intro w_; go_simp; (try with_reducible rfl)
            (try simp only [Act.put, List.setIfInBounds_toArray, List.set_cons_zero, List.set_cons_succ])
            refine wpAny_take (i := 8) (oi := ⟨_, _, _, _, _, _⟩) (v := ?_) rfl (by kernel_rfl) (by kernel_rfl) (by kernel_rfl) (fun _ _ _ h => h) (Or.inl ⟨by rfl, ?_⟩) ?_
            rotate_left 1
            · intro w_; go_simp; (try with_reducible rfl)
            (try simp only [Act.put, List.setIfInBounds_toArray, List.set_cons_zero, List.set_cons_succ])
            refine wpAny_take (i := 9) (oi := ⟨_, _, _, _, _, _⟩) (v := ?_) rfl (by kernel_rfl) (by kernel_rfl) (by kernel_rfl) (fun _ _ _ h => h) (Or.inl ⟨by rfl, ?_⟩) ?_
            rotate_left 1
            · intro w_; go_simp; (try with_reducible rfl)
            (try simp only [Act.put, List.setIfInBounds_toArray, List.set_cons_zero, List.set_cons_succ])
            refine wpAny_take (i := 10) (oi := ⟨_, _, _, _, _, _⟩) (v := ?_) rfl (by kernel_rfl) (by kernel_rfl) (by kernel_rfl) (fun _ _ _ h => h) (Or.inl ⟨by rfl, ?_⟩) ?_
            rotate_left 1
            · intro w_; go_simp; (try with_reducible rfl)
            (try simp only [Act.put, List.setIfInBounds_toArray, List.set_cons_zero, List.set_cons_succ])
            refine wpAny_ready (rs := [0, 6]) (by kernel_rfl) (by simp) ?_
            refine AllReady.cons (o := ⟨_, _, _, _, _, _⟩) rfl (fun K hK => ?_) (AllReady.cons (o := ⟨_, _, _, _, _, _⟩) rfl (fun K hK => ?_) AllReady.nil)
            · go_simp
              refine hK _ _ ?_
              clear hK K
              (try simp only [Act.put, List.setIfInBounds_toArray, List.set_cons_zero, List.set_cons_succ])
              refine wpAny_ready (rs := [4, 6]) (by kernel_rfl) (by simp) ?_
              refine AllReady.cons (o := ⟨_, _, _, _, _, _⟩) rfl (fun K hK => ?_) (AllReady.cons (o := ⟨_, _, _, _, _, _⟩) rfl (fun K hK => ?_) AllReady.nil)
              · have hN : w.heap.size ≤ wr.drew.heap.size := Nat.le_of_eq HW.out.symm
                have HBW : Hid (Below w.heap.size w (wr.drew.alloc (.cells #[] 40))) := below_then (below_then HBr.out (below_drew wr)) (below_alloc _ _)
                refine step_append_lists (g0 := wr.heap.size) (c0 := 0) (c := k) ?_ _ _ rfl w.heap.size 0 ([]) ?_ ?_ ⟨g, 0, none⟩ k (vs.take k) ?_ ?_ ?_ ?_ k ?_ ?_ ?_ ?_
                · rfl
                · rfl
                · exact own_nilL wr.drew hN
                · rfl
                · (rw [List.length_take, HLv.out]; omega)
                · exact take_atV (HR.out.kept (grown_of_below HBW.out none) (own_em _))
                · exact (HI.out.take k).flat
                · omega
                · omega
                · exact HBW.out.size
                intro gA cA wA hoA hgA
                have HBA : Hid (Below w.heap.size w wA) := HBW.out.grown hgA HBW.out.size (fun q_ hq_ => by cases hq_; exact hN)
                have HOA : Hid (wA.ownsRow w.heap.size 40 1 (.slice (some ⟨gA, 0, none⟩) k cA) k (vs.take k)) := by unfold Hid; simpa using hoA
                clear hoA hgA
                refine hK _ _ ?_
                clear hK K
                (try simp only [Act.put, List.setIfInBounds_toArray, List.set_cons_zero, List.set_cons_succ])
                refine wpAny_ready (rs := [6]) (by kernel_rfl) (by simp) ?_
                refine AllReady.cons (o := ⟨_, _, _, _, _, _⟩) rfl (fun K hK => ?_) AllReady.nil
                go_simp
                refine hK _ _ ?_
                clear hK K
                (try simp only [Act.put, List.setIfInBounds_toArray, List.set_cons_zero, List.set_cons_succ])
                obtain ⟨wT, hwT⟩ : ∃ wT, wT = wA.alloc (.cells #[.slice bo m d] 40) := ⟨_, rfl⟩
                obtain ⟨gS, hgS⟩ : ∃ gS, gS = wA.heap.size := ⟨_, rfl⟩
                have HBT : Hid (Below w.heap.size w wT) := by rw [hwT]; exact below_then HBA.out (below_alloc _ _)
                have HOT : Hid (wT.ownsRow w.heap.size 40 1 (.slice (some ⟨gA, 0, none⟩) k cA) k (vs.take k)) := by rw [hwT]; exact HOA.out.alloc _
                have HST : Hid (wT.cell? ⟨gS, 0, none⟩ = some (.slice bo m d)) := by unfold Hid; rw [hwT, hgS]; simp
                rw [← hwT, ← hgS]
                clear hwT hgS
                refine wpAny_ready (rs := [7]) (by kernel_rfl) (by simp) ?_
                refine AllReady.cons (o := ⟨_, _, _, _, _, _⟩) rfl (fun K hK => ?_) AllReady.nil
                refine step_append_lists (g0 := gA) (c0 := cA) (c := 1) ?_ _ _ rfl w.heap.size k (vs.take k) ?_ ?_ ⟨gS, 0, none⟩ 1 ([.slice bo m d]) ?_ ?_ ?_ ?_ (k + 1) ?_ ?_ ?_ ?_
                · rfl
                · rfl
                · exact HOT.out
                · rfl
                · rfl
                · exact one_atV HST.out
                · (intro u hu; simp at hu; subst hu; rfl)
                · omega
                · omega
                · exact HBT.out.size
                intro gB cB wB hoB hgB
                have HBB : Hid (Below w.heap.size w wB) := HBT.out.grown hgB HBT.out.size (fun q_ hq_ => by cases hq_; exact (HOT.out.lt gA rfl).1)
                have HOB := Lib.hid hoB
                clear hoB hgB
                refine hK _ _ ?_
                clear hK K
                (try simp only [Act.put, List.setIfInBounds_toArray, List.set_cons_zero, List.set_cons_succ])
                refine wpAny_ready (rs := [11]) (by kernel_rfl) (by simp) ?_
                refine AllReady.cons (o := ⟨_, _, _, _, _, _⟩) rfl (fun K hK => ?_) AllReady.nil
                refine step_append_lists (g0 := gB) (c0 := cB) (c := 0) ?_ _ _ rfl w.heap.size (k + 1) (vs.take k ++ [.slice bo m d]) ?_ ?_ ⟨g, 0, none⟩ 0 (vs.drop k) ?_ ?_ ?_ ?_ (k + 1) ?_ ?_ ?_ ?_
                · rfl
                · rfl
                · exact HOB.out
                · rfl
                · (rw [List.length_drop, HLv.out]; omega)
                · exact drop_atV (HR.out.kept (grown_of_below HBB.out none) (own_em _)) (fun h_ => absurd h_ (by omega))
                · exact (HI.out.drop k).flat
                · omega
                · omega
                · exact HBB.out.size
                intro gC cC wC hoC hgC
                have HBC : Hid (Below w.heap.size w wC) := HBB.out.grown hgC HBB.out.size (fun q_ hq_ => by cases hq_; exact (HOB.out.lt gB rfl).1)
                have HOC := Lib.hid hoC
                clear hoC hgC
                refine hK _ _ ?_
                clear hK K
                (try simp only [Act.put, List.setIfInBounds_toArray, List.set_cons_zero, List.set_cons_succ])
                refine wpAny_take (i := 12) (oi := ⟨_, _, _, _, _, _⟩) (v := ?_) rfl (by kernel_rfl) (by kernel_rfl) (by kernel_rfl) (fun _ _ _ h => h) (Or.inl ⟨by rfl, ?_⟩) ?_
                rotate_left 1
                · intro w_; go_simp; (try with_reducible rfl)
                (try simp only [Act.put, List.setIfInBounds_toArray, List.set_cons_zero, List.set_cons_succ])
                refine wpAny_done (by kernel_rfl) ?_ _
                go_wp2_with fail
                go_ret
                refine ⟨gC, cC, _, rfl, ownsRow_base HOC.out HB0.out, ?_, HBC.out⟩
                rw [HIns.out]
                have hx_ := InnL.one (InnerAt.below (B := B) (v := .slice bo m d) ⟨bo, m, d, rfl, hmd, hd, HX.out⟩ HBC.out)
                have h_ := (((HI.out.below HBC.out).take k).append hx_).append ((HI.out.below HBC.out).drop k)
                simpa using h_
              · go_simp
                refine hK _ _ ?_
                clear hK K
                (try simp only [Act.put, List.setIfInBounds_toArray, List.set_cons_zero, List.set_cons_succ])
                refine wpAny_ready (rs := [4]) (by kernel_rfl) (by simp) ?_
                refine AllReady.cons (o := ⟨_, _, _, _, _, _⟩) rfl (fun K hK => ?_) AllReady.nil
                have hN : w.heap.size ≤ wr.drew.heap.size := Nat.le_of_eq HW.out.symm
                have HBW : Hid (Below w.heap.size w ((wr.drew.alloc (.cells #[] 40)).alloc (.cells #[.slice bo m d] 40))) := below_then (below_then (below_then HBr.out (below_drew wr)) (below_alloc _ _)) (below_alloc _ _)
                have hS0 : ((wr.drew.alloc (.cells #[] 40)).alloc (.cells #[.slice bo m d] 40)).cell? ⟨wr.heap.size + 1, 0, none⟩ = some (.slice bo m d) := by have h_ := cell_new0 (wr.drew.alloc (.cells #[] 40)) (.slice bo m d) 40; rw [World.size_alloc] at h_; exact h_
                refine step_append_lists (g0 := wr.heap.size) (c0 := 0) (c := k) ?_ _ _ rfl w.heap.size 0 ([]) ?_ ?_ ⟨g, 0, none⟩ k (vs.take k) ?_ ?_ ?_ ?_ k ?_ ?_ ?_ ?_
                · rfl
                · rfl
                · exact (own_nilL wr.drew hN).alloc _
                · rfl
                · (rw [List.length_take, HLv.out]; omega)
                · exact take_atV (HR.out.kept (grown_of_below HBW.out none) (own_em _))
                · exact (HI.out.take k).flat
                · omega
                · omega
                · exact HBW.out.size
                intro gA cA wT hoA hgA
                have HBT : Hid (Below w.heap.size w wT) := HBW.out.grown hgA HBW.out.size (fun q_ hq_ => by cases hq_; have := HW.out; omega)
                have HOT : Hid (wT.ownsRow w.heap.size 40 1 (.slice (some ⟨gA, 0, none⟩) k cA) k (vs.take k)) := by unfold Hid; simpa using hoA
                have HST : Hid (wT.cell? ⟨wr.heap.size + 1, 0, none⟩ = some (.slice bo m d)) := hgA.cell hS0 (by simp)
                obtain ⟨gS, hgS⟩ : ∃ gS, gS = wr.heap.size + 1 := ⟨_, rfl⟩
                rw [← hgS] at HST
                clear hoA hgA hS0
                refine hK _ _ ?_
                clear hK K
                (try simp only [Act.put, List.setIfInBounds_toArray, List.set_cons_zero, List.set_cons_succ])
                (try rw [← hgS])
                clear hgS
                refine wpAny_ready (rs := [7]) (by kernel_rfl) (by simp) ?_
                refine AllReady.cons (o := ⟨_, _, _, _, _, _⟩) rfl (fun K hK => ?_) AllReady.nil
                refine step_append_lists (g0 := gA) (c0 := cA) (c := 1) ?_ _ _ rfl w.heap.size k (vs.take k) ?_ ?_ ⟨gS, 0, none⟩ 1 ([.slice bo m d]) ?_ ?_ ?_ ?_ (k + 1) ?_ ?_ ?_ ?_
                · rfl
                · rfl
                · exact HOT.out
                · rfl
                · rfl
                · exact one_atV HST.out
                · (intro u hu; simp at hu; subst hu; rfl)
                · omega
                · omega
                · exact HBT.out.size
                intro gB cB wB hoB hgB
                have HBB : Hid (Below w.heap.size w wB) := HBT.out.grown hgB HBT.out.size (fun q_ hq_ => by cases hq_; exact (HOT.out.lt gA rfl).1)
                have HOB := Lib.hid hoB
                clear hoB hgB
                refine hK _ _ ?_
                clear hK K
                (try simp only [Act.put, List.setIfInBounds_toArray, List.set_cons_zero, List.set_cons_succ])
                refine wpAny_ready (rs := [11]) (by kernel_rfl) (by simp) ?_
                refine AllReady.cons (o := ⟨_, _, _, _, _, _⟩) rfl (fun K hK => ?_) AllReady.nil
                refine step_append_lists (g0 := gB) (c0 := cB) (c := 0) ?_ _ _ rfl w.heap.size (k + 1) (vs.take k ++ [.slice bo m d]) ?_ ?_ ⟨g, 0, none⟩ 0 (vs.drop k) ?_ ?_ ?_ ?_ (k + 1) ?_ ?_ ?_ ?_
                · rfl
                · rfl
                · exact HOB.out
                · rfl
                · (rw [List.length_drop, HLv.out]; omega)
                · exact drop_atV (HR.out.kept (grown_of_below HBB.out none) (own_em _)) (fun h_ => absurd h_ (by omega))
                · exact (HI.out.drop k).flat
                · omega
                · omega
                · exact HBB.out.size
                intro gC cC wC hoC hgC
                have HBC : Hid (Below w.heap.size w wC) := HBB.out.grown hgC HBB.out.size (fun q_ hq_ => by cases hq_; exact (HOB.out.lt gB rfl).1)
                have HOC := Lib.hid hoC
                clear hoC hgC
                refine hK _ _ ?_
                clear hK K
                (try simp only [Act.put, List.setIfInBounds_toArray, List.set_cons_zero, List.set_cons_succ])
                refine wpAny_take (i := 12) (oi := ⟨_, _, _, _, _, _⟩) (v := ?_) rfl (by kernel_rfl) (by kernel_rfl) (by kernel_rfl) (fun _ _ _ h => h) (Or.inl ⟨by rfl, ?_⟩) ?_
                rotate_left 1
                · intro w_; go_simp; (try with_reducible rfl)
                (try simp only [Act.put, List.setIfInBounds_toArray, List.set_cons_zero, List.set_cons_succ])
                refine wpAny_done (by kernel_rfl) ?_ _
                go_wp2_with fail
                go_ret
                refine ⟨gC, cC, _, rfl, ownsRow_base HOC.out HB0.out, ?_, HBC.out⟩
                rw [HIns.out]
                have hx_ := InnL.one (InnerAt.below (B := B) (v := .slice bo m d) ⟨bo, m, d, rfl, hmd, hd, HX.out⟩ HBC.out)
                have h_ := (((HI.out.below HBC.out).take k).append hx_).append ((HI.out.below HBC.out).drop k)
                simpa using h_
            · go_simp
              refine hK _ _ ?_
              clear hK K
              (try simp only [Act.put, List.setIfInBounds_toArray, List.set_cons_zero, List.set_cons_succ])
              refine wpAny_ready (rs := [0]) (by kernel_rfl) (by simp) ?_
              refine AllReady.cons (o := ⟨_, _, _, _, _, _⟩) rfl (fun K hK => ?_) AllReady.nil
              go_simp
              refine hK _ _ ?_
              clear hK K
              (try simp only [Act.put, List.setIfInBounds_toArray, List.set_cons_zero, List.set_cons_succ])
              refine wpAny_ready (rs := [4]) (by kernel_rfl) (by simp) ?_
              refine AllReady.cons (o := ⟨_, _, _, _, _, _⟩) rfl (fun K hK => ?_) AllReady.nil
              have hN : w.heap.size ≤ wr.drew.heap.size := Nat.le_of_eq HW.out.symm
              have HBW : Hid (Below w.heap.size w ((wr.drew.alloc (.cells #[.slice bo m d] 40)).alloc (.cells #[] 40))) := below_then (below_then (below_then HBr.out (below_drew wr)) (below_alloc _ _)) (below_alloc _ _)
              have hS0 : ((wr.drew.alloc (.cells #[.slice bo m d] 40)).alloc (.cells #[] 40)).cell? ⟨wr.heap.size, 0, none⟩ = some (.slice bo m d) := cell_b (below_alloc (wr.drew.alloc (.cells #[.slice bo m d] 40)) _) (cell_new0 wr.drew (.slice bo m d) 40)
              refine step_append_lists (g0 := wr.heap.size + 1) (c0 := 0) (c := k) ?_ _ _ rfl w.heap.size 0 ([]) ?_ ?_ ⟨g, 0, none⟩ k (vs.take k) ?_ ?_ ?_ ?_ k ?_ ?_ ?_ ?_
              · rfl
              · rfl
              · (have h_ := own_nilL (wr.drew.alloc (.cells #[.slice bo m d] 40)) (base := w.heap.size) (by rw [World.size_alloc]; exact Nat.le_succ_of_le hN); rw [World.size_alloc] at h_; exact h_)
              · rfl
              · (rw [List.length_take, HLv.out]; omega)
              · exact take_atV (HR.out.kept (grown_of_below HBW.out none) (own_em _))
              · exact (HI.out.take k).flat
              · omega
              · omega
              · exact HBW.out.size
              intro gA cA wT hoA hgA
              have HBT : Hid (Below w.heap.size w wT) := HBW.out.grown hgA HBW.out.size (fun q_ hq_ => by cases hq_; have := HW.out; omega)
              have HOT : Hid (wT.ownsRow w.heap.size 40 1 (.slice (some ⟨gA, 0, none⟩) k cA) k (vs.take k)) := by unfold Hid; simpa using hoA
              have HST : Hid (wT.cell? ⟨wr.heap.size, 0, none⟩ = some (.slice bo m d)) := hgA.cell hS0 (by simp)
              obtain ⟨gS, hgS⟩ : ∃ gS, gS = wr.heap.size := ⟨_, rfl⟩
              rw [← hgS] at HST
              clear hoA hgA hS0
              refine hK _ _ ?_
              clear hK K
              (try simp only [Act.put, List.setIfInBounds_toArray, List.set_cons_zero, List.set_cons_succ])
              (try rw [← hgS])
              clear hgS
              refine wpAny_ready (rs := [7]) (by kernel_rfl) (by simp) ?_
              refine AllReady.cons (o := ⟨_, _, _, _, _, _⟩) rfl (fun K hK => ?_) AllReady.nil
              refine step_append_lists (g0 := gA) (c0 := cA) (c := 1) ?_ _ _ rfl w.heap.size k (vs.take k) ?_ ?_ ⟨gS, 0, none⟩ 1 ([.slice bo m d]) ?_ ?_ ?_ ?_ (k + 1) ?_ ?_ ?_ ?_
              · rfl
              · rfl
              · exact HOT.out
              · rfl
              · rfl
              · exact one_atV HST.out
              · (intro u hu; simp at hu; subst hu; rfl)
              · omega
              · omega
              · exact HBT.out.size
              intro gB cB wB hoB hgB
              have HBB : Hid (Below w.heap.size w wB) := HBT.out.grown hgB HBT.out.size (fun q_ hq_ => by cases hq_; exact (HOT.out.lt gA rfl).1)
              have HOB := Lib.hid hoB
              clear hoB hgB
              refine hK _ _ ?_
              clear hK K
              (try simp only [Act.put, List.setIfInBounds_toArray, List.set_cons_zero, List.set_cons_succ])
              refine wpAny_ready (rs := [11]) (by kernel_rfl) (by simp) ?_
              refine AllReady.cons (o := ⟨_, _, _, _, _, _⟩) rfl (fun K hK => ?_) AllReady.nil
              refine step_append_lists (g0 := gB) (c0 := cB) (c := 0) ?_ _ _ rfl w.heap.size (k + 1) (vs.take k ++ [.slice bo m d]) ?_ ?_ ⟨g, 0, none⟩ 0 (vs.drop k) ?_ ?_ ?_ ?_ (k + 1) ?_ ?_ ?_ ?_
              · rfl
              · rfl
              · exact HOB.out
              · rfl
              · (rw [List.length_drop, HLv.out]; omega)
              · exact drop_atV (HR.out.kept (grown_of_below HBB.out none) (own_em _)) (fun h_ => absurd h_ (by omega))
              · exact (HI.out.drop k).flat
              · omega
              · omega
              · exact HBB.out.size
              intro gC cC wC hoC hgC
              have HBC : Hid (Below w.heap.size w wC) := HBB.out.grown hgC HBB.out.size (fun q_ hq_ => by cases hq_; exact (HOB.out.lt gB rfl).1)
              have HOC := Lib.hid hoC
              clear hoC hgC
              refine hK _ _ ?_
              clear hK K
              (try simp only [Act.put, List.setIfInBounds_toArray, List.set_cons_zero, List.set_cons_succ])
              refine wpAny_take (i := 12) (oi := ⟨_, _, _, _, _, _⟩) (v := ?_) rfl (by kernel_rfl) (by kernel_rfl) (by kernel_rfl) (fun _ _ _ h => h) (Or.inl ⟨by rfl, ?_⟩) ?_
              rotate_left 1
              · intro w_; go_simp; (try with_reducible rfl)
              (try simp only [Act.put, List.setIfInBounds_toArray, List.set_cons_zero, List.set_cons_succ])
              refine wpAny_done (by kernel_rfl) ?_ _
              go_wp2_with fail
              go_ret
              refine ⟨gC, cC, _, rfl, ownsRow_base HOC.out HB0.out, ?_, HBC.out⟩
              rw [HIns.out]
              have hx_ := InnL.one (InnerAt.below (B := B) (v := .slice bo m d) ⟨bo, m, d, rfl, hmd, hd, HX.out⟩ HBC.out)
              have h_ := (((HI.out.below HBC.out).take k).append hx_).append ((HI.out.below HBC.out).drop k)
              simpa using h_

          · have hck : ¬ c = k := fun h_ => hkc h_.symm
            go_wp2_with fail
            refine wp_region_any (by kernel_rfl) ?_
            (try (change wpAny _ _ _ _ _ _ _ (World.drew _)))
            refine wpAny_take (i := 1) (oi := ⟨_, _, _, _, _, _⟩) (v := ?_) rfl (by kernel_rfl) (by kernel_rfl) (by kernel_rfl) (fun _ _ _ h => h) (Or.inl ⟨by rfl, ?_⟩) ?_
            rotate_left 1
            · intro w_; go_simp; (try with_reducible rfl)
            (try simp only [Act.put, List.setIfInBounds_toArray, List.set_cons_zero, List.set_cons_succ])
            refine wpAny_take (i := 2) (oi := ⟨_, _, _, _, _, _⟩) (v := ?_) rfl (by kernel_rfl) (by kernel_rfl) (by kernel_rfl) (fun _ _ _ h => h) (Or.inl ⟨by rfl, ?_⟩) ?_
            rotate_left 1
            · intro w_; go_simp; (try with_reducible rfl)
            (try simp only [Act.put, List.setIfInBounds_toArray, List.set_cons_zero, List.set_cons_succ])
            refine wpAny_take (i := 3) (oi := ⟨_, _, _, _, _, _⟩) (v := ?_) rfl (by kernel_rfl) (by kernel_rfl) (by kernel_rfl) (fun _ _ _ h => h) (Or.inl ⟨by rfl, ?_⟩) ?_
            rotate_left 1
            · intro w_; go_simp; (try with_reducible rfl)
            (try simp only [Act.put, List.setIfInBounds_toArray, List.set_cons_zero, List.set_cons_succ])
            refine wpAny_take (i := 5) (oi := ⟨_, _, _, _, _, _⟩) (v := ?_) rfl (by kernel_rfl) (by kernel_rfl) (by kernel_rfl) (fun _ _ _ h => h) (Or.inl ⟨by rfl, ?_⟩) ?_
            rotate_left 1
            · intro w_; go_simp; (try with_reducible rfl)
            (try simp only [Act.put, List.setIfInBounds_toArray, List.set_cons_zero, List.set_cons_succ])
            refine wpAny_take (i := 8) (oi := ⟨_, _, _, _, _, _⟩) (v := ?_) rfl (by kernel_rfl) (by kernel_rfl) (by kernel_rfl) (fun _ _ _ h => h) (Or.inl ⟨by rfl, ?_⟩) ?_
            rotate_left 1
            · intro w_; go_simp; (try with_reducible rfl)
            (try simp only [Act.put, List.setIfInBounds_toArray, List.set_cons_zero, List.set_cons_succ])
            refine wpAny_take (i := 9) (oi := ⟨_, _, _, _, _, _⟩) (v := ?_) rfl (by kernel_rfl) (by kernel_rfl) (by kernel_rfl) (fun _ _ _ h => h) (Or.inl ⟨by rfl, ?_⟩) ?_
            rotate_left 1
            · intro w_; go_simp; (try with_reducible rfl)
            (try simp only [Act.put, List.setIfInBounds_toArray, List.set_cons_zero, List.set_cons_succ])
            refine wpAny_take (i := 10) (oi := ⟨_, _, _, _, _, _⟩) (v := ?_) rfl (by kernel_rfl) (by kernel_rfl) (by kernel_rfl) (fun _ _ _ h => h) (Or.inl ⟨by rfl, ?_⟩) ?_
            rotate_left 1
            · intro w_; go_simp; (try with_reducible rfl)
            (try simp only [Act.put, List.setIfInBounds_toArray, List.set_cons_zero, List.set_cons_succ])
            refine wpAny_ready (rs := [0, 6]) (by kernel_rfl) (by simp) ?_
            refine AllReady.cons (o := ⟨_, _, _, _, _, _⟩) rfl (fun K hK => ?_) (AllReady.cons (o := ⟨_, _, _, _, _, _⟩) rfl (fun K hK => ?_) AllReady.nil)
            · go_simp
              refine hK _ _ ?_
              clear hK K
              (try simp only [Act.put, List.setIfInBounds_toArray, List.set_cons_zero, List.set_cons_succ])
              refine wpAny_ready (rs := [4, 6]) (by kernel_rfl) (by simp) ?_
              refine AllReady.cons (o := ⟨_, _, _, _, _, _⟩) rfl (fun K hK => ?_) (AllReady.cons (o := ⟨_, _, _, _, _, _⟩) rfl (fun K hK => ?_) AllReady.nil)
              · have hN : w.heap.size ≤ wr.drew.heap.size := Nat.le_of_eq HW.out.symm
                have HBW : Hid (Below w.heap.size w (wr.drew.alloc (.cells #[] 40))) := below_then (below_then HBr.out (below_drew wr)) (below_alloc _ _)
                refine step_append_lists (g0 := wr.heap.size) (c0 := 0) (c := c) ?_ _ _ rfl w.heap.size 0 ([]) ?_ ?_ ⟨g, 0, none⟩ k (vs.take k) ?_ ?_ ?_ ?_ k ?_ ?_ ?_ ?_
                · rfl
                · rfl
                · exact own_nilL wr.drew hN
                · rfl
                · (rw [List.length_take, HLv.out]; omega)
                · exact take_atV (HR.out.kept (grown_of_below HBW.out none) (own_em _))
                · exact (HI.out.take k).flat
                · omega
                · omega
                · exact HBW.out.size
                intro gA cA wA hoA hgA
                have HBA : Hid (Below w.heap.size w wA) := HBW.out.grown hgA HBW.out.size (fun q_ hq_ => by cases hq_; exact hN)
                have HOA : Hid (wA.ownsRow w.heap.size 40 1 (.slice (some ⟨gA, 0, none⟩) k cA) k (vs.take k)) := by unfold Hid; simpa using hoA
                clear hoA hgA
                refine hK _ _ ?_
                clear hK K
                (try simp only [Act.put, List.setIfInBounds_toArray, List.set_cons_zero, List.set_cons_succ])
                refine wpAny_ready (rs := [6]) (by kernel_rfl) (by simp) ?_
                refine AllReady.cons (o := ⟨_, _, _, _, _, _⟩) rfl (fun K hK => ?_) AllReady.nil
                go_simp
                refine hK _ _ ?_
                clear hK K
                (try simp only [Act.put, List.setIfInBounds_toArray, List.set_cons_zero, List.set_cons_succ])
                obtain ⟨wT, hwT⟩ : ∃ wT, wT = wA.alloc (.cells #[.slice bo m d] 40) := ⟨_, rfl⟩
                obtain ⟨gS, hgS⟩ : ∃ gS, gS = wA.heap.size := ⟨_, rfl⟩
                have HBT : Hid (Below w.heap.size w wT) := by rw [hwT]; exact below_then HBA.out (below_alloc _ _)
                have HOT : Hid (wT.ownsRow w.heap.size 40 1 (.slice (some ⟨gA, 0, none⟩) k cA) k (vs.take k)) := by rw [hwT]; exact HOA.out.alloc _
                have HST : Hid (wT.cell? ⟨gS, 0, none⟩ = some (.slice bo m d)) := by unfold Hid; rw [hwT, hgS]; simp
                rw [← hwT, ← hgS]
                clear hwT hgS
                refine wpAny_ready (rs := [7]) (by kernel_rfl) (by simp) ?_
                refine AllReady.cons (o := ⟨_, _, _, _, _, _⟩) rfl (fun K hK => ?_) AllReady.nil
                refine step_append_lists (g0 := gA) (c0 := cA) (c := 1) ?_ _ _ rfl w.heap.size k (vs.take k) ?_ ?_ ⟨gS, 0, none⟩ 1 ([.slice bo m d]) ?_ ?_ ?_ ?_ (k + 1) ?_ ?_ ?_ ?_
                · rfl
                · rfl
                · exact HOT.out
                · rfl
                · rfl
                · exact one_atV HST.out
                · (intro u hu; simp at hu; subst hu; rfl)
                · omega
                · omega
                · exact HBT.out.size
                intro gB cB wB hoB hgB
                have HBB : Hid (Below w.heap.size w wB) := HBT.out.grown hgB HBT.out.size (fun q_ hq_ => by cases hq_; exact (HOT.out.lt gA rfl).1)
                have HOB := Lib.hid hoB
                clear hoB hgB
                refine hK _ _ ?_
                clear hK K
                (try simp only [Act.put, List.setIfInBounds_toArray, List.set_cons_zero, List.set_cons_succ])
                refine wpAny_ready (rs := [11]) (by kernel_rfl) (by simp) ?_
                refine AllReady.cons (o := ⟨_, _, _, _, _, _⟩) rfl (fun K hK => ?_) AllReady.nil
                refine step_append_lists (g0 := gB) (c0 := cB) (c := (c - k)) ?_ _ _ rfl w.heap.size (k + 1) (vs.take k ++ [.slice bo m d]) ?_ ?_ ⟨g, k, none⟩ (n - k) (vs.drop k) ?_ ?_ ?_ ?_ (n + 1) ?_ ?_ ?_ ?_
                · rfl
                · rfl
                · exact HOB.out
                · rfl
                · (rw [List.length_drop, HLv.out])
                · exact drop_atV (HR.out.kept (grown_of_below HBB.out none) (own_em _)) (fun _ => rfl)
                · exact (HI.out.drop k).flat
                · omega
                · omega
                · exact HBB.out.size
                intro gC cC wC hoC hgC
                have HBC : Hid (Below w.heap.size w wC) := HBB.out.grown hgC HBB.out.size (fun q_ hq_ => by cases hq_; exact (HOB.out.lt gB rfl).1)
                have HOC := Lib.hid hoC
                clear hoC hgC
                refine hK _ _ ?_
                clear hK K
                (try simp only [Act.put, List.setIfInBounds_toArray, List.set_cons_zero, List.set_cons_succ])
                refine wpAny_take (i := 12) (oi := ⟨_, _, _, _, _, _⟩) (v := ?_) rfl (by kernel_rfl) (by kernel_rfl) (by kernel_rfl) (fun _ _ _ h => h) (Or.inl ⟨by rfl, ?_⟩) ?_
                rotate_left 1
                · intro w_; go_simp; (try with_reducible rfl)
                (try simp only [Act.put, List.setIfInBounds_toArray, List.set_cons_zero, List.set_cons_succ])
                refine wpAny_done (by kernel_rfl) ?_ _
                go_wp2_with fail
                go_ret
                refine ⟨gC, cC, _, rfl, ownsRow_base HOC.out HB0.out, ?_, HBC.out⟩
                rw [HIns.out]
                have hx_ := InnL.one (InnerAt.below (B := B) (v := .slice bo m d) ⟨bo, m, d, rfl, hmd, hd, HX.out⟩ HBC.out)
                have h_ := (((HI.out.below HBC.out).take k).append hx_).append ((HI.out.below HBC.out).drop k)
                simpa using h_
              · go_simp
                refine hK _ _ ?_
                clear hK K
                (try simp only [Act.put, List.setIfInBounds_toArray, List.set_cons_zero, List.set_cons_succ])
                refine wpAny_ready (rs := [4]) (by kernel_rfl) (by simp) ?_
                refine AllReady.cons (o := ⟨_, _, _, _, _, _⟩) rfl (fun K hK => ?_) AllReady.nil
                have hN : w.heap.size ≤ wr.drew.heap.size := Nat.le_of_eq HW.out.symm
                have HBW : Hid (Below w.heap.size w ((wr.drew.alloc (.cells #[] 40)).alloc (.cells #[.slice bo m d] 40))) := below_then (below_then (below_then HBr.out (below_drew wr)) (below_alloc _ _)) (below_alloc _ _)
                have hS0 : ((wr.drew.alloc (.cells #[] 40)).alloc (.cells #[.slice bo m d] 40)).cell? ⟨wr.heap.size + 1, 0, none⟩ = some (.slice bo m d) := by have h_ := cell_new0 (wr.drew.alloc (.cells #[] 40)) (.slice bo m d) 40; rw [World.size_alloc] at h_; exact h_
                refine step_append_lists (g0 := wr.heap.size) (c0 := 0) (c := c) ?_ _ _ rfl w.heap.size 0 ([]) ?_ ?_ ⟨g, 0, none⟩ k (vs.take k) ?_ ?_ ?_ ?_ k ?_ ?_ ?_ ?_
                · rfl
                · rfl
                · exact (own_nilL wr.drew hN).alloc _
                · rfl
                · (rw [List.length_take, HLv.out]; omega)
                · exact take_atV (HR.out.kept (grown_of_below HBW.out none) (own_em _))
                · exact (HI.out.take k).flat
                · omega
                · omega
                · exact HBW.out.size
                intro gA cA wT hoA hgA
                have HBT : Hid (Below w.heap.size w wT) := HBW.out.grown hgA HBW.out.size (fun q_ hq_ => by cases hq_; have := HW.out; omega)
                have HOT : Hid (wT.ownsRow w.heap.size 40 1 (.slice (some ⟨gA, 0, none⟩) k cA) k (vs.take k)) := by unfold Hid; simpa using hoA
                have HST : Hid (wT.cell? ⟨wr.heap.size + 1, 0, none⟩ = some (.slice bo m d)) := hgA.cell hS0 (by simp)
                obtain ⟨gS, hgS⟩ : ∃ gS, gS = wr.heap.size + 1 := ⟨_, rfl⟩
                rw [← hgS] at HST
                clear hoA hgA hS0
                refine hK _ _ ?_
                clear hK K
                (try simp only [Act.put, List.setIfInBounds_toArray, List.set_cons_zero, List.set_cons_succ])
                (try rw [← hgS])
                clear hgS
                refine wpAny_ready (rs := [7]) (by kernel_rfl) (by simp) ?_
                refine AllReady.cons (o := ⟨_, _, _, _, _, _⟩) rfl (fun K hK => ?_) AllReady.nil
                refine step_append_lists (g0 := gA) (c0 := cA) (c := 1) ?_ _ _ rfl w.heap.size k (vs.take k) ?_ ?_ ⟨gS, 0, none⟩ 1 ([.slice bo m d]) ?_ ?_ ?_ ?_ (k + 1) ?_ ?_ ?_ ?_
                · rfl
                · rfl
                · exact HOT.out
                · rfl
                · rfl
                · exact one_atV HST.out
                · (intro u hu; simp at hu; subst hu; rfl)
                · omega
                · omega
                · exact HBT.out.size
                intro gB cB wB hoB hgB
                have HBB : Hid (Below w.heap.size w wB) := HBT.out.grown hgB HBT.out.size (fun q_ hq_ => by cases hq_; exact (HOT.out.lt gA rfl).1)
                have HOB := Lib.hid hoB
                clear hoB hgB
                refine hK _ _ ?_
                clear hK K
                (try simp only [Act.put, List.setIfInBounds_toArray, List.set_cons_zero, List.set_cons_succ])
                refine wpAny_ready (rs := [11]) (by kernel_rfl) (by simp) ?_
                refine AllReady.cons (o := ⟨_, _, _, _, _, _⟩) rfl (fun K hK => ?_) AllReady.nil
                refine step_append_lists (g0 := gB) (c0 := cB) (c := (c - k)) ?_ _ _ rfl w.heap.size (k + 1) (vs.take k ++ [.slice bo m d]) ?_ ?_ ⟨g, k, none⟩ (n - k) (vs.drop k) ?_ ?_ ?_ ?_ (n + 1) ?_ ?_ ?_ ?_
                · rfl
                · rfl
                · exact HOB.out
                · rfl
                · (rw [List.length_drop, HLv.out])
                · exact drop_atV (HR.out.kept (grown_of_below HBB.out none) (own_em _)) (fun _ => rfl)
                · exact (HI.out.drop k).flat
                · omega
                · omega
                · exact HBB.out.size
                intro gC cC wC hoC hgC
                have HBC : Hid (Below w.heap.size w wC) := HBB.out.grown hgC HBB.out.size (fun q_ hq_ => by cases hq_; exact (HOB.out.lt gB rfl).1)
                have HOC := Lib.hid hoC
                clear hoC hgC
                refine hK _ _ ?_
                clear hK K
                (try simp only [Act.put, List.setIfInBounds_toArray, List.set_cons_zero, List.set_cons_succ])
                refine wpAny_take (i := 12) (oi := ⟨_, _, _, _, _, _⟩) (v := ?_) rfl (by kernel_rfl) (by kernel_rfl) (by kernel_rfl) (fun _ _ _ h => h) (Or.inl ⟨by rfl, ?_⟩) ?_
                rotate_left 1
                · intro w_; go_simp; (try with_reducible rfl)
                (try simp only [Act.put, List.setIfInBounds_toArray, List.set_cons_zero, List.set_cons_succ])
                refine wpAny_done (by kernel_rfl) ?_ _
                go_wp2_with fail
                go_ret
                refine ⟨gC, cC, _, rfl, ownsRow_base HOC.out HB0.out, ?_, HBC.out⟩
                rw [HIns.out]
                have hx_ := InnL.one (InnerAt.below (B := B) (v := .slice bo m d) ⟨bo, m, d, rfl, hmd, hd, HX.out⟩ HBC.out)
                have h_ := (((HI.out.below HBC.out).take k).append hx_).append ((HI.out.below HBC.out).drop k)
                simpa using h_
            · go_simp
              refine hK _ _ ?_
              clear hK K
              (try simp only [Act.put, List.setIfInBounds_toArray, List.set_cons_zero, List.set_cons_succ])
              refine wpAny_ready (rs := [0]) (by kernel_rfl) (by simp) ?_
              refine AllReady.cons (o := ⟨_, _, _, _, _, _⟩) rfl (fun K hK => ?_) AllReady.nil
              go_simp
              refine hK _ _ ?_
              clear hK K
              (try simp only [Act.put, List.setIfInBounds_toArray, List.set_cons_zero, List.set_cons_succ])
              refine wpAny_ready (rs := [4]) (by kernel_rfl) (by simp) ?_
              refine AllReady.cons (o := ⟨_, _, _, _, _, _⟩) rfl (fun K hK => ?_) AllReady.nil
              have hN : w.heap.size ≤ wr.drew.heap.size := Nat.le_of_eq HW.out.symm
              have HBW : Hid (Below w.heap.size w ((wr.drew.alloc (.cells #[.slice bo m d] 40)).alloc (.cells #[] 40))) := below_then (below_then (below_then HBr.out (below_drew wr)) (below_alloc _ _)) (below_alloc _ _)
              have hS0 : ((wr.drew.alloc (.cells #[.slice bo m d] 40)).alloc (.cells #[] 40)).cell? ⟨wr.heap.size, 0, none⟩ = some (.slice bo m d) := cell_b (below_alloc (wr.drew.alloc (.cells #[.slice bo m d] 40)) _) (cell_new0 wr.drew (.slice bo m d) 40)
              refine step_append_lists (g0 := wr.heap.size + 1) (c0 := 0) (c := c) ?_ _ _ rfl w.heap.size 0 ([]) ?_ ?_ ⟨g, 0, none⟩ k (vs.take k) ?_ ?_ ?_ ?_ k ?_ ?_ ?_ ?_
              · rfl
              · rfl
              · (have h_ := own_nilL (wr.drew.alloc (.cells #[.slice bo m d] 40)) (base := w.heap.size) (by rw [World.size_alloc]; exact Nat.le_succ_of_le hN); rw [World.size_alloc] at h_; exact h_)
              · rfl
              · (rw [List.length_take, HLv.out]; omega)
              · exact take_atV (HR.out.kept (grown_of_below HBW.out none) (own_em _))
              · exact (HI.out.take k).flat
              · omega
              · omega
              · exact HBW.out.size
              intro gA cA wT hoA hgA
              have HBT : Hid (Below w.heap.size w wT) := HBW.out.grown hgA HBW.out.size (fun q_ hq_ => by cases hq_; have := HW.out; omega)
              have HOT : Hid (wT.ownsRow w.heap.size 40 1 (.slice (some ⟨gA, 0, none⟩) k cA) k (vs.take k)) := by unfold Hid; simpa using hoA
              have HST : Hid (wT.cell? ⟨wr.heap.size, 0, none⟩ = some (.slice bo m d)) := hgA.cell hS0 (by simp)
              obtain ⟨gS, hgS⟩ : ∃ gS, gS = wr.heap.size := ⟨_, rfl⟩
              rw [← hgS] at HST
              clear hoA hgA hS0
              refine hK _ _ ?_
              clear hK K
              (try simp only [Act.put, List.setIfInBounds_toArray, List.set_cons_zero, List.set_cons_succ])
              (try rw [← hgS])
              clear hgS
              refine wpAny_ready (rs := [7]) (by kernel_rfl) (by simp) ?_
              refine AllReady.cons (o := ⟨_, _, _, _, _, _⟩) rfl (fun K hK => ?_) AllReady.nil
              refine step_append_lists (g0 := gA) (c0 := cA) (c := 1) ?_ _ _ rfl w.heap.size k (vs.take k) ?_ ?_ ⟨gS, 0, none⟩ 1 ([.slice bo m d]) ?_ ?_ ?_ ?_ (k + 1) ?_ ?_ ?_ ?_
              · rfl
              · rfl
              · exact HOT.out
              · rfl
              · rfl
              · exact one_atV HST.out
              · (intro u hu; simp at hu; subst hu; rfl)
              · omega
              · omega
              · exact HBT.out.size
              intro gB cB wB hoB hgB
              have HBB : Hid (Below w.heap.size w wB) := HBT.out.grown hgB HBT.out.size (fun q_ hq_ => by cases hq_; exact (HOT.out.lt gA rfl).1)
              have HOB := Lib.hid hoB
              clear hoB hgB
              refine hK _ _ ?_
              clear hK K
              (try simp only [Act.put, List.setIfInBounds_toArray, List.set_cons_zero, List.set_cons_succ])
              refine wpAny_ready (rs := [11]) (by kernel_rfl) (by simp) ?_
              refine AllReady.cons (o := ⟨_, _, _, _, _, _⟩) rfl (fun K hK => ?_) AllReady.nil
              refine step_append_lists (g0 := gB) (c0 := cB) (c := (c - k)) ?_ _ _ rfl w.heap.size (k + 1) (vs.take k ++ [.slice bo m d]) ?_ ?_ ⟨g, k, none⟩ (n - k) (vs.drop k) ?_ ?_ ?_ ?_ (n + 1) ?_ ?_ ?_ ?_
              · rfl
              · rfl
              · exact HOB.out
              · rfl
              · (rw [List.length_drop, HLv.out])
              · exact drop_atV (HR.out.kept (grown_of_below HBB.out none) (own_em _)) (fun _ => rfl)
              · exact (HI.out.drop k).flat
              · omega
              · omega
              · exact HBB.out.size
              intro gC cC wC hoC hgC
              have HBC : Hid (Below w.heap.size w wC) := HBB.out.grown hgC HBB.out.size (fun q_ hq_ => by cases hq_; exact (HOB.out.lt gB rfl).1)
              have HOC := Lib.hid hoC
              clear hoC hgC
              refine hK _ _ ?_
              clear hK K
              (try simp only [Act.put, List.setIfInBounds_toArray, List.set_cons_zero, List.set_cons_succ])
              refine wpAny_take (i := 12) (oi := ⟨_, _, _, _, _, _⟩) (v := ?_) rfl (by kernel_rfl) (by kernel_rfl) (by kernel_rfl) (fun _ _ _ h => h) (Or.inl ⟨by rfl, ?_⟩) ?_
              rotate_left 1
              · intro w_; go_simp; (try with_reducible rfl)
              (try simp only [Act.put, List.setIfInBounds_toArray, List.set_cons_zero, List.set_cons_succ])
              refine wpAny_done (by kernel_rfl) ?_ _
              go_wp2_with fail
              go_ret
              refine ⟨gC, cC, _, rfl, ownsRow_base HOC.out HB0.out, ?_, HBC.out⟩
              rw [HIns.out]
              have hx_ := InnL.one (InnerAt.below (B := B) (v := .slice bo m d) ⟨bo, m, d, rfl, hmd, hd, HX.out⟩ HBC.out)
              have h_ := (((HI.out.below HBC.out).take k).append hx_).append ((HI.out.below HBC.out).drop k)
              simpa using h_


end Go.Proofs.Ytbpbbmfgkejgaaa
