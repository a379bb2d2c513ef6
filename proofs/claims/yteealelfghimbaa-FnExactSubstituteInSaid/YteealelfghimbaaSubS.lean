/-
  Contracts: spec.l3List, spec.l3Substitute. Conditions: the bounds that each theorem names.
-/
import Derived.Test.YteealelfghimbaaSubM
import Derived.Test.YteealelfghimbaaSub
import Derived.Test.YteealelfghimbaaApp
import Derived.Test.YteealelfghimbaaNormL
import Derived.Test.YteealelfghimbaaPut3
import Derived.Test.YteealelfghimbaaEvalS
import Derived.Test.YteealelfghimbaaAskS
import Derived.Deep.RegionHeld3
namespace Go.Proofs.Yteealelfghimbaa
open Go.RowKit
set_option linter.unusedVariables false
set_option linter.unusedSimpArgs false
attribute [local go_sem ↓] Go.wp_at_zero Go.wp_at_succ

theorem all_no {fs : List OpD} {tss : List (List Int)} {k : Nat} {ts : List Int} (h : tss[k]? = some ts) (ht : termB fs ts = false) : tss.all (termB fs) = false := by
  rw [← Bool.not_eq_true]
  intro ha
  have := List.all_eq_true.1 ha ts (List.mem_of_getElem? h)
  rw [ht] at this; cases this

set_option maxRecDepth 100000 in
set_option maxHeartbeats 2000000 in
theorem l3List_any (lo hi lo2 hi2 : Nat) (z : Int) (ao bo : Option Addr) (c n d m : Nat) (fs : List OpD) (tss : List (List Int)) (w : World) (hv : OView w lo hi ao n fs) (hhi : hi ≤ w.heap.size) (hok : algOkB z fs = true)
    (hx : LView w lo2 hi2 bo m tss) (hhi2 : hi2 ≤ w.heap.size) (hm : m ≤ maxLen) :
    Calls Try.prog 89 #[.agg #[.int .i64 z, .slice ao n c], .slice bo m d] w fun e w' => e = .returned (.bool (tss.all (termB fs))) ∧ Below w.heap.size w w' := by
  unfold maxLen at hm
  have HV := Lib.hid hv
  have HX := Lib.hid hx
  have HOk := Lib.hid hok
  obtain ⟨r, hr⟩ : ∃ r, tss.all (termB fs) = r := ⟨_, rfl⟩
  have HR := Lib.hid hr
  rw [hr]
  have HB0 := Lib.hid (below_alloc w (.cells #[.int .i64 z, .slice ao n c] 31))
  clear hv hx hok hr
  go_enter Try.func89, Try.ntmps89
  go_wp2_with fail
  go_loopw [5] (fun i wr => ∃ k : Nat, k ≤ m ∧ i = .int .i64 (k : Int) ∧ Hid ((tss.take k).all (termB fs) = true) ∧ wr.cell? ⟨w.heap.size, 0, none⟩ = some (.int .i64 z) ∧ wr.cell? ⟨w.heap.size, 1, none⟩ = some (.slice ao n c) ∧ Hid (Below w.heap.size w wr)) (fun i _ => m - (intOf i).toNat)
  case atStart => exact ⟨0, Nat.zero_le _, rfl, rfl, by go_simp, by go_simp, HB0⟩
  case round =>
    obtain ⟨k, hk, rfl, HA, z1, z2, HBr⟩ := hrel
    clear HB0
    by_cases hlt : k < m
    · obtain ⟨wi, hwi⟩ : ∃ wi : World, wi = wr := ⟨_, rfl⟩
      rw [← hwi]
      rw [← hwi] at z1 z2 HBr
      clear hwi
      obtain ⟨b, o, rfl, _, hbh, hc⟩ := HX.out.at_ (by omega)
      obtain ⟨ts, hts⟩ := get_of_lt HX.out.1 hlt
      obtain ⟨a, mm, cc, hcell, hmc, hcm, hvv⟩ := hc k ts hts
      have z3 : wi.cell? ⟨b, o + k, none⟩ = some (.slice a mm cc) := cell_b HBr.out hcell
      have hcall := fun (W : World) (hb : Below wi.heap.size wi W) => l3Good_any lo hi lo2 hi2 z ao a c n cc mm fs ts W (HV.out.kept (Kept.of_below (HBr.out.trans (hb.mono HBr.out.size)) hhi)) (Nat.le_trans hhi (HBr.out.trans (hb.mono HBr.out.size)).size) HOk.out (hvv.kept (Kept.of_below (HBr.out.trans (hb.mono HBr.out.size)) hhi2)) (Nat.le_trans hhi2 (HBr.out.trans (hb.mono HBr.out.size)).size) (by omega)
      have HTs := Lib.hid hts
      obtain ⟨t, ht⟩ : ∃ t, termB fs ts = t := ⟨_, rfl⟩
      rw [ht] at hcall
      have HT := Lib.hid ht
      have HC := Lib.hid hcall
      have hkm : (k : Int) < (m : Int) := by omega
      clear hts hcell hvv hc hcall ht hmc hcm
      cases t with
      | true =>
        go_wp2_with fail
        refine wp_region_noPanic ?_
        refine wp_region_held_drew (S := fun W => W.cell? ⟨w.heap.size, 0, none⟩ = some (.int .i64 z) ∧ W.cell? ⟨w.heap.size, 1, none⟩ = some (.slice ao n c) ∧ W.cell? ⟨b, o + k, none⟩ = some (.slice a mm cc)) (by kernel_rfl) ?_ (fun hHeld => ?_)
        · exact ⟨z1, z2, z3⟩
        refine wpAnyH_take (i := 0) (oi := ⟨_, _, _, _, _, _⟩) (v := ?_) rfl (by kernel_rfl) (by kernel_rfl) (by kernel_rfl) (fun _ _ _ h => h) (Or.inl ⟨rfl, ?_⟩) (by assumption) ?_
        rotate_left 1
        · intro w_ hSw; (try dsimp only at hSw); go_simp; (try with_reducible rfl)
        (try simp only [Act.put, List.setIfInBounds_toArray, List.set_cons_zero, List.set_cons_succ])
        refine wpAnyH_take (i := 1) (oi := ⟨_, _, _, _, _, _⟩) (v := ?_) rfl (by kernel_rfl) (by kernel_rfl) (by kernel_rfl) (fun _ _ _ h => h) (Or.inl ⟨rfl, ?_⟩) (by assumption) ?_
        rotate_left 1
        · intro w_ hSw; (try dsimp only at hSw); go_simp; (try with_reducible rfl)
        (try simp only [Act.put, List.setIfInBounds_toArray, List.set_cons_zero, List.set_cons_succ])
        refine wpAnyH_take (i := 2) (oi := ⟨_, _, _, _, _, _⟩) (v := ?_) rfl (by kernel_rfl) (by kernel_rfl) (by kernel_rfl) (fun _ _ _ h => h) (Or.inl ⟨rfl, ?_⟩) (by assumption) ?_
        rotate_left 1
        · intro w_ hSw; (try dsimp only at hSw); go_simp; (try with_reducible rfl)
        (try simp only [Act.put, List.setIfInBounds_toArray, List.set_cons_zero, List.set_cons_succ])
        refine wpAnyH_take (i := 3) (oi := ⟨_, _, _, _, _, _⟩) (v := ?_) rfl (by kernel_rfl) (by kernel_rfl) (by kernel_rfl) (fun _ _ _ h => h) (Or.inl ⟨rfl, ?_⟩) (by assumption) ?_
        rotate_left 1
        · intro w_ hSw; (try dsimp only at hSw); go_simp; (try with_reducible rfl)
        (try simp only [Act.put, List.setIfInBounds_toArray, List.set_cons_zero, List.set_cons_succ])
        refine wpAnyH_take (i := 4) (oi := ⟨_, _, _, _, _, _⟩) (v := ?_) rfl (by kernel_rfl) (by kernel_rfl) (by kernel_rfl) (fun _ _ _ h => h) (Or.inl ⟨rfl, ?_⟩) (by assumption) ?_
        rotate_left 1
        · intro w_ hSw; (try dsimp only at hSw); go_simp; (try with_reducible rfl)
        (try simp only [Act.put, List.setIfInBounds_toArray, List.set_cons_zero, List.set_cons_succ])
        refine wpAnyH_ready (rs := [5]) (by kernel_rfl) (by simp) ?_
        refine AllReadyH.cons (o := ⟨_, _, _, _, _, _⟩) rfl (fun K hK => ?_) AllReadyH.nil
        go_simp
        go_at_call 73
        refine (HC.out _ (below_drew _)).mono ?_
        rintro e w3 ⟨rfl, b3⟩
        have q1 := cell_b b3 z1
        have q2 := cell_b b3 z2
        have q3 := cell_b b3 z3
        have HB3 := Lib.hid ((HBr.out.drew).trans (b3.mono (by have := HBr.out.size; simpa using this)))
        clear b3
        go_wp2_with fail
        refine hK.out _ _ ?_ (fun hHeld => ?_)
        · exact ⟨q1, q2, q3⟩
        clear hK K
        (try simp only [Act.put, List.setIfInBounds_toArray, List.set_cons_zero, List.set_cons_succ])
        refine wpAnyH_take (i := 6) (oi := ⟨_, _, _, _, _, _⟩) (v := ?_) rfl (by kernel_rfl) (by kernel_rfl) (by kernel_rfl) (fun _ _ _ h => h) (Or.inl ⟨rfl, ?_⟩) (by assumption) ?_
        rotate_left 1
        · intro w_ hSw; (try dsimp only at hSw); go_simp; (try with_reducible rfl)
        (try simp only [Act.put, List.setIfInBounds_toArray, List.set_cons_zero, List.set_cons_succ])
        refine wpAnyH_done (by kernel_rfl) ?_ _
        refine NoPanic.normal ?_
        go_wp2_with fail
        go_roundw
        case rel => exact ⟨k + 1, by omega, by go_num, areB_succ HTs.out HA.out HT.out, q1, q2, HB3⟩
        case measure => simp [intOf]; omega
      | false =>
        go_wp2_with fail
        refine wp_region_noPanic ?_
        refine wp_region_held_drew (S := fun W => W.cell? ⟨w.heap.size, 0, none⟩ = some (.int .i64 z) ∧ W.cell? ⟨w.heap.size, 1, none⟩ = some (.slice ao n c) ∧ W.cell? ⟨b, o + k, none⟩ = some (.slice a mm cc)) (by kernel_rfl) ?_ (fun hHeld => ?_)
        · exact ⟨z1, z2, z3⟩
        refine wpAnyH_take (i := 0) (oi := ⟨_, _, _, _, _, _⟩) (v := ?_) rfl (by kernel_rfl) (by kernel_rfl) (by kernel_rfl) (fun _ _ _ h => h) (Or.inl ⟨rfl, ?_⟩) (by assumption) ?_
        rotate_left 1
        · intro w_ hSw; (try dsimp only at hSw); go_simp; (try with_reducible rfl)
        (try simp only [Act.put, List.setIfInBounds_toArray, List.set_cons_zero, List.set_cons_succ])
        refine wpAnyH_take (i := 1) (oi := ⟨_, _, _, _, _, _⟩) (v := ?_) rfl (by kernel_rfl) (by kernel_rfl) (by kernel_rfl) (fun _ _ _ h => h) (Or.inl ⟨rfl, ?_⟩) (by assumption) ?_
        rotate_left 1
        · intro w_ hSw; (try dsimp only at hSw); go_simp; (try with_reducible rfl)
        (try simp only [Act.put, List.setIfInBounds_toArray, List.set_cons_zero, List.set_cons_succ])
        refine wpAnyH_take (i := 2) (oi := ⟨_, _, _, _, _, _⟩) (v := ?_) rfl (by kernel_rfl) (by kernel_rfl) (by kernel_rfl) (fun _ _ _ h => h) (Or.inl ⟨rfl, ?_⟩) (by assumption) ?_
        rotate_left 1
        · intro w_ hSw; (try dsimp only at hSw); go_simp; (try with_reducible rfl)
        (try simp only [Act.put, List.setIfInBounds_toArray, List.set_cons_zero, List.set_cons_succ])
        refine wpAnyH_take (i := 3) (oi := ⟨_, _, _, _, _, _⟩) (v := ?_) rfl (by kernel_rfl) (by kernel_rfl) (by kernel_rfl) (fun _ _ _ h => h) (Or.inl ⟨rfl, ?_⟩) (by assumption) ?_
        rotate_left 1
        · intro w_ hSw; (try dsimp only at hSw); go_simp; (try with_reducible rfl)
        (try simp only [Act.put, List.setIfInBounds_toArray, List.set_cons_zero, List.set_cons_succ])
        refine wpAnyH_take (i := 4) (oi := ⟨_, _, _, _, _, _⟩) (v := ?_) rfl (by kernel_rfl) (by kernel_rfl) (by kernel_rfl) (fun _ _ _ h => h) (Or.inl ⟨rfl, ?_⟩) (by assumption) ?_
        rotate_left 1
        · intro w_ hSw; (try dsimp only at hSw); go_simp; (try with_reducible rfl)
        (try simp only [Act.put, List.setIfInBounds_toArray, List.set_cons_zero, List.set_cons_succ])
        refine wpAnyH_ready (rs := [5]) (by kernel_rfl) (by simp) ?_
        refine AllReadyH.cons (o := ⟨_, _, _, _, _, _⟩) rfl (fun K hK => ?_) AllReadyH.nil
        go_simp
        go_at_call 73
        refine (HC.out _ (below_drew _)).mono ?_
        rintro e w3 ⟨rfl, b3⟩
        have q1 := cell_b b3 z1
        have q2 := cell_b b3 z2
        have q3 := cell_b b3 z3
        have HB3 := Lib.hid ((HBr.out.drew).trans (b3.mono (by have := HBr.out.size; simpa using this)))
        clear b3
        go_wp2_with fail
        refine hK.out _ _ ?_ (fun hHeld => ?_)
        · exact ⟨q1, q2, q3⟩
        clear hK K
        (try simp only [Act.put, List.setIfInBounds_toArray, List.set_cons_zero, List.set_cons_succ])
        refine wpAnyH_take (i := 6) (oi := ⟨_, _, _, _, _, _⟩) (v := ?_) rfl (by kernel_rfl) (by kernel_rfl) (by kernel_rfl) (fun _ _ _ h => h) (Or.inl ⟨rfl, ?_⟩) (by assumption) ?_
        rotate_left 1
        · intro w_ hSw; (try dsimp only at hSw); go_simp; (try with_reducible rfl)
        (try simp only [Act.put, List.setIfInBounds_toArray, List.set_cons_zero, List.set_cons_succ])
        refine wpAnyH_done (by kernel_rfl) ?_ _
        refine NoPanic.normal ?_
        go_wp2_with fail
        go_ret
        exact ⟨ret_bool ((all_no HTs.out HT.out).symm.trans HR.out), HB3.out⟩
    · obtain rfl : k = m := by omega
      go_wp2_with fail
      go_ret
      refine ⟨ret_bool ?_, HBr.out⟩
      have h_ := HA.out
      rw [List.take_of_length_le (by have := HX.out.1; omega)] at h_
      rw [← HR.out]; exact h_.symm

theorem subR_big {tss : List (List Int)} {xs : List Int} {k : Nat} (h : 60 < (flatS tss (xs.take k)).length) : subR tss xs = ([], false) := by
  unfold subR
  have := flatS_len_le (tss := tss) (xs := xs) k
  rw [if_neg (by omega)]
theorem subR_yes {tss : List (List Int)} {xs : List Int} (h : (flatS tss xs).length ≤ 60) : subR tss xs = (flatS tss xs, true) := if_pos h

/-- What l3Substitute tells: nothing where there is not a term for each variable. -/
def subV (tss : List (List Int)) (xs : List Int) (m : Nat) : List Int × Bool := if fitsB xs m then subR tss xs else ([], false)
theorem subV_big {tss : List (List Int)} {xs : List Int} {m k : Nat} (h : 60 < (flatS tss (xs.take k)).length) : subV tss xs m = ([], false) := by
  unfold subV
  rw [subR_big h]; split <;> rfl
theorem subV_bad {tss : List (List Int)} {xs : List Int} {m k : Nat} {x : Int} (h : xs[k]? = some x) (hx : (m : Int) ≤ x) : subV tss xs m = ([], false) := by
  unfold subV
  rw [if_neg]
  intro ha
  have := List.all_eq_true.1 ha x (List.mem_of_getElem? h)
  simp at this
  omega
theorem subV_yes {tss : List (List Int)} {xs : List Int} {m : Nat} (h : ∀ (j : Nat) (x : Int), j < xs.length → xs[j]? = some x → x < (m : Int)) : subV tss xs m = subR tss xs := by
  unfold subV
  rw [if_pos]
  unfold fitsB
  rw [List.all_eq_true]
  intro x hx
  obtain ⟨j, hj⟩ := List.getElem?_of_mem hx
  have := h j x (List.getElem?_eq_some_iff.1 hj).1 hj
  simpa using this

set_option maxRecDepth 100000 in
set_option maxHeartbeats 2000000 in
theorem l3Substitute_any (lo hi lo2 hi2 : Nat) (bo co : Option Addr) (d m d2 m2 : Nat) (xs : List Int) (tss : List (List Int)) (w : World) (hx : IView w lo hi bo m xs) (hhi : hi ≤ w.heap.size) (h60 : m ≤ 60)
    (hy : LView w lo2 hi2 co m2 tss) (hhi2 : hi2 ≤ w.heap.size) (hm2 : m2 ≤ 6) (htl : ∀ ts, ts ∈ tss → 0 < ts.length ∧ ts.length ≤ 60) :
    Calls Try.prog 90 #[.slice bo m d, .slice co m2 d2] w fun e w' => ResL w w' (subV tss xs m2).1 (subV tss xs m2).2 e := by
  obtain ⟨i0, hi0, hz0, hz1, hz2⟩ := info_parts Try.infoInt
  have HX := Lib.hid hx
  have HY := Lib.hid hy
  have HTl := Lib.hid htl
  obtain ⟨R, hR⟩ : ∃ R, subV tss xs m2 = R := ⟨_, rfl⟩
  have HR := Lib.hid hR
  have HBig := Lib.hid (fun (k : Nat) (h : 60 < (flatS tss (xs.take k)).length) => subV_big (tss := tss) (xs := xs) (m := m2) (k := k) h)
  have HBad := Lib.hid (fun (k : Nat) (x : Int) (h : xs[k]? = some x) (hx : (m2 : Int) ≤ x) => subV_bad (tss := tss) (m := m2) h hx)
  rw [hR] at HBig HBad ⊢
  have HO0 := Lib.hid (own_nil_lit w (base := w.heap.size) (Nat.le_refl _))
  have HB0 := Lib.hid (below_alloc w (.cells #[] 3))
  clear hx hy htl hR
  unfold ResL
  go_enter Try.func90, Try.ntmps90
  go_wp2_with fail
  go_loopw [6, 7] (fun v i wr => ∃ k g t D : Nat, k ≤ m ∧ i = .int .i64 (k : Int) ∧ v = .slice (some ⟨g, 0, none⟩) t D ∧ t ≤ 60 ∧ Hid (∀ (j : Nat) (x : Int), j < k → xs[j]? = some x → x < (m2 : Int)) ∧ Hid ((flatS tss (xs.take k)).length = t) ∧ Hid (wr.ownsRow w.heap.size 3 1 (.slice (some ⟨g, 0, none⟩) t D) t ((flatS tss (xs.take k)).map (Value.int .i64))) ∧ Hid (Below w.heap.size w wr)) (fun _ i _ => m - (intOf i).toNat)
  case atStart => exact ⟨0, w.heap.size, 0, 0, Nat.zero_le _, rfl, rfl, by omega, (fun j x hj => by omega), rfl, HO0, HB0⟩
  case round =>
    obtain ⟨k, g, t, D, hk, rfl, rfl, ht60, HFk, HLn, HO, HBr⟩ := hrel
    clear HO0 HB0
    by_cases hlt : k < m
    · obtain ⟨b, o, rfl, _, _, hcx⟩ := HX.out.at_ (by omega)
      obtain ⟨x, hx⟩ := get_of_lt HX.out.1 hlt
      have cx : wr.cell? ⟨b, o + k, none⟩ = some (.int .i64 x) := cell_b HBr.out (hcx k x hx)
      by_cases hxm0 : (m2 : Int) ≤ x
      · obtain rfl : R = ([], false) := HBad.out k x hx hxm0
        have hkm : (k : Int) < (m : Int) := by omega
        clear hx hcx
        go_wp2_with fail
        go_ret2
        exact ⟨_, 0, 0, rfl, rfl, own_nil_res HBr.out, HBr.out.alloc HBr.out.size _⟩
      have hxm : x < (m2 : Int) := by omega
      have hxm' : ¬ (m2 : Int) ≤ x := hxm0
      have HFk2 : Hid (∀ (j : Nat) (y : Int), j < k + 1 → xs[j]? = some y → y < (m2 : Int)) := fun j y hj hy => by
        by_cases h_ : j < k
        · exact HFk.out j y h_ hy
        · obtain rfl : j = k := by omega
          rw [hx] at hy; cases hy; exact hxm
      have HXk := Lib.hid (flatS_succ (tss := tss) hx)
      have hkm : (k : Int) < (m : Int) := by omega
      by_cases h0 : x < 0
      · have HNew : Hid (flatS tss (xs.take (k + 1)) = flatS tss (xs.take k) ++ [x]) := by unfold Hid; rw [HXk.out, partS_op h0]
        clear hx hcx HXk
        go_wp2_with (at_builtin; refine wpList_append_own_at _ rfl _ _ 25 rfl w.heap.size 3 i0 (.int .i64 0) 1 8 Try.underlying25 hi0 hz0 hz1 hz2 rfl (by decide) (.slice (some ⟨g, 0, none⟩) t D) t ((flatS tss (xs.take k)).map (Value.int .i64)) rfl (HO.out.alloc _) ⟨wr.heap.size, 0, none⟩ 1 1 [.int .i64 x] rfl rfl (cell_one_new _ _ _) (fun x hx => by simp at hx; subst hx; rfl) (by unfold maxLen; omega) (by omega) (by have := HBr.out.size; simp; omega) ?_; intro v' w3 hown' hgrow' hnil' hat')
        obtain ⟨g3, cap, rfl⟩ := ownsRow_succ hown'
        have HB3 := Lib.hid ((HBr.out.alloc HBr.out.size (.cells #[.int .i64 x] 3)).grown hgrow' (by have := HBr.out.size; simp; omega) (fun q hq => (HO.out.lt q hq).1))
        have HO3 : Hid (w3.ownsRow w.heap.size 3 1 (.slice (some ⟨g3, 0, none⟩) (t + 1) cap) (t + 1) ((flatS tss (xs.take (k + 1))).map (Value.int .i64))) := by
          unfold Hid; rw [HNew.out, List.map_append]; exact hown'
        have HL3 : Hid ((flatS tss (xs.take (k + 1))).length = t + 1) := by unfold Hid; rw [HNew.out, List.length_append, HLn.out]; rfl
        clear hown' hgrow' hnil' hat' cx
        by_cases hbig : (60 : Int) < (t : Int) + 1
        · obtain rfl : R = ([], false) := HBig.out (k + 1) (by rw [HL3.out]; omega)
          go_wp2_with fail
          go_ret2
          exact ⟨_, 0, 0, rfl, rfl, own_nil_res HB3.out, HB3.out.alloc HB3.out.size _⟩
        · go_wp2_with fail
          go_roundw
          case rel => exact ⟨k + 1, g3, t + 1, cap, by omega, by go_num, rfl, by omega, HFk2, HL3, HO3, HB3⟩
          case measure => simp [intOf]; omega
      · obtain ⟨v, rfl⟩ : ∃ v : Nat, x = (v : Int) := ⟨x.toNat, by omega⟩
        obtain ⟨b2, o2, rfl, _, _, hcy⟩ := HY.out.at_ (by omega)
        obtain ⟨ts, hts⟩ := get_of_lt HY.out.1 (show v < m2 by omega)
        obtain ⟨a, q, qc, hcell, hqc, hcm, hvv⟩ := hcy v ts hts
        obtain ⟨hl0, hl1⟩ := HTl.out ts (List.mem_of_getElem? hts)
        have hql := hvv.1
        have ct : wr.cell? ⟨b2, o2 + v, none⟩ = some (.slice a q qc) := cell_b HBr.out hcell
        obtain ⟨b3, o3, rfl, _, _, hc3⟩ := (hvv.kept (Kept.of_below HBr.out hhi2)).at_ (by omega)
        have HNew : Hid (flatS tss (xs.take (k + 1)) = flatS tss (xs.take k) ++ ts) := by unfold Hid; rw [HXk.out, partS_var hts]
        have HSrc : Hid (∀ j u, (ts.map (Value.int .i64))[j]? = some u → wr.cell? ((⟨b3, o3, none⟩ : Addr).add j) = some u) := by
          intro j u hj
          rw [List.getElem?_map] at hj
          obtain ⟨y, hy, rfl⟩ := Option.map_eq_some_iff.1 hj
          exact cells_add (fun j y hj => hc3 j y hj) j y hy
        have hvm : (v : Int) < (m2 : Int) := by omega
        have HQl := Lib.hid hql
        have hq0 : 0 < q := by omega
        have hq6 : q ≤ 60 := by omega
        clear hx hcx HXk hts hcell hvv hcy hc3 hql hl0 hl1 hqc hcm
        go_wp2_with (at_builtin; refine wpList_append_own_at _ rfl _ _ 25 rfl w.heap.size 3 i0 (.int .i64 0) 1 8 Try.underlying25 hi0 hz0 hz1 hz2 rfl (by decide) (.slice (some ⟨g, 0, none⟩) t D) t ((flatS tss (xs.take k)).map (Value.int .i64)) rfl HO.out ⟨b3, o3, none⟩ q qc (ts.map (Value.int .i64)) rfl (by rw [List.length_map, HQl.out]; omega) HSrc.out (fun x hx => by obtain ⟨y, _, rfl⟩ := List.mem_map.1 hx; rfl) (by unfold maxLen; omega) (by omega) HBr.out.size ?_; intro v' w3 hown' hgrow' hnil' hat')
        obtain ⟨g3, cap, rfl⟩ : ∃ g3 cap, v' = .slice (some ⟨g3, 0, none⟩) (t + q) cap := by
          rcases hown'.2 with ⟨_, h_⟩ | ⟨g3, cap, _, h_, _⟩
          · omega
          · exact ⟨g3, cap, h_⟩
        have HB3 := Lib.hid (HBr.out.grown hgrow' HBr.out.size (fun q hq => (HO.out.lt q hq).1))
        have HO3 : Hid (w3.ownsRow w.heap.size 3 1 (.slice (some ⟨g3, 0, none⟩) (t + q) cap) (t + q) ((flatS tss (xs.take (k + 1))).map (Value.int .i64))) := by
          unfold Hid; rw [HNew.out, List.map_append]; exact hown'
        have HL3 : Hid ((flatS tss (xs.take (k + 1))).length = t + q) := by unfold Hid; rw [HNew.out, List.length_append, HLn.out, HQl.out]
        clear hown' hgrow' hnil' hat' cx ct
        by_cases hbig : (60 : Int) < (t : Int) + (q : Int)
        · obtain rfl : R = ([], false) := HBig.out (k + 1) (by rw [HL3.out]; omega)
          go_wp2_with fail
          go_ret2
          exact ⟨_, 0, 0, rfl, rfl, own_nil_res HB3.out, HB3.out.alloc HB3.out.size _⟩
        · go_wp2_with fail
          go_roundw
          case rel => exact ⟨k + 1, g3, t + q, cap, by omega, by go_num, rfl, by omega, HFk2, HL3, HO3, HB3⟩
          case measure => simp [intOf]; omega
    · obtain rfl : k = m := by omega
      have hall := flatS_all (tss := tss) (Nat.le_of_eq HX.out.1)
      have h1 := HLn.out
      have h2 := HO.out
      rw [hall] at h1 h2
      obtain rfl : R = (flatS tss xs, true) := HR.out.symm.trans ((subV_yes (by rw [HX.out.1]; exact HFk.out)).trans (subR_yes (by omega)))
      have H1 := Lib.hid h1
      have H2 := Lib.hid h2
      clear hall h1 h2
      go_wp2_with fail
      go_ret2
      exact ⟨_, t, D, rfl, H1.out.symm, OwnsInts.of_row H2.out, HBr.out⟩

end Go.Proofs.Yteealelfghimbaa
