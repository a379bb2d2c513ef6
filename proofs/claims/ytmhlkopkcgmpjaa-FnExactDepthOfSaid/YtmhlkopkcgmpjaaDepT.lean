/-
  Contracts: spec.l3Depth and both DepthOf. Conditions: the bounds that each theorem names.
-/
import Derived.Test.YtmhlkopkcgmpjaaParts
import Derived.Test.YtmhlkopkcgmpjaaDepI
import Derived.Test.YtmhlkopkcgmpjaaTakes3
import Derived.Deep.RegionHeld3
namespace Go.Proofs.Ytmhlkopkcgmpjaa
open Go.RowKit
set_option linter.unusedVariables false
set_option linter.unusedSimpArgs false

theorem val_dep_no {z : Int} {fs : List OpD} {xs : List Int} (h : isTermB z fs xs = false) : valDepthOf z fs xs = (0, false) := by simp [valDepthOf, h]
theorem val_dep_yes {z : Int} {fs : List OpD} {xs : List Int} (h : isTermB z fs xs = true) : valDepthOf z fs xs = (depT fs xs, true) := by simp [valDepthOf, h]

/-- The greatest depth of the first parts. -/
def mxF (fs : List OpD) (xs : List Int) (k : Nat) : Int := (((partsA fs xs 1).map (depT fs)).take k).foldl max 0
theorem mxF_succ {fs : List OpD} {xs : List Int} {k : Nat} (h : k < (partsA fs xs 1).length) : mxF fs xs (k + 1) = max (mxF fs xs k) (depT fs (partF fs xs k)) := by
  unfold mxF
  rw [dep_max_succ (v := depT fs (partF fs xs k))]
  rw [List.getElem?_map, List.getElem?_eq_getElem h, Option.map_some]
  unfold partF
  rw [List.getD_eq_getElem?_getD, List.getElem?_eq_getElem h]; rfl
theorem part_term {z : Int} {fs : List OpD} {xs : List Int} (hok : algOkB z fs = true) (h : endA fs xs 0 = some xs.length) {k : Nat} (hk : k < (partsA fs xs 1).length) :
    endA fs (partF fs xs k) 0 = some (partF fs xs k).length ∧ (partF fs xs k).length < xs.length := by
  have hm : partF fs xs k ∈ partsA fs xs 1 := by
    unfold partF
    rw [List.getD_eq_getElem?_getD, List.getElem?_eq_getElem hk]
    exact List.getElem_mem hk
  obtain ⟨j, j1, j2, j3⟩ := partsA_term hok h (n := xs.length) (by omega) hm
  obtain ⟨e, h3, h4, h5⟩ := term_sub hok h j2
  obtain ⟨s1, s2⟩ := sub_term h3
  rw [j3]
  exact ⟨s1, by omega⟩
theorem mxF_bd {z : Int} {fs : List OpD} {xs : List Int} (hok : algOkB z fs = true) (h : endA fs xs 0 = some xs.length) (h60 : xs.length ≤ 60) : ∀ k, 0 ≤ mxF fs xs k ∧ mxF fs xs k ≤ 60 := by
  intro k
  have h1 := dep_max (q := 60) (vs := ((partsA fs xs 1).map (depT fs)).take k) (a := 0) (fun v hv => by
    obtain ⟨y, hy, rfl⟩ := List.mem_map.1 (List.mem_of_mem_take hv)
    obtain ⟨j, j1, j2, j3⟩ := partsA_term hok h (n := xs.length) (by omega) hy
    obtain ⟨e, h3, h4, h5⟩ := term_sub hok h j2
    obtain ⟨s1, s2⟩ := sub_term h3
    have := depT_bd fs y
    rw [j3] at this ⊢
    omega) (by omega)
  exact h1
theorem mxF_end {z : Int} {fs : List OpD} {xs : List Int} {x : Int} (hok : algOkB z fs = true) (h : endA fs xs 0 = some xs.length) (hx : xs[0]? = some x) (h0 : x < 0) {k : Nat} (hk : (partsA fs xs 1).length ≤ k) : depT fs xs = 1 + mxF fs xs k := by
  rw [depT_op hok h hx h0]
  unfold mxF
  rw [List.take_of_length_le (by rw [List.length_map]; exact hk)]

set_option maxRecDepth 100000 in
set_option maxHeartbeats 4000000 in
theorem l3Depth_any (lo hi : Nat) (z : Int) (ao : Option Addr) (c n : Nat) (fs : List OpD) (hok : algOkB z fs = true) : ∀ (N lo2 hi2 b o d m : Nat) (xs : List Int) (w : World) (hv : OView w lo hi ao n fs) (hhi : hi ≤ w.heap.size)
    (hx : IView w lo2 hi2 (some ⟨b, o, none⟩) m xs) (hhi2 : hi2 ≤ w.heap.size) (hmN : m ≤ N) (hm : m ≤ 60) (hmd : m ≤ d) (hd : d ≤ maxLen) (hend : endA fs xs 0 = some xs.length),
    Calls Try.prog 72 #[.agg #[.int .i64 z, .slice ao n c], .slice (some ⟨b, o, none⟩) m d] w fun e w' => e = .returned (.int .i64 (depT fs xs)) ∧ Below w.heap.size w w' := by
  intro N
  induction N with
  | zero =>
    intro lo2 hi2 b o d m xs w hv hhi hx hhi2 hmN hm hmd hd hend
    have := hx.1
    have := term_pos hend
    omega
  | succ N ih =>
  intro lo2 hi2 b o d m xs w hv hhi hx hhi2 hmN hm hmd hd hend
  have hl := hx.1
  have hp0 := term_pos hend
  have hm0 : 0 < m := by omega
  obtain ⟨x, hx0⟩ := get_of_lt hx.1 hm0
  obtain ⟨b', o', he', _, _, hcx⟩ := hx.at_ hm0
  cases he'
  have hc0 := hcx 0 x hx0
  rw [Nat.add_zero] at hc0
  have hB := below_alloc w (.cells #[.int .i64 z, .slice ao n c] 31)
  have HB := Lib.hid hB
  have hc1 : (w.alloc (.cells #[.int .i64 z, .slice ao n c] 31)).cell? ⟨b, o, none⟩ = some (.int .i64 x) := cell_b hB hc0
  have hx60 := (term_lt hok hend hx0)
  by_cases h0 : 0 ≤ x
  · rw [depT_var hx0 h0]
    clear ih hv hx hend hx0 hcx hc0 hB hx60
    go_enter Try.func72, Try.ntmps72
    go_wp2_with fail
    go_ret
    exact ⟨rfl, HB.out⟩
  · have hlt : x < 0 := by omega
    have HPt := Lib.hid (l3Parts_any lo hi lo2 hi2 z ao c n d m b o fs xs _ (hv.kept (Kept.of_below hB hhi)) (Nat.le_trans hhi hB.size) hok (hx.kept (Kept.of_below hB hhi2)) (Nat.le_trans hhi2 hB.size) hm hmd hd hend)
    have HBd := Lib.hid (mxF_bd hok hend (by omega))
    have HSu := Lib.hid (fun k (hk : k < (partsA fs xs 1).length) => mxF_succ hk)
    have HTm := Lib.hid (fun k (hk : k < (partsA fs xs 1).length) => part_term hok hend hk)
    have HEn := Lib.hid (fun k (hk : (partsA fs xs 1).length ≤ k) => mxF_end hok hend hx0 hlt hk)
    obtain ⟨y, hy⟩ : ∃ y, depT fs xs = y := ⟨_, rfl⟩
    have HY := Lib.hid hy
    obtain ⟨M, hM⟩ : ∃ M : Nat → Int, mxF fs xs = M := ⟨_, rfl⟩
    obtain ⟨F, hF⟩ : ∃ F : Nat → List Int, partF fs xs = F := ⟨_, rfl⟩
    obtain ⟨K, hK⟩ : ∃ K : Nat, (partsA fs xs 1).length = K := ⟨_, rfl⟩
    have HM0 : Hid (M 0 = 0) := by unfold Hid; rw [← hM]; unfold mxF; rw [List.take_zero]; rfl
    rw [hM] at HBd HSu HEn
    rw [hF] at HSu HTm HPt
    rw [hK] at HSu HTm HEn HPt
    rw [hy] at HEn ⊢
    have HIh0 := Lib.hid ih
    have HV := Lib.hid hv
    have HOk := Lib.hid hok
    have HL := Lib.hid hl
    clear ih hv hx hend hx0 hcx hc0 hx60 hy hM hF hK hl hp0
    unfold maxLen at hd
    have cz0 : (w.alloc (.cells #[.int .i64 z, .slice ao n c] 31)).cell? ⟨w.heap.size, 0, none⟩ = some (.int .i64 z) := by simp
    have ca0 : (w.alloc (.cells #[.int .i64 z, .slice ao n c] 31)).cell? ⟨w.heap.size, 1, none⟩ = some (.slice ao n c) := by simp
    clear hB
    go_enter Try.func72, Try.ntmps72
    go_wp2_with fail
    refine HPt.out.mono ?_
    rintro e_ w1 ⟨R, K', cR, rfl, hbu, rfl, hK60, b1⟩
    have HBu := Lib.hid hbu
    have HB1 := Lib.hid (HB.out.trans (b1.mono HB.out.size))
    have cz1 := cell_b b1 cz0
    have ca1 := cell_b b1 ca0
    clear b1 hbu cz0 ca0 hc1
    go_wp2_with fail
    go_loopw [6, 7] (fun v i wr => ∃ (k : Nat) (q : Int), k ≤ K' ∧ i = .int .i64 (k : Int) ∧ v = .int .i64 q ∧ 0 ≤ q ∧ q ≤ 60 ∧ Hid (q = M k) ∧ wr.cell? ⟨w.heap.size, 0, none⟩ = some (.int .i64 z) ∧ wr.cell? ⟨w.heap.size, 1, none⟩ = some (.slice ao n c) ∧ Hid (BuiltL wr (w.alloc (.cells #[.int .i64 z, .slice ao n c] 31)).heap.size (.slice (some ⟨R, 0, none⟩) K' cR) K' F) ∧ Hid (Below w.heap.size w wr)) (fun _ i _ => K' - (intOf i).toNat)
    case atStart => exact ⟨0, 0, Nat.zero_le _, rfl, rfl, by omega, by omega, HM0.out.symm, cz1, ca1, HBu, HB1⟩
    case round =>
      obtain ⟨k, q, hk, rfl, rfl, hq0, hq1, HQ, cz, ca, HBu, HBr⟩ := hrel
      clear cz1 ca1
      by_cases hkm : k < K'
      · obtain ⟨hp1, hp2⟩ := HTm.out k hkm
        obtain ⟨G, C, hO⟩ := HBu.out
        have hone := (hO.one hkm).view
        have hcap := hO.cap hkm
        have hcv : wr.cell? ⟨R, k, none⟩ = some (.slice (addrO (G k)) (F k).length (C k)) := by
          rw [hO.row.cellAt k (by omega)]; exact flatL_get hkm
        have hP0 := term_pos hp1
        obtain ⟨b2, o2, ha2, _, _, _⟩ := hone.at_ hP0
        rw [ha2] at hone hcv
        obtain ⟨L, hL⟩ : ∃ L, (F k).length = L := ⟨_, rfl⟩
        obtain ⟨c2, hc2⟩ : ∃ c2, C k = c2 := ⟨_, rfl⟩
        rw [hL, hc2] at hcv hcap
        rw [hL] at hone hp2
        have hcx : wr.cell? ⟨R, k, none⟩ = some (.slice (some ⟨b2, o2, none⟩) L c2) := hcv
        obtain ⟨P, hP⟩ : ∃ P, F k = P := ⟨_, rfl⟩
        rw [hP] at hone hp1
        have hs_ := HSu.out k hkm
        rw [hP] at hs_
        obtain ⟨y2, hy2⟩ : ∃ y2, depT fs P = y2 := ⟨_, rfl⟩
        have hih := fun W (hb : Below wr.heap.size wr W) => HIh0.out (w.alloc (.cells #[.int .i64 z, .slice ao n c] 31)).heap.size wr.heap.size b2 o2 c2 L P W (HV.out.kept (Kept.of_below (HBr.out.trans (hb.mono HBr.out.size)) hhi)) (Nat.le_trans (Nat.le_trans hhi HBr.out.size) hb.size) (hone.kept (Kept.of_below hb (Nat.le_refl _))) hb.size (by have := HL.out; omega) (by have := HL.out; omega) hcap.1 hcap.2 hp1
        rw [hy2] at hih hs_
        have HIh := Lib.hid hih
        have hb3 := HBd.out (k + 1)
        rw [hs_, ← HQ.out] at hb3
        obtain ⟨hb30, hb31⟩ := hb3
        have HN : Hid (max q y2 = M (k + 1)) := by unfold Hid; rw [hs_, HQ.out]
        have hkm' : (k : Int) < (K' : Int) := by omega
        have HBo := Lib.hid hO
        clear hp1 hp2 hO hone hcap hcv hP0 ha2 hL hc2 hP hs_ hy2 hih
        go_wp2_with fail
        refine wp_region_noPanic ?_
        refine wp_region_held_drew (S := fun W => W.cell? ⟨w.heap.size, 0, none⟩ = some (.int .i64 z) ∧ W.cell? ⟨w.heap.size, 1, none⟩ = some (.slice ao n c) ∧ W.cell? ⟨R, k, none⟩ = some (.slice (some ⟨b2, o2, none⟩) L c2)) (by kernel_rfl) ?_ (fun hHeld => ?_)
        · exact ⟨cz, ca, hcx⟩
        refine wpAnyH_take (i := 0) (oi := ⟨_, _, _, _, _, _⟩) (v := ?_) rfl (by kernel_rfl) (by kernel_rfl) (by kernel_rfl) (fun _ _ _ h => h) (Or.inl ⟨rfl, ?_⟩) (by assumption) ?_
        rotate_left 1
        · intro w_ hSw; (try dsimp only at hSw); go_simp; (try with_reducible rfl)
        (try simp only [Act.put, List.setIfInBounds_toArray, List.set_cons_zero, List.set_cons_succ])
        refine wpAnyH_take (i := 1) (oi := ⟨_, _, _, _, _, _⟩) (v := ?_) rfl (by kernel_rfl) (by kernel_rfl) (by kernel_rfl) (fun _ _ _ h => h) (Or.inl ⟨rfl, ?_⟩) (by assumption) ?_
        rotate_left 1
        · intro w_ hSw; (try dsimp only at hSw); go_simp; (try with_reducible rfl)
        (try simp only [Act.put, List.setIfInBounds_toArray, List.set_cons_zero, List.set_cons_succ])
        refine wpAnyH_take (i := 2) (oi := ⟨_, _, _, _, _, _⟩) (v := ?_) rfl (by kernel_rfl) (by kernel_rfl) (by kernel_rfl) (fun _ _ _ h => h) (Or.inl ⟨rfl, ?_⟩) (by assumption) ?_
        rotate_left 1
        · intro w_ hSw; (try dsimp only at hSw); go_simp; (try with_reducible rfl)
        (try simp only [Act.put, List.setIfInBounds_toArray, List.set_cons_zero, List.set_cons_succ])
        refine wpAnyH_take (i := 3) (oi := ⟨_, _, _, _, _, _⟩) (v := ?_) rfl (by kernel_rfl) (by kernel_rfl) (by kernel_rfl) (fun _ _ _ h => h) (Or.inl ⟨rfl, ?_⟩) (by assumption) ?_
        rotate_left 1
        · intro w_ hSw; (try dsimp only at hSw); go_simp; (try with_reducible rfl)
        (try simp only [Act.put, List.setIfInBounds_toArray, List.set_cons_zero, List.set_cons_succ])
        refine wpAnyH_take (i := 4) (oi := ⟨_, _, _, _, _, _⟩) (v := ?_) rfl (by kernel_rfl) (by kernel_rfl) (by kernel_rfl) (fun _ _ _ h => h) (Or.inl ⟨rfl, ?_⟩) (by assumption) ?_
        rotate_left 1
        · intro w_ hSw; (try dsimp only at hSw); go_simp; (try with_reducible rfl)
        (try simp only [Act.put, List.setIfInBounds_toArray, List.set_cons_zero, List.set_cons_succ])
        refine wpAnyH_take (i := 5) (oi := ⟨_, _, _, _, _, _⟩) (v := ?_) rfl (by kernel_rfl) (by kernel_rfl) (by kernel_rfl) (fun _ _ _ h => h) (Or.inl ⟨rfl, ?_⟩) (by assumption) ?_
        rotate_left 1
        · intro w_ hSw; (try dsimp only at hSw); go_simp; (try with_reducible rfl)
        (try simp only [Act.put, List.setIfInBounds_toArray, List.set_cons_zero, List.set_cons_succ])
        refine wpAnyH_ready (rs := [6]) (by kernel_rfl) (by simp) ?_
        refine AllReadyH.cons (o := ⟨_, _, _, _, _, _⟩) rfl (fun K hK => ?_) AllReadyH.nil
        go_simp
        go_at_call 72
        refine (HIh.out _ (below_drew wr)).mono ?_
        rintro e_ w2 ⟨rfl, b2_⟩
        have bD := below_then (below_drew wr) b2_
        have HB2 := Lib.hid (HBr.out.trans (bD.mono HBr.out.size))
        have hbD := Lib.hid bD
        have cz2 := cell_b bD cz
        have ca2 := cell_b bD ca
        have cx2 := cell_b bD hcx
        clear b2_ bD
        go_wp2_with fail
        refine hK.out _ _ ?_ (fun hHeld => ?_)
        · exact ⟨cz2, ca2, cx2⟩
        clear hK K
        (try simp only [Act.put, List.setIfInBounds_toArray, List.set_cons_zero, List.set_cons_succ])
        refine wpAnyH_ready (rs := [7]) (by kernel_rfl) (by simp) ?_
        refine AllReadyH.cons (o := ⟨_, _, _, _, _, _⟩) rfl (fun K hK => ?_) AllReadyH.nil
        go_simp
        go_at_call 103
        refine (l1Most_any _ _ _).mono ?_
        rintro e_ w3 ⟨rfl, rfl⟩
        go_wp2_with fail
        refine hK.out _ _ ?_ (fun hHeld => ?_)
        · exact ⟨cz2, ca2, cx2⟩
        clear hK K
        (try simp only [Act.put, List.setIfInBounds_toArray, List.set_cons_zero, List.set_cons_succ])
        refine wpAnyH_take (i := 8) (oi := ⟨_, _, _, _, _, _⟩) (v := ?_) rfl (by kernel_rfl) (by kernel_rfl) (by kernel_rfl) (fun _ _ _ h => h) (Or.inl ⟨rfl, ?_⟩) (by assumption) ?_
        rotate_left 1
        · intro w_ hSw; (try dsimp only at hSw); go_simp; (try with_reducible rfl)
        (try simp only [Act.put, List.setIfInBounds_toArray, List.set_cons_zero, List.set_cons_succ])
        refine wpAnyH_done (by kernel_rfl) ?_ _
        refine NoPanic.normal ?_
        have HBu2 : Hid (BuiltL w3 (w.alloc (.cells #[.int .i64 z, .slice ao n c] 31)).heap.size (.slice (some ⟨R, 0, none⟩) K' cR) K' F) := HBu.out.below hbD.out
        go_wp2_with fail
        go_roundw
        case rel => exact ⟨k + 1, max q y2, by omega, by go_num, rfl, hb30, hb31, HN, cz2, ca2, HBu2, HB2⟩
        case measure => simp [intOf]; omega
      · have hkm' : ¬ (k : Int) < (K' : Int) := by omega
        obtain rfl : k = K' := by omega
        have HE := Lib.hid (HEn.out k (Nat.le_refl _))
        have hw1 : IntKind.i64.wrap (q + 1) = q + 1 := by rw [IntKind.wrap_i64]; omega
        go_wp2_with fail
        go_ret
        exact ⟨ret_int (by rw [HE.out, ← HQ.out]; omega), HBr.out⟩

set_option maxHeartbeats 1000000 in
theorem implDepthOf (lo hi : Nat) (z : Int) (ao : Option Addr) (c n : Nat) (fs : List OpD) (lo2 hi2 : Nat) (bo : Option Addr) (d m : Nat) (xs : List Int) (w : World) (hv : OView w lo hi ao n fs) (hhi : hi ≤ w.heap.size) (hs : ∀ (j : Nat) (f : OpD), fs[j]? = some f → f.2.length ≤ maxLen)
    (hx : IView w lo2 hi2 bo m xs) (hhi2 : hi2 ≤ w.heap.size) (hmd : m ≤ d) (hm : d ≤ maxLen) (hq : ∀ x, x ∈ xs → (Lit.int .i64 x).wf = true) :
    Calls Try.prog 42 #[.agg #[.int .i64 z, .slice ao n c], .slice bo m d] w fun e w' => e = .returned (.tuple #[.int .i64 (valDepthOf z fs xs).1, .bool (valDepthOf z fs xs).2]) ∧ Below w.heap.size w w' := by
  have hB0 := below_alloc w (.cells #[.int .i64 z, .slice ao n c] 31)
  have hB := below_then hB0 (below_alloc _ (.cells #[.slice bo m d] 25))
  have HB := Lib.hid hB
  have hcall := areT_one lo hi lo2 hi2 z ao bo c n d m fs xs w _ hB hv hhi hs hx hhi2 hmd hm hq (w.heap.size + 1) (by simp) (by simp) 1
  clear hB0
  obtain ⟨r, hr⟩ : ∃ r, isTermB z fs xs = r := ⟨_, rfl⟩
  rw [hr] at hcall
  have HC := Lib.hid hcall
  cases r with
  | false =>
    rw [val_dep_no hr]
    clear hB hv hs hx hq hcall hr
    go_enter Try.func42, Try.ntmps42
    go_wp2_with fail
    refine HC.out.mono ?_
    rintro e w1 ⟨rfl, b1⟩
    have HB1 := Lib.hid (HB.out.trans (b1.mono HB.out.size))
    clear b1
    go_wp2_with fail
    go_ret2
    exact ⟨rfl, HB1.out⟩
  | true =>
    obtain ⟨hok, h60, hend⟩ := isTermB_of hr
    rw [val_dep_yes hr]
    have hlx := hx.1
    have hm0 : 0 < m := by have := term_pos hend; omega
    obtain ⟨b, o, rfl, _, _, _⟩ := hx.at_ hm0
    have HV := Lib.hid (fun (w1 : World) (hB1 : Below w.heap.size w w1) => foldD_any lo hi lo2 hi2 z ao (some ⟨b, o, none⟩) n c m d fs xs w1 (hv.kept (Kept.of_below hB1 hhi)) (Nat.le_trans hhi hB1.size) hok (hx.kept (Kept.of_below hB1 hhi2)) (Nat.le_trans hhi2 hB1.size) h60 hend)
    obtain ⟨y, hye⟩ : ∃ y, depT fs xs = y := ⟨_, rfl⟩
    rw [hye] at HV ⊢
    clear hB hv hs hx hq hcall hr hok hend hye
    go_enter Try.func42, Try.ntmps42
    go_wp2_with fail
    refine HC.out.mono ?_
    rintro e w1 ⟨rfl, b1⟩
    have HB1 := Lib.hid (HB.out.trans (b1.mono HB.out.size))
    have cz : w1.cell? ⟨w.heap.size, 0, none⟩ = some (.int .i64 z) := cell_b b1 (by simp)
    have ca : w1.cell? ⟨w.heap.size, 1, none⟩ = some (.slice ao n c) := cell_b b1 (by simp)
    clear b1
    go_wp2_with fail
    refine (HV.out _ HB1.out).mono ?_
    rintro e w2 ⟨rfl, b2⟩
    have HB2 := Lib.hid (HB1.out.trans (b2.mono HB1.out.size))
    clear b2
    go_wp2_with fail
    go_ret2
    exact ⟨rfl, HB2.out⟩

set_option maxHeartbeats 1000000 in
theorem specDepthOf (lo hi : Nat) (z : Int) (ao : Option Addr) (c n : Nat) (fs : List OpD) (lo2 hi2 : Nat) (bo : Option Addr) (d m : Nat) (xs : List Int) (w : World) (hv : OView w lo hi ao n fs) (hhi : hi ≤ w.heap.size) (hs : ∀ (j : Nat) (f : OpD), fs[j]? = some f → f.2.length ≤ maxLen)
    (hx : IView w lo2 hi2 bo m xs) (hhi2 : hi2 ≤ w.heap.size) (hmd : m ≤ d) (hm : d ≤ maxLen) (hq : ∀ x, x ∈ xs → (Lit.int .i64 x).wf = true) :
    Calls Try.prog 41 #[.agg #[.int .i64 z, .slice ao n c], .slice bo m d] w fun e w' => e = .returned (.tuple #[.int .i64 (valDepthOf z fs xs).1, .bool (valDepthOf z fs xs).2]) ∧ Below w.heap.size w w' := by
  have hB := below_alloc w (.cells #[.int .i64 z, .slice ao n c] 31)
  have HB := Lib.hid hB
  have hcall := l3Takes_any lo hi lo2 hi2 z ao bo c n d m fs xs _ (hv.kept (Kept.of_below hB hhi)) (Nat.le_trans hhi hB.size) hs (hx.kept (Kept.of_below hB hhi2)) (Nat.le_trans hhi2 hB.size) (Nat.le_trans hmd hm)
  obtain ⟨r, hr⟩ : ∃ r, isTermB z fs xs = r := ⟨_, rfl⟩
  rw [hr] at hcall
  have HC := Lib.hid hcall
  cases r with
  | false =>
    rw [val_dep_no hr]
    clear hB hv hs hx hq hcall hr
    go_enter Try.func41, Try.ntmps41
    go_wp2_with fail
    refine HC.out.mono ?_
    rintro e w1 ⟨rfl, b1⟩
    have HB1 := Lib.hid (HB.out.trans (b1.mono HB.out.size))
    clear b1
    go_wp2_with fail
    go_ret2
    exact ⟨rfl, HB1.out⟩
  | true =>
    obtain ⟨hok, h60, hend⟩ := isTermB_of hr
    rw [val_dep_yes hr]
    have hlx := hx.1
    have hm0 : 0 < m := by have := term_pos hend; omega
    obtain ⟨b, o, rfl, _, _, _⟩ := hx.at_ hm0
    have HV := Lib.hid (fun (w1 : World) (hB1 : Below w.heap.size w w1) => l3Depth_any lo hi z ao c n fs hok 60 lo2 hi2 b o d m xs w1 (hv.kept (Kept.of_below hB1 hhi)) (Nat.le_trans hhi hB1.size) (hx.kept (Kept.of_below hB1 hhi2)) (Nat.le_trans hhi2 hB1.size) (by omega) (by omega) hmd hm hend)
    obtain ⟨y, hye⟩ : ∃ y, depT fs xs = y := ⟨_, rfl⟩
    rw [hye] at HV ⊢
    clear hB hv hs hx hq hcall hr hok hend hye
    go_enter Try.func41, Try.ntmps41
    go_wp2_with fail
    refine HC.out.mono ?_
    rintro e w1 ⟨rfl, b1⟩
    have HB1 := Lib.hid (HB.out.trans (b1.mono HB.out.size))
    have cz : w1.cell? ⟨w.heap.size, 0, none⟩ = some (.int .i64 z) := cell_b b1 (by simp)
    have ca : w1.cell? ⟨w.heap.size, 1, none⟩ = some (.slice ao n c) := cell_b b1 (by simp)
    clear b1
    go_wp2_with fail
    refine (HV.out _ HB1.out).mono ?_
    rintro e w2 ⟨rfl, b2⟩
    have HB2 := Lib.hid (HB1.out.trans (b2.mono HB1.out.size))
    clear b2
    go_wp2_with fail
    go_ret2
    exact ⟨rfl, HB2.out⟩

end Go.Proofs.Ytmhlkopkcgmpjaa
