/-
  Contract: impl.counterOf. Conditions: the bounds that it names.
-/
import Derived.Test.YteealelfghimbaaAskY
namespace Go.Proofs.Yteealelfghimbaa
open Go.RowKit
set_option linter.unusedVariables false
set_option linter.unusedSimpArgs false
attribute [local go_sem ↓] Go.wp_at_zero Go.wp_at_succ

set_option maxRecDepth 100000 in
set_option maxHeartbeats 4000000 in
theorem counterOf_any (lo hi : Nat) (z : Int) (ao : Option Addr) (c n : Nat) (fs : List OpD) (lo2 hi2 : Nat) (bo : Option Addr) (d m : Nat) (xs : List Int) (lo3 hi3 : Nat) (co : Option Addr) (d2 m2 : Nat) (ys : List Int) (w : World) (hv : OView w lo hi ao n fs) (hhi : hi ≤ w.heap.size)
    (hx : IView w lo2 hi2 bo m xs) (hhi2 : hi2 ≤ w.heap.size) (hmd : m ≤ d) (hm : d ≤ maxLen)
    (hy : IView w lo3 hi3 co m2 ys) (hhi3 : hi3 ≤ w.heap.size) (hmd2 : m2 ≤ d2) (hm2 : d2 ≤ maxLen) (hask : askB z fs xs ys = true) :
    Calls Try.prog 86 #[.agg #[.int .i64 z, .slice ao n c], .agg #[.slice bo m d, .slice co m2 d2]] w fun e w' => ResL w w' (cntR z fs xs ys).1 (cntR z fs xs ys).2 e := by
  unfold askB at hask
  simp only [Bool.and_eq_true, decide_eq_true_eq] at hask
  obtain ⟨⟨hok, ht1, ht2⟩, hpw⟩ := hask
  obtain ⟨_, h60, hend⟩ := isTermB_of (show isTermB z fs xs = true by simp [isTermB, hok, ht1])
  obtain ⟨_, h602, hend2⟩ := isTermB_of (show isTermB z fs ys = true by simp [isTermB, hok, ht2])
  obtain ⟨hz1, hz2⟩ := (algOkB_of hok).1
  have hlx := hx.1
  have hly := hy.1
  have hm0 : 0 < m := by have := term_pos hend; omega
  have hm20 : 0 < m2 := by have := term_pos hend2; omega
  have hb1 : ∀ x, x ∈ xs → x < 6 := fun x hxx => by
    obtain ⟨j, hj⟩ := List.getElem?_of_mem hxx
    exact (term_lt hok hend hj).1
  have hb2 : ∀ x, x ∈ ys → x < 6 := fun x hxx => by
    obtain ⟨j, hj⟩ := List.getElem?_of_mem hxx
    exact (term_lt hok hend2 hj).1
  have hc1 : ∀ x, x ∈ xs → -9223372036854775808 ≤ x ∧ x < 6 := fun x hxx => by
    obtain ⟨j, hj⟩ := List.getElem?_of_mem hxx
    have := term_lt hok hend hj
    have := (algOkB_of hok).2.1
    exact ⟨by omega, by omega⟩
  have hc2 : ∀ x, x ∈ ys → -9223372036854775808 ≤ x ∧ x < 6 := fun x hxx => by
    obtain ⟨j, hj⟩ := List.getElem?_of_mem hxx
    have := term_lt hok hend2 hj
    have := (algOkB_of hok).2.1
    exact ⟨by omega, by omega⟩
  have hne1 : xs ≠ [] := fun e => by rw [e] at hlx; simp at hlx; omega
  have hne2 : ys ≠ [] := fun e => by rw [e] at hly; simp at hly; omega
  obtain ⟨zs, hzs⟩ : ∃ zs, xs ++ ys = zs := ⟨_, rfl⟩
  have hfx : ∀ x, x ∈ xs → x < (needN zs : Int) := fun x hxx => need_fit (by rw [← hzs]; exact List.mem_append_left _ hxx) (hb1 x hxx)
  have hfy : ∀ x, x ∈ ys → x < (needN zs : Int) := fun x hxx => need_fit (by rw [← hzs]; exact List.mem_append_right _ hxx) (hb2 x hxx)
  have hzb : ∀ x, x ∈ zs → x < 6 := fun x hxx => by
    rw [← hzs] at hxx
    rcases List.mem_append.1 hxx with h | h
    · exact hb1 x h
    · exact hb2 x h
  have hvn : ∀ (j : Nat) (v : Int), (varsL zs)[j]? = some v → ∃ vn : Nat, v = (vn : Int) ∧ vn < needN zs := fun j v hj => by
    obtain ⟨h1, h2, h3⟩ := vars_need (List.mem_of_getElem? hj)
    have := need_fit h3 h2
    exact ⟨v.toNat, by omega, by omega⟩
  have hbad : ∀ j, badB z fs xs ys j = (evT z fs (cntV z zs j) xs != evT z fs (cntV z zs j) ys) := fun j => by unfold badB; rw [hzs]
  have hCV := fun (w1 : World) (hB1 : Below w.heap.size w w1) => varsIn_any 0 (w1.heap.size + 1) (some ⟨w1.heap.size, 0, none⟩) 2 2 [xs, ys] (w1.alloc (.cells #[.slice bo m d, .slice co m2 d2] 25))
    (LView.two (by simp) (by simp) (Nat.zero_le _) (by omega) hmd hm ((hx.kept (Kept.of_below (below_then hB1 (below_alloc _ _)) hhi2)).mono (Nat.zero_le _) (by have := hB1.size; omega)) hmd2 hm2 ((hy.kept (Kept.of_below (below_then hB1 (below_alloc _ _)) hhi3)).mono (Nat.zero_le _) (by have := hB1.size; omega))) (by simp) (by omega) (fun zs_ hzs_ => by
      simp at hzs_
      rcases hzs_ with rfl | rfl
      · exact h60
      · exact h602) (fun zs_ hzs_ x hxx => by
      simp at hzs_
      rcases hzs_ with rfl | rfl
      · exact hb1 x hxx
      · exact hb2 x hxx)
  simp only [List.flatten_cons, List.flatten_nil, List.append_nil, hzs] at hCV
  have hN1 := fun (w1 : World) (hB1 : Below w.heap.size w w1) => needed_any lo2 hi2 bo d m xs w1 (hx.kept (Kept.of_below hB1 hhi2)) hm0 (by omega) hc1
  have hN2 := fun (w1 : World) (hB1 : Below w.heap.size w w1) => needed_any lo3 hi3 co d2 m2 ys w1 (hy.kept (Kept.of_below hB1 hhi3)) hm20 (by omega) hc2
  have hmx := need_max hne1 hne2 hb1 hb2
  rw [hzs] at hmx hpw
  have hL6 := varsL_len zs
  have hN6 := needN_le zs
  obtain ⟨L, hL⟩ : ∃ L, (varsL zs).length = L := ⟨_, rfl⟩
  rw [hL] at hL6
  have hl6 := fun (W : World) => len6_any z L W hz1 hz2 hL6
  have hpb := powI_bd6 hz1 hz2 hL6
  rw [hL] at hpw
  obtain ⟨p, hp⟩ : ∃ p : Nat, powI z L = (p : Int) := ⟨(powI z L).toNat, by omega⟩
  rw [hp] at hl6 hpb hpw
  have HSome := Lib.hid (fun (j : Nat) (h : ∀ i, i < j → badB z fs xs ys i = false) (hj : badB z fs xs ys j = true) (hn : j < p) => cntR_some (z := z) (fs := fs) (xs := xs) (ys := ys) (p := p) (by rw [hzs, hL]; exact hp) h hj hn)
  have HNone := Lib.hid (fun (h : ∀ i, i < p → badB z fs xs ys i = false) => cntR_none (z := z) (fs := fs) (xs := xs) (ys := ys) (p := p) (by rw [hzs, hL]; exact hp) h)
  simp only [hzs] at HSome
  have HVx := Lib.hid (fun (j g : Nat) (W : World) (hb : Below w.heap.size w W) (hd : IView W g W.heap.size (some ⟨g, 0, none⟩) (needN zs) (cntV z zs j)) => valueT_any lo hi lo2 hi2 g W.heap.size z ao bo (some ⟨g, 0, none⟩) n c m d (needN zs) (needN zs) fs xs (cntV z zs j) W (hv.kept (Kept.of_below hb hhi)) (Nat.le_trans hhi hb.size) hok (hx.kept (Kept.of_below hb hhi2)) (Nat.le_trans hhi2 hb.size) hd (Nat.le_refl _) h60 hend (cntV_in hz1 zs j) hfx)
  have HVy := Lib.hid (fun (j g : Nat) (W : World) (hb : Below w.heap.size w W) (hd : IView W g W.heap.size (some ⟨g, 0, none⟩) (needN zs) (cntV z zs j)) => valueT_any lo hi lo3 hi3 g W.heap.size z ao co (some ⟨g, 0, none⟩) n c m2 d2 (needN zs) (needN zs) fs ys (cntV z zs j) W (hv.kept (Kept.of_below hb hhi)) (Nat.le_trans hhi hb.size) hok (hy.kept (Kept.of_below hb hhi3)) (Nat.le_trans hhi3 hb.size) hd (Nat.le_refl _) h602 hend2 (cntV_in hz1 zs j) hfy)
  have HA := Lib.hid (fun (j : Nat) (hj : j < p) (W : World) => args6_impl z (j : Int) L hL6 W hz1 hz2 (by omega) (by omega))
  have HDl := Lib.hid (fun (j : Nat) => digs_len z L (j : Int))
  have HRz : Hid (∀ i : Nat, putVs (List.replicate (needN zs) 0) (varsL zs) (digs z L (i : Int)) = cntV z zs i) := fun i => by unfold cntV; rw [hL]
  have HRc : Hid (∀ j i : Nat, putVs (cntV z zs j) (varsL zs) (digs z L (i : Int)) = cntV z zs i) := fun j i => by have := cntV_again z zs j i; rw [hL] at this; exact this
  have HCl := Lib.hid (fun j : Nat => cntV_len z zs j)
  have HVn := Lib.hid hvn
  have HBad := Lib.hid hbad
  obtain ⟨N, hN⟩ : ∃ N, needN zs = N := ⟨_, rfl⟩
  rw [hN] at hmx hN6 HVx HVy HRz HCl HVn
  obtain ⟨qx, hqx⟩ : ∃ q, max (maxL xs + 1) 0 = q := ⟨_, rfl⟩
  obtain ⟨qy, hqy⟩ : ∃ q, max (maxL ys + 1) 0 = q := ⟨_, rfl⟩
  rw [hqx] at hN1 hmx
  rw [hqy] at hN2 hmx
  have HN1 := Lib.hid hN1
  have HN2 := Lib.hid hN2
  rw [hL] at hCV
  
  obtain ⟨vs, hvs⟩ : ∃ vs, varsL zs = vs := ⟨_, rfl⟩
  rw [hvs] at hCV HRz HRc HVn
  have HCV := Lib.hid hCV
  have HL6 := Lib.hid hl6
  have HVl : Hid (vs.length = L) := by rw [← hvs]; exact hL
  obtain ⟨R, hR⟩ : ∃ R, cntR z fs xs ys = R := ⟨_, rfl⟩
  rw [hR] at HSome HNone ⊢
  clear hv hx hy hok ht1 ht2 hpw hend hend2 hb1 hb2 hc1 hc2 hne1 hne2 hfx hfy hzb hvn hbad hqx hqy hN hp hvs hL hR hlx hly hCV hN1 hN2 hl6
  have HMx := Lib.hid hmx
  clear hmx
  have hB0 := Lib.hid (below_then (below_alloc w (.cells #[.int .i64 z, .slice ao n c] 31)) (below_alloc _ (.cells #[.slice bo m d, .slice co m2 d2] 44)))
  have hcv := HCV.out _ hB0.out
  simp only [World.size_alloc] at hcv
  have HCV0 := Lib.hid hcv
  clear hcv
  unfold ResL
  go_enter Try.func86, Try.ntmps86
  go_wp2_with fail
  refine HCV0.out.mono ?_
  rintro e w2 ⟨va, vm, vd, rfl, rfl, vo, b2⟩
  have bw2 := (below_alloc ((w.alloc (.cells #[.int .i64 z, .slice ao n c] 31)).alloc (.cells #[.slice bo m d, .slice co m2 d2] 44)) (.cells #[.slice bo m d, .slice co m2 d2] 25)).trans (b2.mono (by simp))
  have c1 : w2.cell? ⟨w.heap.size, 0, none⟩ = some (.int .i64 z) := cell_b bw2 (by go_simp)
  have c2 : w2.cell? ⟨w.heap.size, 1, none⟩ = some (.slice ao n c) := cell_b bw2 (by go_simp)
  have c3 : w2.cell? ⟨w.heap.size + 1, 0, none⟩ = some (.slice bo m d) := cell_b bw2 (by go_simp)
  have c4 : w2.cell? ⟨w.heap.size + 1, 1, none⟩ = some (.slice co m2 d2) := cell_b bw2 (by go_simp)
  have HB2 := Lib.hid (hB0.out.trans (bw2.mono hB0.out.size))
  have HVo := Lib.hid (OwnsInts.of_row (ownsRow_base (b' := w.heap.size) vo (by omega)))
  clear vo b2 bw2 hB0
  obtain ⟨w5, hmk, ho5, hb5⟩ := make_ints w2.drew N (by omega)
  simp only [World.size_drew] at hmk ho5 hb5
  have yB : Below w2.heap.size w2 w2.drew := below_drew _
  have hb25 : Below w2.heap.size w2 w5 := yB.trans hb5
  have d1 := cell_b hb25 c1
  have d2_ := cell_b hb25 c2
  have d3 := cell_b hb25 c3
  have d4 := cell_b hb25 c4
  have HB5 := Lib.hid (HB2.out.trans (hb25.mono HB2.out.size))
  have HVv := Lib.hid (HVo.out.kept (Kept.of_below hb25 (Nat.le_refl _))).view
  have HO5 := Lib.hid ho5
  have HX5 := Lib.hid hb25
  obtain ⟨G, hG⟩ : ∃ G : Nat, G = w2.heap.size := ⟨_, rfl⟩
  have hwG : w.heap.size + 1 < G := by rw [hG]; exact World.block_lt_of_cell? w2 _ c3
  rw [← hG] at hmk HVv HO5
  have hGs : G < w5.heap.size := (HO5.out.lt G rfl).2
  have hmx := HMx.out
  clear hG ho5 hb5 hb25 HVo
  go_wp2_with fail

  refine wp_region_noPanic ?_
  refine wp_region_held_drew (S := fun W => W.cell? ⟨w.heap.size, 0, none⟩ = some (.int .i64 z) ∧ W.cell? ⟨w.heap.size, 1, none⟩ = some (.slice ao n c) ∧ W.cell? ⟨w.heap.size + 1, 0, none⟩ = some (.slice bo m d) ∧ W.cell? ⟨w.heap.size + 1, 1, none⟩ = some (.slice co m2 d2) ∧ Below w2.heap.size w2 W) (by kernel_rfl) ?_ (fun hHeld => ?_)
  · exact ⟨by go_simp, by go_simp, by go_simp, by go_simp, yB⟩
  refine wpAnyH_take (i := 0) (oi := ⟨_, _, _, _, _, _⟩) (v := ?_) rfl (by kernel_rfl) (by kernel_rfl) (by kernel_rfl) (fun _ _ _ h => h) (Or.inl ⟨rfl, ?_⟩) (by assumption) ?_
  rotate_left 1
  · intro w_ hSw; (try dsimp only at hSw); go_simp; (try with_reducible rfl)
  (try simp only [Act.put, List.setIfInBounds_toArray, List.set_cons_zero, List.set_cons_succ])
  refine wpAnyH_take (i := 1) (oi := ⟨_, _, _, _, _, _⟩) (v := ?_) rfl (by kernel_rfl) (by kernel_rfl) (by kernel_rfl) (fun _ _ _ h => h) (Or.inl ⟨rfl, ?_⟩) (by assumption) ?_
  rotate_left 1
  · intro w_ hSw; (try dsimp only at hSw); go_simp; (try with_reducible rfl)
  (try simp only [Act.put, List.setIfInBounds_toArray, List.set_cons_zero, List.set_cons_succ])
  refine wpAnyH_take (i := 3) (oi := ⟨_, _, _, _, _, _⟩) (v := ?_) rfl (by kernel_rfl) (by kernel_rfl) (by kernel_rfl) (fun _ _ _ h => h) (Or.inl ⟨rfl, ?_⟩) (by assumption) ?_
  rotate_left 1
  · intro w_ hSw; (try dsimp only at hSw); go_simp; (try with_reducible rfl)
  (try simp only [Act.put, List.setIfInBounds_toArray, List.set_cons_zero, List.set_cons_succ])
  refine wpAnyH_take (i := 4) (oi := ⟨_, _, _, _, _, _⟩) (v := ?_) rfl (by kernel_rfl) (by kernel_rfl) (by kernel_rfl) (fun _ _ _ h => h) (Or.inl ⟨rfl, ?_⟩) (by assumption) ?_
  rotate_left 1
  · intro w_ hSw; (try dsimp only at hSw); go_simp; (try with_reducible rfl)
  (try simp only [Act.put, List.setIfInBounds_toArray, List.set_cons_zero, List.set_cons_succ])
  refine wpAnyH_ready (rs := [2]) (by kernel_rfl) (by simp) ?_
  refine AllReadyH.cons (o := ⟨_, _, _, _, _, _⟩) rfl (fun K hK => ?_) AllReadyH.nil
  go_simp
  go_at_call 91
  refine (HN1.out _ (HB2.out.trans (yB.mono HB2.out.size))).mono ?_
  rintro e w_ ⟨rfl, rfl⟩
  go_wp2_with fail
  refine hK.out _ _ ?_ (fun hHeld => ?_)
  · assumption
  clear hK K
  (try simp only [Act.put, List.setIfInBounds_toArray, List.set_cons_zero, List.set_cons_succ])
  refine wpAnyH_ready (rs := [5]) (by kernel_rfl) (by simp) ?_
  refine AllReadyH.cons (o := ⟨_, _, _, _, _, _⟩) rfl (fun K hK => ?_) AllReadyH.nil
  go_simp
  go_at_call 91
  refine (HN2.out _ (HB2.out.trans (yB.mono HB2.out.size))).mono ?_
  rintro e w_ ⟨rfl, rfl⟩
  go_wp2_with fail
  refine hK.out _ _ ?_ (fun hHeld => ?_)
  · assumption
  clear hK K
  (try simp only [Act.put, List.setIfInBounds_toArray, List.set_cons_zero, List.set_cons_succ])
  refine wpAnyH_take (i := 6) (oi := ⟨_, _, _, _, _, _⟩) (v := ?_) rfl (by kernel_rfl) (by kernel_rfl) (by kernel_rfl) (fun _ _ _ h => h) (Or.inl ⟨rfl, ?_⟩) (by assumption) ?_
  rotate_left 1
  · intro w_ hSw; (try dsimp only at hSw); go_simp; (try with_reducible rfl)
  (try simp only [Act.put, List.setIfInBounds_toArray, List.set_cons_zero, List.set_cons_succ])
  refine wpAnyH_ready (rs := [7]) (by kernel_rfl) (by simp) ?_
  refine AllReadyH.cons (o := ⟨_, _, _, _, _, _⟩) rfl (fun K hK => ?_) AllReadyH.nil
  go_simp
  refine hK.out _ _ ?_ (fun hHeld => ?_)
  · exact ⟨d1, d2_, d3, d4, HX5.out⟩
  clear hK K
  (try simp only [Act.put, List.setIfInBounds_toArray, List.set_cons_zero, List.set_cons_succ])
  refine wpAnyH_take (i := 8) (oi := ⟨_, _, _, _, _, _⟩) (v := ?_) rfl (by kernel_rfl) (by kernel_rfl) (by kernel_rfl) (fun _ _ _ h => h) (Or.inl ⟨rfl, ?_⟩) (by assumption) ?_
  rotate_left 1
  · intro w_ hSw; (try dsimp only at hSw); go_simp; (try with_reducible rfl)
  (try simp only [Act.put, List.setIfInBounds_toArray, List.set_cons_zero, List.set_cons_succ])
  refine wpAnyH_done (by kernel_rfl) ?_ _
  refine NoPanic.normal ?_
  clear hmx hmk yB c1 c2 c3 c4 HX5 HMx HN1 HN2 HCV0 HCV
  go_wp2_with fail
  refine (HL6.out _).mono ?_
  rintro e w_ ⟨rfl, rfl⟩
  go_wp2_with fail
  go_loopw [8, 9, 10, 30] (fun _ _ _ i wr => ∃ j : Nat, j ≤ p ∧ i = .int .i64 (j : Int) ∧ Hid (∀ i', i' < j → badB z fs xs ys i' = false) ∧ Hid (∃ cur : List Int, (∀ i' : Nat, putVs cur vs (digs z vm (i' : Int)) = cntV z zs i') ∧ cur.length = N ∧ wr.ownsRow G 3 1 (.slice (some ⟨G, 0, none⟩) N N) N (cur.map (Value.int .i64))) ∧ Hid (IView wr w.heap.size G va vm vs) ∧ wr.cell? ⟨w.heap.size, 0, none⟩ = some (.int .i64 z) ∧ wr.cell? ⟨w.heap.size, 1, none⟩ = some (.slice ao n c) ∧ wr.cell? ⟨w.heap.size + 1, 0, none⟩ = some (.slice bo m d) ∧ wr.cell? ⟨w.heap.size + 1, 1, none⟩ = some (.slice co m2 d2) ∧ Hid (Below w.heap.size w wr) ∧ G < wr.heap.size) (fun _ _ _ i _ => p - (intOf i).toNat)
  case atStart => exact ⟨0, Nat.zero_le _, rfl, (fun i' h => by omega), ⟨_, HRz.out, by simp, HO5.out⟩, HVv, d1, d2_, d3, d4, HB5, hGs⟩
  case round =>
    obtain ⟨j, hj, rfl, HNo, HCur, HVw, z1, z2, z3, z4, HBr, hGr⟩ := hrel
    clear d1 d2_ d3 d4 HVv HO5 HB5 hGs
    by_cases hlt : j < p
    · obtain ⟨wi, hwi⟩ : ∃ wi : World, wi = wr := ⟨_, rfl⟩
      rw [← hwi]
      rw [← hwi] at HCur HVw z1 z2 z3 z4 HBr hGr
      clear hwi
      have hjp : (j : Int) < (p : Int) := by omega
      obtain ⟨cur, hcur, hcl, ho⟩ := HCur.out
      have HCu := Lib.hid hcur
      have HOi := Lib.hid ho
      clear hcur ho
      go_wp2_with fail
      refine (HA.out j hlt _).mono ?_
      rintro e wA ⟨rfl, hoA, bA⟩
      have e1 := cell_b bA z1
      have e2 := cell_b bA z2
      have e3 := cell_b bA z3
      have e4 := cell_b bA z4
      have HVA := Lib.hid (HVw.out.kept (Kept.of_below bA (by omega)))
      have HRA := Lib.hid (HOi.out.kept (grown_of_below bA none) (own_em _))
      have HBA := Lib.hid (HBr.out.trans (bA.mono HBr.out.size))
      obtain ⟨D, hD⟩ : ∃ D : Nat, D = wi.heap.size := ⟨_, rfl⟩
      rw [← hD] at hoA ⊢
      have hGD : G < D := by omega
      have hDs : D < wA.heap.size := (hoA.lt D rfl).2
      have HDA := Lib.hid hoA
      clear hoA bA hD z1 z2 z3 z4 HVw HOi
      go_wp2_with fail
      go_loopw [9, 10, 40] (fun _ _ k wq => ∃ q : Nat, q ≤ vm ∧ k = .int .i64 (q : Int) ∧ Hid (wq.ownsRow G 3 1 (.slice (some ⟨G, 0, none⟩) N N) N ((putVs cur (vs.take q) ((digs z vm (j : Int)).take q)).map (Value.int .i64))) ∧ Hid (wA.grownBy wq (some G))) (fun _ _ k _ => vm - (intOf k).toNat)
      case atStart => exact ⟨0, Nat.zero_le _, rfl, by rw [putVs_zero]; exact HRA, World.grownBy.refl _ _⟩
      case round =>
        obtain ⟨q, hq, rfl, HRq, HGq⟩ := hrel
        by_cases hlt2 : q < vm
        · obtain ⟨x, hxq⟩ := get_of_lt (HDl.out j) hlt2
          obtain ⟨v, hvq⟩ := get_of_lt HVl.out hlt2
          obtain ⟨vn, rfl, hvn⟩ := HVn.out q v hvq
          obtain ⟨bV, oV, rfl, hbl, hbh, hcv⟩ := HVA.out.at_ (by omega)
          have k1 : wr.cell? ⟨bV, oV + q, none⟩ = some (.int .i64 (vn : Int)) := (World.cell?_of_block (a := ⟨bV, oV + q, none⟩) (HGq.out.block bV (by omega) (by intro h_; injection h_ with h_; omega))).trans (hcv q _ hvq)
          have k2 : wr.cell? ⟨D, q, none⟩ = some (.int .i64 x) := (World.cell?_of_block (a := ⟨D, q, none⟩) (HGq.out.block D (by omega) (by intro h_; injection h_ with h_; omega))).trans (own_at HDA.out hxq)
          have hlen := HRq.out.1
          obtain ⟨u, hu⟩ : ∃ u, wr.cell? ⟨G, vn, none⟩ = some u := by
            rw [HRq.out.cellAt vn (by omega)]
            exact ⟨_, List.getElem?_eq_getElem (by omega)⟩
          have hfr := HRq.out.frozenAt vn
          have hst := HRq.out.stored vn (.int .i64 x)
          have hps := putVs_succ vs (digs z vm (j : Int)) cur q (vn : Int) x hvq hxq
          rw [Int.toNat_natCast] at hps
          rw [← List.map_set, ← hps] at hst
          have HST := Lib.hid hst
          have hvN : (vn : Int) < (N : Int) := by omega
          have hqv : (q : Int) < (vm : Int) := by omega
          clear hst hps hcv hxq hvq hlen
          go_wp2_with fail
          go_roundw
          case rel => exact ⟨q + 1, by omega, by go_num, HST.out.1, HGq.out.trans HST.out.2⟩
          case measure => (simp [intOf]) <;> omega
        · obtain rfl : q = vm := by omega
          obtain ⟨w6, hw6⟩ : ∃ w6 : World, w6 = wr := ⟨_, rfl⟩
          rw [← hw6]
          rw [← hw6] at HRq HGq
          clear hw6
          have hgc : ∀ {o_ : Nat} {B_ : Nat} {v_ : Value}, B_ ≤ w.heap.size + 1 → wA.cell? ⟨B_, o_, none⟩ = some v_ → w6.cell? ⟨B_, o_, none⟩ = some v_ := fun {o_} {B_} {v_} hB h => (World.cell?_of_block (a := ⟨B_, o_, none⟩) (HGq.out.block B_ (by omega) (by intro h_; injection h_ with h_; omega))).trans h
          have f1 := hgc (by omega) e1
          have f2 := hgc (by omega) e2
          have f3 := hgc (by omega) e3
          have f4 := hgc (by omega) e4
          have HV6 := Lib.hid (HVA.out.kept (fun k_ h1_ h2_ => HGq.out.block k_ (by omega) (by intro h_; injection h_ with h_; omega)))
          have hs6 := HGq.out.size
          have HB6 := Lib.hid (HBA.out.grown HGq.out (by have := HBA.out.size; omega) (by intro b hb; cases hb; omega))
          have HR6 : Hid (w6.ownsRow G 3 1 (.slice (some ⟨G, 0, none⟩) N N) N ((cntV z zs j).map (Value.int .i64))) := by
            unfold Hid
            have h_ := HRq.out
            rw [putVs_all (Nat.le_of_eq HVl.out) (Nat.le_of_eq (HDl.out j)), HCu.out j] at h_
            exact h_
          clear hgc e1 e2 e3 e4 HVA HRA HBA HDA HRq HGq
          have hG6 : G < w6.heap.size := by omega
          have hv1 := fun (W : World) (hb : Below w6.heap.size w6 W) => HVx.out j G W (HB6.out.trans (hb.mono HB6.out.size)) ((OwnsInts.of_row (HR6.out.kept (grown_of_below hb none) (own_em _))).view)
          have hv2 := fun (W : World) (hb : Below w6.heap.size w6 W) => HVy.out j G W (HB6.out.trans (hb.mono HB6.out.size)) ((OwnsInts.of_row (HR6.out.kept (grown_of_below hb none) (own_em _))).view)
          have hbj := HBad.out j
          obtain ⟨ex, hex⟩ : ∃ e_, evT z fs (cntV z zs j) xs = e_ := ⟨_, rfl⟩
          obtain ⟨ey, hey⟩ : ∃ e_, evT z fs (cntV z zs j) ys = e_ := ⟨_, rfl⟩
          rw [hex] at hv1 hbj
          rw [hey] at hv2 hbj
          have HV1 := Lib.hid hv1
          have HV2 := Lib.hid hv2
          have HBj := Lib.hid hbj
          clear hv1 hv2 hbj hex hey
          have yC : Below w6.heap.size w6 w6.drew := below_drew _
          have hqq : ¬ (q : Int) < (q : Int) := by omega
          by_cases heq : ex = ey
          · subst heq
            go_wp2_with fail
            refine wp_region_noPanic ?_
            refine wp_region_held_drew (S := fun W => W.cell? ⟨w.heap.size, 0, none⟩ = some (.int .i64 z) ∧ W.cell? ⟨w.heap.size, 1, none⟩ = some (.slice ao n c) ∧ W.cell? ⟨w.heap.size + 1, 0, none⟩ = some (.slice bo m d) ∧ W.cell? ⟨w.heap.size + 1, 1, none⟩ = some (.slice co m2 d2) ∧ Below w6.heap.size w6 W) (by kernel_rfl) ?_ (fun hHeld => ?_)
            · exact ⟨by go_simp, by go_simp, by go_simp, by go_simp, yC⟩
            refine wpAnyH_take (i := 0) (oi := ⟨_, _, _, _, _, _⟩) (v := ?_) rfl (by kernel_rfl) (by kernel_rfl) (by kernel_rfl) (fun _ _ _ h => h) (Or.inl ⟨rfl, ?_⟩) (by assumption) ?_
            rotate_left 1
            · intro w_ hSw; (try dsimp only at hSw); go_simp; (try with_reducible rfl)
            (try simp only [Act.put, List.setIfInBounds_toArray, List.set_cons_zero, List.set_cons_succ])
            refine wpAnyH_take (i := 1) (oi := ⟨_, _, _, _, _, _⟩) (v := ?_) rfl (by kernel_rfl) (by kernel_rfl) (by kernel_rfl) (fun _ _ _ h => h) (Or.inl ⟨rfl, ?_⟩) (by assumption) ?_
            rotate_left 1
            · intro w_ hSw; (try dsimp only at hSw); go_simp; (try with_reducible rfl)
            (try simp only [Act.put, List.setIfInBounds_toArray, List.set_cons_zero, List.set_cons_succ])
            refine wpAnyH_take (i := 2) (oi := ⟨_, _, _, _, _, _⟩) (v := ?_) rfl (by kernel_rfl) (by kernel_rfl) (by kernel_rfl) (fun _ _ _ h => h) (Or.inl ⟨rfl, ?_⟩) (by assumption) ?_
            rotate_left 1
            · intro w_ hSw; (try dsimp only at hSw); go_simp; (try with_reducible rfl)
            (try simp only [Act.put, List.setIfInBounds_toArray, List.set_cons_zero, List.set_cons_succ])
            refine wpAnyH_take (i := 3) (oi := ⟨_, _, _, _, _, _⟩) (v := ?_) rfl (by kernel_rfl) (by kernel_rfl) (by kernel_rfl) (fun _ _ _ h => h) (Or.inl ⟨rfl, ?_⟩) (by assumption) ?_
            rotate_left 1
            · intro w_ hSw; (try dsimp only at hSw); go_simp; (try with_reducible rfl)
            (try simp only [Act.put, List.setIfInBounds_toArray, List.set_cons_zero, List.set_cons_succ])
            refine wpAnyH_take (i := 5) (oi := ⟨_, _, _, _, _, _⟩) (v := ?_) rfl (by kernel_rfl) (by kernel_rfl) (by kernel_rfl) (fun _ _ _ h => h) (Or.inl ⟨rfl, ?_⟩) (by assumption) ?_
            rotate_left 1
            · intro w_ hSw; (try dsimp only at hSw); go_simp; (try with_reducible rfl)
            (try simp only [Act.put, List.setIfInBounds_toArray, List.set_cons_zero, List.set_cons_succ])
            refine wpAnyH_take (i := 6) (oi := ⟨_, _, _, _, _, _⟩) (v := ?_) rfl (by kernel_rfl) (by kernel_rfl) (by kernel_rfl) (fun _ _ _ h => h) (Or.inl ⟨rfl, ?_⟩) (by assumption) ?_
            rotate_left 1
            · intro w_ hSw; (try dsimp only at hSw); go_simp; (try with_reducible rfl)
            (try simp only [Act.put, List.setIfInBounds_toArray, List.set_cons_zero, List.set_cons_succ])
            refine wpAnyH_take (i := 7) (oi := ⟨_, _, _, _, _, _⟩) (v := ?_) rfl (by kernel_rfl) (by kernel_rfl) (by kernel_rfl) (fun _ _ _ h => h) (Or.inl ⟨rfl, ?_⟩) (by assumption) ?_
            rotate_left 1
            · intro w_ hSw; (try dsimp only at hSw); go_simp; (try with_reducible rfl)
            (try simp only [Act.put, List.setIfInBounds_toArray, List.set_cons_zero, List.set_cons_succ])
            refine wpAnyH_take (i := 8) (oi := ⟨_, _, _, _, _, _⟩) (v := ?_) rfl (by kernel_rfl) (by kernel_rfl) (by kernel_rfl) (fun _ _ _ h => h) (Or.inl ⟨rfl, ?_⟩) (by assumption) ?_
            rotate_left 1
            · intro w_ hSw; (try dsimp only at hSw); go_simp; (try with_reducible rfl)
            (try simp only [Act.put, List.setIfInBounds_toArray, List.set_cons_zero, List.set_cons_succ])
            refine wpAnyH_ready (rs := [4]) (by kernel_rfl) (by simp) ?_
            refine AllReadyH.cons (o := ⟨_, _, _, _, _, _⟩) rfl (fun K hK => ?_) AllReadyH.nil
            go_simp
            obtain ⟨q1_, q2_, q3_, q4_, q5_⟩ := id hHeld
            go_at_call 104
            refine (HV1.out _ q5_).mono ?_
            rintro e w7 ⟨rfl, b7⟩
            have g1 := cell_b b7 q1_
            have g2 := cell_b b7 q2_
            have g3 := cell_b b7 q3_
            have g4 := cell_b b7 q4_
            have g5 := q5_.trans (b7.mono q5_.size)
            clear b7 q1_ q2_ q3_ q4_ q5_
            go_wp2_with fail
            refine hK.out _ _ ?_ (fun hHeld => ?_)
            · exact ⟨g1, g2, g3, g4, g5⟩
            clear hK K
            (try simp only [Act.put, List.setIfInBounds_toArray, List.set_cons_zero, List.set_cons_succ])
            refine wpAnyH_ready (rs := [9]) (by kernel_rfl) (by simp) ?_
            refine AllReadyH.cons (o := ⟨_, _, _, _, _, _⟩) rfl (fun K hK => ?_) AllReadyH.nil
            go_simp
            obtain ⟨q1_, q2_, q3_, q4_, q5_⟩ := id hHeld
            go_at_call 104
            refine (HV2.out _ q5_).mono ?_
            rintro e w8 ⟨rfl, b7⟩
            have h1 := cell_b b7 q1_
            have h2 := cell_b b7 q2_
            have h3 := cell_b b7 q3_
            have h4 := cell_b b7 q4_
            have h5 := q5_.trans (b7.mono q5_.size)
            clear b7 q1_ q2_ q3_ q4_ q5_
            go_wp2_with fail
            refine hK.out _ _ ?_ (fun hHeld => ?_)
            · exact ⟨h1, h2, h3, h4, h5⟩
            clear hK K
            (try simp only [Act.put, List.setIfInBounds_toArray, List.set_cons_zero, List.set_cons_succ])
            refine wpAnyH_take (i := 10) (oi := ⟨_, _, _, _, _, _⟩) (v := ?_) rfl (by kernel_rfl) (by kernel_rfl) (by kernel_rfl) (fun _ _ _ h => h) (Or.inl ⟨rfl, ?_⟩) (by assumption) ?_
            rotate_left 1
            · intro w_ hSw; (try dsimp only at hSw); go_simp; (try with_reducible rfl)
            (try simp only [Act.put, List.setIfInBounds_toArray, List.set_cons_zero, List.set_cons_succ])
            refine wpAnyH_done (by kernel_rfl) ?_ _
            refine NoPanic.normal ?_
            have hR8 := HR6.out.kept (grown_of_below h5 none) (own_em _)
            have HR8 := Lib.hid hR8
            have HV8 := Lib.hid (HV6.out.kept (Kept.of_below h5 (by omega)))
            have HB8 := Lib.hid (HB6.out.trans (h5.mono HB6.out.size))
            have hs8 := h5.size
            have HNo2 : Hid (∀ i', i' < j + 1 → badB z fs xs ys i' = false) := fun i' hi' => by
              by_cases h_ : i' < j
              · exact HNo.out i' h_
              · obtain rfl : i' = j := by omega
                rw [HBj.out]; simp
            clear hR8 g1 g2 g3 g4 g5 yC
            go_wp2_with fail
            go_roundw
            case rel => exact ⟨j + 1, by omega, by go_num, HNo2, ⟨_, HRc.out j, HCl.out j, HR8.out⟩, HV8, h1, h2, h3, h4, HB8, by omega⟩
            case measure => (simp [intOf]) <;> omega
          · have hne : (ex == ey) = false := by rw [beq_eq_false_iff_ne]; exact heq
            have hne2 : (ex != ey) = true := by rw [bne_iff_ne]; exact heq
            go_wp2_with fail
            refine wp_region_noPanic ?_
            refine wp_region_held_drew (S := fun W => W.cell? ⟨w.heap.size, 0, none⟩ = some (.int .i64 z) ∧ W.cell? ⟨w.heap.size, 1, none⟩ = some (.slice ao n c) ∧ W.cell? ⟨w.heap.size + 1, 0, none⟩ = some (.slice bo m d) ∧ W.cell? ⟨w.heap.size + 1, 1, none⟩ = some (.slice co m2 d2) ∧ Below w6.heap.size w6 W) (by kernel_rfl) ?_ (fun hHeld => ?_)
            · exact ⟨by go_simp, by go_simp, by go_simp, by go_simp, yC⟩
            refine wpAnyH_take (i := 0) (oi := ⟨_, _, _, _, _, _⟩) (v := ?_) rfl (by kernel_rfl) (by kernel_rfl) (by kernel_rfl) (fun _ _ _ h => h) (Or.inl ⟨rfl, ?_⟩) (by assumption) ?_
            rotate_left 1
            · intro w_ hSw; (try dsimp only at hSw); go_simp; (try with_reducible rfl)
            (try simp only [Act.put, List.setIfInBounds_toArray, List.set_cons_zero, List.set_cons_succ])
            refine wpAnyH_take (i := 1) (oi := ⟨_, _, _, _, _, _⟩) (v := ?_) rfl (by kernel_rfl) (by kernel_rfl) (by kernel_rfl) (fun _ _ _ h => h) (Or.inl ⟨rfl, ?_⟩) (by assumption) ?_
            rotate_left 1
            · intro w_ hSw; (try dsimp only at hSw); go_simp; (try with_reducible rfl)
            (try simp only [Act.put, List.setIfInBounds_toArray, List.set_cons_zero, List.set_cons_succ])
            refine wpAnyH_take (i := 2) (oi := ⟨_, _, _, _, _, _⟩) (v := ?_) rfl (by kernel_rfl) (by kernel_rfl) (by kernel_rfl) (fun _ _ _ h => h) (Or.inl ⟨rfl, ?_⟩) (by assumption) ?_
            rotate_left 1
            · intro w_ hSw; (try dsimp only at hSw); go_simp; (try with_reducible rfl)
            (try simp only [Act.put, List.setIfInBounds_toArray, List.set_cons_zero, List.set_cons_succ])
            refine wpAnyH_take (i := 3) (oi := ⟨_, _, _, _, _, _⟩) (v := ?_) rfl (by kernel_rfl) (by kernel_rfl) (by kernel_rfl) (fun _ _ _ h => h) (Or.inl ⟨rfl, ?_⟩) (by assumption) ?_
            rotate_left 1
            · intro w_ hSw; (try dsimp only at hSw); go_simp; (try with_reducible rfl)
            (try simp only [Act.put, List.setIfInBounds_toArray, List.set_cons_zero, List.set_cons_succ])
            refine wpAnyH_take (i := 5) (oi := ⟨_, _, _, _, _, _⟩) (v := ?_) rfl (by kernel_rfl) (by kernel_rfl) (by kernel_rfl) (fun _ _ _ h => h) (Or.inl ⟨rfl, ?_⟩) (by assumption) ?_
            rotate_left 1
            · intro w_ hSw; (try dsimp only at hSw); go_simp; (try with_reducible rfl)
            (try simp only [Act.put, List.setIfInBounds_toArray, List.set_cons_zero, List.set_cons_succ])
            refine wpAnyH_take (i := 6) (oi := ⟨_, _, _, _, _, _⟩) (v := ?_) rfl (by kernel_rfl) (by kernel_rfl) (by kernel_rfl) (fun _ _ _ h => h) (Or.inl ⟨rfl, ?_⟩) (by assumption) ?_
            rotate_left 1
            · intro w_ hSw; (try dsimp only at hSw); go_simp; (try with_reducible rfl)
            (try simp only [Act.put, List.setIfInBounds_toArray, List.set_cons_zero, List.set_cons_succ])
            refine wpAnyH_take (i := 7) (oi := ⟨_, _, _, _, _, _⟩) (v := ?_) rfl (by kernel_rfl) (by kernel_rfl) (by kernel_rfl) (fun _ _ _ h => h) (Or.inl ⟨rfl, ?_⟩) (by assumption) ?_
            rotate_left 1
            · intro w_ hSw; (try dsimp only at hSw); go_simp; (try with_reducible rfl)
            (try simp only [Act.put, List.setIfInBounds_toArray, List.set_cons_zero, List.set_cons_succ])
            refine wpAnyH_take (i := 8) (oi := ⟨_, _, _, _, _, _⟩) (v := ?_) rfl (by kernel_rfl) (by kernel_rfl) (by kernel_rfl) (fun _ _ _ h => h) (Or.inl ⟨rfl, ?_⟩) (by assumption) ?_
            rotate_left 1
            · intro w_ hSw; (try dsimp only at hSw); go_simp; (try with_reducible rfl)
            (try simp only [Act.put, List.setIfInBounds_toArray, List.set_cons_zero, List.set_cons_succ])
            refine wpAnyH_ready (rs := [4]) (by kernel_rfl) (by simp) ?_
            refine AllReadyH.cons (o := ⟨_, _, _, _, _, _⟩) rfl (fun K hK => ?_) AllReadyH.nil
            go_simp
            obtain ⟨q1_, q2_, q3_, q4_, q5_⟩ := id hHeld
            go_at_call 104
            refine (HV1.out _ q5_).mono ?_
            rintro e w7 ⟨rfl, b7⟩
            have g1 := cell_b b7 q1_
            have g2 := cell_b b7 q2_
            have g3 := cell_b b7 q3_
            have g4 := cell_b b7 q4_
            have g5 := q5_.trans (b7.mono q5_.size)
            clear b7 q1_ q2_ q3_ q4_ q5_
            go_wp2_with fail
            refine hK.out _ _ ?_ (fun hHeld => ?_)
            · exact ⟨g1, g2, g3, g4, g5⟩
            clear hK K
            (try simp only [Act.put, List.setIfInBounds_toArray, List.set_cons_zero, List.set_cons_succ])
            refine wpAnyH_ready (rs := [9]) (by kernel_rfl) (by simp) ?_
            refine AllReadyH.cons (o := ⟨_, _, _, _, _, _⟩) rfl (fun K hK => ?_) AllReadyH.nil
            go_simp
            obtain ⟨q1_, q2_, q3_, q4_, q5_⟩ := id hHeld
            go_at_call 104
            refine (HV2.out _ q5_).mono ?_
            rintro e w8 ⟨rfl, b7⟩
            have h1 := cell_b b7 q1_
            have h2 := cell_b b7 q2_
            have h3 := cell_b b7 q3_
            have h4 := cell_b b7 q4_
            have h5 := q5_.trans (b7.mono q5_.size)
            clear b7 q1_ q2_ q3_ q4_ q5_
            go_wp2_with fail
            refine hK.out _ _ ?_ (fun hHeld => ?_)
            · exact ⟨h1, h2, h3, h4, h5⟩
            clear hK K
            (try simp only [Act.put, List.setIfInBounds_toArray, List.set_cons_zero, List.set_cons_succ])
            refine wpAnyH_take (i := 10) (oi := ⟨_, _, _, _, _, _⟩) (v := ?_) rfl (by kernel_rfl) (by kernel_rfl) (by kernel_rfl) (fun _ _ _ h => h) (Or.inl ⟨rfl, ?_⟩) (by assumption) ?_
            rotate_left 1
            · intro w_ hSw; (try dsimp only at hSw); go_simp; (try with_reducible rfl)
            (try simp only [Act.put, List.setIfInBounds_toArray, List.set_cons_zero, List.set_cons_succ])
            refine wpAnyH_done (by kernel_rfl) ?_ _
            refine NoPanic.normal ?_
            have HR8 := Lib.hid (HR6.out.kept (grown_of_below h5 none) (own_em _))
            have HB8 := Lib.hid (HB6.out.trans (h5.mono HB6.out.size))
            obtain rfl : R = (cntV z zs j, true) := HSome.out j HNo.out (by rw [HBj.out]; exact hne2) hlt
            have hcl2 := HCl.out j
            clear g1 g2 g3 g4 g5 yC h1 h2 h3 h4
            go_wp2_with fail
            go_ret2
            exact ⟨_, N, N, rfl, (by first | rfl | exact (HCl.out j).symm), OwnsInts.of_row (ownsRow_base HR8.out (by omega)), HB8.out⟩
    · obtain rfl : j = p := by omega
      obtain rfl : R = ([], false) := HNone.out HNo.out
      go_wp2_with fail
      go_ret2
      exact ⟨none, 0, 0, rfl, rfl, OwnsInts.none_ _ _ _, HBr.out⟩

end Go.Proofs.Yteealelfghimbaa
