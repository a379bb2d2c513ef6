/-
  Contract: spec.l3Counter. Conditions: the bounds that it names.
-/
import Derived.Test.YteealelfghimbaaCntM
import Derived.Test.YteealelfghimbaaAskS
import Derived.Test.YteealelfghimbaaEvalV
import Derived.Deep.RegionHeld3
namespace Go.Proofs.Yteealelfghimbaa
open Go.RowKit
set_option linter.unusedVariables false
set_option linter.unusedSimpArgs false
attribute [local go_sem ↓] Go.wp_at_zero Go.wp_at_succ

def lenV : Value → Nat
  | .slice _ n _ => n
  | _ => 0

set_option maxRecDepth 100000 in
set_option maxHeartbeats 4000000 in
theorem l3Counter_any (lo hi : Nat) (z : Int) (ao : Option Addr) (c n : Nat) (fs : List OpD) (lo2 hi2 : Nat) (bo : Option Addr) (d m : Nat) (xs : List Int) (lo3 hi3 : Nat) (co : Option Addr) (d2 m2 : Nat) (ys : List Int) (w : World) (hv : OView w lo hi ao n fs) (hhi : hi ≤ w.heap.size)
    (hx : IView w lo2 hi2 bo m xs) (hhi2 : hi2 ≤ w.heap.size) (hmd : m ≤ d) (hm : d ≤ maxLen)
    (hy : IView w lo3 hi3 co m2 ys) (hhi3 : hi3 ≤ w.heap.size) (hmd2 : m2 ≤ d2) (hm2 : d2 ≤ maxLen) (hask : askB z fs xs ys = true) :
    Calls Try.prog 87 #[.agg #[.int .i64 z, .slice ao n c], .agg #[.slice bo m d, .slice co m2 d2]] w fun e w' => ResL w w' (cntR z fs xs ys).1 (cntR z fs xs ys).2 e := by
  unfold askB at hask
  simp only [Bool.and_eq_true, decide_eq_true_eq] at hask
  obtain ⟨⟨hok, ht1, ht2⟩, hpw⟩ := hask
  obtain ⟨_, h60, hend⟩ := isTermB_of (show isTermB z fs xs = true by simp [isTermB, hok, ht1])
  obtain ⟨_, h602, hend2⟩ := isTermB_of (show isTermB z fs ys = true by simp [isTermB, hok, ht2])
  obtain ⟨hz1, hz2⟩ := (algOkB_of hok).1
  have hlx := hx.1
  have hly := hy.1
  have hm0 : 0 < m := by have := term_pos hend; omega
  have hm20 : 0 < m2 := by have := term_pos hend2; omega
  have hb1 : ∀ x, x ∈ xs → x < 6 := fun x hxx => by
    obtain ⟨j, hj⟩ := List.getElem?_of_mem hxx
    exact (term_lt hok hend hj).1
  have hb2 : ∀ x, x ∈ ys → x < 6 := fun x hxx => by
    obtain ⟨j, hj⟩ := List.getElem?_of_mem hxx
    exact (term_lt hok hend2 hj).1
  have hc1 : ∀ x, x ∈ xs → -9223372036854775808 ≤ x ∧ x < 6 := fun x hxx => by
    obtain ⟨j, hj⟩ := List.getElem?_of_mem hxx
    have := term_lt hok hend hj
    have := (algOkB_of hok).2.1
    exact ⟨by omega, by omega⟩
  have hc2 : ∀ x, x ∈ ys → -9223372036854775808 ≤ x ∧ x < 6 := fun x hxx => by
    obtain ⟨j, hj⟩ := List.getElem?_of_mem hxx
    have := term_lt hok hend2 hj
    have := (algOkB_of hok).2.1
    exact ⟨by omega, by omega⟩
  have hne1 : xs ≠ [] := fun e => by rw [e] at hlx; simp at hlx; omega
  have hne2 : ys ≠ [] := fun e => by rw [e] at hly; simp at hly; omega
  obtain ⟨zs, hzs⟩ : ∃ zs, xs ++ ys = zs := ⟨_, rfl⟩
  have hfx : ∀ x, x ∈ xs → x < (needN zs : Int) := fun x hxx => need_fit (by rw [← hzs]; exact List.mem_append_left _ hxx) (hb1 x hxx)
  have hfy : ∀ x, x ∈ ys → x < (needN zs : Int) := fun x hxx => need_fit (by rw [← hzs]; exact List.mem_append_right _ hxx) (hb2 x hxx)
  have hzb : ∀ x, x ∈ zs → x < 6 := fun x hxx => by
    rw [← hzs] at hxx
    rcases List.mem_append.1 hxx with h | h
    · exact hb1 x h
    · exact hb2 x h
  have hvn : ∀ (j : Nat) (v : Int), (varsL zs)[j]? = some v → ∃ vn : Nat, v = (vn : Int) ∧ vn < needN zs := fun j v hj => by
    obtain ⟨h1, h2, h3⟩ := vars_need (List.mem_of_getElem? hj)
    have := need_fit h3 h2
    exact ⟨v.toNat, by omega, by omega⟩
  have hbad : ∀ j, badB z fs xs ys j = (evT z fs (cntV z zs j) xs != evT z fs (cntV z zs j) ys) := fun j => by unfold badB; rw [hzs]
  have hN6 := needN_le zs
  have hvf := varsF_eq hzb
  have hlen := need_last zs
  have hHVs := fun (g k c base : Nat) (W : World) (hr : W.ownsRow base 3 1 (.slice (some ⟨g, 0, none⟩) k c) k (zs.map (Value.int .i64))) (hk : k ≤ 1048576) => l3Vars_any base W.heap.size (some ⟨g, 0, none⟩) c k zs W (OwnsInts.of_row hr).view (Nat.le_refl _) hk
  simp only [hvf] at hHVs
  have hL6 := varsL_len zs
  obtain ⟨L, hL⟩ : ∃ L, (varsL zs).length = L := ⟨_, rfl⟩
  rw [hzs] at hpw
  rw [hL] at hL6 hpw hlen
  simp only [hL] at hHVs
  have hl6 := fun (W : World) => pow6_any z L W hz1 hz2 hL6
  have hpb := powI_bd6 hz1 hz2 hL6
  obtain ⟨p, hp⟩ : ∃ p : Nat, powI z L = (p : Int) := ⟨(powI z L).toNat, by omega⟩
  rw [hp] at hl6 hpb hpw
  have HSome := Lib.hid (fun (j : Nat) (h : ∀ i, i < j → badB z fs xs ys i = false) (hj : badB z fs xs ys j = true) (hn : j < p) => cntR_some (z := z) (fs := fs) (xs := xs) (ys := ys) (p := p) (by rw [hzs, hL]; exact hp) h hj hn)
  have HNone := Lib.hid (fun (h : ∀ i, i < p → badB z fs xs ys i = false) => cntR_none (z := z) (fs := fs) (xs := xs) (ys := ys) (p := p) (by rw [hzs, hL]; exact hp) h)
  simp only [hzs] at HSome
  have HVx := Lib.hid (fun (j g cv : Nat) (W : World) (hb : Below w.heap.size w W) (hd : IView W w.heap.size W.heap.size (some ⟨g, 0, none⟩) (needN zs) (cntV z zs j)) => l3Value_any lo hi lo2 hi2 w.heap.size W.heap.size z ao bo (some ⟨g, 0, none⟩) n c m d (needN zs) cv fs xs (cntV z zs j) W (hv.kept (Kept.of_below hb hhi)) (Nat.le_trans hhi hb.size) hok (hx.kept (Kept.of_below hb hhi2)) (Nat.le_trans hhi2 hb.size) hd (Nat.le_refl _) h60 hend (cntV_in hz1 zs j) hfx)
  have HVy := Lib.hid (fun (j g cv : Nat) (W : World) (hb : Below w.heap.size w W) (hd : IView W w.heap.size W.heap.size (some ⟨g, 0, none⟩) (needN zs) (cntV z zs j)) => l3Value_any lo hi lo3 hi3 w.heap.size W.heap.size z ao co (some ⟨g, 0, none⟩) n c m2 d2 (needN zs) cv fs ys (cntV z zs j) W (hv.kept (Kept.of_below hb hhi)) (Nat.le_trans hhi hb.size) hok (hy.kept (Kept.of_below hb hhi3)) (Nat.le_trans hhi3 hb.size) hd (Nat.le_refl _) h602 hend2 (cntV_in hz1 zs j) hfy)
  have HA := Lib.hid (fun (j : Nat) (hj : j < p) (W : World) => args6_spec z (j : Int) L hL6 W hz1 hz2 (by omega) (by omega))
  have HDl := Lib.hid (fun (j : Nat) => digs_len z L (j : Int))
  have HRz : Hid (∀ i : Nat, putVs (List.replicate (needN zs) 0) (varsL zs) (digs z L (i : Int)) = cntV z zs i) := fun i => by unfold cntV; rw [hL]
  have HRc : Hid (∀ j i : Nat, putVs (cntV z zs j) (varsL zs) (digs z L (i : Int)) = cntV z zs i) := fun j i => by have := cntV_again z zs j i; rw [hL] at this; exact this
  have HCl := Lib.hid (fun j : Nat => cntV_len z zs j)
  have HVn := Lib.hid hvn
  have HBad := Lib.hid hbad
  obtain ⟨N, hN⟩ : ∃ N, needN zs = N := ⟨_, rfl⟩
  rw [hN] at hN6 HVx HVy HRz HCl HVn hlen
  obtain ⟨vs, hvs⟩ : ∃ vs, varsL zs = vs := ⟨_, rfl⟩
  rw [hvs] at hHVs HRz HRc HVn hlen
  have HVs := Lib.hid hHVs
  have HLast := Lib.hid hlen
  have HL6 := Lib.hid hl6
  have HVl : Hid (vs.length = L) := by rw [← hvs]; exact hL
  obtain ⟨R, hR⟩ : ∃ R, cntR z fs xs ys = R := ⟨_, rfl⟩
  rw [hR] at HSome HNone ⊢
  obtain ⟨b, o, rfl, _, _, hcx⟩ := hx.at_ hm0
  obtain ⟨b', o', rfl, _, _, hcy⟩ := hy.at_ hm20
  have hmm : m ≤ 60 := by omega
  have hmm2 : m2 ≤ 60 := by omega
  have HOwn := Lib.hid (fun (W : World) (hb : Below w.heap.size w W) => own_part b o m d xs W hlx (fun j x hj => cell_b hb (hcx j x hj)) (by omega))
  have HCy := Lib.hid hcy
  have HLy := Lib.hid hly
  have HZs := Lib.hid hzs
  clear hv hx hy hok ht1 ht2 hpw hend hend2 hb1 hb2 hc1 hc2 hne1 hne2 hfx hfy hzb hvn hbad hN hp hvs hL hR hlx hly hHVs hl6 hlen hvf hcx hcy hzs
  have hB0 := Lib.hid (below_then (below_alloc w (.cells #[.int .i64 z, .slice ao n c] 31)) (below_alloc _ (.cells #[.slice (some ⟨b, o, none⟩) m d, .slice (some ⟨b', o', none⟩) m2 d2] 44)))
  unfold ResL
  go_enter Try.func87, Try.ntmps87
  go_wp2_with fail
  have yB : Below w.heap.size w ((w.alloc (.cells #[.int .i64 z, .slice ao n c] 31)).alloc (.cells #[.slice (some ⟨b, o, none⟩) m d, .slice (some ⟨b', o', none⟩) m2 d2] 44)).drew := (hB0.out).drew
  refine wp_region_noPanic ?_
  refine wp_region_held_drew (S := fun W => W.cell? ⟨w.heap.size, 0, none⟩ = some (.int .i64 z) ∧ W.cell? ⟨w.heap.size, 1, none⟩ = some (.slice ao n c) ∧ W.cell? ⟨w.heap.size + 1, 0, none⟩ = some (.slice (some ⟨b, o, none⟩) m d) ∧ W.cell? ⟨w.heap.size + 1, 1, none⟩ = some (.slice (some ⟨b', o', none⟩) m2 d2) ∧ Below w.heap.size w W) (by kernel_rfl) ?_ (fun hHeld => ?_)
  · exact ⟨by go_simp, by go_simp, by go_simp, by go_simp, yB⟩
  refine wpAnyH_take (i := 0) (oi := ⟨_, _, _, _, _, _⟩) (v := ?_) rfl (by kernel_rfl) (by kernel_rfl) (by kernel_rfl) (fun _ _ _ h => h) (Or.inl ⟨rfl, ?_⟩) (by assumption) ?_
  rotate_left 1
  · intro w_ hSw; (try dsimp only at hSw); go_simp; (try with_reducible rfl)
  (try simp only [Act.put, List.setIfInBounds_toArray, List.set_cons_zero, List.set_cons_succ])
  refine wpAnyH_take (i := 1) (oi := ⟨_, _, _, _, _, _⟩) (v := ?_) rfl (by kernel_rfl) (by kernel_rfl) (by kernel_rfl) (fun _ _ _ h => h) (Or.inl ⟨rfl, ?_⟩) (by assumption) ?_
  rotate_left 1
  · intro w_ hSw; (try dsimp only at hSw); go_simp; (try with_reducible rfl)
  (try simp only [Act.put, List.setIfInBounds_toArray, List.set_cons_zero, List.set_cons_succ])
  refine wpAnyH_take (i := 3) (oi := ⟨_, _, _, _, _, _⟩) (v := ?_) rfl (by kernel_rfl) (by kernel_rfl) (by kernel_rfl) (fun _ _ _ h => h) (Or.inl ⟨rfl, ?_⟩) (by assumption) ?_
  rotate_left 1
  · intro w_ hSw; (try dsimp only at hSw); go_simp; (try with_reducible rfl)
  (try simp only [Act.put, List.setIfInBounds_toArray, List.set_cons_zero, List.set_cons_succ])
  refine wpAnyH_take (i := 4) (oi := ⟨_, _, _, _, _, _⟩) (v := ?_) rfl (by kernel_rfl) (by kernel_rfl) (by kernel_rfl) (fun _ _ _ h => h) (Or.inl ⟨rfl, ?_⟩) (by assumption) ?_
  rotate_left 1
  · intro w_ hSw; (try dsimp only at hSw); go_simp; (try with_reducible rfl)
  (try simp only [Act.put, List.setIfInBounds_toArray, List.set_cons_zero, List.set_cons_succ])
  refine wpAnyH_ready (rs := [2]) (by kernel_rfl) (by simp) ?_
  refine AllReadyH.cons (o := ⟨_, _, _, _, _, _⟩) rfl (fun K hK => ?_) AllReadyH.nil
  go_simp
  obtain ⟨q1_, q2_, q3_, q4_, q5_⟩ := id hHeld
  go_at_call 108
  refine (HOwn.out _ q5_).mono ?_
  rintro e w3 ⟨g, dd, rfl, ho, b3⟩
  have g1 := cell_b b3 q1_
  have g2 := cell_b b3 q2_
  have g3 := cell_b b3 q3_
  have g4 := cell_b b3 q4_
  have g5 := q5_.trans (b3.mono q5_.size)
  have HO3 : Hid (w3.ownsRow (w.heap.size + 1 + 1) 3 1 (.slice (some ⟨g, 0, none⟩) m dd) m (xs.map (Value.int .i64))) := by
    have h_ := ho
    simp only [World.size_drew, World.size_alloc] at h_
    exact h_
  have hs3 : w.heap.size + 1 + 1 ≤ w3.heap.size := by have h_ := b3.size; simp only [World.size_drew, World.size_alloc] at h_; exact h_
  clear ho b3 q1_ q2_ q3_ q4_ q5_
  go_wp2_with fail
  refine hK.out _ _ ?_ (fun hHeld => ?_)
  · exact ⟨g1, g2, g3, g4, g5⟩
  clear hK K
  (try simp only [Act.put, List.setIfInBounds_toArray, List.set_cons_zero, List.set_cons_succ])
  refine wpAnyH_ready (rs := [5]) (by kernel_rfl) (by simp) ?_
  refine AllReadyH.cons (o := ⟨_, _, _, _, _, _⟩) rfl (fun K hK => ?_) AllReadyH.nil
  refine step_append_ints ?_ _ _ rfl (w.heap.size + 1 + 1) g m dd xs ?_ ?_ ⟨b', o', none⟩ m2 d2 ys ?_ HLy.out ?_ ?_ ?_ ?_
  · rfl
  · rfl
  · exact HO3.out
  · rfl
  · exact cells_add (fun j y hj => cell_b g5 (HCy.out j y hj))
  · omega
  · exact hs3
  intro gC cC wC hC hgC hatC
  have hgl := (HO3.out.lt g rfl).1
  have hbC : Below (w.heap.size + 1 + 1) w3 wC := (Below.refl _ _).grown hgC hs3 (by intro q hq; cases hq; exact hgl)
  have h1 : wC.cell? ⟨w.heap.size, 0, none⟩ = some (.int .i64 z) := (hbC.cell (p := ⟨w.heap.size, 0, none⟩) (by show w.heap.size < _; omega)).trans g1
  have h2 : wC.cell? ⟨w.heap.size, 1, none⟩ = some (.slice ao n c) := (hbC.cell (p := ⟨w.heap.size, 1, none⟩) (by show w.heap.size < _; omega)).trans g2
  have h3 : wC.cell? ⟨w.heap.size + 1, 0, none⟩ = some (.slice (some ⟨b, o, none⟩) m d) := (hbC.cell (p := ⟨w.heap.size + 1, 0, none⟩) (by show w.heap.size + 1 < _; omega)).trans g3
  have h4 : wC.cell? ⟨w.heap.size + 1, 1, none⟩ = some (.slice (some ⟨b', o', none⟩) m2 d2) := (hbC.cell (p := ⟨w.heap.size + 1, 1, none⟩) (by show w.heap.size + 1 < _; omega)).trans g4
  have h5 : Below w.heap.size w wC := g5.trans (hbC.mono (by omega))
  rw [HZs.out] at hC
  have HCC := Lib.hid hC
  clear hC hgC hatC hgl hbC
  refine hK.out _ _ ?_ (fun hHeld => ?_)
  · exact ⟨h1, h2, h3, h4, h5⟩
  clear hK K
  (try simp only [Act.put, List.setIfInBounds_toArray, List.set_cons_zero, List.set_cons_succ])
  refine wpAnyH_ready (rs := [6]) (by kernel_rfl) (by simp) ?_
  refine AllReadyH.cons (o := ⟨_, _, _, _, _, _⟩) rfl (fun K hK => ?_) AllReadyH.nil
  go_simp
  go_at_call 111
  refine (HVs.out _ _ _ _ _ HCC.out (by omega)).mono ?_
  rintro e w5 ⟨gv, vm, vd, rfl, hvm, hov, b5⟩
  have k1 := cell_b b5 h1
  have k2 := cell_b b5 h2
  have k3 := cell_b b5 h3
  have k4 := cell_b b5 h4
  have k5 := h5.trans (b5.mono h5.size)
  have HOv := Lib.hid hov
  have hgv := (hov.lt gv rfl)
  have hwC := h5.size
  clear hov b5
  go_wp2_with fail
  refine hK.out _ _ ?_ (fun hHeld => ?_)
  · exact ⟨k1, k2, k3, k4, k5⟩
  clear hK K
  (try simp only [Act.put, List.setIfInBounds_toArray, List.set_cons_zero, List.set_cons_succ])
  refine wpAnyH_take (i := 7) (oi := ⟨_, _, _, _, _, _⟩) (v := ?_) rfl (by kernel_rfl) (by kernel_rfl) (by kernel_rfl) (fun _ _ _ h => h) (Or.inl ⟨rfl, ?_⟩) (by assumption) ?_
  rotate_left 1
  · intro w_ hSw; (try dsimp only at hSw); go_simp; (try with_reducible rfl)
  (try simp only [Act.put, List.setIfInBounds_toArray, List.set_cons_zero, List.set_cons_succ])
  refine wpAnyH_done (by kernel_rfl) ?_ _
  refine NoPanic.normal ?_
  subst hvm
  have hwk : w.heap.size + 1 < w5.heap.size := World.block_lt_of_cell? w5 _ k3
  have HB5 := Lib.hid k5
  clear g1 g2 g3 g4 g5 h1 h2 h3 h4 h5 HO3 HCC hs3 yB k5 HVs HOwn HCy HLy HZs
  obtain ⟨i0, hi0, hz0, hz1_, hz2_⟩ := info_parts Try.infoInt
  go_wp2_with fail
  have HZ0 := Lib.hid (own_nil_lit w5 (base := w5.heap.size) (Nat.le_refl _))
  have HZ1 := Lib.hid (below_alloc w5 (.cells #[] 3))
  go_loopw [7] (fun v wr => ∃ k g0 c0 : Nat, k ≤ N ∧ v = .slice (some ⟨g0, 0, none⟩) k c0 ∧ Hid (wr.ownsRow w5.heap.size 3 1 (.slice (some ⟨g0, 0, none⟩) k c0) k ((List.replicate k (0 : Int)).map (Value.int .i64))) ∧ Hid (Below w5.heap.size w5 wr)) (fun v _ => N - lenV v)
  case atStart => exact ⟨0, _, _, Nat.zero_le _, rfl, HZ0, HZ1⟩
  case round =>
    obtain ⟨k, G, cG, hk, rfl, HZr, HZb⟩ := hrel
    clear HZ0 HZ1
    by_cases hltk : k < N
    · rcases HLast.out with ⟨_, h_⟩ | ⟨q, hq1, hq2, hq3⟩
      · omega
      · have hv0 : (0 : Int) < (vm : Int) := by omega
        obtain ⟨l, hl⟩ : ∃ l : Nat, vm - 1 = l := ⟨_, rfl⟩
        rw [hl] at hq1
        have hvm1 : (vm : Int) - 1 = (l : Int) := by omega
        have hlv : (l : Int) < (vm : Int) := by omega
        have hkq : (k : Int) ≤ (q : Int) := by omega
        have kl : wr.cell? ⟨gv, l, none⟩ = some (.int .i64 (q : Int)) := cell_b HZb.out (own_at HOv.out hq1)
        clear hq1 hl
        go_wp2_with (at_builtin; refine wpList_append_own_at _ rfl _ _ 25 rfl w5.heap.size 3 i0 (.int .i64 0) 1 8 Try.underlying25 hi0 hz0 hz1_ hz2_ rfl (by decide) (.slice (some ⟨G, 0, none⟩) k cG) k ((List.replicate k (0 : Int)).map (Value.int .i64)) rfl (HZr.out.alloc _) ⟨wr.heap.size, 0, none⟩ 1 1 [.int .i64 0] rfl rfl (cell_one_new _ _ _) (fun x hx => by simp at hx; subst hx; rfl) (by unfold maxLen; omega) (by omega) (by have := HZb.out.size; simp; omega) ?_; intro v' w3 hown' hgrow' hnil' hat')
        obtain ⟨g3, cap, rfl⟩ := ownsRow_succ hown'
        have HB3 := Lib.hid ((HZb.out.alloc HZb.out.size (.cells #[.int .i64 0] 3)).grown hgrow' (by have := HZb.out.size; simp; omega) (fun q hq => (HZr.out.lt q hq).1))
        have HN3 : Hid (w3.ownsRow w5.heap.size 3 1 (.slice (some ⟨g3, 0, none⟩) (k + 1) cap) (k + 1) ((List.replicate (k + 1) (0 : Int)).map (Value.int .i64))) := by
          unfold Hid; rw [List.replicate_succ', List.map_append]; exact hown'
        clear hown' hgrow' hnil' hat' kl
        go_wp2_with fail
        go_roundw
        case rel => exact ⟨k + 1, g3, cap, by omega, rfl, HN3, HB3⟩
        case measure => simp [lenV]; omega
    · obtain rfl : k = N := by omega
      obtain ⟨w7, hw7⟩ : ∃ w7 : World, w7 = wr := ⟨_, rfl⟩
      rw [← hw7]
      rw [← hw7] at HZr HZb
      clear hw7
      have d1 := cell_b HZb.out k1
      have d2_ := cell_b HZb.out k2
      have d3 := cell_b HZb.out k3
      have d4 := cell_b HZb.out k4
      have HB7 := Lib.hid (HB5.out.trans (HZb.out.mono HB5.out.size))
      have hGl := HZr.out.lt G rfl
      have hwG : w.heap.size + 1 < G := by omega
      have HVv : Hid (IView w7 w.heap.size w5.heap.size (some ⟨gv, 0, none⟩) vm vs) := ((OwnsInts.of_row (ownsRow_base (b' := w.heap.size) HOv.out (by omega))).kept (Kept.of_below HZb.out (Nat.le_refl _))).view
      have HO7 := Lib.hid (ownsRow_base (b' := w.heap.size) HZr.out (by omega))
      have hGs : G < w7.heap.size := hGl.2
      have hG5 : w5.heap.size ≤ G := hGl.1
      clear k1 k2 k3 k4 hGl HZr HZb HB5 HOv
      rcases Nat.eq_zero_or_pos vm with hv0 | hv0
      · have hv0' : ¬ (0 : Int) < (vm : Int) := by omega
        clear hv0
        go_wp2_with fail
        go_loopw [8, 9, 10] (fun i _ _ wr => ∃ j : Nat, j ≤ p ∧ i = .int .i64 (j : Int) ∧ Hid (∀ i', i' < j → badB z fs xs ys i' = false) ∧ Hid (∃ cur : List Int, (∀ i' : Nat, putVs cur vs (digs z vm (i' : Int)) = cntV z zs i') ∧ cur.length = k ∧ wr.ownsRow w.heap.size 3 1 (.slice (some ⟨G, 0, none⟩) k cG) k (cur.map (Value.int .i64))) ∧ Hid (IView wr w.heap.size w5.heap.size (some ⟨gv, 0, none⟩) vm vs) ∧ wr.cell? ⟨w.heap.size, 0, none⟩ = some (.int .i64 z) ∧ wr.cell? ⟨w.heap.size, 1, none⟩ = some (.slice ao n c) ∧ wr.cell? ⟨w.heap.size + 1, 0, none⟩ = some (.slice (some ⟨b, o, none⟩) m d) ∧ wr.cell? ⟨w.heap.size + 1, 1, none⟩ = some (.slice (some ⟨b', o', none⟩) m2 d2) ∧ Hid (Below w.heap.size w wr) ∧ G < wr.heap.size) (fun i _ _ _ => p - (intOf i).toNat)
        case atStart => exact ⟨0, Nat.zero_le _, rfl, (fun i' h => by omega), ⟨_, HRz.out, by simp, HO7.out⟩, HVv, d1, d2_, d3, d4, HB7, hGs⟩
        case round =>
          obtain ⟨j, hj, rfl, HNo, HCur, HVw, z1, z2, z3, z4, HBr, hGr⟩ := hrel
          clear d1 d2_ d3 d4 HVv HO7 HB7 hGs
          by_cases hlt : j < p
          · obtain ⟨wi, hwi⟩ : ∃ wi : World, wi = wr := ⟨_, rfl⟩
            rw [← hwi]
            rw [← hwi] at HCur HVw z1 z2 z3 z4 HBr hGr
            clear hwi
            have hjp : (j : Int) < (p : Int) := by omega
            obtain ⟨cur, hcur, hcl, ho⟩ := HCur.out
            have HCu := Lib.hid hcur
            have HOi := Lib.hid ho
            clear hcur ho
            go_wp2_with fail
            refine (HL6.out _).mono ?_
            rintro e w_ ⟨rfl, rfl⟩
            go_wp2_with fail
            refine (HA.out j hlt _).mono ?_
            rintro e wA ⟨rfl, hoA, bA⟩
            have e1 := cell_b bA z1
            have e2 := cell_b bA z2
            have e3 := cell_b bA z3
            have e4 := cell_b bA z4
            have HVA := Lib.hid (HVw.out.kept (Kept.of_below bA (by omega)))
            have HRA := Lib.hid (HOi.out.kept (grown_of_below bA none) (own_em _))
            have HBA := Lib.hid (HBr.out.trans (bA.mono HBr.out.size))
            obtain ⟨D, hD⟩ : ∃ D : Nat, D = wi.heap.size := ⟨_, rfl⟩
            rw [← hD] at hoA ⊢
            have hGD : G < D := by omega
            have hDs : D < wA.heap.size := (hoA.lt D rfl).2
            have HDA := Lib.hid hoA
            clear hoA bA hD z1 z2 z3 z4 HVw HOi
            go_wp2_with fail
            go_loopw [10] (fun i wq => ∃ q : Nat, q ≤ vm ∧ i = .int .i64 (q : Int) ∧ Hid (wq.ownsRow w.heap.size 3 1 (.slice (some ⟨G, 0, none⟩) k cG) k ((putVs cur (vs.take q) ((digs z vm (j : Int)).take q)).map (Value.int .i64))) ∧ Hid (wA.grownBy wq (some G))) (fun i _ => vm - (intOf i).toNat)
            case atStart => exact ⟨0, Nat.zero_le _, rfl, by rw [putVs_zero]; exact HRA, World.grownBy.refl _ _⟩
            case round =>
              obtain ⟨q, hq, rfl, HRq, HGq⟩ := hrel
              by_cases hlt2 : q < vm
              · obtain ⟨x, hxq⟩ := get_of_lt (HDl.out j) hlt2
                obtain ⟨v, hvq⟩ := get_of_lt HVl.out hlt2
                obtain ⟨vn, rfl, hvn⟩ := HVn.out q v hvq
                obtain ⟨bV, oV, hva, hbl, hbh, hcv⟩ := HVA.out.at_ (by omega)
                cases hva
                have k1 : wr.cell? ⟨gv, q, none⟩ = some (.int .i64 (vn : Int)) := (World.cell?_of_block (a := ⟨gv, q, none⟩) (HGq.out.block gv (by omega) (by intro h_; injection h_ with h_; omega))).trans (by have h_ := hcv q _ hvq; rwa [Nat.zero_add] at h_)
                have k2 : wr.cell? ⟨D, q, none⟩ = some (.int .i64 x) := (World.cell?_of_block (a := ⟨D, q, none⟩) (HGq.out.block D (by omega) (by intro h_; injection h_ with h_; omega))).trans (own_at HDA.out hxq)
                have hlen := HRq.out.1
                obtain ⟨u, hu⟩ : ∃ u, wr.cell? ⟨G, vn, none⟩ = some u := by
                  rw [HRq.out.cellAt vn (by omega)]
                  exact ⟨_, List.getElem?_eq_getElem (by omega)⟩
                have hfr := HRq.out.frozenAt vn
                have hst := World.ownsRow.stored (w := wr.drew) HRq.out vn (.int .i64 x)
                have hps := putVs_succ vs (digs z vm (j : Int)) cur q (vn : Int) x hvq hxq
                rw [Int.toNat_natCast] at hps
                rw [← List.map_set, ← hps] at hst
                have HST := Lib.hid hst
                have hvN : (vn : Int) < (k : Int) := by omega
                have hqv : (q : Int) < (vm : Int) := by omega
                have hkv1 : (wr.drew.setCell ⟨G, vn, none⟩ (.int .i64 x)).cell? ⟨gv, q, none⟩ = some (.int .i64 (vn : Int)) := keepS (w := wr.drew) k1 (by show G ≠ gv; omega)
                have hkv2 : (wr.drew.setCell ⟨G, vn, none⟩ (.int .i64 x)).cell? ⟨D, q, none⟩ = some (.int .i64 x) := keepS (w := wr.drew) k2 (by show G ≠ D; omega)
                clear hst hps hcv hxq hvq hlen
                go_wp2_with fail
                refine wp_region_noPanic ?_
                refine wp_region_held_drew (S := fun W => W.cell? ⟨gv, q, none⟩ = some (.int .i64 (vn : Int)) ∧ W.cell? ⟨D, q, none⟩ = some (.int .i64 x)) (by kernel_rfl) ?_ (fun hHeld => ?_)
                · exact ⟨k1, k2⟩
                refine wpAnyH_take (i := 0) (oi := ⟨_, _, _, _, _, _⟩) (v := ?_) rfl (by kernel_rfl) (by kernel_rfl) (by kernel_rfl) (fun _ _ _ h => h) (Or.inl ⟨rfl, ?_⟩) (by assumption) ?_
                rotate_left 1
                · intro w_ hSw; (try dsimp only at hSw); go_simp; (try with_reducible rfl)
                (try simp only [Act.put, List.setIfInBounds_toArray, List.set_cons_zero, List.set_cons_succ])
                refine wpAnyH_take (i := 1) (oi := ⟨_, _, _, _, _, _⟩) (v := ?_) rfl (by kernel_rfl) (by kernel_rfl) (by kernel_rfl) (fun _ _ _ h => h) (Or.inl ⟨rfl, ?_⟩) (by assumption) ?_
                rotate_left 1
                · intro w_ hSw; (try dsimp only at hSw); go_simp; (try with_reducible rfl)
                (try simp only [Act.put, List.setIfInBounds_toArray, List.set_cons_zero, List.set_cons_succ])
                refine wpAnyH_take (i := 2) (oi := ⟨_, _, _, _, _, _⟩) (v := ?_) rfl (by kernel_rfl) (by kernel_rfl) (by kernel_rfl) (fun _ _ _ h => h) (Or.inl ⟨rfl, ?_⟩) (by assumption) ?_
                rotate_left 1
                · intro w_ hSw; (try dsimp only at hSw); go_simp; (try with_reducible rfl)
                (try simp only [Act.put, List.setIfInBounds_toArray, List.set_cons_zero, List.set_cons_succ])
                refine wpAnyH_take (i := 3) (oi := ⟨_, _, _, _, _, _⟩) (v := ?_) rfl (by kernel_rfl) (by kernel_rfl) (by kernel_rfl) (fun _ _ _ h => h) (Or.inl ⟨rfl, ?_⟩) (by assumption) ?_
                rotate_left 1
                · intro w_ hSw; (try dsimp only at hSw); go_simp; (try with_reducible rfl)
                (try simp only [Act.put, List.setIfInBounds_toArray, List.set_cons_zero, List.set_cons_succ])
                refine wpAnyH_take (i := 4) (oi := ⟨_, _, _, _, _, _⟩) (v := ?_) rfl (by kernel_rfl) (by kernel_rfl) (by kernel_rfl) (fun _ _ _ h => h) (Or.inl ⟨rfl, ?_⟩) (by assumption) ?_
                rotate_left 1
                · intro w_ hSw; (try dsimp only at hSw); go_simp; (try with_reducible rfl)
                (try simp only [Act.put, List.setIfInBounds_toArray, List.set_cons_zero, List.set_cons_succ])
                refine wpAnyH_take (i := 5) (oi := ⟨_, _, _, _, _, _⟩) (v := ?_) rfl (by kernel_rfl) (by kernel_rfl) (by kernel_rfl) (fun _ _ _ h => h) (Or.inl ⟨rfl, ?_⟩) (by assumption) ?_
                rotate_left 1
                · intro w_ hSw; (try dsimp only at hSw); go_simp; (try with_reducible rfl)
                (try simp only [Act.put, List.setIfInBounds_toArray, List.set_cons_zero, List.set_cons_succ])
                refine wpAnyH_take (i := 6) (oi := ⟨_, _, _, _, _, _⟩) (v := ?_) rfl (by kernel_rfl) (by kernel_rfl) (by kernel_rfl) (fun _ _ _ h => h) (Or.inl ⟨rfl, ?_⟩) (by assumption) ?_
                rotate_left 1
                · intro w_ hSw; (try dsimp only at hSw); go_simp; (try with_reducible rfl)
                (try simp only [Act.put, List.setIfInBounds_toArray, List.set_cons_zero, List.set_cons_succ])
                refine wpAnyH_take (i := 7) (oi := ⟨_, _, _, _, _, _⟩) (v := ?_) rfl (by kernel_rfl) (by kernel_rfl) (by kernel_rfl) (fun _ _ _ h => h) (Or.inl ⟨rfl, ?_⟩) (by assumption) ?_
                rotate_left 1
                · intro w_ hSw; (try dsimp only at hSw); go_simp; (try with_reducible rfl)
                (try simp only [Act.put, List.setIfInBounds_toArray, List.set_cons_zero, List.set_cons_succ])
                refine wpAnyH_take (i := 8) (oi := ⟨_, _, _, _, _, _⟩) (v := ?_) rfl (by kernel_rfl) (by kernel_rfl) (by kernel_rfl) (fun _ _ _ h => h) (Or.inl ⟨rfl, ?_⟩) (by assumption) ?_
                rotate_left 1
                · intro w_ hSw; (try dsimp only at hSw); go_simp; (try with_reducible rfl)
                (try simp only [Act.put, List.setIfInBounds_toArray, List.set_cons_zero, List.set_cons_succ])
                refine wpAnyH_take (i := 9) (oi := ⟨_, _, _, _, _, _⟩) (v := ?_) rfl (by kernel_rfl) (by kernel_rfl) (by kernel_rfl) (fun _ _ _ h => h) (Or.inl ⟨rfl, ?_⟩) (by assumption) ?_
                rotate_left 1
                · intro w_ hSw; (try dsimp only at hSw); go_simp; (try with_reducible rfl)
                (try simp only [Act.put, List.setIfInBounds_toArray, List.set_cons_zero, List.set_cons_succ])
                refine wpAnyH_ready (rs := [10]) (by kernel_rfl) (by simp) ?_
                refine AllReadyH.cons (o := ⟨_, _, _, _, _, _⟩) rfl (fun K hK => ?_) AllReadyH.nil
                go_simp
                refine hK.out _ _ ?_ (fun hHeld => ?_)
                · exact ⟨hkv1, hkv2⟩
                clear hK K
                (try simp only [Act.put, List.setIfInBounds_toArray, List.set_cons_zero, List.set_cons_succ])
                refine wpAnyH_done (by kernel_rfl) ?_ _
                refine NoPanic.normal ?_
                have HG2 : Hid (wA.grownBy (wr.drew.setCell ⟨G, vn, none⟩ (.int .i64 x)) (some G)) := (HGq.out.trans (show wr.grownBy wr.drew (some G) from ⟨rfl, rfl, rfl, Nat.le_refl _, fun _ _ _ => rfl⟩)).trans HST.out.2
                have HR2 := Lib.hid HST.out.1
                clear hkv1 hkv2 k1 k2 hu hfr
                go_wp2_with fail
                go_roundw
                case rel => exact ⟨q + 1, by omega, by go_num, HR2, HG2⟩
                case measure => (simp [intOf]) <;> omega
              · obtain rfl : q = vm := by omega
                obtain ⟨w6, hw6⟩ : ∃ w6 : World, w6 = wr := ⟨_, rfl⟩
                rw [← hw6]
                rw [← hw6] at HRq HGq
                clear hw6
                have hgc : ∀ {o_ : Nat} {B_ : Nat} {v_ : Value}, B_ ≤ w.heap.size + 1 → wA.cell? ⟨B_, o_, none⟩ = some v_ → w6.cell? ⟨B_, o_, none⟩ = some v_ := fun {o_} {B_} {v_} hB h => (World.cell?_of_block (a := ⟨B_, o_, none⟩) (HGq.out.block B_ (by omega) (by intro h_; injection h_ with h_; omega))).trans h
                have f1 := hgc (by omega) e1
                have f2 := hgc (by omega) e2
                have f3 := hgc (by omega) e3
                have f4 := hgc (by omega) e4
                have HV6 := Lib.hid (HVA.out.kept (fun k_ h1_ h2_ => HGq.out.block k_ (by omega) (by intro h_; injection h_ with h_; omega)))
                have hs6 := HGq.out.size
                have HB6 := Lib.hid (HBA.out.grown HGq.out (by have := HBA.out.size; omega) (by intro b hb; cases hb; omega))
                have HR6 : Hid (w6.ownsRow w.heap.size 3 1 (.slice (some ⟨G, 0, none⟩) k cG) k ((cntV z zs j).map (Value.int .i64))) := by
                  unfold Hid
                  have h_ := HRq.out
                  rw [putVs_all (Nat.le_of_eq HVl.out) (Nat.le_of_eq (HDl.out j)), HCu.out j] at h_
                  exact h_
                clear hgc e1 e2 e3 e4 HVA HRA HBA HDA HRq HGq
                have hG6 : G < w6.heap.size := by omega
                have hv1 := fun (W : World) (hb : Below w6.heap.size w6 W) => HVx.out j G cG W (HB6.out.trans (hb.mono HB6.out.size)) ((OwnsInts.of_row (HR6.out.kept (grown_of_below hb none) (own_em _))).view)
                have hv2 := fun (W : World) (hb : Below w6.heap.size w6 W) => HVy.out j G cG W (HB6.out.trans (hb.mono HB6.out.size)) ((OwnsInts.of_row (HR6.out.kept (grown_of_below hb none) (own_em _))).view)
                have hbj := HBad.out j
                obtain ⟨ex, hex⟩ : ∃ e_, evT z fs (cntV z zs j) xs = e_ := ⟨_, rfl⟩
                obtain ⟨ey, hey⟩ : ∃ e_, evT z fs (cntV z zs j) ys = e_ := ⟨_, rfl⟩
                rw [hex] at hv1 hbj
                rw [hey] at hv2 hbj
                have HV1 := Lib.hid hv1
                have HV2 := Lib.hid hv2
                have HBj := Lib.hid hbj
                clear hv1 hv2 hbj hex hey
                have yC : Below w6.heap.size w6 w6.drew := below_drew _
                have hqq : ¬ (q : Int) < (q : Int) := by omega
                by_cases heq : ex = ey
                · subst heq
                  go_wp2_with fail
                  refine wp_region_noPanic ?_
                  refine wp_region_held_drew (S := fun W => W.cell? ⟨w.heap.size, 0, none⟩ = some (.int .i64 z) ∧ W.cell? ⟨w.heap.size, 1, none⟩ = some (.slice ao n c) ∧ W.cell? ⟨w.heap.size + 1, 0, none⟩ = some (.slice (some ⟨b, o, none⟩) m d) ∧ W.cell? ⟨w.heap.size + 1, 1, none⟩ = some (.slice (some ⟨b', o', none⟩) m2 d2) ∧ Below w6.heap.size w6 W) (by kernel_rfl) ?_ (fun hHeld => ?_)
                  · exact ⟨by go_simp, by go_simp, by go_simp, by go_simp, yC⟩
                  refine wpAnyH_take (i := 0) (oi := ⟨_, _, _, _, _, _⟩) (v := ?_) rfl (by kernel_rfl) (by kernel_rfl) (by kernel_rfl) (fun _ _ _ h => h) (Or.inl ⟨rfl, ?_⟩) (by assumption) ?_
                  rotate_left 1
                  · intro w_ hSw; (try dsimp only at hSw); go_simp; (try with_reducible rfl)
                  (try simp only [Act.put, List.setIfInBounds_toArray, List.set_cons_zero, List.set_cons_succ])
                  refine wpAnyH_take (i := 1) (oi := ⟨_, _, _, _, _, _⟩) (v := ?_) rfl (by kernel_rfl) (by kernel_rfl) (by kernel_rfl) (fun _ _ _ h => h) (Or.inl ⟨rfl, ?_⟩) (by assumption) ?_
                  rotate_left 1
                  · intro w_ hSw; (try dsimp only at hSw); go_simp; (try with_reducible rfl)
                  (try simp only [Act.put, List.setIfInBounds_toArray, List.set_cons_zero, List.set_cons_succ])
                  refine wpAnyH_take (i := 2) (oi := ⟨_, _, _, _, _, _⟩) (v := ?_) rfl (by kernel_rfl) (by kernel_rfl) (by kernel_rfl) (fun _ _ _ h => h) (Or.inl ⟨rfl, ?_⟩) (by assumption) ?_
                  rotate_left 1
                  · intro w_ hSw; (try dsimp only at hSw); go_simp; (try with_reducible rfl)
                  (try simp only [Act.put, List.setIfInBounds_toArray, List.set_cons_zero, List.set_cons_succ])
                  refine wpAnyH_take (i := 3) (oi := ⟨_, _, _, _, _, _⟩) (v := ?_) rfl (by kernel_rfl) (by kernel_rfl) (by kernel_rfl) (fun _ _ _ h => h) (Or.inl ⟨rfl, ?_⟩) (by assumption) ?_
                  rotate_left 1
                  · intro w_ hSw; (try dsimp only at hSw); go_simp; (try with_reducible rfl)
                  (try simp only [Act.put, List.setIfInBounds_toArray, List.set_cons_zero, List.set_cons_succ])
                  refine wpAnyH_take (i := 5) (oi := ⟨_, _, _, _, _, _⟩) (v := ?_) rfl (by kernel_rfl) (by kernel_rfl) (by kernel_rfl) (fun _ _ _ h => h) (Or.inl ⟨rfl, ?_⟩) (by assumption) ?_
                  rotate_left 1
                  · intro w_ hSw; (try dsimp only at hSw); go_simp; (try with_reducible rfl)
                  (try simp only [Act.put, List.setIfInBounds_toArray, List.set_cons_zero, List.set_cons_succ])
                  refine wpAnyH_take (i := 6) (oi := ⟨_, _, _, _, _, _⟩) (v := ?_) rfl (by kernel_rfl) (by kernel_rfl) (by kernel_rfl) (fun _ _ _ h => h) (Or.inl ⟨rfl, ?_⟩) (by assumption) ?_
                  rotate_left 1
                  · intro w_ hSw; (try dsimp only at hSw); go_simp; (try with_reducible rfl)
                  (try simp only [Act.put, List.setIfInBounds_toArray, List.set_cons_zero, List.set_cons_succ])
                  refine wpAnyH_take (i := 7) (oi := ⟨_, _, _, _, _, _⟩) (v := ?_) rfl (by kernel_rfl) (by kernel_rfl) (by kernel_rfl) (fun _ _ _ h => h) (Or.inl ⟨rfl, ?_⟩) (by assumption) ?_
                  rotate_left 1
                  · intro w_ hSw; (try dsimp only at hSw); go_simp; (try with_reducible rfl)
                  (try simp only [Act.put, List.setIfInBounds_toArray, List.set_cons_zero, List.set_cons_succ])
                  refine wpAnyH_take (i := 8) (oi := ⟨_, _, _, _, _, _⟩) (v := ?_) rfl (by kernel_rfl) (by kernel_rfl) (by kernel_rfl) (fun _ _ _ h => h) (Or.inl ⟨rfl, ?_⟩) (by assumption) ?_
                  rotate_left 1
                  · intro w_ hSw; (try dsimp only at hSw); go_simp; (try with_reducible rfl)
                  (try simp only [Act.put, List.setIfInBounds_toArray, List.set_cons_zero, List.set_cons_succ])
                  refine wpAnyH_ready (rs := [4]) (by kernel_rfl) (by simp) ?_
                  refine AllReadyH.cons (o := ⟨_, _, _, _, _, _⟩) rfl (fun K hK => ?_) AllReadyH.nil
                  go_simp
                  obtain ⟨q1_, q2_, q3_, q4_, q5_⟩ := id hHeld
                  go_at_call 135
                  refine (HV1.out _ q5_).mono ?_
                  rintro e w7_ ⟨rfl, b7⟩
                  have g1 := cell_b b7 q1_
                  have g2 := cell_b b7 q2_
                  have g3 := cell_b b7 q3_
                  have g4 := cell_b b7 q4_
                  have g5 := q5_.trans (b7.mono q5_.size)
                  clear b7 q1_ q2_ q3_ q4_ q5_
                  go_wp2_with fail
                  refine hK.out _ _ ?_ (fun hHeld => ?_)
                  · exact ⟨g1, g2, g3, g4, g5⟩
                  clear hK K
                  (try simp only [Act.put, List.setIfInBounds_toArray, List.set_cons_zero, List.set_cons_succ])
                  refine wpAnyH_ready (rs := [9]) (by kernel_rfl) (by simp) ?_
                  refine AllReadyH.cons (o := ⟨_, _, _, _, _, _⟩) rfl (fun K hK => ?_) AllReadyH.nil
                  go_simp
                  obtain ⟨q1_, q2_, q3_, q4_, q5_⟩ := id hHeld
                  go_at_call 135
                  refine (HV2.out _ q5_).mono ?_
                  rintro e w8 ⟨rfl, b7⟩
                  have h1 := cell_b b7 q1_
                  have h2 := cell_b b7 q2_
                  have h3 := cell_b b7 q3_
                  have h4 := cell_b b7 q4_
                  have h5 := q5_.trans (b7.mono q5_.size)
                  clear b7 q1_ q2_ q3_ q4_ q5_
                  go_wp2_with fail
                  refine hK.out _ _ ?_ (fun hHeld => ?_)
                  · exact ⟨h1, h2, h3, h4, h5⟩
                  clear hK K
                  (try simp only [Act.put, List.setIfInBounds_toArray, List.set_cons_zero, List.set_cons_succ])
                  refine wpAnyH_take (i := 10) (oi := ⟨_, _, _, _, _, _⟩) (v := ?_) rfl (by kernel_rfl) (by kernel_rfl) (by kernel_rfl) (fun _ _ _ h => h) (Or.inl ⟨rfl, ?_⟩) (by assumption) ?_
                  rotate_left 1
                  · intro w_ hSw; (try dsimp only at hSw); go_simp; (try with_reducible rfl)
                  (try simp only [Act.put, List.setIfInBounds_toArray, List.set_cons_zero, List.set_cons_succ])
                  refine wpAnyH_done (by kernel_rfl) ?_ _
                  refine NoPanic.normal ?_
                  have HR8 := Lib.hid (HR6.out.kept (grown_of_below h5 none) (own_em _))
                  have HV8 := Lib.hid (HV6.out.kept (Kept.of_below h5 (by omega)))
                  have HB8 := Lib.hid (HB6.out.trans (h5.mono HB6.out.size))
                  have hs8 := h5.size
                  have HNo2 : Hid (∀ i', i' < j + 1 → badB z fs xs ys i' = false) := fun i' hi' => by
                    by_cases h_ : i' < j
                    · exact HNo.out i' h_
                    · obtain rfl : i' = j := by omega
                      rw [HBj.out]; simp
                  clear g1 g2 g3 g4 g5 yC
                  go_wp2_with fail
                  go_roundw
                  case rel => exact ⟨j + 1, by omega, by go_num, HNo2, ⟨_, HRc.out j, HCl.out j, HR8.out⟩, HV8, h1, h2, h3, h4, HB8, by omega⟩
                  case measure => (simp [intOf]) <;> omega
                · have hne : (ex == ey) = false := by rw [beq_eq_false_iff_ne]; exact heq
                  have hne2 : (ex != ey) = true := by rw [bne_iff_ne]; exact heq
                  go_wp2_with fail
                  refine wp_region_noPanic ?_
                  refine wp_region_held_drew (S := fun W => W.cell? ⟨w.heap.size, 0, none⟩ = some (.int .i64 z) ∧ W.cell? ⟨w.heap.size, 1, none⟩ = some (.slice ao n c) ∧ W.cell? ⟨w.heap.size + 1, 0, none⟩ = some (.slice (some ⟨b, o, none⟩) m d) ∧ W.cell? ⟨w.heap.size + 1, 1, none⟩ = some (.slice (some ⟨b', o', none⟩) m2 d2) ∧ Below w6.heap.size w6 W) (by kernel_rfl) ?_ (fun hHeld => ?_)
                  · exact ⟨by go_simp, by go_simp, by go_simp, by go_simp, yC⟩
                  refine wpAnyH_take (i := 0) (oi := ⟨_, _, _, _, _, _⟩) (v := ?_) rfl (by kernel_rfl) (by kernel_rfl) (by kernel_rfl) (fun _ _ _ h => h) (Or.inl ⟨rfl, ?_⟩) (by assumption) ?_
                  rotate_left 1
                  · intro w_ hSw; (try dsimp only at hSw); go_simp; (try with_reducible rfl)
                  (try simp only [Act.put, List.setIfInBounds_toArray, List.set_cons_zero, List.set_cons_succ])
                  refine wpAnyH_take (i := 1) (oi := ⟨_, _, _, _, _, _⟩) (v := ?_) rfl (by kernel_rfl) (by kernel_rfl) (by kernel_rfl) (fun _ _ _ h => h) (Or.inl ⟨rfl, ?_⟩) (by assumption) ?_
                  rotate_left 1
                  · intro w_ hSw; (try dsimp only at hSw); go_simp; (try with_reducible rfl)
                  (try simp only [Act.put, List.setIfInBounds_toArray, List.set_cons_zero, List.set_cons_succ])
                  refine wpAnyH_take (i := 2) (oi := ⟨_, _, _, _, _, _⟩) (v := ?_) rfl (by kernel_rfl) (by kernel_rfl) (by kernel_rfl) (fun _ _ _ h => h) (Or.inl ⟨rfl, ?_⟩) (by assumption) ?_
                  rotate_left 1
                  · intro w_ hSw; (try dsimp only at hSw); go_simp; (try with_reducible rfl)
                  (try simp only [Act.put, List.setIfInBounds_toArray, List.set_cons_zero, List.set_cons_succ])
                  refine wpAnyH_take (i := 3) (oi := ⟨_, _, _, _, _, _⟩) (v := ?_) rfl (by kernel_rfl) (by kernel_rfl) (by kernel_rfl) (fun _ _ _ h => h) (Or.inl ⟨rfl, ?_⟩) (by assumption) ?_
                  rotate_left 1
                  · intro w_ hSw; (try dsimp only at hSw); go_simp; (try with_reducible rfl)
                  (try simp only [Act.put, List.setIfInBounds_toArray, List.set_cons_zero, List.set_cons_succ])
                  refine wpAnyH_take (i := 5) (oi := ⟨_, _, _, _, _, _⟩) (v := ?_) rfl (by kernel_rfl) (by kernel_rfl) (by kernel_rfl) (fun _ _ _ h => h) (Or.inl ⟨rfl, ?_⟩) (by assumption) ?_
                  rotate_left 1
                  · intro w_ hSw; (try dsimp only at hSw); go_simp; (try with_reducible rfl)
                  (try simp only [Act.put, List.setIfInBounds_toArray, List.set_cons_zero, List.set_cons_succ])
                  refine wpAnyH_take (i := 6) (oi := ⟨_, _, _, _, _, _⟩) (v := ?_) rfl (by kernel_rfl) (by kernel_rfl) (by kernel_rfl) (fun _ _ _ h => h) (Or.inl ⟨rfl, ?_⟩) (by assumption) ?_
                  rotate_left 1
                  · intro w_ hSw; (try dsimp only at hSw); go_simp; (try with_reducible rfl)
                  (try simp only [Act.put, List.setIfInBounds_toArray, List.set_cons_zero, List.set_cons_succ])
                  refine wpAnyH_take (i := 7) (oi := ⟨_, _, _, _, _, _⟩) (v := ?_) rfl (by kernel_rfl) (by kernel_rfl) (by kernel_rfl) (fun _ _ _ h => h) (Or.inl ⟨rfl, ?_⟩) (by assumption) ?_
                  rotate_left 1
                  · intro w_ hSw; (try dsimp only at hSw); go_simp; (try with_reducible rfl)
                  (try simp only [Act.put, List.setIfInBounds_toArray, List.set_cons_zero, List.set_cons_succ])
                  refine wpAnyH_take (i := 8) (oi := ⟨_, _, _, _, _, _⟩) (v := ?_) rfl (by kernel_rfl) (by kernel_rfl) (by kernel_rfl) (fun _ _ _ h => h) (Or.inl ⟨rfl, ?_⟩) (by assumption) ?_
                  rotate_left 1
                  · intro w_ hSw; (try dsimp only at hSw); go_simp; (try with_reducible rfl)
                  (try simp only [Act.put, List.setIfInBounds_toArray, List.set_cons_zero, List.set_cons_succ])
                  refine wpAnyH_ready (rs := [4]) (by kernel_rfl) (by simp) ?_
                  refine AllReadyH.cons (o := ⟨_, _, _, _, _, _⟩) rfl (fun K hK => ?_) AllReadyH.nil
                  go_simp
                  obtain ⟨q1_, q2_, q3_, q4_, q5_⟩ := id hHeld
                  go_at_call 135
                  refine (HV1.out _ q5_).mono ?_
                  rintro e w7_ ⟨rfl, b7⟩
                  have g1 := cell_b b7 q1_
                  have g2 := cell_b b7 q2_
                  have g3 := cell_b b7 q3_
                  have g4 := cell_b b7 q4_
                  have g5 := q5_.trans (b7.mono q5_.size)
                  clear b7 q1_ q2_ q3_ q4_ q5_
                  go_wp2_with fail
                  refine hK.out _ _ ?_ (fun hHeld => ?_)
                  · exact ⟨g1, g2, g3, g4, g5⟩
                  clear hK K
                  (try simp only [Act.put, List.setIfInBounds_toArray, List.set_cons_zero, List.set_cons_succ])
                  refine wpAnyH_ready (rs := [9]) (by kernel_rfl) (by simp) ?_
                  refine AllReadyH.cons (o := ⟨_, _, _, _, _, _⟩) rfl (fun K hK => ?_) AllReadyH.nil
                  go_simp
                  obtain ⟨q1_, q2_, q3_, q4_, q5_⟩ := id hHeld
                  go_at_call 135
                  refine (HV2.out _ q5_).mono ?_
                  rintro e w8 ⟨rfl, b7⟩
                  have h1 := cell_b b7 q1_
                  have h2 := cell_b b7 q2_
                  have h3 := cell_b b7 q3_
                  have h4 := cell_b b7 q4_
                  have h5 := q5_.trans (b7.mono q5_.size)
                  clear b7 q1_ q2_ q3_ q4_ q5_
                  go_wp2_with fail
                  refine hK.out _ _ ?_ (fun hHeld => ?_)
                  · exact ⟨h1, h2, h3, h4, h5⟩
                  clear hK K
                  (try simp only [Act.put, List.setIfInBounds_toArray, List.set_cons_zero, List.set_cons_succ])
                  refine wpAnyH_take (i := 10) (oi := ⟨_, _, _, _, _, _⟩) (v := ?_) rfl (by kernel_rfl) (by kernel_rfl) (by kernel_rfl) (fun _ _ _ h => h) (Or.inl ⟨rfl, ?_⟩) (by assumption) ?_
                  rotate_left 1
                  · intro w_ hSw; (try dsimp only at hSw); go_simp; (try with_reducible rfl)
                  (try simp only [Act.put, List.setIfInBounds_toArray, List.set_cons_zero, List.set_cons_succ])
                  refine wpAnyH_done (by kernel_rfl) ?_ _
                  refine NoPanic.normal ?_
                  have HR8 := Lib.hid (HR6.out.kept (grown_of_below h5 none) (own_em _))
                  have HB8 := Lib.hid (HB6.out.trans (h5.mono HB6.out.size))
                  obtain rfl : R = (cntV z zs j, true) := HSome.out j HNo.out (by rw [HBj.out]; exact hne2) hlt
                  clear g1 g2 g3 g4 g5 yC h1 h2 h3 h4
                  go_wp2_with fail
                  go_ret2
                  exact ⟨_, k, cG, rfl, (by first | rfl | exact (HCl.out j).symm), OwnsInts.of_row HR8.out, HB8.out⟩
          · obtain rfl : j = p := by omega
            obtain rfl : R = ([], false) := HNone.out HNo.out
            go_wp2_with fail
            refine (HL6.out _).mono ?_
            rintro e w_ ⟨rfl, rfl⟩
            go_wp2_with fail
            go_ret2
            exact ⟨_, 0, 0, rfl, rfl, own_nil_res HBr.out, HBr.out.alloc HBr.out.size _⟩
      · rcases HLast.out with ⟨h_, _⟩ | ⟨q, hq1, hq2, hq3⟩
        · omega
        have hv0' : (0 : Int) < (vm : Int) := by omega
        obtain ⟨l, hl⟩ : ∃ l : Nat, vm - 1 = l := ⟨_, rfl⟩
        rw [hl] at hq1
        have hvm1 : (vm : Int) - 1 = (l : Int) := by omega
        have hlv : (l : Int) < (vm : Int) := by omega
        have hkq : ¬ (k : Int) ≤ (q : Int) := by omega
        obtain ⟨bV, oV, hva, _, _, hcv⟩ := HVv.out.at_ hv0
        cases hva
        have kl : w7.cell? ⟨gv, l, none⟩ = some (.int .i64 (q : Int)) := by have h_ := hcv l _ hq1; rwa [Nat.zero_add] at h_
        clear hq1 hl hcv hq2
        go_wp2_with fail
        go_loopw [8, 9, 10] (fun i _ _ wr => ∃ j : Nat, j ≤ p ∧ i = .int .i64 (j : Int) ∧ Hid (∀ i', i' < j → badB z fs xs ys i' = false) ∧ Hid (∃ cur : List Int, (∀ i' : Nat, putVs cur vs (digs z vm (i' : Int)) = cntV z zs i') ∧ cur.length = k ∧ wr.ownsRow w.heap.size 3 1 (.slice (some ⟨G, 0, none⟩) k cG) k (cur.map (Value.int .i64))) ∧ Hid (IView wr w.heap.size w5.heap.size (some ⟨gv, 0, none⟩) vm vs) ∧ wr.cell? ⟨w.heap.size, 0, none⟩ = some (.int .i64 z) ∧ wr.cell? ⟨w.heap.size, 1, none⟩ = some (.slice ao n c) ∧ wr.cell? ⟨w.heap.size + 1, 0, none⟩ = some (.slice (some ⟨b, o, none⟩) m d) ∧ wr.cell? ⟨w.heap.size + 1, 1, none⟩ = some (.slice (some ⟨b', o', none⟩) m2 d2) ∧ Hid (Below w.heap.size w wr) ∧ G < wr.heap.size) (fun i _ _ _ => p - (intOf i).toNat)
        case atStart => exact ⟨0, Nat.zero_le _, rfl, (fun i' h => by omega), ⟨_, HRz.out, by simp, HO7.out⟩, HVv, d1, d2_, d3, d4, HB7, hGs⟩
        case round =>
          obtain ⟨j, hj, rfl, HNo, HCur, HVw, z1, z2, z3, z4, HBr, hGr⟩ := hrel
          clear d1 d2_ d3 d4 HVv HO7 HB7 hGs
          by_cases hlt : j < p
          · obtain ⟨wi, hwi⟩ : ∃ wi : World, wi = wr := ⟨_, rfl⟩
            rw [← hwi]
            rw [← hwi] at HCur HVw z1 z2 z3 z4 HBr hGr
            clear hwi
            have hjp : (j : Int) < (p : Int) := by omega
            obtain ⟨cur, hcur, hcl, ho⟩ := HCur.out
            have HCu := Lib.hid hcur
            have HOi := Lib.hid ho
            clear hcur ho
            go_wp2_with fail
            refine (HL6.out _).mono ?_
            rintro e w_ ⟨rfl, rfl⟩
            go_wp2_with fail
            refine (HA.out j hlt _).mono ?_
            rintro e wA ⟨rfl, hoA, bA⟩
            have e1 := cell_b bA z1
            have e2 := cell_b bA z2
            have e3 := cell_b bA z3
            have e4 := cell_b bA z4
            have HVA := Lib.hid (HVw.out.kept (Kept.of_below bA (by omega)))
            have HRA := Lib.hid (HOi.out.kept (grown_of_below bA none) (own_em _))
            have HBA := Lib.hid (HBr.out.trans (bA.mono HBr.out.size))
            obtain ⟨D, hD⟩ : ∃ D : Nat, D = wi.heap.size := ⟨_, rfl⟩
            rw [← hD] at hoA ⊢
            have hGD : G < D := by omega
            have hDs : D < wA.heap.size := (hoA.lt D rfl).2
            have HDA := Lib.hid hoA
            clear hoA bA hD z1 z2 z3 z4 HVw HOi
            go_wp2_with fail
            go_loopw [10] (fun i wq => ∃ q : Nat, q ≤ vm ∧ i = .int .i64 (q : Int) ∧ Hid (wq.ownsRow w.heap.size 3 1 (.slice (some ⟨G, 0, none⟩) k cG) k ((putVs cur (vs.take q) ((digs z vm (j : Int)).take q)).map (Value.int .i64))) ∧ Hid (wA.grownBy wq (some G))) (fun i _ => vm - (intOf i).toNat)
            case atStart => exact ⟨0, Nat.zero_le _, rfl, by rw [putVs_zero]; exact HRA, World.grownBy.refl _ _⟩
            case round =>
              obtain ⟨q, hq, rfl, HRq, HGq⟩ := hrel
              by_cases hlt2 : q < vm
              · obtain ⟨x, hxq⟩ := get_of_lt (HDl.out j) hlt2
                obtain ⟨v, hvq⟩ := get_of_lt HVl.out hlt2
                obtain ⟨vn, rfl, hvn⟩ := HVn.out q v hvq
                obtain ⟨bV, oV, hva, hbl, hbh, hcv⟩ := HVA.out.at_ (by omega)
                cases hva
                have k1 : wr.cell? ⟨gv, q, none⟩ = some (.int .i64 (vn : Int)) := (World.cell?_of_block (a := ⟨gv, q, none⟩) (HGq.out.block gv (by omega) (by intro h_; injection h_ with h_; omega))).trans (by have h_ := hcv q _ hvq; rwa [Nat.zero_add] at h_)
                have k2 : wr.cell? ⟨D, q, none⟩ = some (.int .i64 x) := (World.cell?_of_block (a := ⟨D, q, none⟩) (HGq.out.block D (by omega) (by intro h_; injection h_ with h_; omega))).trans (own_at HDA.out hxq)
                have hlen := HRq.out.1
                obtain ⟨u, hu⟩ : ∃ u, wr.cell? ⟨G, vn, none⟩ = some u := by
                  rw [HRq.out.cellAt vn (by omega)]
                  exact ⟨_, List.getElem?_eq_getElem (by omega)⟩
                have hfr := HRq.out.frozenAt vn
                have hst := World.ownsRow.stored (w := wr.drew) HRq.out vn (.int .i64 x)
                have hps := putVs_succ vs (digs z vm (j : Int)) cur q (vn : Int) x hvq hxq
                rw [Int.toNat_natCast] at hps
                rw [← List.map_set, ← hps] at hst
                have HST := Lib.hid hst
                have hvN : (vn : Int) < (k : Int) := by omega
                have hqv : (q : Int) < (vm : Int) := by omega
                have hkv1 : (wr.drew.setCell ⟨G, vn, none⟩ (.int .i64 x)).cell? ⟨gv, q, none⟩ = some (.int .i64 (vn : Int)) := keepS (w := wr.drew) k1 (by show G ≠ gv; omega)
                have hkv2 : (wr.drew.setCell ⟨G, vn, none⟩ (.int .i64 x)).cell? ⟨D, q, none⟩ = some (.int .i64 x) := keepS (w := wr.drew) k2 (by show G ≠ D; omega)
                clear hst hps hcv hxq hvq hlen
                go_wp2_with fail
                refine wp_region_noPanic ?_
                refine wp_region_held_drew (S := fun W => W.cell? ⟨gv, q, none⟩ = some (.int .i64 (vn : Int)) ∧ W.cell? ⟨D, q, none⟩ = some (.int .i64 x)) (by kernel_rfl) ?_ (fun hHeld => ?_)
                · exact ⟨k1, k2⟩
                refine wpAnyH_take (i := 0) (oi := ⟨_, _, _, _, _, _⟩) (v := ?_) rfl (by kernel_rfl) (by kernel_rfl) (by kernel_rfl) (fun _ _ _ h => h) (Or.inl ⟨rfl, ?_⟩) (by assumption) ?_
                rotate_left 1
                · intro w_ hSw; (try dsimp only at hSw); go_simp; (try with_reducible rfl)
                (try simp only [Act.put, List.setIfInBounds_toArray, List.set_cons_zero, List.set_cons_succ])
                refine wpAnyH_take (i := 1) (oi := ⟨_, _, _, _, _, _⟩) (v := ?_) rfl (by kernel_rfl) (by kernel_rfl) (by kernel_rfl) (fun _ _ _ h => h) (Or.inl ⟨rfl, ?_⟩) (by assumption) ?_
                rotate_left 1
                · intro w_ hSw; (try dsimp only at hSw); go_simp; (try with_reducible rfl)
                (try simp only [Act.put, List.setIfInBounds_toArray, List.set_cons_zero, List.set_cons_succ])
                refine wpAnyH_take (i := 2) (oi := ⟨_, _, _, _, _, _⟩) (v := ?_) rfl (by kernel_rfl) (by kernel_rfl) (by kernel_rfl) (fun _ _ _ h => h) (Or.inl ⟨rfl, ?_⟩) (by assumption) ?_
                rotate_left 1
                · intro w_ hSw; (try dsimp only at hSw); go_simp; (try with_reducible rfl)
                (try simp only [Act.put, List.setIfInBounds_toArray, List.set_cons_zero, List.set_cons_succ])
                refine wpAnyH_take (i := 3) (oi := ⟨_, _, _, _, _, _⟩) (v := ?_) rfl (by kernel_rfl) (by kernel_rfl) (by kernel_rfl) (fun _ _ _ h => h) (Or.inl ⟨rfl, ?_⟩) (by assumption) ?_
                rotate_left 1
                · intro w_ hSw; (try dsimp only at hSw); go_simp; (try with_reducible rfl)
                (try simp only [Act.put, List.setIfInBounds_toArray, List.set_cons_zero, List.set_cons_succ])
                refine wpAnyH_take (i := 4) (oi := ⟨_, _, _, _, _, _⟩) (v := ?_) rfl (by kernel_rfl) (by kernel_rfl) (by kernel_rfl) (fun _ _ _ h => h) (Or.inl ⟨rfl, ?_⟩) (by assumption) ?_
                rotate_left 1
                · intro w_ hSw; (try dsimp only at hSw); go_simp; (try with_reducible rfl)
                (try simp only [Act.put, List.setIfInBounds_toArray, List.set_cons_zero, List.set_cons_succ])
                refine wpAnyH_take (i := 5) (oi := ⟨_, _, _, _, _, _⟩) (v := ?_) rfl (by kernel_rfl) (by kernel_rfl) (by kernel_rfl) (fun _ _ _ h => h) (Or.inl ⟨rfl, ?_⟩) (by assumption) ?_
                rotate_left 1
                · intro w_ hSw; (try dsimp only at hSw); go_simp; (try with_reducible rfl)
                (try simp only [Act.put, List.setIfInBounds_toArray, List.set_cons_zero, List.set_cons_succ])
                refine wpAnyH_take (i := 6) (oi := ⟨_, _, _, _, _, _⟩) (v := ?_) rfl (by kernel_rfl) (by kernel_rfl) (by kernel_rfl) (fun _ _ _ h => h) (Or.inl ⟨rfl, ?_⟩) (by assumption) ?_
                rotate_left 1
                · intro w_ hSw; (try dsimp only at hSw); go_simp; (try with_reducible rfl)
                (try simp only [Act.put, List.setIfInBounds_toArray, List.set_cons_zero, List.set_cons_succ])
                refine wpAnyH_take (i := 7) (oi := ⟨_, _, _, _, _, _⟩) (v := ?_) rfl (by kernel_rfl) (by kernel_rfl) (by kernel_rfl) (fun _ _ _ h => h) (Or.inl ⟨rfl, ?_⟩) (by assumption) ?_
                rotate_left 1
                · intro w_ hSw; (try dsimp only at hSw); go_simp; (try with_reducible rfl)
                (try simp only [Act.put, List.setIfInBounds_toArray, List.set_cons_zero, List.set_cons_succ])
                refine wpAnyH_take (i := 8) (oi := ⟨_, _, _, _, _, _⟩) (v := ?_) rfl (by kernel_rfl) (by kernel_rfl) (by kernel_rfl) (fun _ _ _ h => h) (Or.inl ⟨rfl, ?_⟩) (by assumption) ?_
                rotate_left 1
                · intro w_ hSw; (try dsimp only at hSw); go_simp; (try with_reducible rfl)
                (try simp only [Act.put, List.setIfInBounds_toArray, List.set_cons_zero, List.set_cons_succ])
                refine wpAnyH_take (i := 9) (oi := ⟨_, _, _, _, _, _⟩) (v := ?_) rfl (by kernel_rfl) (by kernel_rfl) (by kernel_rfl) (fun _ _ _ h => h) (Or.inl ⟨rfl, ?_⟩) (by assumption) ?_
                rotate_left 1
                · intro w_ hSw; (try dsimp only at hSw); go_simp; (try with_reducible rfl)
                (try simp only [Act.put, List.setIfInBounds_toArray, List.set_cons_zero, List.set_cons_succ])
                refine wpAnyH_ready (rs := [10]) (by kernel_rfl) (by simp) ?_
                refine AllReadyH.cons (o := ⟨_, _, _, _, _, _⟩) rfl (fun K hK => ?_) AllReadyH.nil
                go_simp
                refine hK.out _ _ ?_ (fun hHeld => ?_)
                · exact ⟨hkv1, hkv2⟩
                clear hK K
                (try simp only [Act.put, List.setIfInBounds_toArray, List.set_cons_zero, List.set_cons_succ])
                refine wpAnyH_done (by kernel_rfl) ?_ _
                refine NoPanic.normal ?_
                have HG2 : Hid (wA.grownBy (wr.drew.setCell ⟨G, vn, none⟩ (.int .i64 x)) (some G)) := (HGq.out.trans (show wr.grownBy wr.drew (some G) from ⟨rfl, rfl, rfl, Nat.le_refl _, fun _ _ _ => rfl⟩)).trans HST.out.2
                have HR2 := Lib.hid HST.out.1
                clear hkv1 hkv2 k1 k2 hu hfr
                go_wp2_with fail
                go_roundw
                case rel => exact ⟨q + 1, by omega, by go_num, HR2, HG2⟩
                case measure => (simp [intOf]) <;> omega
              · obtain rfl : q = vm := by omega
                obtain ⟨w6, hw6⟩ : ∃ w6 : World, w6 = wr := ⟨_, rfl⟩
                rw [← hw6]
                rw [← hw6] at HRq HGq
                clear hw6
                have hgc : ∀ {o_ : Nat} {B_ : Nat} {v_ : Value}, B_ ≤ w.heap.size + 1 → wA.cell? ⟨B_, o_, none⟩ = some v_ → w6.cell? ⟨B_, o_, none⟩ = some v_ := fun {o_} {B_} {v_} hB h => (World.cell?_of_block (a := ⟨B_, o_, none⟩) (HGq.out.block B_ (by omega) (by intro h_; injection h_ with h_; omega))).trans h
                have f1 := hgc (by omega) e1
                have f2 := hgc (by omega) e2
                have f3 := hgc (by omega) e3
                have f4 := hgc (by omega) e4
                have HV6 := Lib.hid (HVA.out.kept (fun k_ h1_ h2_ => HGq.out.block k_ (by omega) (by intro h_; injection h_ with h_; omega)))
                have hs6 := HGq.out.size
                have HB6 := Lib.hid (HBA.out.grown HGq.out (by have := HBA.out.size; omega) (by intro b hb; cases hb; omega))
                have HR6 : Hid (w6.ownsRow w.heap.size 3 1 (.slice (some ⟨G, 0, none⟩) k cG) k ((cntV z zs j).map (Value.int .i64))) := by
                  unfold Hid
                  have h_ := HRq.out
                  rw [putVs_all (Nat.le_of_eq HVl.out) (Nat.le_of_eq (HDl.out j)), HCu.out j] at h_
                  exact h_
                clear hgc e1 e2 e3 e4 HVA HRA HBA HDA HRq HGq
                have hG6 : G < w6.heap.size := by omega
                have hv1 := fun (W : World) (hb : Below w6.heap.size w6 W) => HVx.out j G cG W (HB6.out.trans (hb.mono HB6.out.size)) ((OwnsInts.of_row (HR6.out.kept (grown_of_below hb none) (own_em _))).view)
                have hv2 := fun (W : World) (hb : Below w6.heap.size w6 W) => HVy.out j G cG W (HB6.out.trans (hb.mono HB6.out.size)) ((OwnsInts.of_row (HR6.out.kept (grown_of_below hb none) (own_em _))).view)
                have hbj := HBad.out j
                obtain ⟨ex, hex⟩ : ∃ e_, evT z fs (cntV z zs j) xs = e_ := ⟨_, rfl⟩
                obtain ⟨ey, hey⟩ : ∃ e_, evT z fs (cntV z zs j) ys = e_ := ⟨_, rfl⟩
                rw [hex] at hv1 hbj
                rw [hey] at hv2 hbj
                have HV1 := Lib.hid hv1
                have HV2 := Lib.hid hv2
                have HBj := Lib.hid hbj
                clear hv1 hv2 hbj hex hey
                have yC : Below w6.heap.size w6 w6.drew := below_drew _
                have hqq : ¬ (q : Int) < (q : Int) := by omega
                by_cases heq : ex = ey
                · subst heq
                  go_wp2_with fail
                  refine wp_region_noPanic ?_
                  refine wp_region_held_drew (S := fun W => W.cell? ⟨w.heap.size, 0, none⟩ = some (.int .i64 z) ∧ W.cell? ⟨w.heap.size, 1, none⟩ = some (.slice ao n c) ∧ W.cell? ⟨w.heap.size + 1, 0, none⟩ = some (.slice (some ⟨b, o, none⟩) m d) ∧ W.cell? ⟨w.heap.size + 1, 1, none⟩ = some (.slice (some ⟨b', o', none⟩) m2 d2) ∧ Below w6.heap.size w6 W) (by kernel_rfl) ?_ (fun hHeld => ?_)
                  · exact ⟨by go_simp, by go_simp, by go_simp, by go_simp, yC⟩
                  refine wpAnyH_take (i := 0) (oi := ⟨_, _, _, _, _, _⟩) (v := ?_) rfl (by kernel_rfl) (by kernel_rfl) (by kernel_rfl) (fun _ _ _ h => h) (Or.inl ⟨rfl, ?_⟩) (by assumption) ?_
                  rotate_left 1
                  · intro w_ hSw; (try dsimp only at hSw); go_simp; (try with_reducible rfl)
                  (try simp only [Act.put, List.setIfInBounds_toArray, List.set_cons_zero, List.set_cons_succ])
                  refine wpAnyH_take (i := 1) (oi := ⟨_, _, _, _, _, _⟩) (v := ?_) rfl (by kernel_rfl) (by kernel_rfl) (by kernel_rfl) (fun _ _ _ h => h) (Or.inl ⟨rfl, ?_⟩) (by assumption) ?_
                  rotate_left 1
                  · intro w_ hSw; (try dsimp only at hSw); go_simp; (try with_reducible rfl)
                  (try simp only [Act.put, List.setIfInBounds_toArray, List.set_cons_zero, List.set_cons_succ])
                  refine wpAnyH_take (i := 2) (oi := ⟨_, _, _, _, _, _⟩) (v := ?_) rfl (by kernel_rfl) (by kernel_rfl) (by kernel_rfl) (fun _ _ _ h => h) (Or.inl ⟨rfl, ?_⟩) (by assumption) ?_
                  rotate_left 1
                  · intro w_ hSw; (try dsimp only at hSw); go_simp; (try with_reducible rfl)
                  (try simp only [Act.put, List.setIfInBounds_toArray, List.set_cons_zero, List.set_cons_succ])
                  refine wpAnyH_take (i := 3) (oi := ⟨_, _, _, _, _, _⟩) (v := ?_) rfl (by kernel_rfl) (by kernel_rfl) (by kernel_rfl) (fun _ _ _ h => h) (Or.inl ⟨rfl, ?_⟩) (by assumption) ?_
                  rotate_left 1
                  · intro w_ hSw; (try dsimp only at hSw); go_simp; (try with_reducible rfl)
                  (try simp only [Act.put, List.setIfInBounds_toArray, List.set_cons_zero, List.set_cons_succ])
                  refine wpAnyH_take (i := 5) (oi := ⟨_, _, _, _, _, _⟩) (v := ?_) rfl (by kernel_rfl) (by kernel_rfl) (by kernel_rfl) (fun _ _ _ h => h) (Or.inl ⟨rfl, ?_⟩) (by assumption) ?_
                  rotate_left 1
                  · intro w_ hSw; (try dsimp only at hSw); go_simp; (try with_reducible rfl)
                  (try simp only [Act.put, List.setIfInBounds_toArray, List.set_cons_zero, List.set_cons_succ])
                  refine wpAnyH_take (i := 6) (oi := ⟨_, _, _, _, _, _⟩) (v := ?_) rfl (by kernel_rfl) (by kernel_rfl) (by kernel_rfl) (fun _ _ _ h => h) (Or.inl ⟨rfl, ?_⟩) (by assumption) ?_
                  rotate_left 1
                  · intro w_ hSw; (try dsimp only at hSw); go_simp; (try with_reducible rfl)
                  (try simp only [Act.put, List.setIfInBounds_toArray, List.set_cons_zero, List.set_cons_succ])
                  refine wpAnyH_take (i := 7) (oi := ⟨_, _, _, _, _, _⟩) (v := ?_) rfl (by kernel_rfl) (by kernel_rfl) (by kernel_rfl) (fun _ _ _ h => h) (Or.inl ⟨rfl, ?_⟩) (by assumption) ?_
                  rotate_left 1
                  · intro w_ hSw; (try dsimp only at hSw); go_simp; (try with_reducible rfl)
                  (try simp only [Act.put, List.setIfInBounds_toArray, List.set_cons_zero, List.set_cons_succ])
                  refine wpAnyH_take (i := 8) (oi := ⟨_, _, _, _, _, _⟩) (v := ?_) rfl (by kernel_rfl) (by kernel_rfl) (by kernel_rfl) (fun _ _ _ h => h) (Or.inl ⟨rfl, ?_⟩) (by assumption) ?_
                  rotate_left 1
                  · intro w_ hSw; (try dsimp only at hSw); go_simp; (try with_reducible rfl)
                  (try simp only [Act.put, List.setIfInBounds_toArray, List.set_cons_zero, List.set_cons_succ])
                  refine wpAnyH_ready (rs := [4]) (by kernel_rfl) (by simp) ?_
                  refine AllReadyH.cons (o := ⟨_, _, _, _, _, _⟩) rfl (fun K hK => ?_) AllReadyH.nil
                  go_simp
                  obtain ⟨q1_, q2_, q3_, q4_, q5_⟩ := id hHeld
                  go_at_call 135
                  refine (HV1.out _ q5_).mono ?_
                  rintro e w7_ ⟨rfl, b7⟩
                  have g1 := cell_b b7 q1_
                  have g2 := cell_b b7 q2_
                  have g3 := cell_b b7 q3_
                  have g4 := cell_b b7 q4_
                  have g5 := q5_.trans (b7.mono q5_.size)
                  clear b7 q1_ q2_ q3_ q4_ q5_
                  go_wp2_with fail
                  refine hK.out _ _ ?_ (fun hHeld => ?_)
                  · exact ⟨g1, g2, g3, g4, g5⟩
                  clear hK K
                  (try simp only [Act.put, List.setIfInBounds_toArray, List.set_cons_zero, List.set_cons_succ])
                  refine wpAnyH_ready (rs := [9]) (by kernel_rfl) (by simp) ?_
                  refine AllReadyH.cons (o := ⟨_, _, _, _, _, _⟩) rfl (fun K hK => ?_) AllReadyH.nil
                  go_simp
                  obtain ⟨q1_, q2_, q3_, q4_, q5_⟩ := id hHeld
                  go_at_call 135
                  refine (HV2.out _ q5_).mono ?_
                  rintro e w8 ⟨rfl, b7⟩
                  have h1 := cell_b b7 q1_
                  have h2 := cell_b b7 q2_
                  have h3 := cell_b b7 q3_
                  have h4 := cell_b b7 q4_
                  have h5 := q5_.trans (b7.mono q5_.size)
                  clear b7 q1_ q2_ q3_ q4_ q5_
                  go_wp2_with fail
                  refine hK.out _ _ ?_ (fun hHeld => ?_)
                  · exact ⟨h1, h2, h3, h4, h5⟩
                  clear hK K
                  (try simp only [Act.put, List.setIfInBounds_toArray, List.set_cons_zero, List.set_cons_succ])
                  refine wpAnyH_take (i := 10) (oi := ⟨_, _, _, _, _, _⟩) (v := ?_) rfl (by kernel_rfl) (by kernel_rfl) (by kernel_rfl) (fun _ _ _ h => h) (Or.inl ⟨rfl, ?_⟩) (by assumption) ?_
                  rotate_left 1
                  · intro w_ hSw; (try dsimp only at hSw); go_simp; (try with_reducible rfl)
                  (try simp only [Act.put, List.setIfInBounds_toArray, List.set_cons_zero, List.set_cons_succ])
                  refine wpAnyH_done (by kernel_rfl) ?_ _
                  refine NoPanic.normal ?_
                  have HR8 := Lib.hid (HR6.out.kept (grown_of_below h5 none) (own_em _))
                  have HV8 := Lib.hid (HV6.out.kept (Kept.of_below h5 (by omega)))
                  have HB8 := Lib.hid (HB6.out.trans (h5.mono HB6.out.size))
                  have hs8 := h5.size
                  have HNo2 : Hid (∀ i', i' < j + 1 → badB z fs xs ys i' = false) := fun i' hi' => by
                    by_cases h_ : i' < j
                    · exact HNo.out i' h_
                    · obtain rfl : i' = j := by omega
                      rw [HBj.out]; simp
                  clear g1 g2 g3 g4 g5 yC
                  go_wp2_with fail
                  go_roundw
                  case rel => exact ⟨j + 1, by omega, by go_num, HNo2, ⟨_, HRc.out j, HCl.out j, HR8.out⟩, HV8, h1, h2, h3, h4, HB8, by omega⟩
                  case measure => (simp [intOf]) <;> omega
                · have hne : (ex == ey) = false := by rw [beq_eq_false_iff_ne]; exact heq
                  have hne2 : (ex != ey) = true := by rw [bne_iff_ne]; exact heq
                  go_wp2_with fail
                  refine wp_region_noPanic ?_
                  refine wp_region_held_drew (S := fun W => W.cell? ⟨w.heap.size, 0, none⟩ = some (.int .i64 z) ∧ W.cell? ⟨w.heap.size, 1, none⟩ = some (.slice ao n c) ∧ W.cell? ⟨w.heap.size + 1, 0, none⟩ = some (.slice (some ⟨b, o, none⟩) m d) ∧ W.cell? ⟨w.heap.size + 1, 1, none⟩ = some (.slice (some ⟨b', o', none⟩) m2 d2) ∧ Below w6.heap.size w6 W) (by kernel_rfl) ?_ (fun hHeld => ?_)
                  · exact ⟨by go_simp, by go_simp, by go_simp, by go_simp, yC⟩
                  refine wpAnyH_take (i := 0) (oi := ⟨_, _, _, _, _, _⟩) (v := ?_) rfl (by kernel_rfl) (by kernel_rfl) (by kernel_rfl) (fun _ _ _ h => h) (Or.inl ⟨rfl, ?_⟩) (by assumption) ?_
                  rotate_left 1
                  · intro w_ hSw; (try dsimp only at hSw); go_simp; (try with_reducible rfl)
                  (try simp only [Act.put, List.setIfInBounds_toArray, List.set_cons_zero, List.set_cons_succ])
                  refine wpAnyH_take (i := 1) (oi := ⟨_, _, _, _, _, _⟩) (v := ?_) rfl (by kernel_rfl) (by kernel_rfl) (by kernel_rfl) (fun _ _ _ h => h) (Or.inl ⟨rfl, ?_⟩) (by assumption) ?_
                  rotate_left 1
                  · intro w_ hSw; (try dsimp only at hSw); go_simp; (try with_reducible rfl)
                  (try simp only [Act.put, List.setIfInBounds_toArray, List.set_cons_zero, List.set_cons_succ])
                  refine wpAnyH_take (i := 2) (oi := ⟨_, _, _, _, _, _⟩) (v := ?_) rfl (by kernel_rfl) (by kernel_rfl) (by kernel_rfl) (fun _ _ _ h => h) (Or.inl ⟨rfl, ?_⟩) (by assumption) ?_
                  rotate_left 1
                  · intro w_ hSw; (try dsimp only at hSw); go_simp; (try with_reducible rfl)
                  (try simp only [Act.put, List.setIfInBounds_toArray, List.set_cons_zero, List.set_cons_succ])
                  refine wpAnyH_take (i := 3) (oi := ⟨_, _, _, _, _, _⟩) (v := ?_) rfl (by kernel_rfl) (by kernel_rfl) (by kernel_rfl) (fun _ _ _ h => h) (Or.inl ⟨rfl, ?_⟩) (by assumption) ?_
                  rotate_left 1
                  · intro w_ hSw; (try dsimp only at hSw); go_simp; (try with_reducible rfl)
                  (try simp only [Act.put, List.setIfInBounds_toArray, List.set_cons_zero, List.set_cons_succ])
                  refine wpAnyH_take (i := 5) (oi := ⟨_, _, _, _, _, _⟩) (v := ?_) rfl (by kernel_rfl) (by kernel_rfl) (by kernel_rfl) (fun _ _ _ h => h) (Or.inl ⟨rfl, ?_⟩) (by assumption) ?_
                  rotate_left 1
                  · intro w_ hSw; (try dsimp only at hSw); go_simp; (try with_reducible rfl)
                  (try simp only [Act.put, List.setIfInBounds_toArray, List.set_cons_zero, List.set_cons_succ])
                  refine wpAnyH_take (i := 6) (oi := ⟨_, _, _, _, _, _⟩) (v := ?_) rfl (by kernel_rfl) (by kernel_rfl) (by kernel_rfl) (fun _ _ _ h => h) (Or.inl ⟨rfl, ?_⟩) (by assumption) ?_
                  rotate_left 1
                  · intro w_ hSw; (try dsimp only at hSw); go_simp; (try with_reducible rfl)
                  (try simp only [Act.put, List.setIfInBounds_toArray, List.set_cons_zero, List.set_cons_succ])
                  refine wpAnyH_take (i := 7) (oi := ⟨_, _, _, _, _, _⟩) (v := ?_) rfl (by kernel_rfl) (by kernel_rfl) (by kernel_rfl) (fun _ _ _ h => h) (Or.inl ⟨rfl, ?_⟩) (by assumption) ?_
                  rotate_left 1
                  · intro w_ hSw; (try dsimp only at hSw); go_simp; (try with_reducible rfl)
                  (try simp only [Act.put, List.setIfInBounds_toArray, List.set_cons_zero, List.set_cons_succ])
                  refine wpAnyH_take (i := 8) (oi := ⟨_, _, _, _, _, _⟩) (v := ?_) rfl (by kernel_rfl) (by kernel_rfl) (by kernel_rfl) (fun _ _ _ h => h) (Or.inl ⟨rfl, ?_⟩) (by assumption) ?_
                  rotate_left 1
                  · intro w_ hSw; (try dsimp only at hSw); go_simp; (try with_reducible rfl)
                  (try simp only [Act.put, List.setIfInBounds_toArray, List.set_cons_zero, List.set_cons_succ])
                  refine wpAnyH_ready (rs := [4]) (by kernel_rfl) (by simp) ?_
                  refine AllReadyH.cons (o := ⟨_, _, _, _, _, _⟩) rfl (fun K hK => ?_) AllReadyH.nil
                  go_simp
                  obtain ⟨q1_, q2_, q3_, q4_, q5_⟩ := id hHeld
                  go_at_call 135
                  refine (HV1.out _ q5_).mono ?_
                  rintro e w7_ ⟨rfl, b7⟩
                  have g1 := cell_b b7 q1_
                  have g2 := cell_b b7 q2_
                  have g3 := cell_b b7 q3_
                  have g4 := cell_b b7 q4_
                  have g5 := q5_.trans (b7.mono q5_.size)
                  clear b7 q1_ q2_ q3_ q4_ q5_
                  go_wp2_with fail
                  refine hK.out _ _ ?_ (fun hHeld => ?_)
                  · exact ⟨g1, g2, g3, g4, g5⟩
                  clear hK K
                  (try simp only [Act.put, List.setIfInBounds_toArray, List.set_cons_zero, List.set_cons_succ])
                  refine wpAnyH_ready (rs := [9]) (by kernel_rfl) (by simp) ?_
                  refine AllReadyH.cons (o := ⟨_, _, _, _, _, _⟩) rfl (fun K hK => ?_) AllReadyH.nil
                  go_simp
                  obtain ⟨q1_, q2_, q3_, q4_, q5_⟩ := id hHeld
                  go_at_call 135
                  refine (HV2.out _ q5_).mono ?_
                  rintro e w8 ⟨rfl, b7⟩
                  have h1 := cell_b b7 q1_
                  have h2 := cell_b b7 q2_
                  have h3 := cell_b b7 q3_
                  have h4 := cell_b b7 q4_
                  have h5 := q5_.trans (b7.mono q5_.size)
                  clear b7 q1_ q2_ q3_ q4_ q5_
                  go_wp2_with fail
                  refine hK.out _ _ ?_ (fun hHeld => ?_)
                  · exact ⟨h1, h2, h3, h4, h5⟩
                  clear hK K
                  (try simp only [Act.put, List.setIfInBounds_toArray, List.set_cons_zero, List.set_cons_succ])
                  refine wpAnyH_take (i := 10) (oi := ⟨_, _, _, _, _, _⟩) (v := ?_) rfl (by kernel_rfl) (by kernel_rfl) (by kernel_rfl) (fun _ _ _ h => h) (Or.inl ⟨rfl, ?_⟩) (by assumption) ?_
                  rotate_left 1
                  · intro w_ hSw; (try dsimp only at hSw); go_simp; (try with_reducible rfl)
                  (try simp only [Act.put, List.setIfInBounds_toArray, List.set_cons_zero, List.set_cons_succ])
                  refine wpAnyH_done (by kernel_rfl) ?_ _
                  refine NoPanic.normal ?_
                  have HR8 := Lib.hid (HR6.out.kept (grown_of_below h5 none) (own_em _))
                  have HB8 := Lib.hid (HB6.out.trans (h5.mono HB6.out.size))
                  obtain rfl : R = (cntV z zs j, true) := HSome.out j HNo.out (by rw [HBj.out]; exact hne2) hlt
                  clear g1 g2 g3 g4 g5 yC h1 h2 h3 h4
                  go_wp2_with fail
                  go_ret2
                  exact ⟨_, k, cG, rfl, (by first | rfl | exact (HCl.out j).symm), OwnsInts.of_row HR8.out, HB8.out⟩
          · obtain rfl : j = p := by omega
            obtain rfl : R = ([], false) := HNone.out HNo.out
            go_wp2_with fail
            refine (HL6.out _).mono ?_
            rintro e w_ ⟨rfl, rfl⟩
            go_wp2_with fail
            go_ret2
            exact ⟨_, 0, 0, rfl, rfl, own_nil_res HBr.out, HBr.out.alloc HBr.out.size _⟩

end Go.Proofs.Yteealelfghimbaa
