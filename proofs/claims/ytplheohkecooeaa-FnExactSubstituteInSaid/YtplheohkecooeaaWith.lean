/-
  Contract: spec.l3With: a term with another subterm at a place. Conditions: the bounds that it names.
-/
import Derived.Test.YtplheohkecooeaaSub
import Derived.Test.YtplheohkecooeaaApp
import Derived.Test.YtplheohkecooeaaKeep
import Derived.Test.YtplheohkecooeaaPut3
import Derived.RangeFuncBox
namespace Go.Proofs.Ytplheohkecooeaa
open Go.RowKit
set_option linter.unusedVariables false
set_option linter.unusedSimpArgs false
attribute [local go_sem ↓] Go.wp_at_zero Go.wp_at_succ

/-- l1Own at a slice that may be empty. -/
theorem own_part (b o n c : Nat) (xs : List Int) (w : World) (hl : xs.length = n) (hc : ∀ j x, xs[j]? = some x → w.cell? ⟨b, o + j, none⟩ = some (.int .i64 x)) (hn : n ≤ 1048576) :
    Calls Try.prog 70 #[.slice (some ⟨b, o, none⟩) n c] w fun e w' => NewInts w w' n xs e := by
  obtain ⟨i0, hi0, hz0, hz1, hz2⟩ := info_parts Try.infoInt
  have hown := World.ownsRow_lit (base := w.heap.size) (e := 3) (size := 1) w #[] 0 (Nat.le_refl _) (by decide) rfl
  have hB := (Below.refl w.heap.size w).alloc (Nat.le_refl _) (.cells #[] 3)
  have HO := Lib.hid hown
  have HB := Lib.hid hB
  have hcells : ∀ j u, (xs.map (Value.int .i64))[j]? = some u → (w.alloc (.cells #[] 3)).cell? ((⟨b, o, none⟩ : Addr).add j) = some u := by
    intro j u hu
    rw [List.getElem?_map] at hu
    obtain ⟨x, hx, rfl⟩ := Option.map_eq_some_iff.1 hu
    have hcj := hc j x hx
    rw [show (⟨b, o, none⟩ : Addr).add j = ⟨b, o + j, none⟩ by unfold Addr.add; split <;> simp_all]
    exact (World.cell?_alloc_lt w _ ⟨b, o + j, none⟩ (World.block_lt_of_cell? w _ hcj)).trans hcj
  have HC := Lib.hid hcells
  have HL := Lib.hid hl
  clear hown hB hcells hl hc
  unfold NewInts
  go_enter Try.func70, Try.ntmps70
  go_wp2_with (at_builtin; refine wpList_append_own _ rfl _ _ 25 rfl w.heap.size 3 i0 (.int .i64 0) 1 8 Try.underlying25 hi0 hz0 hz1 hz2 rfl (by decide) (.slice (some ⟨w.heap.size, 0, none⟩) 0 0) 0 [] rfl HO.out ⟨b, o, none⟩ n c (xs.map (Value.int .i64)) rfl (by rw [List.length_map, HL.out]; omega) HC.out (fun x hx => by obtain ⟨y, _, rfl⟩ := List.mem_map.1 hx; rfl) (by unfold maxLen; omega) (by omega) HB.out.size ?_; intro v' w3 hown' hgrow' hnil')
  rw [Nat.zero_add, List.nil_append] at hown'
  obtain ⟨g, cap, rfl⟩ := own_some (g := 0) (c := 0) hown' (fun e => by have := (hnil'.1 e).1; cases this)
  have HO3 := Lib.hid hown'
  have HB3 := Lib.hid (HB.out.grown hgrow' HB.out.size (fun q hq => by have h_ : w.heap.size = q := (by simpa [Value.ownBlock] using hq); omega))
  clear hown' hgrow' hnil'
  go_wp2
  go_ret
  exact ⟨g, cap, rfl, HO3.out, HB3.out⟩

theorem below_row {w W w3 : World} {B g : Nat} (h : W.grownBy w3 (some g)) (hW : Below B w W) (hB : B ≤ W.heap.size) (hg : B ≤ g) : Below B w w3 :=
  hW.grown h hB (fun q hq => by injection hq with hq; omega)

set_option maxRecDepth 100000 in
set_option maxHeartbeats 4000000 in
theorem with_any (lo hi lo2 hi2 lo3 hi3 : Nat) (z : Int) (ao bo co : Option Addr) (c n d m d2 m2 : Nat) (fs : List OpD) (xs ys : List Int) (k e : Nat) (w : World) (hv : OView w lo hi ao n fs) (hhi : hi ≤ w.heap.size) (hok : algOkB z fs = true)
    (hx : IView w lo2 hi2 bo m xs) (hhi2 : hi2 ≤ w.heap.size) (hm : m ≤ 60) (hmd : m ≤ d) (hd : d ≤ maxLen) (hy : IView w lo3 hi3 co m2 ys) (hhi3 : hi3 ≤ w.heap.size) (hm2 : m2 ≤ 60) (hm0 : 0 < m2) (he : endA fs xs k = some e) :
    Calls Try.prog 75 #[.agg #[.int .i64 z, .slice ao n c], .slice bo m d, .int .i64 (k : Int), .slice co m2 d2] w fun ε w' => ∃ g M D, ε = .returned (.slice (some ⟨g, 0, none⟩) M D) ∧ M = (repA fs xs k ys).length ∧ w'.ownsRow w.heap.size 3 1 (.slice (some ⟨g, 0, none⟩) M D) M ((repA fs xs k ys).map (Value.int .i64)) ∧ Below w.heap.size w w' := by
  obtain ⟨h1, h2⟩ := endA_gt he
  have hl := hx.1
  have hly := hy.1
  obtain ⟨b, o, rfl, _, hb2, hcx⟩ := hx.at_ (by omega)
  obtain ⟨b3, o3, rfl, _, hb3, hcy⟩ := hy.at_ hm0
  have hB := below_alloc w (.cells #[.int .i64 z, .slice ao n c] 30)
  have HB := Lib.hid hB
  obtain ⟨W0, hW0⟩ : ∃ W0, W0 = w.alloc (.cells #[.int .i64 z, .slice ao n c] 30) := ⟨_, rfl⟩
  have hs0 : W0.heap.size = w.heap.size + 1 := by rw [hW0]; simp
  have z0 : W0.cell? ⟨w.heap.size, 0, none⟩ = some (.int .i64 z) := by rw [hW0]; simp
  have z1 : W0.cell? ⟨w.heap.size, 1, none⟩ = some (.slice ao n c) := by rw [hW0]; simp
  rw [← hW0] at HB
  have HCx := Lib.hid (fun (W : World) (hW : Below W0.heap.size W0 W) (j : Nat) (x : Int) (hj : xs[j]? = some x) => cell_b hW (cell_b HB.out (hcx j x hj)))
  have HCy := Lib.hid (fun (W : World) (hW : Below W0.heap.size W0 W) (j : Nat) (x : Int) (hj : ys[j]? = some x) => cell_b hW (cell_b HB.out (hcy j x hj)))
  have HTl : Hid ((xs.take k).length = k) := by unfold Hid; rw [List.length_take]; omega
  have HDl : Hid ((xs.drop e).length = m - e) := by unfold Hid; rw [List.length_drop]; omega
  have HLy := Lib.hid hly
  have HOwn := Lib.hid (fun (W : World) (hW : Below W0.heap.size W0 W) => (own_part b o k d (xs.take k) W HTl.out (fun j x hj => by
    rw [List.getElem?_take] at hj
    split at hj
    · exact HCx.out W hW j x hj
    · cases hj) (by omega)).mono (R' := fun ε w' => ∃ g D, ε = .returned (.slice (some ⟨g, 0, none⟩) k D) ∧ w'.ownsRow W0.heap.size 3 1 (.slice (some ⟨g, 0, none⟩) k D) k ((xs.take k).map (Value.int .i64)) ∧ Below W0.heap.size W0 w') fun ε w' ⟨g, D, h_, hr_, hb_⟩ => ⟨g, D, h_, ownsRow_base hr_ hW.size, hW.trans (hb_.mono hW.size)⟩)
  have HEnd := Lib.hid (fun (W : World) (hW : Below W0.heap.size W0 W) => by
    have hB2 : Below w.heap.size w W := HB.out.trans (hW.mono (by omega))
    have h_ := l3End_any lo hi lo2 hi2 z ao (some ⟨b, o, none⟩) c n d m fs xs k W (hv.kept (Kept.of_below hB2 hhi)) (Nat.le_trans hhi hB2.size) hok (hx.kept (Kept.of_below hB2 hhi2)) (Nat.le_trans hhi2 hB2.size) hm (by omega)
    rw [he] at h_
    exact h_.mono (R' := fun ε w' => ε = .returned (.int .i64 (endI (some e))) ∧ Below W0.heap.size W0 w' ∧ Below W.heap.size W w') fun ε w' ⟨a_, b_⟩ => ⟨a_, hW.trans (b_.mono hW.size), b_⟩)
  have hrep : repA fs xs k ys = xs.take k ++ ys ++ xs.drop e := by unfold repA; rw [he]; rfl
  rw [hrep]
  have hkd : (k : Int) ≤ (d : Int) := by omega
  have hed : (e : Int) ≤ (d : Int) := by omega
  have hem : (e : Int) ≤ (m : Int) := by omega
  have Z0 := Lib.hid z0
  have Z1 := Lib.hid z1
  have hmk : k + m2 ≤ 120 := by omega
  have hke : k < e := h1
  unfold maxLen at hd
  have HW0 := Lib.hid hW0
  clear hx hy hcx hcy hv hok he hl hly hB hrep hW0
  by_cases hde : e = d
  · obtain rfl : m = e := by omega
    subst hde
    go_enter Try.func75, Try.ntmps75
    go_wp2_with fail
    rw [← HW0.out]
    have tokA : True := trivial
    have tokB : True := trivial
    have tokC : True := trivial
    have yB : Below W0.heap.size W0 W0.drew := below_drew _
    go_region_held3 (fun W => W.cell? ⟨w.heap.size, 0, none⟩ = some (.int .i64 z) ∧ W.cell? ⟨w.heap.size, 1, none⟩ = some (.slice ao n c) ∧ Below W0.heap.size W0 W) (first | assumption | (refine ⟨?_, ?_, ?_⟩; (focus (first | assumption | go_keep)); (focus (first | assumption | go_keep)); (focus (repeat (first | assumption | exact Below.refl _ _ | apply keep_drew | apply keep_alloc))))) ((first | (go_at_call 70; have _t := tokA; clear tokA _t; refine (HOwn.out _ ?_).mono ?_; (focus ((repeat (first | assumption | exact Below.refl _ _ | apply keep_drew | apply keep_alloc)); done)); rintro ε wA ⟨gA, cA, rfl, hA, BA⟩; have HA_ := Lib.hid hA; have hgA := (HA_.out.lt gA rfl).1; have q0_A := cell_b BA Z0.out; have q1_A := cell_b BA Z1.out; clear hA) | (go_at_call 71; have _t := tokC; clear tokC _t; refine (HEnd.out _ ?_).mono ?_; (focus ((repeat (first | assumption | exact Below.refl _ _ | apply keep_drew | apply keep_alloc)); done)); rintro ε wE ⟨rfl, BE, bE⟩; (try (have HA2_ := Lib.hid (HA_.out.kept (grown_of_below bE none) (own_em _)); clear HA_; have HA_ := HA2_; clear HA2_)); (try (have HB2_ := Lib.hid (HB_.out.kept (grown_of_below bE none) (own_em _)); clear HB_; have HB_ := HB2_; clear HB2_)); have q0_E := cell_b BE Z0.out; have q1_E := cell_b BE Z1.out; clear bE; unfold endI) | (have _t := HA_; clear _t; have _t := tokB; clear tokB _t; refine step_append_ints ?_ _ _ rfl W0.heap.size gA k cA (xs.take k) ?_ ?_ ⟨b3, o3, none⟩ m2 d2 ys ?_ HLy.out ?_ ?_ ?_ ?_; (focus (rfl; done)); (focus (rfl; done)); (focus ((first | exact HA_.out | exact HA_.out.kept (grown_of_below (below_drew _) none) (own_em _)); done)); (focus (rfl; done)); (focus (refine part_at (HCy.out _ ?_); (repeat (first | assumption | exact Below.refl _ _ | apply keep_drew | apply keep_alloc)); done)); (focus (omega; done)); (focus (refine Below.size (B := W0.heap.size) ?_; (repeat (first | assumption | exact Below.refl _ _ | apply keep_drew | apply keep_alloc)); done)); intro gB cB wB hB hgB hatB; have BB : Below W0.heap.size W0 wB := below_row hgB (by (repeat (first | assumption | exact Below.refl _ _ | apply keep_drew | apply keep_alloc))) (Below.size (B := W0.heap.size) (by (repeat (first | assumption | exact Below.refl _ _ | apply keep_drew | apply keep_alloc)))) hgA; have HB_ := Lib.hid hB; have hgBl := (hB.lt gB rfl).1; have q0_B := cell_b BB Z0.out; have q1_B := cell_b BB Z1.out; clear hB hgB hatB HA_) | (have _t := HB_; clear _t; refine step_append_ints ?_ _ _ rfl W0.heap.size gB (k + m2) cB (xs.take k ++ ys) ?_ ?_ ⟨b, o, none⟩ 0 0 (xs.drop m) ?_ ?_ ?_ ?_ ?_ ?_; (focus (rfl; done)); (focus (rfl; done)); (focus ((first | exact HB_.out | exact HB_.out.kept (grown_of_below (below_drew _) none) (own_em _)); done)); (focus (rfl; done)); (focus ((have h_ := HDl.out; omega); done)); (focus (intro j y hj; have h_ := HDl.out; have h2_ := (List.getElem?_eq_some_iff.1 hj).1; omega)); (focus (omega; done)); (focus (refine Below.size (B := W0.heap.size) ?_; (repeat (first | assumption | exact Below.refl _ _ | apply keep_drew | apply keep_alloc)); done)); intro gC cC wC hC hgC hatC; have BC : Below W0.heap.size W0 wC := below_row hgC (by (repeat (first | assumption | exact Below.refl _ _ | apply keep_drew | apply keep_alloc))) (Below.size (B := W0.heap.size) (by (repeat (first | assumption | exact Below.refl _ _ | apply keep_drew | apply keep_alloc)))) hgBl; have HC_ := Lib.hid hC; have q0_C := cell_b BC Z0.out; have q1_C := cell_b BC Z1.out; clear hC hgC hatC HB_)))
    all_goals
      go_wp2_with fail
      go_ret
      exact ⟨gC, _, cC, rfl, by (rw [List.length_append, List.length_append, HTl.out, HLy.out, HDl.out]) <;> omega, by rw [List.append_assoc] at HC_ ⊢; exact ownsRow_base HC_.out (by omega), HB.out.trans (BC.mono (by omega))⟩
  · have hde' : ¬ d = e := fun h => hde h.symm
    go_enter Try.func75, Try.ntmps75
    go_wp2_with fail
    rw [← HW0.out]
    have tokA : True := trivial
    have tokB : True := trivial
    have tokC : True := trivial
    have yB : Below W0.heap.size W0 W0.drew := below_drew _
    go_region_held3 (fun W => W.cell? ⟨w.heap.size, 0, none⟩ = some (.int .i64 z) ∧ W.cell? ⟨w.heap.size, 1, none⟩ = some (.slice ao n c) ∧ Below W0.heap.size W0 W) (first | assumption | (refine ⟨?_, ?_, ?_⟩; (focus (first | assumption | go_keep)); (focus (first | assumption | go_keep)); (focus (repeat (first | assumption | exact Below.refl _ _ | apply keep_drew | apply keep_alloc))))) ((first | (go_at_call 70; have _t := tokA; clear tokA _t; refine (HOwn.out _ ?_).mono ?_; (focus ((repeat (first | assumption | exact Below.refl _ _ | apply keep_drew | apply keep_alloc)); done)); rintro ε wA ⟨gA, cA, rfl, hA, BA⟩; have HA_ := Lib.hid hA; have hgA := (HA_.out.lt gA rfl).1; have q0_A := cell_b BA Z0.out; have q1_A := cell_b BA Z1.out; clear hA) | (go_at_call 71; have _t := tokC; clear tokC _t; refine (HEnd.out _ ?_).mono ?_; (focus ((repeat (first | assumption | exact Below.refl _ _ | apply keep_drew | apply keep_alloc)); done)); rintro ε wE ⟨rfl, BE, bE⟩; (try (have HA2_ := Lib.hid (HA_.out.kept (grown_of_below bE none) (own_em _)); clear HA_; have HA_ := HA2_; clear HA2_)); (try (have HB2_ := Lib.hid (HB_.out.kept (grown_of_below bE none) (own_em _)); clear HB_; have HB_ := HB2_; clear HB2_)); have q0_E := cell_b BE Z0.out; have q1_E := cell_b BE Z1.out; clear bE; unfold endI) | (have _t := HA_; clear _t; have _t := tokB; clear tokB _t; refine step_append_ints ?_ _ _ rfl W0.heap.size gA k cA (xs.take k) ?_ ?_ ⟨b3, o3, none⟩ m2 d2 ys ?_ HLy.out ?_ ?_ ?_ ?_; (focus (rfl; done)); (focus (rfl; done)); (focus ((first | exact HA_.out | exact HA_.out.kept (grown_of_below (below_drew _) none) (own_em _)); done)); (focus (rfl; done)); (focus (refine part_at (HCy.out _ ?_); (repeat (first | assumption | exact Below.refl _ _ | apply keep_drew | apply keep_alloc)); done)); (focus (omega; done)); (focus (refine Below.size (B := W0.heap.size) ?_; (repeat (first | assumption | exact Below.refl _ _ | apply keep_drew | apply keep_alloc)); done)); intro gB cB wB hB hgB hatB; have BB : Below W0.heap.size W0 wB := below_row hgB (by (repeat (first | assumption | exact Below.refl _ _ | apply keep_drew | apply keep_alloc))) (Below.size (B := W0.heap.size) (by (repeat (first | assumption | exact Below.refl _ _ | apply keep_drew | apply keep_alloc)))) hgA; have HB_ := Lib.hid hB; have hgBl := (hB.lt gB rfl).1; have q0_B := cell_b BB Z0.out; have q1_B := cell_b BB Z1.out; clear hB hgB hatB HA_) | (have _t := HB_; clear _t; refine step_append_ints ?_ _ _ rfl W0.heap.size gB (k + m2) cB (xs.take k ++ ys) ?_ ?_ ⟨b, o + e, none⟩ (m - e) (d - e) (xs.drop e) ?_ ?_ ?_ ?_ ?_ ?_; (focus (rfl; done)); (focus (rfl; done)); (focus ((first | exact HB_.out | exact HB_.out.kept (grown_of_below (below_drew _) none) (own_em _)); done)); (focus (rfl; done)); (focus ((first | exact HDl.out | (rw [HDl.out]; omega)); done)); (focus (refine part_at fun j y hj => ?_; rw [List.getElem?_drop] at hj; rw [Nat.add_assoc]; refine HCx.out _ ?_ (e + j) y hj; (repeat (first | assumption | exact Below.refl _ _ | apply keep_drew | apply keep_alloc)); done)); (focus (omega; done)); (focus (refine Below.size (B := W0.heap.size) ?_; (repeat (first | assumption | exact Below.refl _ _ | apply keep_drew | apply keep_alloc)); done)); intro gC cC wC hC hgC hatC; have BC : Below W0.heap.size W0 wC := below_row hgC (by (repeat (first | assumption | exact Below.refl _ _ | apply keep_drew | apply keep_alloc))) (Below.size (B := W0.heap.size) (by (repeat (first | assumption | exact Below.refl _ _ | apply keep_drew | apply keep_alloc)))) hgBl; have HC_ := Lib.hid hC; have q0_C := cell_b BC Z0.out; have q1_C := cell_b BC Z1.out; clear hC hgC hatC HB_)))
    all_goals
      go_wp2_with fail
      go_ret
      exact ⟨gC, _, cC, rfl, by (rw [List.length_append, List.length_append, HTl.out, HLy.out, HDl.out]) <;> omega, by rw [List.append_assoc] at HC_ ⊢; exact ownsRow_base HC_.out (by omega), HB.out.trans (BC.mono (by omega))⟩

end Go.Proofs.Ytplheohkecooeaa
