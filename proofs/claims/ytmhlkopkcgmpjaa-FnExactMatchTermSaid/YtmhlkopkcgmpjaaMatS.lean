/-
  Contract: spec.l3Match. Conditions: the bounds that it names.
-/
import Derived.Test.YtmhlkopkcgmpjaaMatI
import Derived.Test.YtmhlkopkcgmpjaaPushN
import Derived.Deep.RegionHeld3
namespace Go.Proofs.Ytmhlkopkcgmpjaa
open Go.RowKit
set_option linter.unusedVariables false
set_option linter.unusedSimpArgs false

theorem ownsLL_lit (w : World) (B : Nat) (hB : B ≤ w.heap.size) : OwnsLL (w.alloc (.cells #[] 25)) B (w.alloc (.cells #[] 25)).heap.size (.slice (some ⟨w.heap.size, 0, none⟩) 0 0) 0 (fun _ => none) (fun _ => 0) (fun j => ([] : List (List Int)).getD j []) := by
  refine ⟨World.ownsRow_lit (base := B) (e := 25) (size := 1) w #[] 0 hB (by decide) rfl, fun k hk => ?_, fun j hj => by omega, fun j g hj => by omega, fun i j g hi => by omega⟩
  have : w.heap.size = k := by simpa [Value.ownBlock] using hk
  simp; omega

/-- The lists so far, each with memory of its own. -/
def BoundS (w : World) (lo R cR : Nat) (F : Nat → List Int) : Prop := ∃ G C, OwnsLL w lo w.heap.size (.slice (some ⟨R, 0, none⟩) 6 cR) 6 G C F ∧ ∀ v, v < 6 → ∃ g, G v = some g

set_option maxRecDepth 100000 in
set_option maxHeartbeats 4000000 in
theorem l3Match_any (lo hi lo2 hi2 lo3 hi3 : Nat) (z : Int) (ao bo : Option Addr) (c n d m b3 o3 d3 m3 : Nat) (fs : List OpD) (ps ts : List Int) (w : World) (hv : OView w lo hi ao n fs) (hhi : hi ≤ w.heap.size) (hok : algOkB z fs = true)
    (hp : IView w lo2 hi2 bo m ps) (hhi2 : hi2 ≤ w.heap.size) (hpe : endA fs ps 0 = some ps.length) (hm : m ≤ 60)
    (ht : IView w lo3 hi3 (some ⟨b3, o3, none⟩) m3 ts) (hhi3 : hi3 ≤ w.heap.size) (hte : endA fs ts 0 = some ts.length) (hm3 : m3 ≤ 60) (hmd3 : m3 ≤ d3) (hd3 : d3 ≤ maxLen) :
    Calls Try.prog 78 #[.agg #[.int .i64 z, .slice ao n c], .slice bo m d, .slice (some ⟨b3, o3, none⟩) m3 d3] w fun e w' => ResS w w' (matV (matF fs ts ps 0 (fun _ => []))).1 (matV (matF fs ts ps 0 (fun _ => []))).2 e := by
  obtain ⟨j0, hj0, hy0_, hy1_, hy2_⟩ := info_parts Try.infoInts
  have hpl := hp.1
  have htl := ht.1
  have hB := below_alloc w (.cells #[.int .i64 z, .slice ao n c] 31)
  have HB0 := Lib.hid (below_then hB (below_alloc (w.alloc (.cells #[.int .i64 z, .slice ao n c] 31)) (.cells #[] 25)))
  have cz0 : ((w.alloc (.cells #[.int .i64 z, .slice ao n c] 31)).alloc (.cells #[] 25)).cell? ⟨w.heap.size, 0, none⟩ = some (.int .i64 z) := cell_b (below_alloc _ _) (by simp)
  have ca0 : ((w.alloc (.cells #[.int .i64 z, .slice ao n c] 31)).alloc (.cells #[] 25)).cell? ⟨w.heap.size, 1, none⟩ = some (.slice ao n c) := cell_b (below_alloc _ _) (by simp)
  have HBu0 : Hid (∃ G C, OwnsLL ((w.alloc (.cells #[.int .i64 z, .slice ao n c] 31)).alloc (.cells #[] 25)) (w.heap.size + 1) ((w.alloc (.cells #[.int .i64 z, .slice ao n c] 31)).alloc (.cells #[] 25)).heap.size (.slice (some ⟨w.heap.size + 1, 0, none⟩) 0 0) 0 G C (fun _ => ([] : List Int)) ∧ ∀ v, v < 0 → ∃ g, G v = some g) := by
    have h_ := (ownsLL_lit (w.alloc (.cells #[.int .i64 z, .slice ao n c] 31)) (w.heap.size + 1) (by simp)).congrF (F' := fun _ => []) fun j hj => by omega
    refine ⟨fun _ => none, fun _ => 0, ?_, fun v hv => by omega⟩
    simp only [World.size_alloc] at h_ ⊢
    exact h_
  obtain ⟨M, hM⟩ : ∃ M, matF fs ts ps 0 (fun _ => []) = M := ⟨_, rfl⟩
  rw [hM]
  have HM : Hid (matF fs ts (ps.drop 0) 0 (fun _ => []) = M) := by unfold Hid; rw [List.drop_zero]; exact hM
  obtain ⟨⟨ls, ok⟩, hvv⟩ : ∃ p, matV M = p := ⟨_, rfl⟩
  rw [hvv]
  have HVv := Lib.hid hvv
  have HV := Lib.hid hv
  have HP := Lib.hid hp
  have HT := Lib.hid ht
  have HOk := Lib.hid hok
  have HPe := Lib.hid hpe
  have HTe := Lib.hid hte
  have HPl := Lib.hid hpl
  have HTl := Lib.hid htl
  have HEv := Lib.hid (EvenT.start hpe hte)
  clear hv hok hp ht hpe hte hB hM hvv hpl htl
  unfold maxLen at hd3
  go_enter Try.func78, Try.ntmps78
  go_wp2_with fail
  go_loopw [8, 9] (fun v i wr => ∃ (k R cR : Nat), k ≤ 6 ∧ i = .int .i64 (k : Int) ∧ v = .slice (some ⟨R, 0, none⟩) k cR ∧ wr.cell? ⟨w.heap.size, 0, none⟩ = some (.int .i64 z) ∧ wr.cell? ⟨w.heap.size, 1, none⟩ = some (.slice ao n c) ∧ Hid (∃ G C, OwnsLL wr (w.heap.size + 1) wr.heap.size (.slice (some ⟨R, 0, none⟩) k cR) k G C (fun _ => ([] : List Int)) ∧ ∀ v, v < k → ∃ g, G v = some g) ∧ Hid (Below w.heap.size w wr)) (fun _ i _ => 6 - (intOf i).toNat)
  case atStart => exact ⟨0, _, _, Nat.zero_le _, rfl, rfl, cz0, ca0, HBu0, HB0⟩
  case round =>
    obtain ⟨k, R, cR, hk, rfl, rfl, cz, ca, HBu, HBr⟩ := hrel
    clear cz0 ca0
    by_cases hk6 : k < 6
    · have hk6' : (k : Int) < 6 := by omega
      obtain ⟨G, C, hL, hG⟩ := HBu.out
      have hlo : w.heap.size + 1 ≤ wr.heap.size := World.block_lt_of_cell? wr _ cz
      have hb1 := below_alloc wr (.cells #[] 3)
      have HO1 := Lib.hid (World.ownsRow_lit (base := wr.heap.size) (e := 3) (size := 1) wr #[] 0 (Nat.le_refl _) (by decide) rfl)
      have HRw := Lib.hid (hL.row.kept (grown_of_below hb1 none) (own_em _))
      have HL := Lib.hid hL
      have HG := Lib.hid hG
      have Hb1 := Lib.hid hb1
      have HB1 := Lib.hid (HBr.out.trans (hb1.mono HBr.out.size))
      have cz1 := cell_b hb1 cz
      have ca1 := cell_b hb1 ca
      clear hL hG hb1
      go_wp2_with (at_builtin; refine wpList_append_own _ rfl _ _ 41 rfl (w.heap.size + 1) 25 j0 (.slice none 0 0) 1 24 Try.underlying41 hj0 hy0_ hy1_ hy2_ rfl (by decide) (.slice (some ⟨R, 0, none⟩) k cR) k (flatL k G C (fun _ => ([] : List Int))) rfl (HRw.out.alloc _) ⟨wr.heap.size + 1, 0, none⟩ 1 1 [.slice (some ⟨wr.heap.size, 0, none⟩) 0 0] rfl rfl (by have h_ := cell_one_new (wr.alloc (.cells #[] 3)) (.slice (some ⟨wr.heap.size, 0, none⟩) 0 0) 25; simp only [World.size_alloc] at h_; exact h_) (fun x hx => by simp at hx; subst hx; rfl) (by unfold maxLen; omega) (by omega) (by simp; omega) ?_; intro v' w3 hown' hgrow' hnil')
      obtain ⟨g3, cap, rfl⟩ := ownsRow_succ hown'
      have HB3 := Lib.hid ((HB1.out.alloc HB1.out.size (.cells #[.slice (some ⟨wr.heap.size, 0, none⟩) 0 0] 25)).grown hgrow' (by have := HB1.out.size; simp; omega) (fun q hq => Nat.le_of_lt (HRw.out.lt q hq).1))
      have HBu3 : Hid (∃ G C, OwnsLL w3 (w.heap.size + 1) w3.heap.size (.slice (some ⟨g3, 0, none⟩) (k + 1) cap) (k + 1) G C (fun _ => ([] : List Int)) ∧ ∀ v, v < k + 1 → ∃ g, G v = some g) := by
        obtain ⟨G2, C2, h2, hG2⟩ := HL.out.pushG (g := some wr.heap.size) Hb1.out hlo rfl HO1.out hown' hgrow'
        refine ⟨G2, C2, h2, fun v hv => ?_⟩
        by_cases hvk : v = k
        · rw [hvk, hG2]; rw [upd_same]; exact ⟨_, rfl⟩
        · rw [hG2, upd_other hvk]; exact HG.out v (by omega)
      have hcl : ∀ j v, wr.cell? ⟨w.heap.size, j, none⟩ = some v → w3.cell? ⟨w.heap.size, j, none⟩ = some v := fun j v hv_ =>
        (World.cell?_of_block (hgrow'.block _ (by simp; omega) (by intro h_; have h2_ := (HRw.out.lt R rfl).1; simp [Value.ownBlock] at h_; omega))).trans (cell_b (below_alloc _ _) (cell_b (below_alloc _ _) hv_))
      have cz3 := hcl 0 _ cz
      have ca3 := hcl 1 _ ca
      clear hown' hgrow' hnil' hcl cz ca cz1 ca1
      go_wp2_with fail
      go_roundw
      case rel => exact ⟨k + 1, g3, cap, by omega, by go_num, rfl, cz3, ca3, HBu3, HB3⟩
      case measure => simp [intOf]; omega
    · obtain rfl : k = 6 := by omega
      have HBd0 : Hid (BoundS wr (w.heap.size + 1) R cR (fun _ => [])) := HBu.out
      have hR1 : w.heap.size + 1 ≤ R := by obtain ⟨G, C, hL, _⟩ := HBu.out; exact (hL.row.lt R rfl).1
      rename World => wo
      clear HBu
      rw [show ((6 : Nat) : Int) = (6 : Int) from rfl]
      go_wp2_with fail
      go_loopw [10, 11] (fun v i wr => ∃ (k at_ : Nat) (F : Nat → List Int), k ≤ m ∧ i = .int .i64 (k : Int) ∧ v = .int .i64 (at_ : Int) ∧ at_ ≤ 60 ∧ wr.cell? ⟨w.heap.size, 0, none⟩ = some (.int .i64 z) ∧ wr.cell? ⟨w.heap.size, 1, none⟩ = some (.slice ao n c) ∧ Hid (EvenT fs ps ts k at_) ∧ Hid (matF fs ts (ps.drop k) at_ F = M) ∧ Hid (∀ v, (F v).length ≤ 60) ∧ Hid (BoundS wr (w.heap.size + 1) R cR F) ∧ Hid (Below w.heap.size w wr)) (fun _ i _ => m - (intOf i).toNat)
      case atStart => exact ⟨0, 0, _, Nat.zero_le _, rfl, rfl, by omega, cz, ca, HEv, HM, fun v => Nat.zero_le _, HBd0, HBr⟩
      case round =>
        obtain ⟨k, at_, F, hk, rfl, rfl, hat60, cz, ca, HE, HMk, HBnd, HBd, HBr⟩ := hrel
        by_cases hkm : k < m
        · obtain ⟨x, hx⟩ := get_of_lt HPl.out hkm
          have hroom := HE.out.room (by rw [HPl.out]; exact hkm)
          have htl' := HTl.out
          have hatm : at_ < m3 := by omega
          have hatm' : (at_ : Int) < (m3 : Int) := by omega
          obtain ⟨bp, op, rfl, _, _, hcp⟩ := HP.out.at_ (by omega)
          have hcx : wr.cell? ⟨bp, op + k, none⟩ = some (.int .i64 x) := cell_b HBr.out (hcp k x hx)
          obtain ⟨y, hy⟩ : ∃ y, ts[at_]? = some y := ⟨_, List.getElem?_eq_getElem hroom⟩
          obtain ⟨b', o', he', _, _, hct⟩ := HT.out.at_ (by omega)
          cases he'
          have hcy : wr.cell? ⟨b3, o3 + at_, none⟩ = some (.int .i64 y) := cell_b HBr.out (hct at_ y hy)
          have hkm' : (k : Int) < (m : Int) := by omega
          have HX := Lib.hid hx
          have HY := Lib.hid hy
          obtain ⟨hx6, hxn⟩ := term_lt HOk.out HPe.out hx
          clear hcp hct hx hy htl'
          by_cases h0 : x < 0
          · by_cases hxy : y = x
            · subst hxy
              have HN : Hid (matF fs ts (ps.drop (k + 1)) (at_ + 1) F = M) := (matF_op HX.out h0 HY.out).symm.trans HMk.out
              have HE2 := Lib.hid (HE.out.op HOk.out HX.out HY.out)
              go_wp2_with fail
              go_quiet (fail)
              have czq : (wr.drewN nq).cell? ⟨w.heap.size, 0, none⟩ = some (.int .i64 z) := cz
              have caq : (wr.drewN nq).cell? ⟨w.heap.size, 1, none⟩ = some (.slice ao n c) := ca
              have HBq := Lib.hid (below_drewN HBr.out nq)
              have HBdq : Hid (BoundS (wr.drewN nq) (w.heap.size + 1) R cR F) := by
                obtain ⟨G, C, hO, hG⟩ := HBd.out
                exact ⟨G, C, hO.kept (Kept.drewN wr nq), hG⟩
              go_wp2_with fail
              go_roundw
              case rel => exact ⟨k + 1, at_ + 1, F, by omega, by go_num, by go_num, by omega, czq, caq, HE2, HN, HBnd, HBdq, HBq⟩
              case measure => simp [intOf]; omega
            · have hne : (y != x) = true := by simp [hxy]
              have HN : Hid (M = none) := HMk.out.symm.trans (matF_op_no HX.out h0 (by rw [HY.out]; intro h_; injection h_ with h_; exact hxy h_))
              have HEq : Hid ((ls, ok) = (([] : List (List Int)), false)) := by unfold Hid; rw [← HVv.out, HN.out]; rfl
              clear hxy
              go_wp2_with fail
              go_quiet (fail)
              have HBq := Lib.hid (below_drewN HBr.out nq)
              obtain ⟨wq, hwq⟩ : ∃ wq, wq = wr.drewN nq := ⟨_, rfl⟩
              rw [← hwq] at HBq ⊢
              clear hwq
              go_wp2_with fail
              go_ret2
              obtain ⟨rfl, rfl⟩ : ls = [] ∧ ok = false := by
                have h_ := HEq.out
                injection h_ with h1_ h2_
                exact ⟨h1_, h2_⟩
              unfold ResS
              exact ⟨_, 0, 0, _, _, rfl, rfl, ownsLL_lit wq w.heap.size HBq.out.size, HBq.out.alloc HBq.out.size _⟩
          · obtain ⟨v, rfl⟩ : ∃ v : Nat, x = (v : Int) := ⟨x.toNat, by omega⟩
            have hv6 : v < 6 := by omega
            obtain ⟨e, he, hae, hel⟩ := term_sub HOk.out HTe.out hroom
            have hem : e ≤ m3 := by have := HTl.out; omega
            have hend := fun W (hb : Below wr.heap.size wr W) => l3End_any lo hi lo3 hi3 z ao (some ⟨b3, o3, none⟩) c n d3 m3 fs ts at_ W ((HV.out.kept (Kept.of_below HBr.out hhi)).kept (Kept.of_below hb (Nat.le_trans hhi HBr.out.size))) (Nat.le_trans (Nat.le_trans hhi HBr.out.size) hb.size) HOk.out ((HT.out.kept (Kept.of_below HBr.out hhi3)).kept (Kept.of_below hb (Nat.le_trans hhi3 HBr.out.size))) (Nat.le_trans (Nat.le_trans hhi3 HBr.out.size) hb.size) hm3 (by omega)
            rw [he] at hend
            have HEnd := Lib.hid (fun W hb => (show Calls Try.prog 106 #[.agg #[.int .i64 z, .slice ao n c], .slice (some ⟨b3, o3, none⟩) m3 d3, .int .i64 (at_ : Int)] W fun e' w' => e' = .returned (.int .i64 (e : Int)) ∧ Below W.heap.size W w' from hend W hb))
            obtain ⟨P, hP⟩ : ∃ P, subA fs ts at_ = P := ⟨_, rfl⟩
            have hpart := HT.out.part hae hem
            have hpe2 : (ts.take e).drop at_ = P := by rw [← hP]; unfold subA; rw [he]; rfl
            rw [hpe2] at hpart
            have HPart := Lib.hid hpart
            have HPl3 : Hid (e - at_ = P.length) := hpart.1.symm
            have HP_ := Lib.hid hP
            have HE2 := Lib.hid (HE.out.var HOk.out HX.out he)
            have h0' : ¬ (v : Int) < 0 := h0
            have hae1 : (at_ : Int) ≤ (e : Int) := by omega
            have hae2 : (e : Int) ≤ (d3 : Int) := by omega
            have hdn : ¬ d3 = at_ := by omega
            obtain ⟨G, C, hO, hG⟩ := HBd.out
            have HO := Lib.hid hO
            have HG := Lib.hid hG
            clear hend hP hpart hpe2 he h0 hO hG hae2
            have hae2 : (e : Int) ≤ (d3 : Int) := by omega
            go_wp2_with fail
            refine wp_region_noPanic ?_
            refine wp_region_held_drew (S := fun W => W.cell? ⟨w.heap.size, 0, none⟩ = some (.int .i64 z) ∧ W.cell? ⟨w.heap.size, 1, none⟩ = some (.slice ao n c) ∧ W.cell? ⟨bp, op + k, none⟩ = some (.int .i64 (v : Int))) (by kernel_rfl) ?_ (fun hHeld => ?_)
            · exact ⟨cz, ca, hcx⟩
            refine wpAnyH_take (i := 0) (oi := ⟨_, _, _, _, _, _⟩) (v := ?_) rfl (by kernel_rfl) (by kernel_rfl) (by kernel_rfl) (fun _ _ _ h => h) (Or.inl ⟨rfl, ?_⟩) (by assumption) ?_
            rotate_left 1
            · intro w_ hSw; (try dsimp only at hSw); go_simp; (try with_reducible rfl)
            (try simp only [Act.put, List.setIfInBounds_toArray, List.set_cons_zero, List.set_cons_succ])
            refine wpAnyH_take (i := 1) (oi := ⟨_, _, _, _, _, _⟩) (v := ?_) rfl (by kernel_rfl) (by kernel_rfl) (by kernel_rfl) (fun _ _ _ h => h) (Or.inl ⟨rfl, ?_⟩) (by assumption) ?_
            rotate_left 1
            · intro w_ hSw; (try dsimp only at hSw); go_simp; (try with_reducible rfl)
            (try simp only [Act.put, List.setIfInBounds_toArray, List.set_cons_zero, List.set_cons_succ])
            refine wpAnyH_take (i := 2) (oi := ⟨_, _, _, _, _, _⟩) (v := ?_) rfl (by kernel_rfl) (by kernel_rfl) (by kernel_rfl) (fun _ _ _ h => h) (Or.inl ⟨rfl, ?_⟩) (by assumption) ?_
            rotate_left 1
            · intro w_ hSw; (try dsimp only at hSw); go_simp; (try with_reducible rfl)
            (try simp only [Act.put, List.setIfInBounds_toArray, List.set_cons_zero, List.set_cons_succ])
            refine wpAnyH_take (i := 3) (oi := ⟨_, _, _, _, _, _⟩) (v := ?_) rfl (by kernel_rfl) (by kernel_rfl) (by kernel_rfl) (fun _ _ _ h => h) (Or.inl ⟨rfl, ?_⟩) (by assumption) ?_
            rotate_left 1
            · intro w_ hSw; (try dsimp only at hSw); go_simp; (try with_reducible rfl)
            (try simp only [Act.put, List.setIfInBounds_toArray, List.set_cons_zero, List.set_cons_succ])
            refine wpAnyH_take (i := 4) (oi := ⟨_, _, _, _, _, _⟩) (v := ?_) rfl (by kernel_rfl) (by kernel_rfl) (by kernel_rfl) (fun _ _ _ h => h) (Or.inl ⟨rfl, ?_⟩) (by assumption) ?_
            rotate_left 1
            · intro w_ hSw; (try dsimp only at hSw); go_simp; (try with_reducible rfl)
            (try simp only [Act.put, List.setIfInBounds_toArray, List.set_cons_zero, List.set_cons_succ])
            refine wpAnyH_take (i := 8) (oi := ⟨_, _, _, _, _, _⟩) (v := ?_) rfl (by kernel_rfl) (by kernel_rfl) (by kernel_rfl) (fun _ _ _ h => h) (Or.inl ⟨rfl, ?_⟩) (by assumption) ?_
            rotate_left 1
            · intro w_ hSw; (try dsimp only at hSw); go_simp; (try with_reducible rfl)
            (try simp only [Act.put, List.setIfInBounds_toArray, List.set_cons_zero, List.set_cons_succ])
            refine wpAnyH_take (i := 9) (oi := ⟨_, _, _, _, _, _⟩) (v := ?_) rfl (by kernel_rfl) (by kernel_rfl) (by kernel_rfl) (fun _ _ _ h => h) (Or.inl ⟨rfl, ?_⟩) (by assumption) ?_
            rotate_left 1
            · intro w_ hSw; (try dsimp only at hSw); go_simp; (try with_reducible rfl)
            (try simp only [Act.put, List.setIfInBounds_toArray, List.set_cons_zero, List.set_cons_succ])
            refine wpAnyH_take (i := 10) (oi := ⟨_, _, _, _, _, _⟩) (v := ?_) rfl (by kernel_rfl) (by kernel_rfl) (by kernel_rfl) (fun _ _ _ h => h) (Or.inl ⟨rfl, ?_⟩) (by assumption) ?_
            rotate_left 1
            · intro w_ hSw; (try dsimp only at hSw); go_simp; (try with_reducible rfl)
            (try simp only [Act.put, List.setIfInBounds_toArray, List.set_cons_zero, List.set_cons_succ])
            refine wpAnyH_take (i := 11) (oi := ⟨_, _, _, _, _, _⟩) (v := ?_) rfl (by kernel_rfl) (by kernel_rfl) (by kernel_rfl) (fun _ _ _ h => h) (Or.inl ⟨rfl, ?_⟩) (by assumption) ?_
            rotate_left 1
            · intro w_ hSw; (try dsimp only at hSw); go_simp; (try with_reducible rfl)
            (try simp only [Act.put, List.setIfInBounds_toArray, List.set_cons_zero, List.set_cons_succ])
            refine wpAnyH_ready (rs := [5]) (by kernel_rfl) (by simp) ?_
            refine AllReadyH.cons (o := ⟨_, _, _, _, _, _⟩) rfl (fun K hK => ?_) AllReadyH.nil
            go_simp
            go_at_call 106
            refine (HEnd.out _ (below_drew wr)).mono ?_
            rintro e_ w2 ⟨rfl, b2⟩
            have bD := below_then (below_drew wr) b2
            have HB2 := Lib.hid (HBr.out.trans (bD.mono HBr.out.size))
            have hbD := Lib.hid bD
            have cz2 := cell_b bD cz
            have ca2 := cell_b bD ca
            have cx2 := cell_b bD hcx
            have HOwn := Lib.hid (own_ints lo3 hi3 (some ⟨b3, o3 + at_, none⟩) (e - at_) (d3 - at_) P w2 (HPart.out.kept (Kept.of_below HB2.out hhi3)) (by omega) (by omega))
            clear b2 bD
            go_wp2_with fail
            refine hK.out _ _ ?_ (fun hHeld => ?_)
            · exact ⟨cz2, ca2, cx2⟩
            clear hK K
            (try simp only [Act.put, List.setIfInBounds_toArray, List.set_cons_zero, List.set_cons_succ])
            refine wpAnyH_take (i := 6) (oi := ⟨_, _, _, _, _, _⟩) (v := ?_) rfl (by kernel_rfl) (by kernel_rfl) (by kernel_rfl) (fun _ _ _ h => h) (Or.inl ⟨rfl, ?_⟩) (by assumption) ?_
            rotate_left 1
            · intro w_ hSw; (try dsimp only at hSw); go_simp; (try with_reducible rfl)
            (try simp only [Act.put, List.setIfInBounds_toArray, List.set_cons_zero, List.set_cons_succ])
            refine wpAnyH_ready (rs := [7]) (by kernel_rfl) (by simp) ?_
            refine AllReadyH.cons (o := ⟨_, _, _, _, _, _⟩) rfl (fun K hK => ?_) AllReadyH.nil
            go_simp
            go_at_call 67
            refine HOwn.out.mono ?_
            rintro e_ w3 ⟨g3, c3, rfl, ho3, b3_⟩
            have HB3 := Lib.hid (HB2.out.trans (b3_.mono HB2.out.size))
            have hb3 := Lib.hid b3_
            have cz3 := cell_b b3_ cz2
            have ca3 := cell_b b3_ ca2
            have cx3 := cell_b b3_ cx2
            have HO3 := Lib.hid ho3
            clear ho3 b3_
            go_wp2_with fail
            refine hK.out _ _ ?_ (fun hHeld => ?_)
            · exact ⟨cz3, ca3, cx3⟩
            clear hK K
            (try simp only [Act.put, List.setIfInBounds_toArray, List.set_cons_zero, List.set_cons_succ])
            refine wpAnyH_take (i := 12) (oi := ⟨_, _, _, _, _, _⟩) (v := ?_) rfl (by kernel_rfl) (by kernel_rfl) (by kernel_rfl) (fun _ _ _ h => h) (Or.inl ⟨rfl, ?_⟩) (by assumption) ?_
            rotate_left 1
            · intro w_ hSw; (try dsimp only at hSw); go_simp; (try with_reducible rfl)
            (try simp only [Act.put, List.setIfInBounds_toArray, List.set_cons_zero, List.set_cons_succ])
            refine wpAnyH_take (i := 13) (oi := ⟨_, _, _, _, _, _⟩) (v := ?_) rfl (by kernel_rfl) (by kernel_rfl) (by kernel_rfl) (fun _ _ _ h => h) (Or.inl ⟨rfl, ?_⟩) (by assumption) ?_
            rotate_left 1
            · intro w_ hSw; (try dsimp only at hSw); go_simp; (try with_reducible rfl)
            (try simp only [Act.put, List.setIfInBounds_toArray, List.set_cons_zero, List.set_cons_succ])
            refine wpAnyH_done (by kernel_rfl) ?_ _
            refine NoPanic.normal ?_
            have hO3 := ((HO.out.kept (Kept.of_below hbD.out (Nat.le_refl _))).kept (Kept.of_below hb3.out hbD.out.size))
            have hcv : w3.cell? ⟨R, v, none⟩ = some (.slice (addrO (G v)) (F v).length (C v)) := by
              rw [hO3.row.cellAt v (by omega)]; exact flatL_get hv6
            obtain ⟨g, hgv⟩ := HG.out v hv6
            rw [hgv] at hcv
            have hcv2 : w3.cell? ⟨R, v, none⟩ = some (.slice (some ⟨g, 0, none⟩) (F v).length (C v)) := hcv
            have hone := hO3.one hv6
            rw [hgv] at hone
            have hlv60 := HBnd.out v
            obtain ⟨lv, hlv⟩ : ∃ lv, (F v).length = lv := ⟨_, rfl⟩
            rw [hlv] at hcv2 hone hlv60
            have HSame := Lib.hid (l1Same_any (w.heap.size + 1) wr.heap.size w2.heap.size w3.heap.size (some ⟨g, 0, none⟩) (some ⟨g3, 0, none⟩) (C v) lv c3 (e - at_) (F v) P w3 hone.view (OwnsInts.of_row HO3.out).view (by unfold maxLen; omega) (by unfold maxLen; omega))
            have HLv := Lib.hid hlv
            clear hcv hgv hone hlv
            have hRne : R ≠ w.heap.size := by omega
            have HE3 : Hid (EvenT fs ps ts (k + 1) (at_ + (e - at_))) := by unfold Hid; rw [show at_ + (e - at_) = e by omega]; exact HE2.out
            have hsum : Hid (at_ + (e - at_) ≤ 60) := by unfold Hid; omega
            obtain ⟨L, hL⟩ : ∃ L, e - at_ = L := ⟨_, rfl⟩
            rw [hL] at HO3 HSame HPl3 HE3 hsum ⊢
            have hL60 : L ≤ 60 := by omega
            have hL0 : 0 < L := by omega
            clear hL hae hae1 hae2
            by_cases hl0 : lv = 0
            · subst hl0
              have HFv : Hid (F v = []) := List.eq_nil_of_length_eq_zero HLv.out
              have HN : Hid (matF fs ts (ps.drop (k + 1)) (at_ + L) (upd F v P) = M) := by
                unfold Hid
                rw [← HMk.out, matF_var HX.out (.inl HFv.out), HP_.out, HPl3.out]
              have hput := hO3.put (g := some g3) (hi' := w3.heap.size) hv6 (ownsRow_base HO3.out (World.block_lt_of_cell? w2 _ cz2)) HPl3.out (fun b hb => by cases hb; have h1_ := (HO3.out.lt g3 rfl); have h2_ := hbD.out.size; exact ⟨by omega, h1_.2⟩) (by have h2_ := hbD.out.size; have h3_ := hb3.out.size; omega)
              have f0 := hO3.row.frozenAt v
              obtain ⟨u0, o0⟩ : ∃ u, w3.cell? ⟨R, v, none⟩ = some u := by
                rw [hO3.row.cellAt v (by omega)]; exact ⟨_, flatL_get hv6⟩
              have HPut := Lib.hid hput.1
              have hs4 : (w3.setCell ⟨R, v, none⟩ (.slice (addrO (some g3)) L c3)).heap.size = w3.heap.size := by simp [World.setCell]
              have HBd4 : Hid (BoundS (w3.setCell ⟨R, v, none⟩ (.slice (some ⟨g3, 0, none⟩) L c3)) (w.heap.size + 1) R cR (upd F v P)) := by
                refine ⟨_, _, by rw [show (w3.setCell ⟨R, v, none⟩ (.slice (some ⟨g3, 0, none⟩) L c3)).heap.size = w3.heap.size from hs4]; exact HPut.out, fun u hu => ?_⟩
                by_cases huv : u = v
                · subst huv
                  rw [upd_same]; exact ⟨_, rfl⟩
                · rw [upd_other huv]; exact HG.out u hu
              have hRne : R ≠ w.heap.size := by omega
              have cz4 : Hid ((w3.setCell ⟨R, v, none⟩ (.slice (some ⟨g3, 0, none⟩) L c3)).cell? ⟨w.heap.size, 0, none⟩ = some (.int .i64 z)) := keepS cz3 (by show R ≠ w.heap.size; omega)
              have ca4 : Hid ((w3.setCell ⟨R, v, none⟩ (.slice (some ⟨g3, 0, none⟩) L c3)).cell? ⟨w.heap.size, 1, none⟩ = some (.slice ao n c)) := keepS ca3 (by show R ≠ w.heap.size; omega)
              have HB4 : Hid (Below w.heap.size w (w3.setCell ⟨R, v, none⟩ (.slice (some ⟨g3, 0, none⟩) L c3))) := HB3.out.setCell (by show w.heap.size ≤ R; omega) _
              have HBnd4 : Hid (∀ u, (upd F v P u).length ≤ 60) := fun u => by
                by_cases huv : u = v
                · subst huv; rw [upd_same]; have h1_ := HPl3.out; omega
                · rw [upd_other huv]; exact HBnd.out u
              clear hput hs4
              go_wp2_with fail
              go_roundw
              case rel => exact ⟨k + 1, at_ + L, upd F v P, by omega, by go_num, by go_num, hsum.out, cz4.out, ca4.out, HE3.out, HN.out, HBnd4, HBd4, HB4⟩
              case measure => simp [intOf]; omega
            · have hlvp : (0 : Int) < (lv : Int) := by omega
              have HFne : Hid (F v ≠ []) := fun h_ => by have h1_ := HLv.out; rw [h_] at h1_; exact hl0 h1_.symm
              by_cases hFP : F v = P
              · have hs_ := HSame.out
                rw [decide_eq_true hFP] at hs_
                have HS1 := Lib.hid hs_
                have HN : Hid (matF fs ts (ps.drop (k + 1)) (at_ + L) (upd F v P) = M) := by
                  unfold Hid
                  have h_ := matF_var (fs := fs) (t := ts) (at_ := at_) (F := F) HX.out (.inr (by rw [HP_.out]; exact hFP))
                  rw [HP_.out, ← HPl3.out] at h_
                  rw [← h_]; exact HMk.out
                clear hs_ hFP hl0
                go_wp2_with fail
                refine HS1.out.mono ?_
                rintro e_ w9 ⟨rfl, q9, rfl⟩
                have HB9 := Lib.hid (below_drewN HB3.out q9)
                have cz9 : (w3.drewN q9).cell? ⟨w.heap.size, 0, none⟩ = some (.int .i64 z) := cz3
                have ca9 : (w3.drewN q9).cell? ⟨w.heap.size, 1, none⟩ = some (.slice ao n c) := ca3
                have HO9 : Hid ((w3.drewN q9).ownsRow w2.heap.size 3 1 (.slice (some ⟨g3, 0, none⟩) L c3) L (P.map (Value.int .i64))) := HO3.out.kept (grown_of_below (below_drewN (Below.refl _ _) q9) none) (own_em _)
                have hO9 := hO3.kept (Kept.drewN w3 q9)
                have hb9 : Hid (w3.heap.size = (w3.drewN q9).heap.size) := rfl
                obtain ⟨w9, hw9⟩ : ∃ w9, w9 = w3.drewN q9 := ⟨_, rfl⟩
                rw [← hw9] at HB9 cz9 ca9 HO9 hO9 hb9 ⊢
                clear hw9 cz3 ca3 HO3 hO3
                have hput := hO9.put (g := some g3) (hi' := w9.heap.size) hv6 (ownsRow_base HO9.out (World.block_lt_of_cell? w2 _ cz2)) HPl3.out (fun b hb => by cases hb; have h1_ := (HO9.out.lt g3 rfl); have h2_ := hbD.out.size; have h4_ := hb9.out; exact ⟨by omega, h1_.2⟩) (by have h2_ := hbD.out.size; have h3_ := hb3.out.size; have h4_ := hb9.out; omega)
                have f0 := hO9.row.frozenAt v
                obtain ⟨u0, o0⟩ : ∃ u, w9.cell? ⟨R, v, none⟩ = some u := by
                  rw [hO9.row.cellAt v (by omega)]; exact ⟨_, flatL_get hv6⟩
                have HPut := Lib.hid hput.1
                have hs4 : (w9.setCell ⟨R, v, none⟩ (.slice (addrO (some g3)) L c3)).heap.size = w9.heap.size := by simp [World.setCell]
                have HBd4 : Hid (BoundS (w9.setCell ⟨R, v, none⟩ (.slice (some ⟨g3, 0, none⟩) L c3)) (w.heap.size + 1) R cR (upd F v P)) := by
                  refine ⟨_, _, by rw [show (w9.setCell ⟨R, v, none⟩ (.slice (some ⟨g3, 0, none⟩) L c3)).heap.size = w9.heap.size from hs4]; exact HPut.out, fun u hu => ?_⟩
                  by_cases huv : u = v
                  · subst huv
                    rw [upd_same]; exact ⟨_, rfl⟩
                  · rw [upd_other huv]; exact HG.out u hu
                have hRne : R ≠ w.heap.size := by omega
                have cz4 : Hid ((w9.setCell ⟨R, v, none⟩ (.slice (some ⟨g3, 0, none⟩) L c3)).cell? ⟨w.heap.size, 0, none⟩ = some (.int .i64 z)) := keepS cz9 (by show R ≠ w.heap.size; omega)
                have ca4 : Hid ((w9.setCell ⟨R, v, none⟩ (.slice (some ⟨g3, 0, none⟩) L c3)).cell? ⟨w.heap.size, 1, none⟩ = some (.slice ao n c)) := keepS ca9 (by show R ≠ w.heap.size; omega)
                have HB4 : Hid (Below w.heap.size w (w9.setCell ⟨R, v, none⟩ (.slice (some ⟨g3, 0, none⟩) L c3))) := HB9.out.setCell (by show w.heap.size ≤ R; omega) _
                have HBnd4 : Hid (∀ u, (upd F v P u).length ≤ 60) := fun u => by
                  by_cases huv : u = v
                  · subst huv; rw [upd_same]; have h1_ := HPl3.out; omega
                  · rw [upd_other huv]; exact HBnd.out u
                clear hput hs4
                go_wp2_with fail
                go_roundw
                case rel => exact ⟨k + 1, at_ + L, upd F v P, by omega, by go_num, by go_num, hsum.out, cz4.out, ca4.out, HE3.out, HN.out, HBnd4, HBd4, HB4⟩
                case measure => simp [intOf]; omega
              · have hs_ := HSame.out
                rw [decide_eq_false hFP] at hs_
                have HS1 := Lib.hid hs_
                have HN : Hid (M = none) := HMk.out.symm.trans (matF_var_no HX.out (by rw [HP_.out]; rintro (h_ | h_); exact HFne.out h_; exact hFP h_))
                have HEq : Hid ((ls, ok) = (([] : List (List Int)), false)) := by unfold Hid; rw [← HVv.out, HN.out]; rfl
                clear hs_ hFP hl0
                go_wp2_with fail
                refine HS1.out.mono ?_
                rintro e_ w9 ⟨rfl, q9, rfl⟩
                have HB9 := Lib.hid (below_drewN HB3.out q9)
                obtain ⟨w9, hw9⟩ : ∃ w9, w9 = w3.drewN q9 := ⟨_, rfl⟩
                rw [← hw9] at HB9 ⊢
                clear hw9
                go_wp2_with fail
                go_ret2
                obtain ⟨rfl, rfl⟩ : ls = [] ∧ ok = false := by
                  have h_ := HEq.out
                  injection h_ with h1_ h2_
                  exact ⟨h1_, h2_⟩
                unfold ResS
                exact ⟨_, 0, 0, _, _, rfl, rfl, ownsLL_lit w9 w.heap.size HB9.out.size, HB9.out.alloc HB9.out.size _⟩
        · have hkm' : ¬ (k : Int) < (m : Int) := by omega
          have HN : Hid (M = some (at_, F)) := HMk.out.symm.trans (matF_end (by have := HPl.out; omega))
          have hatm : at_ = m3 := by
            rcases HE.out with ⟨_, h_⟩ | ⟨μ, h0_, h1_, _⟩
            · have := HTl.out; omega
            · have h2_ := HPl.out
              rw [endN_stop (by omega)] at h1_; cases h1_
          have HEq : Hid ((ls, ok) = ((List.range 6).map F, true)) := by unfold Hid; rw [← HVv.out, HN.out]; rfl
          subst hatm
          go_wp2_with fail
          go_ret2
          obtain ⟨rfl, rfl⟩ : ls = (List.range 6).map F ∧ ok = true := by
            have h_ := HEq.out
            injection h_ with h1_ h2_
            exact ⟨h1_, h2_⟩
          obtain ⟨G, C, hO, _⟩ := HBd.out
          unfold ResS
          exact ⟨some ⟨R, 0, none⟩, 6, cR, G, C, by simp, by simp, (hO.lo_mono (Nat.le_succ _)).congrF fun j hj => (ls_get hj).symm, HBr.out⟩

end Go.Proofs.Ytmhlkopkcgmpjaa
