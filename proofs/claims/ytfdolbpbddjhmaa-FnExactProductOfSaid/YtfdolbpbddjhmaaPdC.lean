/-
  Contracts: spec.l8Product and spec.ProductOf. Conditions: the bounds that each theorem names.
-/
import Derived.Test.YtfdolbpbddjhmaaPdB
import Derived.Test.YtfdolbpbddjhmaaTwoS
import Derived.Test.YtfdolbpbddjhmaaIdxV
namespace Go.Proofs.Ytfdolbpbddjhmaa
open Go.RowKit
set_option linter.unusedVariables false
set_option linter.unusedSimpArgs false

/-- An algebra in new memory. -/
def NewAlgP (w w' : World) (z : Int) (fs : List OpD) (e : Ending) : Prop := ∃ a n c G C, e = .returned (.agg #[.int .i64 z, .slice a n c]) ∧ n = fs.length ∧ OwnsOps w' w.heap.size w'.heap.size (.slice a n c) n G C (fun j => fs.getD j (0, [])) ∧ Below w.heap.size w w'

/-- A block of another type is not the row's. -/
theorem row_block {w : World} {B lo e s n : Nat} {T : TypeId} {v : Value} {xs : List Value} {cs : Array Value} {fr : Nat × Nat} (h : w.ownsRow lo e s v n xs) (hB : w.heap[B]? = some (.cells cs T fr)) (hT : (e == T) = false) : v.ownBlock ≠ some B := by
  rcases h.2 with ⟨h1, _⟩ | ⟨g, cap, cur, h1, _, hg, _⟩
  · subst h1; simp [Value.ownBlock]
  · subst h1
    intro e1
    have e2 : g = B := by simpa [Value.ownBlock] using e1
    subst e2
    rw [hB] at hg
    injection hg with hg
    injection hg with _ hg _
    subst hg
    simp at hT
theorem ownsRow_setBox {w : World} {B lo e s n j : Nat} {T : TypeId} {v u : Value} {xs : List Value} {cs : Array Value} {fr : Nat × Nat} (h : w.ownsRow lo e s v n xs) (hB : w.heap[B]? = some (.cells cs T fr)) (hT : (e == T) = false) : (w.setCell ⟨B, j, none⟩ u).ownsRow lo e s v n xs :=
  h.kept (grownBy_setFar w ⟨B, j, none⟩ u) (.inr (row_block h hB hT))
theorem Built.setBox {w : World} {B lo k j : Nat} {v u : Value} {F : Nat → OpD} {cs : Array Value} (h : Built w lo v k F) (hB : w.heap[B]? = some (.cells cs 28 (0, 0))) : Built (w.setCell ⟨B, j, none⟩ u) lo v k F := by
  obtain ⟨G, C, ht, hr⟩ := h
  exact ⟨G, C, ⟨fun i hi => ownsRow_setBox (ht.tab i hi) hB (by decide), ht.inj⟩, ownsRow_setBox hr hB (by decide)⟩
theorem lit_row (w : World) (B : Nat) (e : TypeId) (s : Nat) (hs : 0 < s) (hB : B ≤ w.heap.size) : (w.alloc (.cells #[] e)).ownsRow B e s (.slice (some ⟨w.heap.size, 0, none⟩) 0 0) 0 [] :=
  World.ownsRow_lit (base := B) (e := e) (size := s) w #[] 0 hB (by decide) (by simp)
theorem Built.lit (w : World) (B : Nat) (hB : B ≤ w.heap.size) (F : Nat → OpD) : Built (w.alloc (.cells #[] 64)) B (.slice (some ⟨w.heap.size, 0, none⟩) 0 0) 0 F :=
  ⟨fun _ => 0, fun _ => 0, OwnsTabs.nil _ _ _ _ _, lit_row w B 64 2 (by decide) hB⟩

set_option maxRecDepth 100000 in
set_option maxHeartbeats 8000000 in
theorem l8Prod_any (lo hi : Nat) (z : Int) (ao : Option Addr) (c n : Nat) (fs : List OpD) (lo2 hi2 : Nat) (y : Int) (bo : Option Addr) (d m : Nat) (gs : List OpD) (w : World) (hv : OView w lo hi ao n fs) (hhi : hi ≤ w.heap.size) (hu : OView w lo2 hi2 bo m gs) (hhi2 : hi2 ≤ w.heap.size) (hok : algOkB z fs = true) (hok2 : algOkB y gs = true) (hty : fs.map (·.1) = gs.map (·.1)) (h8 : z * y ≤ 8) :
    Calls Try.prog 54 #[.agg #[.int .i64 z, .slice ao n c], .agg #[.int .i64 y, .slice bo m d]] w fun e w' => NewAlgP w w' (z * y) (prdL z y fs gs) e := by
  obtain ⟨⟨z1, z8⟩, hn4_, hall⟩ := algOkB_of hok
  obtain ⟨⟨y1, y8⟩, hm4_, hall2⟩ := algOkB_of hok2
  have hp1 := mul_size z1 y1
  have hl1 := hv.1
  have hl2 := hu.1
  have hnm : n = m := by have := type_len hty; omega
  have hn4 : n ≤ 4 := by omega
  obtain ⟨wB, hwB, hbx, hszB⟩ := bx2_new w z ao n c y bo m d 28
  obtain ⟨wR, hwR⟩ : ∃ wR : World, wR = wB.alloc (.cells #[.int .i64 0, .slice none 0 0] 28) := ⟨_, rfl⟩
  have hsR : wR.heap.size = w.heap.size + 1 + 1 + 1 := by rw [hwR]; simp [hszB]
  obtain ⟨wE, hwE⟩ : ∃ wE : World, wE = wR.alloc (.cells #[] 64) := ⟨_, rfl⟩
  have hsE : wE.heap.size = w.heap.size + 1 + 1 + 1 + 1 := by rw [hwE]; simp [hsR]
  obtain ⟨wO, hwO⟩ : ∃ wO : World, wO = wE.alloc (.cells #[.int .i64 (z * y), .slice (some ⟨w.heap.size + 1 + 1 + 1, 0, none⟩) 0 0] 28) := ⟨_, rfl⟩
  have hsO : wO.heap.size = w.heap.size + 1 + 1 + 1 + 1 + 1 := by rw [hwO]; simp [hsE]
  have bRE : Below wR.heap.size wR wE := by rw [hwE]; exact below_alloc _ _
  have bEO : Below wE.heap.size wE wO := by rw [hwO]; exact below_alloc _ _
  have bBR : Below wB.heap.size wB wR := by rw [hwR]; exact below_alloc _ _
  have HBx0 := Lib.hid ((hbx.below bBR).below (below_then bRE bEO))
  obtain ⟨F, hF⟩ : ∃ F : Nat → OpD, F = fun j => prO z y (fs.getD j (0, [])) (gs.getD j (0, [])) := ⟨_, rfl⟩
  have HBu0 : Hid (Built wO (w.heap.size + 1 + 1 + 1) (.slice (some ⟨w.heap.size + 1 + 1 + 1, 0, none⟩) 0 0) 0 F) := by
    have h := Built.lit wR (w.heap.size + 1 + 1 + 1) (by omega) F
    rw [← hwE, hsR] at h
    exact h.below bEO
  have HR0 : Hid (wO.heap[w.heap.size + 1 + 1]? = some (.cells #[.int .i64 0, .slice none 0 0] 28 (0, 0))) := by
    have h := heap_alloc_new wB (.cells #[.int .i64 0, .slice none 0 0] 28)
    rw [hszB, ← hwR] at h
    exact (bEO.block _ (by omega)).trans ((bRE.block _ (by omega)).trans h)
  have HO0 : Hid (wO.heap[w.heap.size + 1 + 1 + 1 + 1]? = some (.cells #[.int .i64 (z * y), .slice (some ⟨w.heap.size + 1 + 1 + 1, 0, none⟩) 0 0] 28)) := by
    have h := heap_alloc_new wE (.cells #[.int .i64 (z * y), .slice (some ⟨w.heap.size + 1 + 1 + 1, 0, none⟩) 0 0] 28)
    rw [hsE, ← hwO] at h
    exact h
  have HFk := Lib.hid (fun (k : Nat) (f g : OpD) (hf : fs[k]? = some f) (hg : gs[k]? = some g) => show F k = prO z y f g by rw [hF]; dsimp only; rw [List.getD_eq_getElem?_getD, List.getD_eq_getElem?_getD, hf, hg]; rfl)
  have HFf := Lib.hid (fun (j : Nat) (hj : j < fs.length) => show F j = (prdL z y fs gs).getD j (0, []) by
    have hf : fs[j]? = some (fs[j]'hj) := List.getElem?_eq_getElem hj
    have hg : gs[j]? = some (gs[j]'(by have := type_len hty; omega)) := List.getElem?_eq_getElem _
    rw [HFk.out j _ _ hf hg, List.getD_eq_getElem?_getD, prdL_get hf hg]; rfl)
  have HV := Lib.hid hv
  have HU := Lib.hid hu
  have HAl := Lib.hid hall
  have HAl2 := Lib.hid hall2
  have HOk := Lib.hid hok
  have HOk2 := Lib.hid hok2
  have HTy := Lib.hid hty
  have HLr := Lib.hid (prdL_len (z := z) (y := y) hty)
  obtain ⟨i0, hi0, hz0, hz1, hz2⟩ := info_parts Try.infoOp
  obtain ⟨j0, hj0, hy0_, hy1, hy2⟩ := info_parts Try.infoInt
  have HNM := Lib.hid hnm
  obtain ⟨cz, ca, cz1, ca1, cB⟩ := HBx0.out
  obtain ⟨az, aa, az1, aa1, aB⟩ := hbx
  have bBz := cell_b bBR az
  have bBz1 := cell_b bBR az1
  clear hv hu hok hok2 hall hall2 hty hF hn4_ hm4_ hl1 hl2 hnm cB aB bRE bEO bBR
  go_enter Try.func54, Try.ntmps54
  go_wp2_with fail
  rw [← hwB]
  rw [← hwR]
  go_wp2_with fail
  rw [← hwE]
  rw [← hwO]
  clear hwB hwR hwE hwO az aa az1 aa1 bBz bBz1 hsR hsE hszB
  go_wp2_with fail
  go_loopw [6, 7, 8, 9, 10, 11, 12] (fun i s7 s8 s9 s10 s11 s12 wr => ∃ (k : Nat) (v : Value), k ≤ n ∧ i = .int .i64 (k : Int) ∧ Hid (Built wr (w.heap.size + 1 + 1 + 1) v k F) ∧ Hid (wr.heap[w.heap.size + 1 + 1 + 1 + 1]? = some (.cells #[.int .i64 (z * y), v] 28 (0, 0))) ∧ Hid (wr.heap[w.heap.size + 1 + 1]? = some (.cells #[.int .i64 0, .slice none 0 0] 28 (0, 0))) ∧ Hid (Bx2 w wr z ao n c y bo m d) ∧ w.heap.size + 1 + 1 + 1 + 1 < wr.heap.size) (fun i _ _ _ _ _ _ _ => n - (intOf i).toNat)
  case atStart => exact ⟨0, _, Nat.zero_le _, rfl, HBu0, HO0, HR0, HBx0, by omega⟩
  case round =>
    obtain ⟨k, v, hk, rfl, HBu, HO, HR, HBxr, hsr⟩ := hrel
    clear cz ca cz1 ca1 HBu0 HO0 HR0 HBx0 hsO
    obtain ⟨wo, hwo⟩ : ∃ wo : World, wo = wr := ⟨_, rfl⟩
    rw [← hwo]
    rw [← hwo] at HBu HO HR HBxr hsr
    clear hwo
    obtain ⟨cz, ca, cz1, ca1, cB⟩ := HBxr.out
    by_cases hlt : k < n
    · obtain ⟨f, hf⟩ := get_of_lt HV.out.1 hlt
      obtain ⟨g, hg⟩ := get_of_lt HU.out.1 (show k < m by have := HNM.out; omega)
      have hfo := HAl.out f (List.mem_of_getElem? hf)
      have hgo := HAl2.out g (List.mem_of_getElem? hg)
      obtain ⟨r, hr⟩ : ∃ r : Nat, f.1 = (r : Int) := ⟨f.1.toNat, by have := (opOkB_of hfo).1; omega⟩
      have hr3 : r ≤ 3 := by have := (opOkB_of hfo).1; omega
      have hr2 : g.1 = (r : Int) := by rw [← type_get HTy.out hf hg]; exact hr
      obtain ⟨b2, o2, rfl, _, hb2, hc⟩ := HV.out.at_ (by omega)
      obtain ⟨ta, tm, tc, c0, c1, htm, htc, hvt⟩ := hc k _ hf
      have e0 : wo.cell? ⟨b2, o2 + k * 2, none⟩ = some (.int .i64 f.1) := cell_b cB c0
      rw [hr] at e0
      obtain ⟨hp, hn1, hn2⟩ := prL_bd (f := f) hp1 h8 hr hr3
      obtain ⟨nq, hnq⟩ : ∃ nq, prL (z * y) f = nq := ⟨_, rfl⟩
      have HFe : Hid (F k = ((r : Int), prT z y f g nq)) := by unfold Hid; rw [HFk.out k f g hf hg, prO, hr, hnq]
      rw [hnq] at hp hn1 hn2
      have HPw := Lib.hid (fun W : World => pow_any (z * y) r W hp1 h8 hr3)
      rw [hp] at HPw
      have hkn : (k : Int) < (n : Int) := by omega
      have HRr := Lib.hid hr
      have HRr2 := Lib.hid hr2
      have HFf_ := Lib.hid hf
      have HGf_ := Lib.hid hg
      have HFo := Lib.hid hfo
      have HGo := Lib.hid hgo
      obtain ⟨wE, hwE⟩ : ∃ wE : World, wE = wo.alloc (.cells #[] 3) := ⟨_, rfl⟩
      have hsE : wE.heap.size = wo.heap.size + 1 := by rw [hwE]; simp
      obtain ⟨wX, hwX⟩ : ∃ wX : World, wX = wE.alloc (.cells #[.int .i64 (r : Int), .slice (some ⟨wo.heap.size, 0, none⟩) 0 0] 64) := ⟨_, rfl⟩
      have hsX : wX.heap.size = wo.heap.size + 1 + 1 := by rw [hwX]; simp [hsE]
      have bE : Below wo.heap.size wo wE := by rw [hwE]; exact below_alloc _ _
      have bX : Below wE.heap.size wE wX := by rw [hwX]; exact below_alloc _ _
      have HB0 := Lib.hid (below_then bE bX)
      have HX0 : Hid (wX.heap[wo.heap.size + 1]? = some (.cells #[.int .i64 (r : Int), .slice (some ⟨wo.heap.size, 0, none⟩) 0 0] 64 (0, 0))) := by
        have h := heap_alloc_new wE (.cells #[.int .i64 (r : Int), .slice (some ⟨wo.heap.size, 0, none⟩) 0 0] 64)
        rw [hsE, ← hwX] at h
        exact h
      have HT0 : Hid (wX.ownsRow wo.heap.size 3 1 (.slice (some ⟨wo.heap.size, 0, none⟩) 0 0) 0 ((prT z y f g 0).map (Value.int .i64))) := by
        have h := lit_row wo wo.heap.size 3 1 (by decide) (Nat.le_refl _)
        rw [← hwE] at h
        exact h.kept (grown_of_below bX none) (own_em _)
      obtain ⟨o0, o1, of_⟩ := box_cells HO.out
      clear hf hg hfo hgo hc c0 c1 hvt hp hnq hr hr2 bE bX htm htc hb2
      go_wp2_with fail
      rw [← hwE]
      rw [← hwX]
      clear hwE hwX hsE
      go_loopw [8, 9, 10, 11, 12] (fun i s9 s10 s11 s12 wi => ∃ (q tb vc : Nat), q ≤ nq ∧ i = .int .i64 (q : Int) ∧ Hid (wi.heap[wo.heap.size + 1]? = some (.cells #[.int .i64 (r : Int), .slice (some ⟨tb, 0, none⟩) q vc] 64 (0, 0))) ∧ Hid (wi.ownsRow wo.heap.size 3 1 (.slice (some ⟨tb, 0, none⟩) q vc) q ((prT z y f g q).map (Value.int .i64))) ∧ Hid (Below wo.heap.size wo wi) ∧ wo.heap.size + 1 < wi.heap.size) (fun i _ _ _ _ _ => nq - (intOf i).toNat)
      case atStart => exact ⟨0, _, _, Nat.zero_le _, rfl, HX0, HT0, HB0, by omega⟩
      case round =>
        obtain ⟨q, tb, vc, hq, rfl, HXb, HTb, HBi, hsi⟩ := hrel
        clear HX0 HT0 HB0 hsX
        obtain ⟨wi, hwi⟩ : ∃ wi : World, wi = wr := ⟨_, rfl⟩
        rw [← hwi]
        rw [← hwi] at HXb HTb HBi hsi
        clear hwi
        have HBxi := Lib.hid (HBxr.out.below HBi.out)
        obtain ⟨kz, ka, kz1, ka1, kB⟩ := HBxi.out
        have ko : wi.cell? ⟨w.heap.size + 1 + 1 + 1 + 1, 0, none⟩ = some (.int .i64 (z * y)) := cell_b HBi.out o0
        obtain ⟨x0, x1, xf⟩ := box_cells HXb.out
        by_cases hltq : q < nq
        · have HAr := Lib.hid (argsSpec_any (z * y) (q : Int) r hr3 wi hp1 h8 (by omega) (by omega))
          have hltq' : (q : Int) < (nq : Int) := by omega
          obtain ⟨ti, tj, u, v', hti, htj, htil, htjl, hat, hat2, hu_, hv_, hE, u0, u1, v0, v1, uy0, uy1⟩ := pr_parts (q := q) z1 y1 HFo.out HGo.out HRr.out HRr2.out
          have HE := Lib.hid hE
          have HUu := Lib.hid hu_
          have HVv := Lib.hid hv_
          clear hti htj htil htjl hat hat2 hu_ hv_ hE
          go_wp2_with fail
          refine (HPw.out _).mono ?_
          rintro e_ wp_ ⟨rfl, rfl⟩
          go_wp2_with fail
          refine HAr.out.mono ?_
          rintro e_ w5 ⟨rfl, hw5⟩
          have HD5 : Hid (w5.heap[wi.heap.size]? = some (.cells (digsArr (z * y) r (q : Int)) 3 (0, 0))) := by unfold Hid; rw [hw5]; exact heap_alloc_new _ _
          have hs5 : w5.heap.size = wi.heap.size + 1 := by rw [hw5]; simp
          have B5 : Hid (Below wi.heap.size wi w5) := by rw [hw5]; exact below_alloc _ _
          have HDv := Lib.hid (digs_view HD5.out)
          have HS5 := Lib.hid hs5
          obtain ⟨w6, hw6⟩ : ∃ w6 : World, w6 = (w5.alloc (.cells #[] 3)).alloc (.cells #[] 3) := ⟨_, rfl⟩
          have B6 : Hid (Below w5.heap.size w5 w6) := by rw [hw6]; exact below_then (below_alloc _ _) (below_alloc _ _)
          have HRX0 : Hid (w6.ownsRow w5.heap.size 3 1 (.slice (some ⟨w5.heap.size, 0, none⟩) 0 0) 0 (((dvL y (digs (z * y) r (q : Int))).take 0).map (Value.int .i64))) := by
            rw [hw6]; exact (lit_row w5 w5.heap.size 3 1 (by decide) (Nat.le_refl _)).alloc _
          have HRY0 : Hid (w6.ownsRow w5.heap.size 3 1 (.slice (some ⟨w5.heap.size + 1, 0, none⟩) 0 0) 0 (((mdL y (digs (z * y) r (q : Int))).take 0).map (Value.int .i64))) := by
            have h := lit_row (w5.alloc (.cells #[] 3)) w5.heap.size 3 1 (by decide) (by simp)
            rw [World.size_alloc, ← hw6] at h
            exact h
          clear hw5 x0 x1 xf kz ka ka1 ko hs5
          go_wp2_with fail
          rw [← hw6]
          clear hw6
          go_loopw [10, 11, 12] (fun sx sy i wq => ∃ (j gx cx gy cy : Nat), j ≤ r ∧ i = .int .i64 (j : Int) ∧ sx = .slice (some ⟨gx, 0, none⟩) j cx ∧ sy = .slice (some ⟨gy, 0, none⟩) j cy ∧ Hid (gx ≠ gy) ∧ Hid (wq.ownsRow w5.heap.size 3 1 (.slice (some ⟨gx, 0, none⟩) j cx) j (((dvL y (digs (z * y) r (q : Int))).take j).map (Value.int .i64))) ∧ Hid (wq.ownsRow w5.heap.size 3 1 (.slice (some ⟨gy, 0, none⟩) j cy) j (((mdL y (digs (z * y) r (q : Int))).take j).map (Value.int .i64))) ∧ Hid (Below w5.heap.size w5 wq)) (fun _ _ i _ => r - (intOf i).toNat)
          case atStart => exact ⟨0, _, _, _, _, Nat.zero_le _, rfl, rfl, rfl, (by show w5.heap.size ≠ w5.heap.size + 1; omega), HRX0, HRY0, B6⟩
          case round =>
            obtain ⟨j, gx, cx, gy, cy, hj, rfl, rfl, rfl, HNe, HRX, HRY, HBj⟩ := hrel
            clear HRX0 HRY0 B6
            have hdl := digs_len (z * y) r (q : Int)
            have hdi := digs_in hp1 r (q : Int)
            obtain ⟨wq, hwq⟩ : ∃ wq : World, wq = wr := ⟨_, rfl⟩
            rw [← hwq]
            rw [← hwq] at HRX HRY HBj
            clear hwq
            by_cases hltj : j < r
            · obtain ⟨x, hx⟩ : ∃ x, (digs (z * y) r (q : Int))[j]? = some x := ⟨_, List.getElem?_eq_getElem (by omega)⟩
              obtain ⟨x0, x1⟩ := allIn_get hdi hx
              obtain ⟨d0, d1, m0, m1⟩ := pair_bd y1 x0 x1
              obtain ⟨b', o', he', _, _, hcx⟩ := HDv.out.at_ (by omega)
              cases he'
              have ex5 : w5.cell? ⟨wi.heap.size, j, none⟩ = some (.int .i64 x) := by have h := hcx j x hx; rwa [Nat.zero_add] at h
              have HEx := Lib.hid ex5
              have HEy := Lib.hid (cell_b B5.out kz1)
              have ex : wq.cell? ⟨wi.heap.size, j, none⟩ = some (.int .i64 x) := cell_b HBj.out HEx.out
              have ey : wq.cell? ⟨w.heap.size + 1, 0, none⟩ = some (.int .i64 y) := cell_b HBj.out HEy.out
              have hTX : ((dvL y (digs (z * y) r (q : Int))).take j).map (Value.int .i64) ++ [Value.int .i64 (x / y)] = ((dvL y (digs (z * y) r (q : Int))).take (j + 1)).map (Value.int .i64) := by
                rw [List.take_add_one, dvL_get (y := y) hx]; simp
              have hTY : ((mdL y (digs (z * y) r (q : Int))).take j).map (Value.int .i64) ++ [Value.int .i64 (x % y)] = ((mdL y (digs (z * y) r (q : Int))).take (j + 1)).map (Value.int .i64) := by
                rw [List.take_add_one, mdL_get (y := y) hx]; simp
              have HTX := Lib.hid hTX
              have HTY := Lib.hid hTY
              have hltj' : (j : Int) < (r : Int) := by omega
              have hy0 : 0 < y := by omega
              have hzq := HBj.out.size
              have hyn : ¬ y = 0 := by omega
              have hwd : IntKind.i64.wrap (x.tdiv y) = x / y := IntWalk.i64_quo x y ⟨x0, by omega, y1⟩
              have hwm : x.tmod y = x % y := Int.tmod_eq_emod_of_nonneg x0
              have hxy8 : x / y ≤ 8 := by omega
              have hxm8 : x % y ≤ 8 := by omega
              clear hx hcx hdi hdl hTX hTY ex5 kz1
              go_wp2_with fail
              go_region_law ((refine step_append_lies _ rfl _ _ _ rfl w5.heap.size 3 j0 _ 1 8 Try.underlying37 hj0 hy0_ hy1 hy2 rfl (by decide) (.slice (some ⟨gx, 0, none⟩) j cx) j (((dvL y (digs (z * y) r (q : Int))).take j).map (Value.int .i64)) rfl ((HRX.out.kept (grown_of_below (below_drew _) none) (own_em _)).alloc _) ⟨wq.heap.size, 0, none⟩ 1 1 [.int .i64 (x / y)] rfl rfl (cell_one_new _ _ _) (by simp [Value.oneCell']) (by decide) (by unfold maxLen; omega) (by omega) (by simp; omega) _ rfl ?_; intro g4 cap4 w4 hown4 hgrow4 hat4 hlt4))
              all_goals
                rw [HTX.out] at hown4
                have hry := HRY.out.lt gy rfl
                have hne4 : g4 ≠ gy := by
                  rcases hat4 with h | h
                  · have h2 : gx = g4 := by simpa [Value.ownBlock] using h
                    have h3 := HNe.out
                    omega
                  · simp at h
                    omega
                have HX4 := Lib.hid hown4
                have HY4 := Lib.hid (((HRY.out.kept (grown_of_below (below_drew _) none) (own_em _)).alloc (.cells #[.int .i64 (x / y)] 3)).kept hgrow4 (.inr (by show some gy ≠ some gx; exact fun e => HNe.out (by injection e with e; exact e.symm))))
                have b4 : Below w5.heap.size w5 w4 := ((HBj.out.drew).alloc (by show w5.heap.size ≤ wq.heap.size; exact hzq) (.cells #[.int .i64 (x / y)] 3)).grown hgrow4 (by simp; omega) (fun b hb => by have h_ := (HRX.out.lt b hb).1; omega)
                have HB4 := Lib.hid b4
                have HN4 := Lib.hid hne4
                have ex4 : w4.cell? ⟨wi.heap.size, j, none⟩ = some (.int .i64 x) := cell_b b4 HEx.out
                have ey4 : w4.cell? ⟨w.heap.size + 1, 0, none⟩ = some (.int .i64 y) := cell_b b4 HEy.out
                have hz4 := b4.size
                clear hown4 hgrow4 hat4 hne4 b4 ex ey hry
                go_wp2_with fail
                go_region_law ((refine step_append_lies _ rfl _ _ _ rfl w5.heap.size 3 j0 _ 1 8 Try.underlying37 hj0 hy0_ hy1 hy2 rfl (by decide) (.slice (some ⟨gy, 0, none⟩) j cy) j (((mdL y (digs (z * y) r (q : Int))).take j).map (Value.int .i64)) rfl ((HY4.out.kept (grown_of_below (below_drew _) none) (own_em _)).alloc _) ⟨w4.heap.size, 0, none⟩ 1 1 [.int .i64 (x % y)] rfl rfl (cell_one_new _ _ _) (by simp [Value.oneCell']) (by decide) (by unfold maxLen; omega) (by omega) (by simp; omega) _ rfl ?_; intro g6 cap6 w7 hown6 hgrow6 hat6 hlt6))
                all_goals
                  rw [HTY.out] at hown6
                  have hrx := HX4.out.lt g4 rfl
                  have hne6 : Hid (g4 ≠ g6) := by
                    show g4 ≠ g6
                    rcases hat6 with h | h
                    · have h2 : gy = g6 := by simpa [Value.ownBlock] using h
                      have h3 := HN4.out
                      omega
                    · simp at h
                      omega
                  have HY6 := Lib.hid hown6
                  have HX6 := Lib.hid (((HX4.out.kept (grown_of_below (below_drew _) none) (own_em _)).alloc (.cells #[.int .i64 (x % y)] 3)).kept hgrow6 (.inr (by show some g4 ≠ some gy; exact fun e => HN4.out (by injection e))))
                  have HB6 := Lib.hid (((HB4.out.drew).alloc (by show w5.heap.size ≤ w4.heap.size; exact hz4) (.cells #[.int .i64 (x % y)] 3)).grown hgrow6 (by simp; omega) (fun b hb => by have h_ := (HY4.out.lt b hb).1; omega))
                  clear hown6 hgrow6 hat6 hrx ex4 ey4
                  go_wp2_with fail
                  go_roundw
                  case rel => exact ⟨j + 1, g4, cap4, g6, cap6, by omega, by go_num, rfl, rfl, hne6, HX6, HY6, HB6⟩
                  case measure => simp [intOf]; omega
            · obtain rfl : j = r := by omega
              have hX := HRX.out
              have hY := HRY.out
              rw [List.take_of_length_le (by rw [dvL_len, hdl]; exact Nat.le_refl _)] at hX
              rw [List.take_of_length_le (by rw [mdL_len, hdl]; exact Nat.le_refl _)] at hY
              have vX := (OwnsInts.of_row hX).view
              have vY := (OwnsInts.of_row hY).view
              have HBxq := Lib.hid ((HBxi.out.below B5.out).below HBj.out)
              have hV1 := fun (W : World) (hW : Below wq.heap.size wq W) => value_spec lo hi _ _ z _ _ c n cx j k fs f _ W (HV.out.kept (Kept.of_below (HBxq.out.bel.trans (hW.mono HBxq.out.bel.size)) hhi)) (Nat.le_trans (Nat.le_trans hhi HBxq.out.bel.size) hW.size) HOk.out HFf_.out (vX.kept (Kept.of_below hW (Nat.le_refl _))) hW.size (dvL_in y1 hdi) HRr.out.symm
              have hV2 := fun (W : World) (hW : Below wq.heap.size wq W) => value_spec lo2 hi2 _ _ y _ _ d m cy j k gs g _ W (HU.out.kept (Kept.of_below (HBxq.out.bel.trans (hW.mono HBxq.out.bel.size)) hhi2)) (Nat.le_trans (Nat.le_trans hhi2 HBxq.out.bel.size) hW.size) HOk2.out HGf_.out (vY.kept (Kept.of_below hW (Nat.le_refl _))) hW.size (mdL_in y1 hdi) HRr2.out.symm
              simp only [HUu.out] at hV1
              simp only [HVv.out] at hV2
              have HV1 := Lib.hid hV1
              have HV2 := Lib.hid hV2
              have B5q := B5.out.trans (HBj.out.mono (by have := HS5.out; omega))
              have HOq := Lib.hid ((B5q.block _ hsi).trans HXb.out)
              obtain ⟨d0, d1, df⟩ := box_cells HOq.out
              have HTq := Lib.hid (HTb.out.kept (grown_of_below B5q none) (own_em _))
              have hNb := row_block HTb.out HXb.out (by decide)
              have HNb := Lib.hid hNb
              have HBoq := Lib.hid (HBi.out.trans (B5q.mono HBi.out.size))
              have hsq : wo.heap.size + 1 < wq.heap.size := by have := B5q.size; omega
              obtain ⟨qz, qa, qz1, qa1, qB⟩ := HBxq.out
              have hltj' : ¬ (j : Int) < (j : Int) := by omega
              have uy8 : u * y ≤ 8 := by omega
              have uyv : u * y + v' ≤ 8 := by omega
              have uyv0 : 0 ≤ u * y + v' := by omega
              have hw1 : IntKind.i64.wrap (u * y) = u * y := IntWalk.i64_in _ ⟨by omega, by omega⟩
              have hw2 : IntKind.i64.wrap (u * y + v') = u * y + v' := IntWalk.i64_in _ ⟨by omega, by omega⟩
              have HKq := Lib.hid (fun (W : World) (hW : Below wq.heap.size wq W) => show W.cell? ⟨w.heap.size, 0, none⟩ = some (.int .i64 z) ∧ W.cell? ⟨w.heap.size, 1, none⟩ = some (.slice (some ⟨b2, o2, none⟩) n c) ∧ W.cell? ⟨w.heap.size + 1, 0, none⟩ = some (.int .i64 y) ∧ W.cell? ⟨w.heap.size + 1, 1, none⟩ = some (.slice bo m d) from ⟨cell_b hW qz, cell_b hW qa, cell_b hW qz1, cell_b hW qa1⟩)
              clear hV1 hV2 hX hY vX vY hdl hdi B5q hNb d0 qB kz1 qz qa qz1 qa1
              go_wp2_with fail
              refine wp_region_noPanic ?_
              refine wp_region_held_drew (S := fun W => W.cell? ⟨w.heap.size, 0, none⟩ = some (.int .i64 z) ∧ W.cell? ⟨w.heap.size, 1, none⟩ = some (.slice (some ⟨b2, o2, none⟩) n c) ∧ W.cell? ⟨w.heap.size + 1, 0, none⟩ = some (.int .i64 y) ∧ W.cell? ⟨w.heap.size + 1, 1, none⟩ = some (.slice bo m d)) (by kernel_rfl) ?_ (fun hHeld => ?_)
              · exact HKq.out _ (below_drew _)
              refine wpAnyH_take (i := 0) (oi := ⟨_, _, _, _, _, _⟩) (v := ?_) rfl (by kernel_rfl) (by kernel_rfl) (by kernel_rfl) (fun _ _ _ h => h) (Or.inl ⟨rfl, ?_⟩) (by assumption) ?_
              rotate_left 1
              · intro w_ hSw; (try dsimp only at hSw); go_simp; (try with_reducible rfl)
              (try simp only [Act.put, List.setIfInBounds_toArray, List.set_cons_zero, List.set_cons_succ])
              refine wpAnyH_take (i := 2) (oi := ⟨_, _, _, _, _, _⟩) (v := ?_) rfl (by kernel_rfl) (by kernel_rfl) (by kernel_rfl) (fun _ _ _ h => h) (Or.inl ⟨rfl, ?_⟩) (by assumption) ?_
              rotate_left 1
              · intro w_ hSw; (try dsimp only at hSw); go_simp; (try with_reducible rfl)
              (try simp only [Act.put, List.setIfInBounds_toArray, List.set_cons_zero, List.set_cons_succ])
              refine wpAnyH_take (i := 3) (oi := ⟨_, _, _, _, _, _⟩) (v := ?_) rfl (by kernel_rfl) (by kernel_rfl) (by kernel_rfl) (fun _ _ _ h => h) (Or.inl ⟨rfl, ?_⟩) (by assumption) ?_
              rotate_left 1
              · intro w_ hSw; (try dsimp only at hSw); go_simp; (try with_reducible rfl)
              (try simp only [Act.put, List.setIfInBounds_toArray, List.set_cons_zero, List.set_cons_succ])
              refine wpAnyH_take (i := 4) (oi := ⟨_, _, _, _, _, _⟩) (v := ?_) rfl (by kernel_rfl) (by kernel_rfl) (by kernel_rfl) (fun _ _ _ h => h) (Or.inl ⟨rfl, ?_⟩) (by assumption) ?_
              rotate_left 1
              · intro w_ hSw; (try dsimp only at hSw); go_simp; (try with_reducible rfl)
              (try simp only [Act.put, List.setIfInBounds_toArray, List.set_cons_zero, List.set_cons_succ])
              refine wpAnyH_take (i := 6) (oi := ⟨_, _, _, _, _, _⟩) (v := ?_) rfl (by kernel_rfl) (by kernel_rfl) (by kernel_rfl) (fun _ _ _ h => h) (Or.inl ⟨rfl, ?_⟩) (by assumption) ?_
              rotate_left 1
              · intro w_ hSw; (try dsimp only at hSw); go_simp; (try with_reducible rfl)
              (try simp only [Act.put, List.setIfInBounds_toArray, List.set_cons_zero, List.set_cons_succ])
              refine wpAnyH_take (i := 7) (oi := ⟨_, _, _, _, _, _⟩) (v := ?_) rfl (by kernel_rfl) (by kernel_rfl) (by kernel_rfl) (fun _ _ _ h => h) (Or.inl ⟨rfl, ?_⟩) (by assumption) ?_
              rotate_left 1
              · intro w_ hSw; (try dsimp only at hSw); go_simp; (try with_reducible rfl)
              (try simp only [Act.put, List.setIfInBounds_toArray, List.set_cons_zero, List.set_cons_succ])
              refine wpAnyH_take (i := 9) (oi := ⟨_, _, _, _, _, _⟩) (v := ?_) rfl (by kernel_rfl) (by kernel_rfl) (by kernel_rfl) (fun _ _ _ h => h) (Or.inl ⟨rfl, ?_⟩) (by assumption) ?_
              rotate_left 1
              · intro w_ hSw; (try dsimp only at hSw); go_simp; (try with_reducible rfl)
              (try simp only [Act.put, List.setIfInBounds_toArray, List.set_cons_zero, List.set_cons_succ])
              refine wpAnyH_take (i := 10) (oi := ⟨_, _, _, _, _, _⟩) (v := ?_) rfl (by kernel_rfl) (by kernel_rfl) (by kernel_rfl) (fun _ _ _ h => h) (Or.inl ⟨rfl, ?_⟩) (by assumption) ?_
              rotate_left 1
              · intro w_ hSw; (try dsimp only at hSw); go_simp; (try with_reducible rfl)
              (try simp only [Act.put, List.setIfInBounds_toArray, List.set_cons_zero, List.set_cons_succ])
              refine wpAnyH_take (i := 11) (oi := ⟨_, _, _, _, _, _⟩) (v := ?_) rfl (by kernel_rfl) (by kernel_rfl) (by kernel_rfl) (fun _ _ _ h => h) (Or.inl ⟨rfl, ?_⟩) (by assumption) ?_
              rotate_left 1
              · intro w_ hSw; (try dsimp only at hSw); go_simp; (try with_reducible rfl)
              (try simp only [Act.put, List.setIfInBounds_toArray, List.set_cons_zero, List.set_cons_succ])
              refine wpAnyH_ready (rs := [1, 5]) (by kernel_rfl) (by simp) ?_
              refine (AllReadyH.cons (o := ⟨_, _, _, _, _, _⟩) rfl (fun K hK => ?_) (AllReadyH.cons (o := ⟨_, _, _, _, _, _⟩) rfl (fun K hK => ?_) AllReadyH.nil))
              · go_simp
                refine hK.out _ _ ?_ (fun hHeld => ?_)
                · exact HKq.out _ (below_drew wq)
                clear hK K
                (try simp only [Act.put, List.setIfInBounds_toArray, List.set_cons_zero, List.set_cons_succ])
                refine wpAnyH_ready (rs := [5]) (by kernel_rfl) (by simp) ?_
                refine (AllReadyH.cons (o := ⟨_, _, _, _, _, _⟩) rfl (fun K hK => ?_) AllReadyH.nil)
                go_simp
                go_at_call 111
                refine (HV1.out _ (below_drew wq)).mono ?_
                rintro e w60_ ⟨rfl, b_⟩
                have B60_ := Lib.hid ((below_drew wq).trans (b_.mono (below_drew wq).size))
                have d60_ : w60_.cell? ⟨wo.heap.size + 1, 1, none⟩ = some (.slice (some ⟨tb, 0, none⟩) q vc) := cell_b B60_.out d1
                clear b_
                refine hK.out _ _ ?_ (fun hHeld => ?_)
                · exact HKq.out _ B60_.out
                clear hK K
                (try simp only [Act.put, List.setIfInBounds_toArray, List.set_cons_zero, List.set_cons_succ])
                refine wpAnyH_take (i := 8) (oi := ⟨_, _, _, _, _, _⟩) (v := ?_) rfl (by kernel_rfl) (by kernel_rfl) (by kernel_rfl) (fun _ _ _ h => h) (Or.inl ⟨rfl, ?_⟩) (by assumption) ?_
                rotate_left 1
                · intro w_ hSw; (try dsimp only at hSw); go_simp; (try with_reducible rfl)
                (try simp only [Act.put, List.setIfInBounds_toArray, List.set_cons_zero, List.set_cons_succ])
                refine wpAnyH_ready (rs := [12]) (by kernel_rfl) (by simp) ?_
                refine (AllReadyH.cons (o := ⟨_, _, _, _, _, _⟩) rfl (fun K hK => ?_) AllReadyH.nil)
                go_simp
                go_at_call 111
                refine (HV2.out _ (B60_.out)).mono ?_
                rintro e w61_ ⟨rfl, b_⟩
                have B61_ := Lib.hid ((B60_.out).trans (b_.mono (B60_.out).size))
                have d61_ : w61_.cell? ⟨wo.heap.size + 1, 1, none⟩ = some (.slice (some ⟨tb, 0, none⟩) q vc) := cell_b B61_.out d1
                clear b_
                refine hK.out _ _ ?_ (fun hHeld => ?_)
                · exact HKq.out _ B61_.out
                clear hK K
                (try simp only [Act.put, List.setIfInBounds_toArray, List.set_cons_zero, List.set_cons_succ])
                refine wpAnyH_take (i := 13) (oi := ⟨_, _, _, _, _, _⟩) (v := ?_) rfl (by kernel_rfl) (by kernel_rfl) (by kernel_rfl) (fun _ _ _ h => h) (Or.inl ⟨rfl, ?_⟩) (by assumption) ?_
                rotate_left 1
                · intro w_ hSw; (try dsimp only at hSw); go_simp; (try with_reducible rfl)
                (try simp only [Act.put, List.setIfInBounds_toArray, List.set_cons_zero, List.set_cons_succ])
                refine wpAnyH_ready (rs := [14]) (by kernel_rfl) (by simp) ?_
                refine (AllReadyH.cons (o := ⟨_, _, _, _, _, _⟩) rfl (fun K hK => ?_) AllReadyH.nil)
                go_simp
                have B62_ : Hid (Below wq.heap.size wq (w61_.alloc (.cells #[.int .i64 (u * y + v')] 3))) := (B61_.out).alloc (B61_.out).size _
                have d62_ : (w61_.alloc (.cells #[.int .i64 (u * y + v')] 3)).cell? ⟨wo.heap.size + 1, 1, none⟩ = some (.slice (some ⟨tb, 0, none⟩) q vc) := cell_b B62_.out d1
                refine hK.out _ _ ?_ (fun hHeld => ?_)
                · exact HKq.out _ B62_.out
                clear hK K
                (try simp only [Act.put, List.setIfInBounds_toArray, List.set_cons_zero, List.set_cons_succ])
                refine wpAnyH_ready (rs := [15]) (by kernel_rfl) (by simp) ?_
                refine (AllReadyH.cons (o := ⟨_, _, _, _, _, _⟩) rfl (fun K hK => ?_) AllReadyH.nil)
                refine step_append_lies _ rfl _ _ _ rfl wo.heap.size 3 j0 _ 1 8 Try.underlying37 hj0 hy0_ hy1 hy2 rfl (by decide) (.slice (some ⟨tb, 0, none⟩) q vc) q ((prT z y f g q).map (Value.int .i64)) rfl ((HTq.out.kept (grown_of_below (B61_.out) none) (own_em _)).alloc _) ⟨w61_.heap.size, 0, none⟩ 1 1 [.int .i64 (u * y + v')] rfl rfl (cell_one_new _ _ _) (by simp [Value.oneCell']) (by decide) (by unfold maxLen; omega) (by omega) (by have h_ := (B62_.out).size; omega) _ rfl ?_
                intro g4 cap4 w4 hown4 hgrow4 hat4 hlt4
                have hzB_ := (B62_.out).size
                have hB4 : Below wo.heap.size wo w4 := (HBoq.out.trans ((B62_.out).mono (by omega))).grown hgrow4 (by omega) (fun b hb => by have h_ := (HTq.out.lt b hb).1; omega)
                have HO4 : Hid (w4.heap[wo.heap.size + 1]? = some (.cells #[.int .i64 (j : Int), .slice (some ⟨tb, 0, none⟩) q vc] 64 (0, 0))) := (hgrow4.block _ (by omega) (fun e => HNb.out e.symm)).trans (((B62_.out).block _ hsq).trans HOq.out)
                have HS4 : Hid (∀ W, Below wo.heap.size wo W → (fun W => W.cell? ⟨w.heap.size, 0, none⟩ = some (.int .i64 z) ∧ W.cell? ⟨w.heap.size, 1, none⟩ = some (.slice (some ⟨b2, o2, none⟩) n c) ∧ W.cell? ⟨w.heap.size + 1, 0, none⟩ = some (.int .i64 y) ∧ W.cell? ⟨w.heap.size + 1, 1, none⟩ = some (.slice bo m d)) W) := fun W hW => ⟨cell_b hW cz, cell_b hW ca, cell_b hW cz1, cell_b hW ca1⟩
                have d14 := (box_cells HO4.out).2.1
                have f14 := (box_cells HO4.out).2.2 1
                have HOwn4 := Lib.hid hown4
                have HB4 := Lib.hid hB4
                clear hown4 hgrow4 hat4 hB4
                refine hK.out _ _ ?_ (fun hHeld => ?_)
                · exact HS4.out _ HB4.out
                clear hK K
                (try simp only [Act.put, List.setIfInBounds_toArray, List.set_cons_zero, List.set_cons_succ])
                refine wpAnyH_take (i := 16) (oi := ⟨_, _, _, _, _, _⟩) (v := ?_) rfl (by kernel_rfl) (by kernel_rfl) (by kernel_rfl) (fun _ _ _ h => h) (Or.inl ⟨rfl, ?_⟩) (by assumption) ?_
                rotate_left 1
                · intro w_ hSw; (try dsimp only at hSw); go_simp; (try with_reducible rfl)
                (try simp only [Act.put, List.setIfInBounds_toArray, List.set_cons_zero, List.set_cons_succ])
                refine wpAnyH_ready (rs := [17]) (by kernel_rfl) (by simp) ?_
                refine (AllReadyH.cons (o := ⟨_, _, _, _, _, _⟩) rfl (fun K hK => ?_) AllReadyH.nil)
                go_simp
                refine hK.out _ _ ?_ (fun hHeld => ?_)
                · exact HS4.out _ (HB4.out.setCell (by show _ ≤ wo.heap.size + 1; omega) _)
                clear hK K
                (try simp only [Act.put, List.setIfInBounds_toArray, List.set_cons_zero, List.set_cons_succ])
                refine wpAnyH_done (by kernel_rfl) ?_ _
                refine NoPanic.normal ?_
                have HT6 : Hid ((w4.setCell ⟨wo.heap.size + 1, 1, none⟩ (.slice (some ⟨g4, 0, none⟩) (q + 1) cap4)).ownsRow wo.heap.size 3 1 (.slice (some ⟨g4, 0, none⟩) (q + 1) cap4) (q + 1) ((prT z y f g (q + 1)).map (Value.int .i64))) := by
                  unfold Hid
                  rw [prT_succ, List.map_append, List.map_cons, List.map_nil, HE.out]
                  exact ownsRow_setBox HOwn4.out HO4.out (by decide)
                have HX6 := Lib.hid (box_set1 (v := .slice (some ⟨g4, 0, none⟩) (q + 1) cap4) HO4.out)
                have hz5 : wo.heap.size + 1 < w4.heap.size := (Array.getElem?_eq_some_iff.1 HO4.out).1
                have HB7_ : Hid (Below wo.heap.size wo (w4.setCell ⟨wo.heap.size + 1, 1, none⟩ (.slice (some ⟨g4, 0, none⟩) (q + 1) cap4))) := HB4.out.setCell (by show _ ≤ wo.heap.size + 1; omega) _
                have hz6 : wo.heap.size + 1 < (w4.setCell ⟨wo.heap.size + 1, 1, none⟩ (.slice (some ⟨g4, 0, none⟩) (q + 1) cap4)).heap.size := by simpa [World.setCell] using hz5
                obtain ⟨w5_, hw5_⟩ : ∃ w5_, w5_ = w4.setCell ⟨wo.heap.size + 1, 1, none⟩ (.slice (some ⟨g4, 0, none⟩) (q + 1) cap4) := ⟨_, rfl⟩
                rw [← hw5_] at HT6 HX6 HB7_ hz6 ⊢
                clear hw5_ d14 f14 d1
                go_wp2_with fail
                go_roundw
                case rel => exact ⟨q + 1, _, _, by omega, by go_num, HX6, HT6, HB7_, hz6⟩
                case measure => simp [intOf]; omega
              · go_simp
                go_at_call 111
                refine (HV1.out _ (below_drew wq)).mono ?_
                rintro e w60_ ⟨rfl, b_⟩
                have B60_ := Lib.hid ((below_drew wq).trans (b_.mono (below_drew wq).size))
                have d60_ : w60_.cell? ⟨wo.heap.size + 1, 1, none⟩ = some (.slice (some ⟨tb, 0, none⟩) q vc) := cell_b B60_.out d1
                clear b_
                refine hK.out _ _ ?_ (fun hHeld => ?_)
                · exact HKq.out _ B60_.out
                clear hK K
                (try simp only [Act.put, List.setIfInBounds_toArray, List.set_cons_zero, List.set_cons_succ])
                refine wpAnyH_take (i := 8) (oi := ⟨_, _, _, _, _, _⟩) (v := ?_) rfl (by kernel_rfl) (by kernel_rfl) (by kernel_rfl) (fun _ _ _ h => h) (Or.inl ⟨rfl, ?_⟩) (by assumption) ?_
                rotate_left 1
                · intro w_ hSw; (try dsimp only at hSw); go_simp; (try with_reducible rfl)
                (try simp only [Act.put, List.setIfInBounds_toArray, List.set_cons_zero, List.set_cons_succ])
                refine wpAnyH_ready (rs := [1, 12]) (by kernel_rfl) (by simp) ?_
                refine (AllReadyH.cons (o := ⟨_, _, _, _, _, _⟩) rfl (fun K hK => ?_) (AllReadyH.cons (o := ⟨_, _, _, _, _, _⟩) rfl (fun K hK => ?_) AllReadyH.nil))
                · go_simp
                  refine hK.out _ _ ?_ (fun hHeld => ?_)
                  · exact HKq.out _ (B60_.out)
                  clear hK K
                  (try simp only [Act.put, List.setIfInBounds_toArray, List.set_cons_zero, List.set_cons_succ])
                  refine wpAnyH_ready (rs := [12]) (by kernel_rfl) (by simp) ?_
                  refine (AllReadyH.cons (o := ⟨_, _, _, _, _, _⟩) rfl (fun K hK => ?_) AllReadyH.nil)
                  go_simp
                  go_at_call 111
                  refine (HV2.out _ (B60_.out)).mono ?_
                  rintro e w61_ ⟨rfl, b_⟩
                  have B61_ := Lib.hid ((B60_.out).trans (b_.mono (B60_.out).size))
                  have d61_ : w61_.cell? ⟨wo.heap.size + 1, 1, none⟩ = some (.slice (some ⟨tb, 0, none⟩) q vc) := cell_b B61_.out d1
                  clear b_
                  refine hK.out _ _ ?_ (fun hHeld => ?_)
                  · exact HKq.out _ B61_.out
                  clear hK K
                  (try simp only [Act.put, List.setIfInBounds_toArray, List.set_cons_zero, List.set_cons_succ])
                  refine wpAnyH_take (i := 13) (oi := ⟨_, _, _, _, _, _⟩) (v := ?_) rfl (by kernel_rfl) (by kernel_rfl) (by kernel_rfl) (fun _ _ _ h => h) (Or.inl ⟨rfl, ?_⟩) (by assumption) ?_
                  rotate_left 1
                  · intro w_ hSw; (try dsimp only at hSw); go_simp; (try with_reducible rfl)
                  (try simp only [Act.put, List.setIfInBounds_toArray, List.set_cons_zero, List.set_cons_succ])
                  refine wpAnyH_ready (rs := [14]) (by kernel_rfl) (by simp) ?_
                  refine (AllReadyH.cons (o := ⟨_, _, _, _, _, _⟩) rfl (fun K hK => ?_) AllReadyH.nil)
                  go_simp
                  have B62_ : Hid (Below wq.heap.size wq (w61_.alloc (.cells #[.int .i64 (u * y + v')] 3))) := (B61_.out).alloc (B61_.out).size _
                  have d62_ : (w61_.alloc (.cells #[.int .i64 (u * y + v')] 3)).cell? ⟨wo.heap.size + 1, 1, none⟩ = some (.slice (some ⟨tb, 0, none⟩) q vc) := cell_b B62_.out d1
                  refine hK.out _ _ ?_ (fun hHeld => ?_)
                  · exact HKq.out _ B62_.out
                  clear hK K
                  (try simp only [Act.put, List.setIfInBounds_toArray, List.set_cons_zero, List.set_cons_succ])
                  refine wpAnyH_ready (rs := [15]) (by kernel_rfl) (by simp) ?_
                  refine (AllReadyH.cons (o := ⟨_, _, _, _, _, _⟩) rfl (fun K hK => ?_) AllReadyH.nil)
                  refine step_append_lies _ rfl _ _ _ rfl wo.heap.size 3 j0 _ 1 8 Try.underlying37 hj0 hy0_ hy1 hy2 rfl (by decide) (.slice (some ⟨tb, 0, none⟩) q vc) q ((prT z y f g q).map (Value.int .i64)) rfl ((HTq.out.kept (grown_of_below (B61_.out) none) (own_em _)).alloc _) ⟨w61_.heap.size, 0, none⟩ 1 1 [.int .i64 (u * y + v')] rfl rfl (cell_one_new _ _ _) (by simp [Value.oneCell']) (by decide) (by unfold maxLen; omega) (by omega) (by have h_ := (B62_.out).size; omega) _ rfl ?_
                  intro g4 cap4 w4 hown4 hgrow4 hat4 hlt4
                  have hzB_ := (B62_.out).size
                  have hB4 : Below wo.heap.size wo w4 := (HBoq.out.trans ((B62_.out).mono (by omega))).grown hgrow4 (by omega) (fun b hb => by have h_ := (HTq.out.lt b hb).1; omega)
                  have HO4 : Hid (w4.heap[wo.heap.size + 1]? = some (.cells #[.int .i64 (j : Int), .slice (some ⟨tb, 0, none⟩) q vc] 64 (0, 0))) := (hgrow4.block _ (by omega) (fun e => HNb.out e.symm)).trans (((B62_.out).block _ hsq).trans HOq.out)
                  have HS4 : Hid (∀ W, Below wo.heap.size wo W → (fun W => W.cell? ⟨w.heap.size, 0, none⟩ = some (.int .i64 z) ∧ W.cell? ⟨w.heap.size, 1, none⟩ = some (.slice (some ⟨b2, o2, none⟩) n c) ∧ W.cell? ⟨w.heap.size + 1, 0, none⟩ = some (.int .i64 y) ∧ W.cell? ⟨w.heap.size + 1, 1, none⟩ = some (.slice bo m d)) W) := fun W hW => ⟨cell_b hW cz, cell_b hW ca, cell_b hW cz1, cell_b hW ca1⟩
                  have d14 := (box_cells HO4.out).2.1
                  have f14 := (box_cells HO4.out).2.2 1
                  have HOwn4 := Lib.hid hown4
                  have HB4 := Lib.hid hB4
                  clear hown4 hgrow4 hat4 hB4
                  refine hK.out _ _ ?_ (fun hHeld => ?_)
                  · exact HS4.out _ HB4.out
                  clear hK K
                  (try simp only [Act.put, List.setIfInBounds_toArray, List.set_cons_zero, List.set_cons_succ])
                  refine wpAnyH_take (i := 16) (oi := ⟨_, _, _, _, _, _⟩) (v := ?_) rfl (by kernel_rfl) (by kernel_rfl) (by kernel_rfl) (fun _ _ _ h => h) (Or.inl ⟨rfl, ?_⟩) (by assumption) ?_
                  rotate_left 1
                  · intro w_ hSw; (try dsimp only at hSw); go_simp; (try with_reducible rfl)
                  (try simp only [Act.put, List.setIfInBounds_toArray, List.set_cons_zero, List.set_cons_succ])
                  refine wpAnyH_ready (rs := [17]) (by kernel_rfl) (by simp) ?_
                  refine (AllReadyH.cons (o := ⟨_, _, _, _, _, _⟩) rfl (fun K hK => ?_) AllReadyH.nil)
                  go_simp
                  refine hK.out _ _ ?_ (fun hHeld => ?_)
                  · exact HS4.out _ (HB4.out.setCell (by show _ ≤ wo.heap.size + 1; omega) _)
                  clear hK K
                  (try simp only [Act.put, List.setIfInBounds_toArray, List.set_cons_zero, List.set_cons_succ])
                  refine wpAnyH_done (by kernel_rfl) ?_ _
                  refine NoPanic.normal ?_
                  have HT6 : Hid ((w4.setCell ⟨wo.heap.size + 1, 1, none⟩ (.slice (some ⟨g4, 0, none⟩) (q + 1) cap4)).ownsRow wo.heap.size 3 1 (.slice (some ⟨g4, 0, none⟩) (q + 1) cap4) (q + 1) ((prT z y f g (q + 1)).map (Value.int .i64))) := by
                    unfold Hid
                    rw [prT_succ, List.map_append, List.map_cons, List.map_nil, HE.out]
                    exact ownsRow_setBox HOwn4.out HO4.out (by decide)
                  have HX6 := Lib.hid (box_set1 (v := .slice (some ⟨g4, 0, none⟩) (q + 1) cap4) HO4.out)
                  have hz5 : wo.heap.size + 1 < w4.heap.size := (Array.getElem?_eq_some_iff.1 HO4.out).1
                  have HB7_ : Hid (Below wo.heap.size wo (w4.setCell ⟨wo.heap.size + 1, 1, none⟩ (.slice (some ⟨g4, 0, none⟩) (q + 1) cap4))) := HB4.out.setCell (by show _ ≤ wo.heap.size + 1; omega) _
                  have hz6 : wo.heap.size + 1 < (w4.setCell ⟨wo.heap.size + 1, 1, none⟩ (.slice (some ⟨g4, 0, none⟩) (q + 1) cap4)).heap.size := by simpa [World.setCell] using hz5
                  obtain ⟨w5_, hw5_⟩ : ∃ w5_, w5_ = w4.setCell ⟨wo.heap.size + 1, 1, none⟩ (.slice (some ⟨g4, 0, none⟩) (q + 1) cap4) := ⟨_, rfl⟩
                  rw [← hw5_] at HT6 HX6 HB7_ hz6 ⊢
                  clear hw5_ d14 f14 d1
                  go_wp2_with fail
                  go_roundw
                  case rel => exact ⟨q + 1, _, _, by omega, by go_num, HX6, HT6, HB7_, hz6⟩
                  case measure => simp [intOf]; omega
                · go_simp
                  go_at_call 111
                  refine (HV2.out _ (B60_.out)).mono ?_
                  rintro e w61_ ⟨rfl, b_⟩
                  have B61_ := Lib.hid ((B60_.out).trans (b_.mono (B60_.out).size))
                  have d61_ : w61_.cell? ⟨wo.heap.size + 1, 1, none⟩ = some (.slice (some ⟨tb, 0, none⟩) q vc) := cell_b B61_.out d1
                  clear b_
                  refine hK.out _ _ ?_ (fun hHeld => ?_)
                  · exact HKq.out _ B61_.out
                  clear hK K
                  (try simp only [Act.put, List.setIfInBounds_toArray, List.set_cons_zero, List.set_cons_succ])
                  refine wpAnyH_take (i := 13) (oi := ⟨_, _, _, _, _, _⟩) (v := ?_) rfl (by kernel_rfl) (by kernel_rfl) (by kernel_rfl) (fun _ _ _ h => h) (Or.inl ⟨rfl, ?_⟩) (by assumption) ?_
                  rotate_left 1
                  · intro w_ hSw; (try dsimp only at hSw); go_simp; (try with_reducible rfl)
                  (try simp only [Act.put, List.setIfInBounds_toArray, List.set_cons_zero, List.set_cons_succ])
                  refine wpAnyH_ready (rs := [1, 14]) (by kernel_rfl) (by simp) ?_
                  refine (AllReadyH.cons (o := ⟨_, _, _, _, _, _⟩) rfl (fun K hK => ?_) (AllReadyH.cons (o := ⟨_, _, _, _, _, _⟩) rfl (fun K hK => ?_) AllReadyH.nil))
                  · go_simp
                    refine hK.out _ _ ?_ (fun hHeld => ?_)
                    · exact HKq.out _ (B61_.out)
                    clear hK K
                    (try simp only [Act.put, List.setIfInBounds_toArray, List.set_cons_zero, List.set_cons_succ])
                    refine wpAnyH_ready (rs := [14]) (by kernel_rfl) (by simp) ?_
                    refine (AllReadyH.cons (o := ⟨_, _, _, _, _, _⟩) rfl (fun K hK => ?_) AllReadyH.nil)
                    go_simp
                    have B62_ : Hid (Below wq.heap.size wq (w61_.alloc (.cells #[.int .i64 (u * y + v')] 3))) := (B61_.out).alloc (B61_.out).size _
                    have d62_ : (w61_.alloc (.cells #[.int .i64 (u * y + v')] 3)).cell? ⟨wo.heap.size + 1, 1, none⟩ = some (.slice (some ⟨tb, 0, none⟩) q vc) := cell_b B62_.out d1
                    refine hK.out _ _ ?_ (fun hHeld => ?_)
                    · exact HKq.out _ B62_.out
                    clear hK K
                    (try simp only [Act.put, List.setIfInBounds_toArray, List.set_cons_zero, List.set_cons_succ])
                    refine wpAnyH_ready (rs := [15]) (by kernel_rfl) (by simp) ?_
                    refine (AllReadyH.cons (o := ⟨_, _, _, _, _, _⟩) rfl (fun K hK => ?_) AllReadyH.nil)
                    refine step_append_lies _ rfl _ _ _ rfl wo.heap.size 3 j0 _ 1 8 Try.underlying37 hj0 hy0_ hy1 hy2 rfl (by decide) (.slice (some ⟨tb, 0, none⟩) q vc) q ((prT z y f g q).map (Value.int .i64)) rfl ((HTq.out.kept (grown_of_below (B61_.out) none) (own_em _)).alloc _) ⟨w61_.heap.size, 0, none⟩ 1 1 [.int .i64 (u * y + v')] rfl rfl (cell_one_new _ _ _) (by simp [Value.oneCell']) (by decide) (by unfold maxLen; omega) (by omega) (by have h_ := (B62_.out).size; omega) _ rfl ?_
                    intro g4 cap4 w4 hown4 hgrow4 hat4 hlt4
                    have hzB_ := (B62_.out).size
                    have hB4 : Below wo.heap.size wo w4 := (HBoq.out.trans ((B62_.out).mono (by omega))).grown hgrow4 (by omega) (fun b hb => by have h_ := (HTq.out.lt b hb).1; omega)
                    have HO4 : Hid (w4.heap[wo.heap.size + 1]? = some (.cells #[.int .i64 (j : Int), .slice (some ⟨tb, 0, none⟩) q vc] 64 (0, 0))) := (hgrow4.block _ (by omega) (fun e => HNb.out e.symm)).trans (((B62_.out).block _ hsq).trans HOq.out)
                    have HS4 : Hid (∀ W, Below wo.heap.size wo W → (fun W => W.cell? ⟨w.heap.size, 0, none⟩ = some (.int .i64 z) ∧ W.cell? ⟨w.heap.size, 1, none⟩ = some (.slice (some ⟨b2, o2, none⟩) n c) ∧ W.cell? ⟨w.heap.size + 1, 0, none⟩ = some (.int .i64 y) ∧ W.cell? ⟨w.heap.size + 1, 1, none⟩ = some (.slice bo m d)) W) := fun W hW => ⟨cell_b hW cz, cell_b hW ca, cell_b hW cz1, cell_b hW ca1⟩
                    have d14 := (box_cells HO4.out).2.1
                    have f14 := (box_cells HO4.out).2.2 1
                    have HOwn4 := Lib.hid hown4
                    have HB4 := Lib.hid hB4
                    clear hown4 hgrow4 hat4 hB4
                    refine hK.out _ _ ?_ (fun hHeld => ?_)
                    · exact HS4.out _ HB4.out
                    clear hK K
                    (try simp only [Act.put, List.setIfInBounds_toArray, List.set_cons_zero, List.set_cons_succ])
                    refine wpAnyH_take (i := 16) (oi := ⟨_, _, _, _, _, _⟩) (v := ?_) rfl (by kernel_rfl) (by kernel_rfl) (by kernel_rfl) (fun _ _ _ h => h) (Or.inl ⟨rfl, ?_⟩) (by assumption) ?_
                    rotate_left 1
                    · intro w_ hSw; (try dsimp only at hSw); go_simp; (try with_reducible rfl)
                    (try simp only [Act.put, List.setIfInBounds_toArray, List.set_cons_zero, List.set_cons_succ])
                    refine wpAnyH_ready (rs := [17]) (by kernel_rfl) (by simp) ?_
                    refine (AllReadyH.cons (o := ⟨_, _, _, _, _, _⟩) rfl (fun K hK => ?_) AllReadyH.nil)
                    go_simp
                    refine hK.out _ _ ?_ (fun hHeld => ?_)
                    · exact HS4.out _ (HB4.out.setCell (by show _ ≤ wo.heap.size + 1; omega) _)
                    clear hK K
                    (try simp only [Act.put, List.setIfInBounds_toArray, List.set_cons_zero, List.set_cons_succ])
                    refine wpAnyH_done (by kernel_rfl) ?_ _
                    refine NoPanic.normal ?_
                    have HT6 : Hid ((w4.setCell ⟨wo.heap.size + 1, 1, none⟩ (.slice (some ⟨g4, 0, none⟩) (q + 1) cap4)).ownsRow wo.heap.size 3 1 (.slice (some ⟨g4, 0, none⟩) (q + 1) cap4) (q + 1) ((prT z y f g (q + 1)).map (Value.int .i64))) := by
                      unfold Hid
                      rw [prT_succ, List.map_append, List.map_cons, List.map_nil, HE.out]
                      exact ownsRow_setBox HOwn4.out HO4.out (by decide)
                    have HX6 := Lib.hid (box_set1 (v := .slice (some ⟨g4, 0, none⟩) (q + 1) cap4) HO4.out)
                    have hz5 : wo.heap.size + 1 < w4.heap.size := (Array.getElem?_eq_some_iff.1 HO4.out).1
                    have HB7_ : Hid (Below wo.heap.size wo (w4.setCell ⟨wo.heap.size + 1, 1, none⟩ (.slice (some ⟨g4, 0, none⟩) (q + 1) cap4))) := HB4.out.setCell (by show _ ≤ wo.heap.size + 1; omega) _
                    have hz6 : wo.heap.size + 1 < (w4.setCell ⟨wo.heap.size + 1, 1, none⟩ (.slice (some ⟨g4, 0, none⟩) (q + 1) cap4)).heap.size := by simpa [World.setCell] using hz5
                    obtain ⟨w5_, hw5_⟩ : ∃ w5_, w5_ = w4.setCell ⟨wo.heap.size + 1, 1, none⟩ (.slice (some ⟨g4, 0, none⟩) (q + 1) cap4) := ⟨_, rfl⟩
                    rw [← hw5_] at HT6 HX6 HB7_ hz6 ⊢
                    clear hw5_ d14 f14 d1
                    go_wp2_with fail
                    go_roundw
                    case rel => exact ⟨q + 1, _, _, by omega, by go_num, HX6, HT6, HB7_, hz6⟩
                    case measure => simp [intOf]; omega
                  · go_simp
                    have B62_ : Hid (Below wq.heap.size wq (w61_.alloc (.cells #[.int .i64 (u * y + v')] 3))) := (B61_.out).alloc (B61_.out).size _
                    have d62_ : (w61_.alloc (.cells #[.int .i64 (u * y + v')] 3)).cell? ⟨wo.heap.size + 1, 1, none⟩ = some (.slice (some ⟨tb, 0, none⟩) q vc) := cell_b B62_.out d1
                    refine hK.out _ _ ?_ (fun hHeld => ?_)
                    · exact HKq.out _ B62_.out
                    clear hK K
                    (try simp only [Act.put, List.setIfInBounds_toArray, List.set_cons_zero, List.set_cons_succ])
                    refine wpAnyH_ready (rs := [1]) (by kernel_rfl) (by simp) ?_
                    refine (AllReadyH.cons (o := ⟨_, _, _, _, _, _⟩) rfl (fun K hK => ?_) AllReadyH.nil)
                    go_simp
                    refine hK.out _ _ ?_ (fun hHeld => ?_)
                    · exact HKq.out _ (B62_.out)
                    clear hK K
                    (try simp only [Act.put, List.setIfInBounds_toArray, List.set_cons_zero, List.set_cons_succ])
                    refine wpAnyH_ready (rs := [15]) (by kernel_rfl) (by simp) ?_
                    refine (AllReadyH.cons (o := ⟨_, _, _, _, _, _⟩) rfl (fun K hK => ?_) AllReadyH.nil)
                    refine step_append_lies _ rfl _ _ _ rfl wo.heap.size 3 j0 _ 1 8 Try.underlying37 hj0 hy0_ hy1 hy2 rfl (by decide) (.slice (some ⟨tb, 0, none⟩) q vc) q ((prT z y f g q).map (Value.int .i64)) rfl ((HTq.out.kept (grown_of_below (B61_.out) none) (own_em _)).alloc _) ⟨w61_.heap.size, 0, none⟩ 1 1 [.int .i64 (u * y + v')] rfl rfl (cell_one_new _ _ _) (by simp [Value.oneCell']) (by decide) (by unfold maxLen; omega) (by omega) (by have h_ := (B62_.out).size; omega) _ rfl ?_
                    intro g4 cap4 w4 hown4 hgrow4 hat4 hlt4
                    have hzB_ := (B62_.out).size
                    have hB4 : Below wo.heap.size wo w4 := (HBoq.out.trans ((B62_.out).mono (by omega))).grown hgrow4 (by omega) (fun b hb => by have h_ := (HTq.out.lt b hb).1; omega)
                    have HO4 : Hid (w4.heap[wo.heap.size + 1]? = some (.cells #[.int .i64 (j : Int), .slice (some ⟨tb, 0, none⟩) q vc] 64 (0, 0))) := (hgrow4.block _ (by omega) (fun e => HNb.out e.symm)).trans (((B62_.out).block _ hsq).trans HOq.out)
                    have HS4 : Hid (∀ W, Below wo.heap.size wo W → (fun W => W.cell? ⟨w.heap.size, 0, none⟩ = some (.int .i64 z) ∧ W.cell? ⟨w.heap.size, 1, none⟩ = some (.slice (some ⟨b2, o2, none⟩) n c) ∧ W.cell? ⟨w.heap.size + 1, 0, none⟩ = some (.int .i64 y) ∧ W.cell? ⟨w.heap.size + 1, 1, none⟩ = some (.slice bo m d)) W) := fun W hW => ⟨cell_b hW cz, cell_b hW ca, cell_b hW cz1, cell_b hW ca1⟩
                    have d14 := (box_cells HO4.out).2.1
                    have f14 := (box_cells HO4.out).2.2 1
                    have HOwn4 := Lib.hid hown4
                    have HB4 := Lib.hid hB4
                    clear hown4 hgrow4 hat4 hB4
                    refine hK.out _ _ ?_ (fun hHeld => ?_)
                    · exact HS4.out _ HB4.out
                    clear hK K
                    (try simp only [Act.put, List.setIfInBounds_toArray, List.set_cons_zero, List.set_cons_succ])
                    refine wpAnyH_take (i := 16) (oi := ⟨_, _, _, _, _, _⟩) (v := ?_) rfl (by kernel_rfl) (by kernel_rfl) (by kernel_rfl) (fun _ _ _ h => h) (Or.inl ⟨rfl, ?_⟩) (by assumption) ?_
                    rotate_left 1
                    · intro w_ hSw; (try dsimp only at hSw); go_simp; (try with_reducible rfl)
                    (try simp only [Act.put, List.setIfInBounds_toArray, List.set_cons_zero, List.set_cons_succ])
                    refine wpAnyH_ready (rs := [17]) (by kernel_rfl) (by simp) ?_
                    refine (AllReadyH.cons (o := ⟨_, _, _, _, _, _⟩) rfl (fun K hK => ?_) AllReadyH.nil)
                    go_simp
                    refine hK.out _ _ ?_ (fun hHeld => ?_)
                    · exact HS4.out _ (HB4.out.setCell (by show _ ≤ wo.heap.size + 1; omega) _)
                    clear hK K
                    (try simp only [Act.put, List.setIfInBounds_toArray, List.set_cons_zero, List.set_cons_succ])
                    refine wpAnyH_done (by kernel_rfl) ?_ _
                    refine NoPanic.normal ?_
                    have HT6 : Hid ((w4.setCell ⟨wo.heap.size + 1, 1, none⟩ (.slice (some ⟨g4, 0, none⟩) (q + 1) cap4)).ownsRow wo.heap.size 3 1 (.slice (some ⟨g4, 0, none⟩) (q + 1) cap4) (q + 1) ((prT z y f g (q + 1)).map (Value.int .i64))) := by
                      unfold Hid
                      rw [prT_succ, List.map_append, List.map_cons, List.map_nil, HE.out]
                      exact ownsRow_setBox HOwn4.out HO4.out (by decide)
                    have HX6 := Lib.hid (box_set1 (v := .slice (some ⟨g4, 0, none⟩) (q + 1) cap4) HO4.out)
                    have hz5 : wo.heap.size + 1 < w4.heap.size := (Array.getElem?_eq_some_iff.1 HO4.out).1
                    have HB7_ : Hid (Below wo.heap.size wo (w4.setCell ⟨wo.heap.size + 1, 1, none⟩ (.slice (some ⟨g4, 0, none⟩) (q + 1) cap4))) := HB4.out.setCell (by show _ ≤ wo.heap.size + 1; omega) _
                    have hz6 : wo.heap.size + 1 < (w4.setCell ⟨wo.heap.size + 1, 1, none⟩ (.slice (some ⟨g4, 0, none⟩) (q + 1) cap4)).heap.size := by simpa [World.setCell] using hz5
                    obtain ⟨w5_, hw5_⟩ : ∃ w5_, w5_ = w4.setCell ⟨wo.heap.size + 1, 1, none⟩ (.slice (some ⟨g4, 0, none⟩) (q + 1) cap4) := ⟨_, rfl⟩
                    rw [← hw5_] at HT6 HX6 HB7_ hz6 ⊢
                    clear hw5_ d14 f14 d1
                    go_wp2_with fail
                    go_roundw
                    case rel => exact ⟨q + 1, _, _, by omega, by go_num, HX6, HT6, HB7_, hz6⟩
                    case measure => simp [intOf]; omega
        · obtain rfl : q = nq := by omega
          obtain ⟨G, C, HTt, HRow⟩ := HBu.out
          obtain ⟨ua, uc, hvv⟩ := own_form HRow
          have HTt_ := Lib.hid HTt
          have HRow_ := Lib.hid HRow
          have HRi := Lib.hid (HRow.kept (grown_of_below HBi.out none) (own_em _))
          have HOi := Lib.hid ((HBi.out.block _ hsr).trans HO.out)
          have hNb := row_block HRow HO.out (by decide)
          have HNb := Lib.hid hNb
          clear HTt HRow hNb
          subst hvv
          obtain ⟨d0, d1, df⟩ := box_cells HOi.out
          have HLn : Hid (q = (prT z y f g q).length) := by unfold Hid; rw [prT_len]
          have HTl := Lib.hid HTb.out
          have hltq' : ¬ (q : Int) < (q : Int) := by omega
          have HBo := Lib.hid kB
          clear xf df kB
          go_wp2_with fail
          refine (HPw.out _).mono ?_
          rintro e_ wp_ ⟨rfl, rfl⟩
          go_wp2_with (at_builtin; refine wpList_append_own _ rfl _ _ 26 rfl (w.heap.size + 1 + 1 + 1) 64 i0 (.agg #[.int .i64 0, .slice none 0 0]) 2 32 Try.underlying26 hi0 hz0 hz1 hz2 rfl (by decide) (.slice ua k uc) k (flatN k G C F) rfl (HRi.out.alloc _) ⟨wi.heap.size, 0, none⟩ 1 1 [.int .i64 (r : Int), .slice (some ⟨tb, 0, none⟩) q vc] rfl rfl (news_two _ _ _) (by simp [Value.oneCell']) (by unfold maxLen; omega) (by omega) (by simp; omega) ?_; intro v' w5 hown' hgrow' hnil'; obtain ⟨g5, cap5, rfl⟩ := ownsRow_succ hown'; have HO5 : Hid (w5.heap[w.heap.size + 1 + 1 + 1 + 1]? = some (.cells #[.int .i64 (z * y), .slice ua k uc] 28 (0, 0))) := (hgrow'.block _ (by simp; omega) (fun e => HNb.out e.symm)).trans ((Below.heap_alloc _ _ _ (by omega)).trans HOi.out); have d15 := (box_cells HO5.out).2.1; have f15 := (box_cells HO5.out).2.2 1; have HOwn5 := Lib.hid hown'; have HGrow5 := Lib.hid hgrow'; clear hown' hgrow' hnil')
          have HNew : Hid (Built (w5.setCell ⟨w.heap.size + 1 + 1 + 1 + 1, 1, none⟩ (.slice (some ⟨g5, 0, none⟩) (k + 1) cap5)) (w.heap.size + 1 + 1 + 1) (.slice (some ⟨g5, 0, none⟩) (k + 1) cap5) (k + 1) F) :=
            (Built.push HTt_.out HRow_.out HBi.out (by omega) HLn.out HTl.out HFe.out HOwn5.out HGrow5.out).setBox HO5.out
          have HO6 := Lib.hid (box_set1 (v := .slice (some ⟨g5, 0, none⟩) (k + 1) cap5) HO5.out)
          have hz5 : w.heap.size + 1 + 1 + 1 + 1 < w5.heap.size := (Array.getElem?_eq_some_iff.1 HO5.out).1
          have hfar : ∀ b, b < w.heap.size + 1 + 1 + 1 → (w5.setCell ⟨w.heap.size + 1 + 1 + 1 + 1, 1, none⟩ (.slice (some ⟨g5, 0, none⟩) (k + 1) cap5)).heap[b]? = wi.heap[b]? := fun b hb => by
            rw [Below.heap_setCell _ _ _ _ (by show b ≠ w.heap.size + 1 + 1 + 1 + 1; omega), HGrow5.out.block b (by simp; omega) (fun e => by have h_ := (HRi.out.lt b e.symm).1; omega), Below.heap_alloc _ _ _ (by omega)]
          have HR6 : Hid ((w5.setCell ⟨w.heap.size + 1 + 1 + 1 + 1, 1, none⟩ (.slice (some ⟨g5, 0, none⟩) (k + 1) cap5)).heap[w.heap.size + 1 + 1]? = some (.cells #[.int .i64 0, .slice none 0 0] 28 (0, 0))) := (hfar _ (by omega)).trans ((HBi.out.block _ (by omega)).trans HR.out)
          have HBx6 : Hid (Bx2 w (w5.setCell ⟨w.heap.size + 1 + 1 + 1 + 1, 1, none⟩ (.slice (some ⟨g5, 0, none⟩) (k + 1) cap5)) z (some ⟨b2, o2, none⟩) n c y bo m d) :=
            HBxi.out.same (((HBo.out.alloc (by omega) _).grown HGrow5.out (by simp; omega) (fun b hb => by have h_ := (HRi.out.lt b hb).1; omega)).setCell (by show _ ≤ w.heap.size + 1 + 1 + 1 + 1; omega) _) (fun b hb => hfar b (by omega))
          have hz6 : w.heap.size + 1 + 1 + 1 + 1 < (w5.setCell ⟨w.heap.size + 1 + 1 + 1 + 1, 1, none⟩ (.slice (some ⟨g5, 0, none⟩) (k + 1) cap5)).heap.size := by simpa [World.setCell] using hz5
          obtain ⟨w6, hw6⟩ : ∃ w6, w6 = w5.setCell ⟨w.heap.size + 1 + 1 + 1 + 1, 1, none⟩ (.slice (some ⟨g5, 0, none⟩) (k + 1) cap5) := ⟨_, rfl⟩
          rw [← hw6] at HNew HO6 HR6 HBx6 hz6 ⊢
          clear hw6 hfar d15 f15 d1 d0 kz ka kz1 ka1 ko x0 x1
          go_wp2_with fail
          go_roundw
          case rel => exact ⟨k + 1, _, by omega, by go_num, HNew, HO6, HR6, HBx6, hz6⟩
          case measure => simp [intOf]; omega
    · obtain rfl : k = n := by omega
      obtain ⟨_, hrow, _⟩ := HBu.out.row
      obtain ⟨va, vc, rfl⟩ := own_form hrow
      obtain ⟨d0, d1, _⟩ := box_cells HO.out
      obtain ⟨r0, r1, rf⟩ := box_cells HR.out
      obtain ⟨G, C, hops⟩ := HBu.out.ops (fs := prdL z y fs gs) (fun j hj => (HFf.out j (by have := HV.out.1; omega)))
      have HOps := Lib.hid hops
      have HLen : Hid (k = (prdL z y fs gs).length) := by unfold Hid; rw [HLr.out, HV.out.1]
      have hkn : ¬ (k : Int) < (k : Int) := by omega
      clear hrow hops
      go_wp2_with fail
      have hK : ∀ (v1 v2 : Value), Kept (w.heap.size + 1 + 1 + 1) wo.heap.size wo ((wo.setCell ⟨w.heap.size + 1 + 1, 0, none⟩ v1).setCell ⟨w.heap.size + 1 + 1, 1, none⟩ v2) := by
        intro v1 v2 q h1 h2
        rw [Below.heap_setCell _ _ _ _ (by show q ≠ w.heap.size + 1 + 1; omega), Below.heap_setCell _ _ _ _ (by show q ≠ w.heap.size + 1 + 1; omega)]
      refine bodyPost_ret (v := .agg #[.int .i64 (z * y), .slice va k vc]) (by simp [results, Try.results54, go_sem, r0, r1]) rfl (by unfold NewAlgP; exact ⟨va, k, vc, G, C, rfl, HLen.out, ((HOps.out.kept (hK _ _)).lo_mono (by omega)).hi_mono (by simp [World.setCell]), (HBxr.out.bel.setCell (by show _ ≤ _; simp; omega) _).setCell (by show _ ≤ _; simp; omega) _⟩)

end Go.Proofs.Ytfdolbpbddjhmaa
