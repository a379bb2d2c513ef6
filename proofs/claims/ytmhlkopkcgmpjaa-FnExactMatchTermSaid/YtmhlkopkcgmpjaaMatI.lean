/-
  Contract: impl.matched. Conditions: the bounds that it names.
-/
import Derived.Test.YtmhlkopkcgmpjaaMatM
import Derived.Test.YtmhlkopkcgmpjaaSubP
import Derived.Test.YtmhlkopkcgmpjaaClone
import Derived.Test.YtmhlkopkcgmpjaaSmL
import Derived.Test.YtmhlkopkcgmpjaaBox
import Derived.RangeFuncBox
import Derived.WalkSpells
namespace Go.Proofs.Ytmhlkopkcgmpjaa
open Go.RowKit
set_option linter.unusedVariables false
set_option linter.unusedSimpArgs false

theorem endN_shift {fs : List OpD} : ∀ {l : List Int} {m : Int} {k e : Nat}, endN fs l m k = some e → ∀ j, endN fs l m j = some (j + (e - k))
  | [], _, _, _, h, _ => by cases h
  | x :: r, m, k, e, h, j => by
    have hg := endN_gt h
    rw [endN] at h ⊢
    cases hb : beh fs x with
    | none => rw [hb] at h; cases h
    | some b =>
      rw [hb] at h
      dsimp only at h ⊢
      by_cases h0 : m + (b - 1) = 0
      · rw [if_pos h0] at h ⊢
        injection h with h
        rw [show e - k = 1 by omega]
      · rw [if_neg h0] at h ⊢
        have hg2 := endN_gt h
        rw [endN_shift h (j + 1)]
        congr 1
        omega
theorem endA_drop {fs : List OpD} {ts : List Int} {k e : Nat} (h : endA fs ts k = some e) : endA fs (ts.drop k) 0 = some (e - k) := by
  have h2 := endN_shift h 0
  rw [Nat.zero_add] at h2
  exact h2
theorem subA_drop {fs : List OpD} {ts : List Int} {k e : Nat} (h : endA fs ts k = some e) : subA fs (ts.drop k) 0 = subA fs ts k := by
  unfold subA
  rw [endA_drop h, h, List.drop_zero, Option.getD_some, Option.getD_some, List.drop_take]
theorem IView.rest {w : World} {lo hi b o n : Nat} {xs : List Int} (h : IView w lo hi (some ⟨b, o, none⟩) n xs) {k : Nat} (h1 : k < n) : IView w lo hi (some ⟨b, o + k, none⟩) (n - k) (xs.drop k) := by
  have hl := h.1
  obtain ⟨b', o', he, hb, hh, hc⟩ := h.at_ (by omega)
  cases he
  refine ⟨by rw [List.length_drop]; omega, .inr ⟨b, o + k, rfl, hb, hh, fun j x hx => ?_⟩⟩
  rw [List.getElem?_drop] at hx
  rw [Nat.add_assoc]; exact hc (k + j) x hx

/-- The lists and whether there are any. -/
def matV (r : Option (Nat × (Nat → List Int))) : List (List Int) × Bool := match r with
  | some p => ((List.range 6).map p.2, true)
  | none => ([], false)
theorem ls_get {F : Nat → List Int} {n j : Nat} (hj : j < n) : ((List.range n).map F).getD j [] = F j := by
  rw [List.getD_eq_getElem?_getD, List.getElem?_map, List.getElem?_range hj]; rfl

/-- The lists so far: those that are not bound yet are nil. -/
def Bound (w : World) (lo R : Nat) (F : Nat → List Int) : Prop := ∃ G C, OwnsLL w lo w.heap.size (.slice (some ⟨R, 0, none⟩) 6 6) 6 G C F ∧ ∀ v, v < 6 → (G v = none ↔ F v = [])
theorem Bound.below {w w' : World} {lo R : Nat} {F : Nat → List Int} (h : Bound w lo R F) (hb : Below w.heap.size w w') : Bound w' lo R F := by
  obtain ⟨G, C, h1, h2⟩ := h
  exact ⟨G, C, (h1.kept (Kept.of_below hb (Nat.le_refl _))).hi_mono hb.size, h2⟩

theorem ownsLL_none (w : World) (lo : Nat) : ∃ G C, OwnsLL w lo w.heap.size (.slice none 0 0) 0 G C (fun j => ([] : List (List Int)).getD j []) :=
  ⟨fun _ => none, fun _ => 0, World.ownsRow_nil _ _ _ _, fun k h => by simp [Value.ownBlock] at h, fun j hj => by omega, fun j g hj => by omega, fun i j g hi => by omega⟩
theorem updL_self {F : Nat → List Int} {v : Nat} {P : List Int} (h : F v = P) : upd F v P = F := by
  funext u
  by_cases hu : u = v
  · subst hu; rw [upd_same, h]
  · rw [upd_other hu]

set_option maxRecDepth 100000 in
set_option maxHeartbeats 4000000 in
theorem matched_any (lo hi lo2 hi2 lo3 hi3 : Nat) (z : Int) (ao bo : Option Addr) (c n d m b3 o3 d3 m3 : Nat) (fs : List OpD) (ps ts : List Int) (w : World) (hv : OView w lo hi ao n fs) (hhi : hi ≤ w.heap.size) (hok : algOkB z fs = true)
    (hp : IView w lo2 hi2 bo m ps) (hhi2 : hi2 ≤ w.heap.size) (hpe : endA fs ps 0 = some ps.length) (hm : m ≤ 60)
    (ht : IView w lo3 hi3 (some ⟨b3, o3, none⟩) m3 ts) (hhi3 : hi3 ≤ w.heap.size) (hte : endA fs ts 0 = some ts.length) (hm3 : m3 ≤ 60) (hmd3 : m3 ≤ d3) (hd3 : d3 ≤ maxLen) (hqt : ∀ x, x ∈ ts → (Lit.int .i64 x).wf = true) :
    Calls Try.prog 79 #[.agg #[.int .i64 z, .slice ao n c], .slice bo m d, .slice (some ⟨b3, o3, none⟩) m3 d3] w fun e w' => ResS w w' (matV (matF fs ts ps 0 (fun _ => []))).1 (matV (matF fs ts ps 0 (fun _ => []))).2 e := by
  have hpl := hp.1
  have htl := ht.1
  have hB := below_alloc w (.cells #[.int .i64 z, .slice ao n c] 31)
  obtain ⟨w1, hmk0, ho1, hb1⟩ := make_ll (w.alloc (.cells #[.int .i64 z, .slice ao n c] 31)) 6 (by omega)
  have hmk : (Instr.makeSlice 41 (.int .i64 6) (.int .i64 6)).run Try.prog (w.alloc (.cells #[.int .i64 z, .slice ao n c] 31)) = .ok (.slice (some ⟨w.heap.size + 1, 0, none⟩) 6 6) w1 := by
    have h_ := hmk0
    simp only [World.size_alloc] at h_
    exact h_
  have HB1 := Lib.hid (below_then hB hb1)
  have cz1 : w1.cell? ⟨w.heap.size, 0, none⟩ = some (.int .i64 z) := cell_b hb1 (by simp)
  have ca1 : w1.cell? ⟨w.heap.size, 1, none⟩ = some (.slice ao n c) := cell_b hb1 (by simp)
  have HBo : Hid (Bound w1 w.heap.size (w.heap.size + 1) (fun _ => [])) := by
    have h_ := ho1
    simp only [World.size_alloc] at h_
    exact ⟨_, _, h_.lo_mono (Nat.le_succ _), fun v _ => ⟨fun _ => rfl, fun _ => rfl⟩⟩
  obtain ⟨M, hM⟩ : ∃ M, matF fs ts ps 0 (fun _ => []) = M := ⟨_, rfl⟩
  rw [hM]
  have HM : Hid (matF fs ts (ps.drop 0) 0 (fun _ => []) = M) := by unfold Hid; rw [List.drop_zero]; exact hM
  obtain ⟨⟨ls, ok⟩, hvv⟩ : ∃ p, matV M = p := ⟨_, rfl⟩
  rw [hvv]
  have HVv := Lib.hid hvv
  have HV := Lib.hid hv
  have HP := Lib.hid hp
  have HT := Lib.hid ht
  have HOk := Lib.hid hok
  have HPe := Lib.hid hpe
  have HTe := Lib.hid hte
  have HQ := Lib.hid hqt
  have HPl := Lib.hid hpl
  have HTl := Lib.hid htl
  have HEv := Lib.hid (EvenT.start hpe hte)
  clear hv hok hp ht hpe hte hqt hB hmk0 ho1 hb1 hM hvv hpl htl
  have hnil1 : ∀ w, (binOp .eql 25 (.slice none 0 0) (.slice none 0 0)).run Try.prog w = .ok (.bool true) w := fun w => by
    rw [run_eql_nil_slice w 25 3 none 0 0 0 0 Try.underlying25]; rfl
  have hnil2 : ∀ g l c w, (binOp .eql 25 (.slice (some ⟨g, 0, none⟩) l c) (.slice none 0 0)).run Try.prog w = .ok (.bool false) w := fun g l c w => by
    rw [Lib.run_eql_slice_nil w 25 3 (some ⟨g, 0, none⟩) l c 0 0 Try.underlying25]; rfl
  unfold maxLen at hd3
  go_enter Try.func79, Try.ntmps79
  go_wp2_with fail
  clear hmk
  go_loopw [9, 17] (fun v i wr => ∃ (k at_ L Cp : Nat) (q : Addr) (F : Nat → List Int), k ≤ m ∧ i = .int .i64 (k : Int) ∧ v = .slice (some q) L Cp ∧ L ≤ 60 ∧ L ≤ Cp ∧ Cp ≤ 9223372036854775807 ∧ Hid (at_ + L = m3) ∧ Hid (at_ + Cp = d3) ∧ Hid (0 < Cp → q = ⟨b3, o3 + at_, none⟩) ∧ wr.cell? ⟨w.heap.size, 0, none⟩ = some (.int .i64 z) ∧ wr.cell? ⟨w.heap.size, 1, none⟩ = some (.slice ao n c) ∧ Hid (EvenT fs ps ts k at_) ∧ Hid (matF fs ts (ps.drop k) at_ F = M) ∧ Hid (∀ v, (F v).length ≤ 60) ∧ Hid (Bound wr w.heap.size (w.heap.size + 1) F) ∧ Hid (Below w.heap.size w wr)) (fun _ i _ => m - (intOf i).toNat)
  case atStart => exact ⟨0, 0, m3, d3, _, _, Nat.zero_le _, rfl, rfl, hm3, hmd3, by omega, Nat.zero_add _, Nat.zero_add _, fun _ => rfl, cz1, ca1, HEv, HM, fun v => Nat.zero_le _, HBo, HB1⟩
  case round =>
    obtain ⟨k, at_, L, Cp, q, F, hk, rfl, rfl, hL60, hLC, hCp, HL, HCp, HQq, cz, ca, HE, HMk, HBnd, HBd, HBr⟩ := hrel
    clear cz1 ca1
    by_cases hkm : k < m
    · obtain ⟨x, hx⟩ := get_of_lt HPl.out hkm
      have hroom := HE.out.room (by rw [HPl.out]; exact hkm)
      have hL0 : 0 < L := by have h1_ := HL.out; have h2_ := HTl.out; omega
      obtain rfl : q = ⟨b3, o3 + at_, none⟩ := HQq.out (by omega)
      obtain ⟨bp, op, rfl, _, _, hcp⟩ := HP.out.at_ (by omega)
      have hcx : wr.cell? ⟨bp, op + k, none⟩ = some (.int .i64 x) := cell_b HBr.out (hcp k x hx)
      obtain ⟨y, hy⟩ : ∃ y, ts[at_]? = some y := ⟨_, List.getElem?_eq_getElem hroom⟩
      obtain ⟨b', o', he', _, _, hct⟩ := HT.out.at_ (by have := HTl.out; omega)
      cases he'
      have hcy : wr.cell? ⟨b3, o3 + at_, none⟩ = some (.int .i64 y) := cell_b HBr.out (hct at_ y hy)
      have hkm' : (k : Int) < (m : Int) := by omega
      have hL1 : (1 : Int) ≤ (L : Int) := by omega
      have hL0' : (0 : Int) < (L : Int) := by omega
      have HX := Lib.hid hx
      have HY := Lib.hid hy
      obtain ⟨hx6, hxn⟩ := term_lt HOk.out HPe.out hx
      clear hcp hct hx hy
      by_cases h0 : x < 0
      · by_cases hxy : y = x
        · subst hxy
          have HN : Hid (matF fs ts (ps.drop (k + 1)) (at_ + 1) F = M) := (matF_op HX.out h0 HY.out).symm.trans HMk.out
          have HE2 := Lib.hid (HE.out.op HOk.out HX.out HY.out)
          by_cases hC1 : Cp = 1
          · have hL1e : L = 1 := by omega
            subst hC1
            subst hL1e
            have HA1 : Hid (at_ + 1 + 0 = m3) := HL.out
            have HA2 : Hid (at_ + 1 + 0 = d3) := HCp.out
            go_wp2_with fail
            go_roundw
            case rel => exact ⟨k + 1, at_ + 1, 0, 0, _, F, by omega, by go_num, rfl, by omega, by omega, by omega, HA1, HA2, fun h_ => by omega, cz, ca, HE2, HN, HBnd, HBd, HBr⟩
            case measure => simp [intOf]; omega
          · go_wp2_with fail
            go_roundw
            case rel => exact ⟨k + 1, at_ + 1, L - 1, Cp - 1, _, F, by omega, by go_num, rfl, by omega, by omega, by omega, by have := HL.out; unfold Hid; omega, by have := HCp.out; unfold Hid; omega, fun h_ => rfl, cz, ca, HE2, HN, HBnd, HBd, HBr⟩
            case measure => simp [intOf]; omega
        · have hne : (y != x) = true := by simp [hxy]
          have HN : Hid (M = none) := HMk.out.symm.trans (matF_op_no HX.out h0 (by rw [HY.out]; intro h_; injection h_ with h_; exact hxy h_))
          have HEq : Hid ((ls, ok) = (([] : List (List Int)), false)) := by unfold Hid; rw [← HVv.out, HN.out]; rfl
          clear hxy
          go_wp2_with fail
          go_ret2
          obtain ⟨rfl, rfl⟩ : ls = [] ∧ ok = false := by
            have h_ := HEq.out
            injection h_ with h1_ h2_
            exact ⟨h1_, h2_⟩
          unfold ResS
          obtain ⟨G0, C0, hN0⟩ := ownsLL_none wr w.heap.size
          exact ⟨none, 0, 0, G0, C0, rfl, rfl, hN0, HBr.out⟩
      · obtain ⟨v, rfl⟩ : ∃ v : Nat, x = (v : Int) := ⟨x.toNat, by omega⟩
        have hv6 : v < 6 := by omega
        obtain ⟨e, he, hae, hel⟩ := term_sub HOk.out HTe.out hroom
        have hrv := (HT.out.rest (k := at_) (by have := HTl.out; omega)).kept (Kept.of_below HBr.out hhi3)
        rw [show m3 - at_ = L by have := HL.out; omega] at hrv
        have hsub := subIn_any lo hi lo3 hi3 z ao (some ⟨b3, o3 + at_, none⟩) c n Cp L fs (ts.drop at_) 0 (e - at_) wr (HV.out.kept (Kept.of_below HBr.out hhi)) (Nat.le_trans hhi HBr.out.size) HOk.out hrv (Nat.le_trans hhi3 HBr.out.size) hL60 hLC (by unfold maxLen; omega) (fun x hx => HQ.out x (List.mem_of_mem_drop hx)) (endA_drop he)
        rw [subA_drop he] at hsub
        have hpe : (subA fs ts at_).length = e - at_ := by
          unfold subA; rw [he, Option.getD_some, List.length_drop, List.length_take]; omega
        have HSub := Lib.hid hsub
        obtain ⟨P, hP⟩ : ∃ P, subA fs ts at_ = P := ⟨_, rfl⟩
        rw [hP] at HSub hpe
        have HP_ := Lib.hid hP
        have HPe2 := Lib.hid hpe
        have HE2 := Lib.hid (HE.out.var HOk.out HX.out he)
        have hpL : e - at_ ≤ L := by have h1_ := HL.out; have h2_ := HTl.out; omega
        have h0' : ¬ (v : Int) < 0 := h0
        obtain ⟨G, C, hO, hG⟩ := HBd.out
        have hcv : wr.cell? ⟨w.heap.size + 1, v, none⟩ = some (.slice (addrO (G v)) (F v).length (C v)) := by
          rw [hO.row.cellAt v (by omega)]; exact flatL_get hv6
        have HO := Lib.hid hO
        have HG := Lib.hid hG
        clear hsub hP hrv he hO hG h0 hpe
        cases hgv : G v with
        | none =>
          have hFv : F v = [] := (HG.out v hv6).1 hgv
          have hC0 : C v = 0 := by
            have h_ := (HO.out.tab v hv6).2
            rw [hgv] at h_
            rcases h_ with ⟨h1_, _⟩ | ⟨_, _, _, h1_, _⟩
            · injection h1_
            · cases h1_
          rw [hgv, hFv, hC0] at hcv
          have hcv2 : wr.cell? ⟨w.heap.size + 1, v, none⟩ = some (.slice none 0 0) := hcv
          have HFv := Lib.hid hFv
          clear hcv hgv hFv hC0
          go_wp2_with fail
          refine HSub.out.mono ?_
          rintro e' w2 ⟨a2, m2, c2, rfl, hm2, hm20, hmc2, hcm2, hvP, b2⟩
          have HB2 := Lib.hid (HBr.out.trans (b2.mono HBr.out.size))
          have cz2 := cell_b b2 cz
          have ca2 := cell_b b2 ca
          have cv2 := cell_b b2 hcv2
          have HO2 := Lib.hid ((HO.out.kept (Kept.of_below b2 (Nat.le_refl _))).hi_mono b2.size)
          have HCl := Lib.hid (clone_ints lo3 hi3 a2 m2 c2 P w2 hvP hm20 (by have := HPe2.out; omega))
          have HM2 := Lib.hid hm2
          have hm2L : (m2 : Int) ≤ (L : Int) := by have := HPe2.out; omega
          clear b2 cz ca hcv2 hvP hm2
          have HN : Hid (matF fs ts (ps.drop (k + 1)) (at_ + m2) (upd F v P) = M) := by
            unfold Hid
            rw [← HMk.out, matF_var HX.out (.inl HFv.out), HP_.out, HM2.out]
          have HE3 : Hid (EvenT fs ps ts (k + 1) (at_ + m2)) := by
            unfold Hid
            rw [HM2.out, HPe2.out, show at_ + (e - at_) = e by omega]; exact HE2.out
          go_wp2_with fail
          refine HCl.out.mono ?_
          rintro e' w3 ⟨g3, c3, rfl, ho3, b3_⟩
          have HB3 := Lib.hid (HB2.out.trans (b3_.mono HB2.out.size))
          have cz3 := cell_b b3_ cz2
          have ca3 := cell_b b3_ ca2
          have hg3 := ho3.lt g3 rfl
          have hO3 := (HO2.out.kept (Kept.of_below b3_ (Nat.le_refl _)))
          have hput := hO3.put (g := some g3) (hi' := w3.heap.size) hv6 (ownsRow_base ho3 HB2.out.size) HM2.out (fun b hb => by cases hb; exact hg3) b3_.size
          have f0 := hO3.row.frozenAt v
          obtain ⟨u0, o0⟩ : ∃ u, w3.cell? ⟨w.heap.size + 1, v, none⟩ = some u := by
            rw [hO3.row.cellAt v (by omega)]; exact ⟨_, flatL_get hv6⟩
          have HPut := Lib.hid hput.1
          have hs4 : (w3.setCell ⟨w.heap.size + 1, v, none⟩ (.slice (addrO (some g3)) m2 c3)).heap.size = w3.heap.size := by simp [World.setCell]
          have HBd4 : Hid (Bound (w3.setCell ⟨w.heap.size + 1, v, none⟩ (.slice (some ⟨g3, 0, none⟩) m2 c3)) w.heap.size (w.heap.size + 1) (upd F v P)) := by
            refine ⟨_, _, by rw [show (w3.setCell ⟨w.heap.size + 1, v, none⟩ (.slice (some ⟨g3, 0, none⟩) m2 c3)).heap.size = w3.heap.size from hs4]; exact HPut.out, fun u hu => ?_⟩
            by_cases huv : u = v
            · subst huv
              rw [upd_same, upd_same]
              refine ⟨fun h_ => (by cases h_), fun h_ => ?_⟩
              have := HM2.out
              rw [h_] at this
              simp at this; omega
            · rw [upd_other huv, upd_other huv]; exact HG.out u hu
          have cz4 : Hid ((w3.setCell ⟨w.heap.size + 1, v, none⟩ (.slice (some ⟨g3, 0, none⟩) m2 c3)).cell? ⟨w.heap.size, 0, none⟩ = some (.int .i64 z)) := keepS cz3 (by show w.heap.size + 1 ≠ w.heap.size; omega)
          have ca4 : Hid ((w3.setCell ⟨w.heap.size + 1, v, none⟩ (.slice (some ⟨g3, 0, none⟩) m2 c3)).cell? ⟨w.heap.size, 1, none⟩ = some (.slice ao n c)) := keepS ca3 (by show w.heap.size + 1 ≠ w.heap.size; omega)
          have HB4 : Hid (Below w.heap.size w (w3.setCell ⟨w.heap.size + 1, v, none⟩ (.slice (some ⟨g3, 0, none⟩) m2 c3))) := HB3.out.setCell (by show w.heap.size ≤ w.heap.size + 1; omega) _
          have HBnd4 : Hid (∀ u, (upd F v P u).length ≤ 60) := fun u => by
            by_cases huv : u = v
            · subst huv; rw [upd_same]; have h1_ := HM2.out; have h2_ := hm2L; omega
            · rw [upd_other huv]; exact HBnd.out u
          have hm2nn : (0 : Int) ≤ (m2 : Int) := by omega
          clear hput hO3 ho3 b3_ hs4
          by_cases hCm : Cp = m2
          · have hLm : Hid (L = m2) := by unfold Hid; have h_ := hm2L; omega
            have hCm1 : (m2 : Int) ≤ (m2 : Int) := Int.le_refl _
            go_wp2_with fail
            go_roundw
            case rel => exact ⟨k + 1, at_ + m2, L - m2, 0, _, upd F v P, by omega, by go_num, rfl, by omega, by have := hLm.out; omega, by omega, by have h1_ := HL.out; have h2_ := hLm.out; unfold Hid; omega, by have h1_ := HCp.out; unfold Hid; omega, fun h_ => by omega, cz4.out, ca4.out, HE3.out, HN.out, HBnd4, HBd4, HB4⟩
            case measure => simp [intOf]; omega
          · go_wp2_with fail
            go_roundw
            case rel => exact ⟨k + 1, at_ + m2, L - m2, Cp - m2, _, upd F v P, by omega, by go_num, rfl, by omega, by omega, by omega, by have h1_ := HL.out; have h2_ := hm2L; unfold Hid; omega, by have h1_ := HCp.out; have h2_ := hm2L; unfold Hid; omega, fun h_ => by rw [Nat.add_assoc], cz4.out, ca4.out, HE3.out, HN.out, HBnd4, HBd4, HB4⟩
            case measure => simp [intOf]; omega
        | some g =>
          rw [hgv] at hcv
          have hcv2 : wr.cell? ⟨w.heap.size + 1, v, none⟩ = some (.slice (some ⟨g, 0, none⟩) (F v).length (C v)) := hcv
          have hFne : F v ≠ [] := fun h_ => by rw [(HG.out v hv6).2 h_] at hgv; cases hgv
          have hone := HO.out.one hv6
          rw [hgv] at hone
          obtain ⟨lv, hlv⟩ : ∃ lv, (F v).length = lv := ⟨_, rfl⟩
          rw [hlv] at hcv2 hone
          have hlv60 : lv ≤ 1048576 := by
            have h_ := HBnd.out v
            omega
          have HOne := Lib.hid hone
          have HFne := Lib.hid hFne
          clear hcv hgv hFne hone hlv
          go_wp2_with fail
          refine HSub.out.mono ?_
          rintro e' w2 ⟨a2, m2, c2, rfl, hm2, hm20, hmc2, hcm2, hvP, b2⟩
          have HB2 := Lib.hid (HBr.out.trans (b2.mono HBr.out.size))
          have cz2 := cell_b b2 cz
          have ca2 := cell_b b2 ca
          have cv2 := cell_b b2 hcv2
          have HBd2 := Lib.hid (HBd.out.below b2)
          have HM2 := Lib.hid hm2
          have hm2L : (m2 : Int) ≤ (L : Int) := by have := HPe2.out; omega
          have hEq := equal_any w.heap.size wr.heap.size lo3 hi3 (some ⟨g, 0, none⟩) a2 (C v) lv c2 m2 (F v) P w2 (HOne.out.view.kept (Kept.of_below b2 (Nat.le_refl _))) hvP (by unfold maxLen; omega) (by unfold maxLen; omega)
          have HE3 : Hid (EvenT fs ps ts (k + 1) (at_ + m2)) := by
            unfold Hid
            rw [HM2.out, HPe2.out, show at_ + (e - at_) = e by omega]; exact HE2.out
          by_cases hFP : F v = P
          · rw [decide_eq_true hFP] at hEq
            have HEqC := Lib.hid hEq
            have HN : Hid (matF fs ts (ps.drop (k + 1)) (at_ + m2) F = M) := by
              unfold Hid
              have h_ := matF_var (fs := fs) (t := ts) (at_ := at_) (F := F) HX.out (.inr (by rw [HP_.out]; exact hFP))
              rw [HP_.out, ← HM2.out, updL_self hFP] at h_
              rw [← h_]; exact HMk.out
            have hm2nn : (0 : Int) ≤ (m2 : Int) := by omega
            clear b2 cz ca hcv2 hvP hm2 hEq hFP
            go_wp2_with fail
            refine HEqC.out.mono ?_
            rintro e' w3 ⟨rfl, q3, rfl⟩
            have HB3 := Lib.hid (below_drewN HB2.out q3)
            have cz3 : (w2.drewN q3).cell? ⟨w.heap.size, 0, none⟩ = some (.int .i64 z) := cz2
            have ca3 : (w2.drewN q3).cell? ⟨w.heap.size, 1, none⟩ = some (.slice ao n c) := ca2
            have HBd3 : Hid (Bound (w2.drewN q3) w.heap.size (w.heap.size + 1) F) := HBd2.out.below (below_drewN (Below.refl _ _) q3)
            obtain ⟨w3, hw3⟩ : ∃ w3, w3 = w2.drewN q3 := ⟨_, rfl⟩
            rw [← hw3] at HB3 cz3 ca3 HBd3 ⊢
            clear hw3 cz2 ca2 cv2
            by_cases hCm : Cp = m2
            · have hLm : Hid (L = m2) := by unfold Hid; have h_ := hm2L; omega
              have hCm1 : (m2 : Int) ≤ (m2 : Int) := Int.le_refl _
              go_wp2_with fail
              go_roundw
              case rel => exact ⟨k + 1, at_ + m2, L - m2, 0, _, F, by omega, by go_num, rfl, by omega, by have := hLm.out; omega, by omega, by have h1_ := HL.out; have h2_ := hLm.out; unfold Hid; omega, by have h1_ := HCp.out; unfold Hid; omega, fun h_ => by omega, cz3, ca3, HE3.out, HN.out, HBnd, HBd3, HB3⟩
              case measure => simp [intOf]; omega
            · go_wp2_with fail
              go_roundw
              case rel => exact ⟨k + 1, at_ + m2, L - m2, Cp - m2, _, F, by omega, by go_num, rfl, by omega, by omega, by omega, by have h1_ := HL.out; have h2_ := hm2L; unfold Hid; omega, by have h1_ := HCp.out; have h2_ := hm2L; unfold Hid; omega, fun h_ => by rw [Nat.add_assoc], cz3, ca3, HE3.out, HN.out, HBnd, HBd3, HB3⟩
              case measure => simp [intOf]; omega
          · rw [decide_eq_false hFP] at hEq
            have HEqC := Lib.hid hEq
            have HN : Hid (M = none) := HMk.out.symm.trans (matF_var_no HX.out (by rw [HP_.out]; rintro (h_ | h_); exact HFne.out h_; exact hFP h_))
            have HEq : Hid ((ls, ok) = (([] : List (List Int)), false)) := by unfold Hid; rw [← HVv.out, HN.out]; rfl
            clear b2 cz ca hcv2 hvP hm2 hEq hFP
            go_wp2_with fail
            refine HEqC.out.mono ?_
            rintro e' w3 ⟨rfl, q3, rfl⟩
            have HB3 := Lib.hid (below_drewN HB2.out q3)
            go_wp2_with fail
            go_ret2
            obtain ⟨rfl, rfl⟩ : ls = [] ∧ ok = false := by
              have h_ := HEq.out
              injection h_ with h1_ h2_
              exact ⟨h1_, h2_⟩
            unfold ResS
            obtain ⟨G0, C0, hN0⟩ := ownsLL_none (w2.drewN q3) w.heap.size
            exact ⟨none, 0, 0, G0, C0, rfl, rfl, hN0, HB3.out⟩
    · have hkm' : ¬ (k : Int) < (m : Int) := by omega
      have HN : Hid (M = some (at_, F)) := HMk.out.symm.trans (matF_end (by have := HPl.out; omega))
      have HEq : Hid ((ls, ok) = ((List.range 6).map F, true)) := by unfold Hid; rw [← HVv.out, HN.out]; rfl
      go_wp2_with fail
      go_ret2
      obtain ⟨rfl, rfl⟩ : ls = (List.range 6).map F ∧ ok = true := by
        have h_ := HEq.out
        injection h_ with h1_ h2_
        exact ⟨h1_, h2_⟩
      obtain ⟨G, C, hO, _⟩ := HBd.out
      unfold ResS
      exact ⟨some ⟨w.heap.size + 1, 0, none⟩, 6, 6, G, C, rfl, by simp, hO.congrF fun j hj => (ls_get hj).symm, HBr.out⟩

end Go.Proofs.Ytmhlkopkcgmpjaa
