/-
  Contract: spec.SubsThrough. Conditions: the bounds that each theorem names.
-/
import Derived.Test.YtbpbbmfgkejgaaaSubS
namespace Go.Proofs.Ytbpbbmfgkejgaaa
open Go.RowKit
set_option linter.unusedVariables false
set_option linter.unusedSimpArgs false

theorem allL_filter {p : Nat → Bool} {q : List Int → Bool} {b : Nat} (hb : b ≤ 2 ^ 8) : (allL p b).filter q = allL (fun s => p s && q (listK s 8)) b := by
  refine asc_unique ((allL_asc hb).filter _) (allL_asc hb) fun y => ?_
  rw [List.mem_filter, allL_mem, allL_mem]
  constructor
  · rintro ⟨⟨s, h1, h2, rfl⟩, h4⟩
    exact ⟨s, h1, by rw [h2, h4]; rfl, rfl⟩
  · rintro ⟨s, h1, h2, rfl⟩
    rw [Bool.and_eq_true] at h2
    exact ⟨⟨s, h1, h2.1, rfl⟩, h2.2⟩
theorem thru_eq {z : Int} {fs : List OpD} {x : Int} (h0 : 0 ≤ x) (h8 : x < 8) (hz : z.toNat ≤ 8) : (allL (subP z fs fun _ => true) (2 ^ z.toNat)).filter (fun y : List Int => decide (x ∈ y)) = allL (subP z fs fun s => s.testBit x.toNat) (2 ^ z.toNat) := by
  rw [allL_filter (Nat.pow_le_pow_right (by decide) hz)]
  refine allL_congr fun s hs => ?_
  have h : decide (x ∈ listK s 8) = s.testBit x.toNat := by
    have hx : x = ((x.toNat : Nat) : Int) := by omega
    have h1 := mem_listK_nat s 8 x.toNat
    rw [← hx] at h1
    cases hb : s.testBit x.toNat with
    | true => exact decide_eq_true (h1.2 ⟨by omega, hb⟩)
    | false => exact decide_eq_false fun h2 => by rw [(h1.1 h2).2] at hb; cases hb
  show (subP z fs (fun _ => true) s && decide (x ∈ listK s 8)) = _
  rw [h]
  simp only [subP, Bool.true_and]
  exact Bool.and_comm _ _
theorem filter_yes {q : List Int → Bool} {ls : List (List Int)} {k : Nat} {y : List Int} (hy : ls[k]? = some y) (h : q y = true) : (ls.take (k + 1)).filter q = (ls.take k).filter q ++ [y] := by
  rw [List.take_add_one, hy, Option.toList_some, List.filter_append]; simp [h]
theorem filter_no {q : List Int → Bool} {ls : List (List Int)} {k : Nat} {y : List Int} (hy : ls[k]? = some y) (h : q y = false) : (ls.take (k + 1)).filter q = (ls.take k).filter q := by
  rw [List.take_add_one, hy, Option.toList_some, List.filter_append]; simp [h]
theorem Kept.of_grown {lo hi g : Nat} {w w' : World} (h : w.grownBy w' (some g)) (hh : hi ≤ w.heap.size) (hg : g < lo ∨ hi ≤ g) : Kept lo hi w w' := fun k h1 h2 => h.block k (by omega) (by intro e; cases e; omega)
theorem InnL.band {w w' : World} {B hi : Nat} {vs : List Value} {ls : List (List Int)} (h : InnL w B vs ls) (hhi : w.heap.size = hi) (hk : Kept B hi w w') (hs : hi ≤ w'.heap.size) : InnL w' B vs ls := ⟨h.1, fun j v xs hv hx => by
  obtain ⟨a, m, c, h1, h2, h3, h4⟩ := h.2 j v xs hv hx
  rw [hhi] at h4
  exact ⟨a, m, c, h1, h2, h3, (h4.kept hk).mono (Nat.le_refl _) hs⟩⟩
theorem InnL.mono {w : World} {B B' : Nat} {vs : List Value} {ls : List (List Int)} (h : InnL w B vs ls) (hb : B' ≤ B) : InnL w B' vs ls := ⟨h.1, fun j v xs hv hx => by
  obtain ⟨a, m, c, h1, h2, h3, h4⟩ := h.2 j v xs hv hx
  exact ⟨a, m, c, h1, h2, h3, h4.mono hb (Nat.le_refl _)⟩⟩

set_option maxHeartbeats 4000000 in
set_option maxRecDepth 100000 in
theorem specSubsThrough (lo hi : Nat) (z : Int) (ao : Option Addr) (c n : Nat) (fs : List OpD) (x : Int) (w : World) (hv : OView w lo hi ao n fs) (hhi : hi ≤ w.heap.size) (hs : ∀ (j : Nat) (f : OpD), fs[j]? = some f → f.2.length ≤ maxLen) (hx : (Lit.int .i64 x).wf = true) :
    Calls Try.prog 22 #[.agg #[.int .i64 z, .slice ao n c], .int .i64 x] w fun e w' => ResV w w' (valSubsThrough z fs x).1 (valSubsThrough z fs x).2 e := by
  obtain ⟨i0, hi0, hz0, hz1, hz2⟩ := info_parts Try.infoInts
  have hB : Below w.heap.size w ((w.alloc (.cells #[.int .i64 z, .slice ao n c] 31)).alloc (.cells #[] 40)) := below_then (below_alloc _ _) (below_alloc _ _)
  have HB := Lib.hid hB
  have HV := Lib.hid hv
  have cz : ((w.alloc (.cells #[.int .i64 z, .slice ao n c] 31)).alloc (.cells #[] 40)).cell? ⟨w.heap.size, 0, none⟩ = some (.int .i64 z) := cell_b (below_alloc _ _) (by simp)
  have ca : ((w.alloc (.cells #[.int .i64 z, .slice ao n c] 31)).alloc (.cells #[] 40)).cell? ⟨w.heap.size, 1, none⟩ = some (.slice ao n c) := cell_b (below_alloc _ _) (by simp)
  have hO : ((w.alloc (.cells #[.int .i64 z, .slice ao n c] 31)).alloc (.cells #[] 40)).ownsRow (w.heap.size + 1) 40 1 (.slice (some ⟨w.heap.size + 1, 0, none⟩) 0 0) 0 [] := by
    have h_ := own_nilL (w.alloc (.cells #[.int .i64 z, .slice ao n c] 31)) (base := w.heap.size + 1) (by rw [World.size_alloc]; exact Nat.le_refl _)
    rw [World.size_alloc] at h_
    exact h_
  have HO := Lib.hid hO
  have hC := good_any lo hi z ao c n fs _ (hv.kept (Kept.of_below hB hhi)) (Nat.le_trans hhi hB.size) hs
  have HI := Lib.hid (fun W => in_any x 0 (z - 1) W)
  obtain ⟨r, hr⟩ : ∃ r, algOkB z fs = r := ⟨_, rfl⟩
  rw [hr] at hC
  have HC := Lib.hid hC
  have HRr := Lib.hid hr
  unfold ResV valSubsThrough
  rw [hr]
  cases r with
  | false =>
    clear hv hs hB hC hr hO
    go_enter Try.func22, Try.ntmps22
    go_wp2_with fail
    refine HC.out.mono ?_
    rintro e w1 ⟨rfl, b1⟩
    have HB1 := Lib.hid (HB.out.trans (b1.mono HB.out.size))
    clear b1
    go_wp2_with fail
    go_ret2
    exact ⟨_, 0, ⟨0, rfl⟩, rfl, ⟨rfl, .inl rfl⟩, HB1.out⟩
  | true =>
    obtain ⟨hz1', hz8'⟩ := (algOkB_of hr).1
    obtain ⟨u, hu⟩ : ∃ u, inB 0 (z - 1) x = u := ⟨_, rfl⟩
    rw [hu] at HI
    rw [hu]
    have hwr : IntKind.i64.wrap (z - 1) = z - 1 := by rw [IntKind.wrap_i64]; omega
    cases u with
    | false =>
      clear hv hs hB hC hr hO hu
      go_enter Try.func22, Try.ntmps22
      go_wp2_with fail
      refine HC.out.mono ?_
      rintro e w1 ⟨rfl, b1⟩
      have HB1 := Lib.hid (HB.out.trans (b1.mono HB.out.size))
      have cz1 := cell_b b1 cz
      have ca1 := cell_b b1 ca
      clear b1
      go_wp2_with fail
      refine (HI.out _).mono ?_
      rintro e w2 ⟨rfl, rfl⟩
      go_wp2_with fail
      go_ret2
      exact ⟨_, 0, ⟨0, rfl⟩, rfl, ⟨rfl, .inl rfl⟩, HB1.out⟩
    | true =>
      have hin : 0 ≤ x ∧ x ≤ z - 1 := of_decide_eq_true hu
      have HEq : Hid ((allL (subP z fs fun _ => true) (2 ^ z.toNat)).filter (fun y : List Int => decide (x ∈ y)) = allL (subP z fs fun s => s.testBit x.toNat) (2 ^ z.toNat)) := thru_eq hin.1 (by omega) (by omega)
      have HY8 : Hid (∀ y, y ∈ allL (subP z fs fun _ => true) (2 ^ z.toNat) → y.length ≤ 8) := fun y hy => by
        obtain ⟨s, _, _, rfl⟩ := allL_mem.1 hy
        exact listK_le s 8
      simp only [Bool.and_self, if_true]
      rw [← HEq.out]
      obtain ⟨ls, hls⟩ : ∃ ls, allL (subP z fs fun _ => true) (2 ^ z.toNat) = ls := ⟨_, rfl⟩
      rw [hls] at HY8 ⊢
      have HLs := Lib.hid hls
      clear hv hs hB hC hr hO hu hin hls HEq
      go_enter Try.func22, Try.ntmps22
      go_wp2_with fail
      refine HC.out.mono ?_
      rintro e w1 ⟨rfl, b1⟩
      have HB1 := Lib.hid (HB.out.trans (b1.mono HB.out.size))
      have HO1 := Lib.hid (HO.out.kept (grown_of_below b1 none) (own_em _))
      have cz1 := cell_b b1 cz
      have ca1 := cell_b b1 ca
      have hsz1 : w.heap.size + 1 + 1 ≤ w1.heap.size := by have := b1.size; simp only [World.size_alloc] at this; exact this
      clear b1 cz ca
      go_wp2_with fail
      refine (HI.out _).mono ?_
      rintro e w2 ⟨rfl, rfl⟩
      have hAll := l5All_any lo hi z ao c n fs w1 (HV.out.kept (Kept.of_below HB1.out hhi)) (Nat.le_trans hhi HB1.out.size) HRr.out
      rw [HLs.out] at hAll
      have HAll := Lib.hid hAll
      clear hAll
      go_wp2_with fail
      refine HAll.out.mono ?_
      rintro e w3 ⟨g3, M, d3, vs3, rfl, hM, hM256, ho3, hi3, b3⟩
      have HB3 := Lib.hid (HB1.out.trans (b3.mono HB1.out.size))
      have HO3 := Lib.hid (HO1.out.kept (grown_of_below b3 none) (own_em _))
      have hs31 : w1.heap.size ≤ w3.heap.size := b3.size
      have HLv := Lib.hid (row_LView ho3 hi3)
      have HI3 := Lib.hid hi3
      have HR3 := Lib.hid ho3
      have hg3 := ho3.lt g3 rfl
      have HM := Lib.hid hM
      have hMl : M = ls.length := hM
      clear b3 ho3 hi3 hM cz1 ca1
      go_wp2_with fail
      go_loopw [6, 8] (fun v i wr => ∃ (k m d g : Nat) (vs : List Value), k ≤ M ∧ i = .int .i64 (k : Int) ∧ v = .slice (some ⟨g, 0, none⟩) m d ∧ m ≤ k ∧ Hid (g < w1.heap.size + 1 ∨ w3.heap.size ≤ g) ∧ Hid (m = ((ls.take k).filter (fun y : List Int => decide (x ∈ y))).length) ∧ Hid (wr.ownsRow (w.heap.size + 1) 40 1 (.slice (some ⟨g, 0, none⟩) m d) m vs) ∧ Hid (InnL w3 (w1.heap.size + 1) vs ((ls.take k).filter (fun y : List Int => decide (x ∈ y)))) ∧ Hid (Kept (w1.heap.size + 1) w3.heap.size w3 wr) ∧ Hid (w3.heap.size ≤ wr.heap.size) ∧ Hid (Below w.heap.size w wr)) (fun _ i _ => M - (intOf i).toNat)
      case atStart => exact ⟨0, 0, 0, _, [], Nat.zero_le _, rfl, rfl, Nat.le_refl _, .inl (by omega), (by unfold Hid; simp), HO3.out, InnL.nil _ _, (fun k _ _ => rfl), Nat.le_refl _, HB3.out⟩
      case round =>
        obtain ⟨k, m, d, g, vs, hk, rfl, rfl, hmk, HG, HMk, HR, HIk, HK, HSz, HBr⟩ := hrel
        by_cases hkM : k < M
        · have hkM' : (k : Int) < (M : Int) := by omega
          obtain ⟨a2, m2, c2, y, hv2, hy, hmc2, hc2, hvy⟩ := HI3.out.at_ (j := k) (by omega)
          have hc3 : w3.cell? ⟨g3, k, none⟩ = some (.slice a2 m2 c2) := by rw [HR3.out.cellAt k (by omega)]; exact hv2
          have hcell : wr.cell? ⟨g3, k, none⟩ = some (.slice a2 m2 c2) := (HK.out.cell (p := ⟨g3, k, none⟩) hg3.1 hg3.2).trans hc3
          have HVy := Lib.hid (hvy.kept HK.out)
          have hl8 : m2 ≤ 8 := by rw [← hvy.1]; exact HY8.out y (List.mem_of_getElem? hy)
          have HHas := Lib.hid (l1Has_any _ _ a2 c2 m2 y x wr HVy.out (by unfold maxLen; omega))
          have HIn := Lib.hid (InnL.one (w := w3) (B := w1.heap.size + 1) (v := .slice a2 m2 c2) (xs := y) ⟨a2, m2, c2, rfl, hmc2, hc2, hvy⟩)
          have HYk := Lib.hid hy
          obtain ⟨u, hu⟩ : ∃ u, decide (x ∈ y) = u := ⟨_, rfl⟩
          rw [hu] at HHas
          have HU := Lib.hid hu
          clear hv2 hy hvy hc3 hu
          cases u with
          | true =>
            go_wp2_with fail
            refine HHas.out.mono ?_
            rintro e w4 ⟨rfl, rfl⟩
            go_wp2_with (at_builtin; refine wpList_append_own_at _ rfl _ _ 26 rfl (w.heap.size + 1) 40 i0 (.slice none 0 0) 1 24 Try.underlying26 hi0 hz0 hz1 hz2 rfl (by decide) (.slice (some ⟨g, 0, none⟩) m d) m vs rfl (HR.out.alloc _) ⟨wr.heap.size, 0, none⟩ 1 1 [.slice a2 m2 c2] rfl rfl (cell_one_new _ _ _) (fun x hx => by simp at hx; subst hx; rfl) (by unfold maxLen; omega) (by omega) (by have := HBr.out.size; have := HSz.out; simp; omega) ?_; intro v' w5 hown' hgrow' hnil' hat')
            obtain ⟨g5, cap, rfl⟩ := ownsRow_succ hown'
            have hgr : (wr.alloc (.cells #[.slice a2 m2 c2] 40)).grownBy w5 (some g) := by simpa [Value.ownBlock] using hgrow'
            have HG5 : Hid (g5 < w1.heap.size + 1 ∨ w3.heap.size ≤ g5) := by
              rcases hat' with h_ | h_
              · have : g5 = g := by simpa [Value.ownBlock] using h_
                rw [this]; exact HG.out
              · have : g5 = wr.heap.size + 1 := by simpa [Value.ownBlock] using h_
                have := HSz.out
                exact .inr (by omega)
            have HB5 := Lib.hid ((HBr.out.alloc HBr.out.size (.cells #[.slice a2 m2 c2] 40)).grown hgrow' (by have := HBr.out.size; simp; omega) (fun q hq => by have := (HR.out.lt q hq).1; omega))
            have HS5 : Hid (w3.heap.size ≤ w5.heap.size) := by
              have h1_ := hgr.size
              have h2_ := HSz.out
              simp only [World.size_alloc] at h1_
              unfold Hid; omega
            have HK5 : Hid (Kept (w1.heap.size + 1) w3.heap.size w3 w5) := (HK.out.trans (Kept.of_below (below_alloc wr (.cells #[.slice a2 m2 c2] 40)) HSz.out)).trans (Kept.of_grown hgr (by have := HSz.out; simp only [World.size_alloc]; omega) HG.out)
            have HM5 : Hid (m + 1 = ((ls.take (k + 1)).filter (fun y : List Int => decide (x ∈ y))).length) := by unfold Hid; rw [filter_yes HYk.out HU.out, List.length_append, ← HMk.out]; rfl
            have HI5 : Hid (InnL w3 (w1.heap.size + 1) (vs ++ [.slice a2 m2 c2]) ((ls.take (k + 1)).filter (fun y : List Int => decide (x ∈ y)))) := by unfold Hid; rw [filter_yes HYk.out HU.out]; exact HIk.out.append HIn.out
            have HO5 := Lib.hid hown'
            clear hown' hgrow' hnil' hat' hgr
            go_wp2_with fail
            go_roundw
            case rel => exact ⟨k + 1, m + 1, cap, g5, _, by omega, by go_num, rfl, by omega, HG5, HM5, HO5, HI5, HK5, HS5, HB5⟩
            case measure => simp [intOf]; omega
          | false =>
            have HM5 : Hid (m = ((ls.take (k + 1)).filter (fun y : List Int => decide (x ∈ y))).length) := by unfold Hid; rw [filter_no HYk.out HU.out]; exact HMk.out
            have HI5 : Hid (InnL w3 (w1.heap.size + 1) vs ((ls.take (k + 1)).filter (fun y : List Int => decide (x ∈ y)))) := by unfold Hid; rw [filter_no HYk.out HU.out]; exact HIk.out
            go_wp2_with fail
            refine HHas.out.mono ?_
            rintro e w4 ⟨rfl, rfl⟩
            go_wp2_with fail
            go_roundw
            case rel => exact ⟨k + 1, m, d, g, vs, by omega, by go_num, rfl, by omega, HG, HM5, HR, HI5, HK, HSz, HBr⟩
            case measure => simp [intOf]; omega
        · have hkM' : ¬ (k : Int) < (M : Int) := by omega
          obtain rfl : k = M := by omega
          have HAllk : Hid (ls.take k = ls) := List.take_of_length_le (by omega)
          rw [HAllk.out] at HMk HIk
          have hv5 := row_LView HR.out (((HIk.out.band rfl HK.out HSz.out).mono (by omega)) : InnL wr (w.heap.size + 1) vs _)
          have HL := Lib.hid (hv5.mono (Nat.le_succ _) (Nat.le_refl _))
          clear hv5
          go_wp2_with fail
          go_ret2
          exact ⟨_, m, ⟨d, rfl⟩, HMk, HL.out, HBr.out⟩

end Go.Proofs.Ytbpbbmfgkejgaaa
