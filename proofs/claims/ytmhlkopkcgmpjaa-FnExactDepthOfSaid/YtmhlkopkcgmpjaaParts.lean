/-
  Contracts: spec.l3Parts and spec.l1Most. Conditions: the bounds that each theorem names.
-/
import Derived.Test.YtmhlkopkcgmpjaaDepM
import Derived.Test.YtmhlkopkcgmpjaaSubP
import Derived.Test.YtmhlkopkcgmpjaaEnd
import Derived.Test.YtmhlkopkcgmpjaaClone
import Derived.Test.YtmhlkopkcgmpjaaPushN
namespace Go.Proofs.Ytmhlkopkcgmpjaa
open Go.RowKit
set_option linter.unusedVariables false
set_option linter.unusedSimpArgs false

theorem l1Most_any (a b : Int) (w : World) :
    Calls Try.prog 103 #[.int .i64 a, .int .i64 b] w fun e w' => e = .returned (.int .i64 (max a b)) ∧ w' = w := by
  by_cases h : b < a
  · rw [show max a b = a by omega]
    go_enter Try.func103, Try.ntmps103
    go_wp2
    go_ret
    exact ⟨rfl, rfl⟩
  · rw [show max a b = b by omega]
    go_enter Try.func103, Try.ntmps103
    go_wp2
    go_ret
    exact ⟨rfl, rfl⟩

theorem ownsLL_new (w : World) (B : Nat) (hB : B ≤ w.heap.size) (F : Nat → List Int) : OwnsLL (w.alloc (.cells #[] 25)) B (w.alloc (.cells #[] 25)).heap.size (.slice (some ⟨w.heap.size, 0, none⟩) 0 0) 0 (fun _ => none) (fun _ => 0) F := by
  refine ⟨World.ownsRow_lit (base := B) (e := 25) (size := 1) w #[] 0 hB (by decide) rfl, fun k hk => ?_, fun j hj => by omega, fun j g hj => by omega, fun i j g hi => by omega⟩
  have : w.heap.size = k := by simpa [Value.ownBlock] using hk
  simp; omega

/-- The parts of a term, as a list of lists. -/
def partF (fs : List OpD) (xs : List Int) (j : Nat) : List Int := (partsA fs xs 1).getD j []
theorem partF_at {fs : List OpD} {xs P : List Int} {k : Nat} {t : List (List Int)} (h : (partsA fs xs 1).drop k = P :: t) : partF fs xs k = P ∧ (partsA fs xs 1).drop (k + 1) = t ∧ k < (partsA fs xs 1).length := by
  have h1 : (partsA fs xs 1)[k]? = some P := by
    have h2 : ((partsA fs xs 1).drop k)[0]? = some P := by rw [h]; rfl
    rw [List.getElem?_drop, Nat.add_zero] at h2; exact h2
  refine ⟨?_, ?_, (List.getElem?_eq_some_iff.1 h1).1⟩
  · unfold partF; rw [List.getD_eq_getElem?_getD, h1]; rfl
  · have h3 : ((partsA fs xs 1).drop k).drop 1 = t := by rw [h]; rfl
    rw [List.drop_drop] at h3; exact h3

set_option maxRecDepth 100000 in
set_option maxHeartbeats 2000000 in
theorem l3Parts_any (lo hi lo2 hi2 : Nat) (z : Int) (ao : Option Addr) (c n d m b o : Nat) (fs : List OpD) (xs : List Int) (w : World) (hv : OView w lo hi ao n fs) (hhi : hi ≤ w.heap.size) (hok : algOkB z fs = true)
    (hx : IView w lo2 hi2 (some ⟨b, o, none⟩) m xs) (hhi2 : hi2 ≤ w.heap.size) (hm : m ≤ 60) (hmd : m ≤ d) (hd : d ≤ maxLen) (hend : endA fs xs 0 = some xs.length) :
    Calls Try.prog 102 #[.agg #[.int .i64 z, .slice ao n c], .slice (some ⟨b, o, none⟩) m d] w fun e w' => ∃ R k cR, e = .returned (.slice (some ⟨R, 0, none⟩) k cR) ∧ BuiltL w' w.heap.size (.slice (some ⟨R, 0, none⟩) k cR) k (partF fs xs) ∧ k = (partsA fs xs 1).length ∧ k ≤ 60 ∧ Below w.heap.size w w' := by
  obtain ⟨j0, hj0, hy0_, hy1_, hy2_⟩ := info_parts Try.infoInts
  have hl := hx.1
  have hp0 := term_pos hend
  have hB := below_alloc w (.cells #[.int .i64 z, .slice ao n c] 31)
  have HB0 := Lib.hid (below_then hB (below_alloc (w.alloc (.cells #[.int .i64 z, .slice ao n c] 31)) (.cells #[] 25)))
  have cz0 : ((w.alloc (.cells #[.int .i64 z, .slice ao n c] 31)).alloc (.cells #[] 25)).cell? ⟨w.heap.size, 0, none⟩ = some (.int .i64 z) := cell_b (below_alloc _ _) (by simp)
  have ca0 : ((w.alloc (.cells #[.int .i64 z, .slice ao n c] 31)).alloc (.cells #[] 25)).cell? ⟨w.heap.size, 1, none⟩ = some (.slice ao n c) := cell_b (below_alloc _ _) (by simp)
  obtain ⟨F, hF⟩ : ∃ F, partF fs xs = F := ⟨_, rfl⟩
  have HBu0 : Hid (BuiltL ((w.alloc (.cells #[.int .i64 z, .slice ao n c] 31)).alloc (.cells #[] 25)) (w.heap.size + 1) (.slice (some ⟨w.heap.size + 1, 0, none⟩) 0 0) 0 F) := by
    have h_ := ownsLL_new (w.alloc (.cells #[.int .i64 z, .slice ao n c] 31)) (w.heap.size + 1) (by simp) F
    exact ⟨_, _, by simp only [World.size_alloc] at h_ ⊢; exact h_⟩
  obtain ⟨A1, hA1⟩ : ∃ A1, partsA fs xs 1 = A1 := ⟨_, rfl⟩
  have HA1 := Lib.hid hA1
  have HF := Lib.hid hF
  have HV := Lib.hid hv
  have HX := Lib.hid hx
  have HOk := Lib.hid hok
  have HL := Lib.hid hl
  have HEnd := Lib.hid hend
  have HD0 : Hid (A1.drop 0 = partsA fs xs 1) := by unfold Hid; rw [List.drop_zero]; exact hA1.symm
  have hm0 : 0 < m := by omega
  rw [hF, hA1]
  clear hv hok hx hB hl hend hp0 hF hA1
  unfold maxLen at hd
  go_enter Try.func102, Try.ntmps102
  go_wp2_with fail
  go_loopw [5, 6] (fun v i wr => ∃ (k at_ R cR : Nat), k + 1 ≤ at_ ∧ at_ ≤ m ∧ i = .int .i64 (at_ : Int) ∧ v = .slice (some ⟨R, 0, none⟩) k cR ∧ wr.cell? ⟨w.heap.size, 0, none⟩ = some (.int .i64 z) ∧ wr.cell? ⟨w.heap.size, 1, none⟩ = some (.slice ao n c) ∧ Hid (BuiltL wr (w.heap.size + 1) (.slice (some ⟨R, 0, none⟩) k cR) k F) ∧ Hid (A1.drop k = partsA fs xs at_) ∧ Hid (k ≤ A1.length) ∧ Hid (Below w.heap.size w wr)) (fun _ i _ => m - (intOf i).toNat)
  case atStart => exact ⟨0, 1, _, _, by omega, by omega, rfl, rfl, cz0, ca0, HBu0, HD0, Nat.zero_le _, HB0⟩
  case round =>
    obtain ⟨k, at_, R, cR, hk, hat, rfl, rfl, cz, ca, HBu, HD, HKl, HBr⟩ := hrel
    clear cz0 ca0
    by_cases hkm : at_ < m
    · obtain ⟨e, he, hae, hel⟩ := term_sub HOk.out HEnd.out (show at_ < xs.length by have := HL.out; omega)
      have hem : e ≤ m := by have := HL.out; omega
      obtain ⟨P, hP⟩ : ∃ P, subA fs xs at_ = P := ⟨_, rfl⟩
      have hstep := partsA_step HOk.out HEnd.out (show at_ < xs.length by have := HL.out; omega) he
      rw [hP, ← HD.out] at hstep
      rw [← HA1.out] at hstep
      obtain ⟨hp1, hp2, hp3⟩ := partF_at hstep
      rw [HF.out] at hp1
      rw [HA1.out] at hp2 hp3
      have HP1 := Lib.hid hp1
      have HP2 := Lib.hid hp2
      have HP3 : Hid (k + 1 ≤ A1.length) := hp3
      have hend2 := fun W (hb : Below w.heap.size w W) => l3End_any lo hi lo2 hi2 z ao (some ⟨b, o, none⟩) c n d m fs xs at_ W (HV.out.kept (Kept.of_below hb hhi)) (Nat.le_trans hhi hb.size) HOk.out (HX.out.kept (Kept.of_below hb hhi2)) (Nat.le_trans hhi2 hb.size) hm (by omega)
      rw [he] at hend2
      have HEn := Lib.hid (fun W hb => (show Calls Try.prog 106 #[.agg #[.int .i64 z, .slice ao n c], .slice (some ⟨b, o, none⟩) m d, .int .i64 (at_ : Int)] W fun e' w' => e' = .returned (.int .i64 (e : Int)) ∧ Below W.heap.size W w' from hend2 W hb))
      have hpart := HX.out.part hae hem
      have hpe2 : (xs.take e).drop at_ = P := by rw [← hP]; unfold subA; rw [he]; rfl
      rw [hpe2] at hpart
      have HPart := Lib.hid hpart
      have HPl : Hid (P.length = e - at_) := hpart.1
      have hat' : (at_ : Int) < (m : Int) := by omega
      have hae1 : (at_ : Int) ≤ (e : Int) := by omega
      have hae2 : (e : Int) ≤ (d : Int) := by omega
      have hdn : ¬ d = at_ := by omega
      clear hend2 hP hpart hpe2 he hstep hp1 hp2 hp3
      go_wp2_with fail
      refine (HEn.out _ HBr.out).mono ?_
      rintro e_ w2 ⟨rfl, b2⟩
      have HB2 := Lib.hid (HBr.out.trans (b2.mono HBr.out.size))
      have Hb2 := Lib.hid b2
      have cz2 := cell_b b2 cz
      have ca2 := cell_b b2 ca
      have HOwn := Lib.hid (own_ints lo2 hi2 (some ⟨b, o + at_, none⟩) (e - at_) (d - at_) P w2 (HPart.out.kept (Kept.of_below HB2.out hhi2)) (by omega) (by omega))
      clear b2
      go_wp2_with fail
      refine HOwn.out.mono ?_
      rintro e_ w3 ⟨g3, c3, rfl, ho3, b3_⟩
      have HB3 := Lib.hid (HB2.out.trans (b3_.mono HB2.out.size))
      have hb3 := Lib.hid (Hb2.out.trans (b3_.mono Hb2.out.size))
      have HO3 := Lib.hid (ownsRow_base ho3 Hb2.out.size)
      have cz3 := cell_b b3_ cz2
      have ca3 := cell_b b3_ ca2
      obtain ⟨G, C, hL⟩ := HBu.out
      have HLl := Lib.hid hL
      have HR3 := Lib.hid (hL.row.kept (grown_of_below hb3.out none) (own_em _))
      have hlo : w.heap.size + 1 ≤ wr.heap.size := World.block_lt_of_cell? wr _ cz
      have hR1 := (hL.row.lt R rfl).1
      obtain ⟨L, hL_⟩ : ∃ L, e - at_ = L := ⟨_, rfl⟩
      rw [hL_] at HO3 HPl ⊢
      clear ho3 b3_ hL
      go_wp2_with (at_builtin; refine wpList_append_own _ rfl _ _ 41 rfl (w.heap.size + 1) 25 j0 (.slice none 0 0) 1 24 Try.underlying41 hj0 hy0_ hy1_ hy2_ rfl (by decide) (.slice (some ⟨R, 0, none⟩) k cR) k (flatL k G C F) rfl (HR3.out.alloc _) ⟨w3.heap.size, 0, none⟩ 1 1 [.slice (some ⟨g3, 0, none⟩) L c3] rfl rfl (cell_one_new _ _ _) (fun x hx => by simp at hx; subst hx; rfl) (by unfold maxLen; omega) (by omega) (by have h1_ := hb3.out.size; simp; omega) ?_; intro v' w4 hown' hgrow' hnil'; obtain ⟨g4, cap, rfl⟩ := ownsRow_succ hown'; have hsz3 : wr.heap.size ≤ w3.heap.size := hb3.out.size; have HB4 := Lib.hid ((HB3.out.alloc HB3.out.size (.cells #[.slice (some ⟨g3, 0, none⟩) L c3] 25)).grown hgrow' (by have h1_ := HB3.out.size; simp; omega) (fun q hq => Nat.le_of_lt (HR3.out.lt q hq).1)); have HBu4 : Hid (BuiltL w4 (w.heap.size + 1) (.slice (some ⟨g4, 0, none⟩) (k + 1) cap) (k + 1) F) := HLl.out.push (g := some g3) hb3.out hlo (by rw [HP1.out]; exact HPl.out) (by rw [HP1.out]; exact HO3.out) hown' hgrow'; have hcl : ∀ j v, w3.cell? ⟨w.heap.size, j, none⟩ = some v → w4.cell? ⟨w.heap.size, j, none⟩ = some v := fun j v hv_ => (World.cell?_of_block (hgrow'.block _ (by simp; omega) (by intro h_; simp [Value.ownBlock] at h_; omega))).trans (cell_b (below_alloc _ _) hv_); have cz4 : w4.cell? ⟨w.heap.size, 0, none⟩ = some (.int .i64 z) := hcl 0 _ cz3; have ca4 : w4.cell? ⟨w.heap.size, 1, none⟩ = some (.slice ao n c) := hcl 1 _ ca3; clear hown' hgrow' hnil' hcl cz ca cz2 ca2 cz3 ca3)
      refine (HEn.out _ HB4.out).mono ?_
      rintro e_ w5 ⟨rfl, b5⟩
      have HB5 := Lib.hid (HB4.out.trans (b5.mono HB4.out.size))
      have cz5 := cell_b b5 cz4
      have ca5 := cell_b b5 ca4
      have HBu5 := Lib.hid (HBu4.out.below b5)
      clear b5
      go_wp2_with fail
      go_roundw
      case rel => exact ⟨k + 1, e, g4, cap, by omega, by omega, rfl, rfl, cz5, ca5, HBu5, HP2, HP3, HB5⟩
      case measure => simp [intOf]; omega
    · have hat' : ¬ (at_ : Int) < (m : Int) := by omega
      have hkA : Hid (k = A1.length) := by
        have h_ := HD.out
        rw [partsA_end (by have := HL.out; omega)] at h_
        have h2_ := congrArg List.length h_
        rw [List.length_drop] at h2_
        have h3_ := HKl.out
        simp at h2_
        unfold Hid; omega
      go_wp2_with fail
      go_ret
      obtain ⟨G, C, hL⟩ := HBu.out
      exact ⟨R, k, cR, rfl, ⟨G, C, hL.lo_mono (Nat.le_succ _)⟩, hkA.out, by omega, HBr.out⟩

end Go.Proofs.Ytmhlkopkcgmpjaa
