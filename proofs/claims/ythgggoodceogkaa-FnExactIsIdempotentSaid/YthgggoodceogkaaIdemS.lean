/-
  Contract: spec.IsIdempotent. Conditions: the bounds that each theorem names.
-/
import Derived.Test.YthgggoodceogkaaIdxV
import Derived.Test.YthgggoodceogkaaIdem
import Derived.Test.YthgggoodceogkaaCommS
import Derived.Deep.DrawnRows
namespace Go.Proofs.Ythgggoodceogkaa
open Go.RowKit
set_option linter.unusedVariables false
set_option linter.unusedSimpArgs false
attribute [local go_sem ↓] Go.wp_at_zero Go.wp_at_succ

theorem triple_view {W : World} {g m : Nat} {x : Int} (hm : m ≤ 3) (h0 : W.cell? ⟨g, 0, none⟩ = some (.int .i64 x)) (h1 : W.cell? ⟨g, 1, none⟩ = some (.int .i64 x)) (h2 : W.cell? ⟨g, 2, none⟩ = some (.int .i64 x)) : IView W 0 W.heap.size (some ⟨g, 0, none⟩) m (List.replicate m x) := by
  refine ⟨by simp, .inr ⟨g, 0, rfl, Nat.zero_le _, World.block_lt_of_cell? W _ h0, fun j u hu => ?_⟩⟩
  rw [List.getElem?_replicate] at hu
  split at hu
  · rename_i hj
    injection hu with hu
    subst hu
    match j, (show j < 3 by omega) with
    | 0, _ => simpa using h0
    | 1, _ => simpa using h1
    | 2, _ => simpa using h2
  · cases hu

/-- l2Value at one argument taken throughout, with what a drawn region wants kept. -/
theorem value3 {lo hi N n c k zn x g m b o : Nat} {fs : List OpD} {f : OpD} {w wr : World} (hv : OView w lo hi (some ⟨b, o, none⟩) n fs) (hhi : hi ≤ w.heap.size) (hok : algOkB (zn : Int) fs = true) (hf : fs[k]? = some f) (har : f.1 = (m : Int)) (hm : m ≤ 3) (hx : x < zn) (hB : Below w.heap.size w wr)
    (W : World) (hS : W.cell? ⟨N, 0, none⟩ = some (.int .i64 (zn : Int)) ∧ W.cell? ⟨N, 1, none⟩ = some (.slice (some ⟨b, o, none⟩) n c) ∧ W.cell? ⟨b, o + k * 2, none⟩ = some (.int .i64 (m : Int)) ∧ Below wr.heap.size wr W) (h0 : W.cell? ⟨g, 0, none⟩ = some (.int .i64 (x : Int))) (h1 : W.cell? ⟨g, 1, none⟩ = some (.int .i64 (x : Int))) (h2 : W.cell? ⟨g, 2, none⟩ = some (.int .i64 (x : Int))) :
    Calls Try.prog 58 #[.agg #[.int .i64 (zn : Int), .slice (some ⟨b, o, none⟩) n c], .int .i64 (k : Int), .slice (some ⟨g, 0, none⟩) m 3] W fun e w' => e = .returned (.int .i64 (diag zn m x f)) ∧ Below W.heap.size W w' ∧
      (w'.cell? ⟨N, 0, none⟩ = some (.int .i64 (zn : Int)) ∧ w'.cell? ⟨N, 1, none⟩ = some (.slice (some ⟨b, o, none⟩) n c) ∧ w'.cell? ⟨b, o + k * 2, none⟩ = some (.int .i64 (m : Int)) ∧ Below wr.heap.size wr w') := by
  obtain ⟨s0, s1, s3, s2⟩ := hS
  have hz := s2.size
  have hz2 := hB.size
  refine (value_spec lo hi 0 W.heap.size (zn : Int) (some ⟨b, o, none⟩) (some ⟨g, 0, none⟩) c n 3 m k fs f (List.replicate m (x : Int)) W (hv.kept (Kept.of_below (hB.trans (s2.mono hz2)) hhi)) (by omega) hok hf (triple_view hm h0 h1 h2) (Nat.le_refl _) (rep_in hx) har.symm).mono fun e w' ⟨he, hb⟩ => ?_
  exact ⟨he, hb, (hb.cell (World.block_lt_of_cell? W _ s0)).trans s0, (hb.cell (World.block_lt_of_cell? W _ s1)).trans s1, (hb.cell (World.block_lt_of_cell? W _ s3)).trans s3, s2.trans (hb.mono hz)⟩

set_option maxHeartbeats 2000000 in
theorem specIsIdempotent (lo hi : Nat) (z : Int) (ao : Option Addr) (c n : Nat) (fs : List OpD) (op : Int) (w : World) (hv : OView w lo hi ao n fs) (hhi : hi ≤ w.heap.size) (hs : ∀ (j : Nat) (f : OpD), fs[j]? = some f → f.2.length ≤ maxLen) (wz : (Lit.int .i64 op).wf = true) :
    Calls Try.prog 32 #[.agg #[.int .i64 z, .slice ao n c], .int .i64 op] w fun e w' => e = .returned (.tuple #[.bool (valIsIdempotent z fs op).1, .bool (valIsIdempotent z fs op).2]) ∧ Below w.heap.size w w' := by
  have hB := (Below.refl w.heap.size w).alloc (Nat.le_refl _) (.cells #[.int .i64 z, .slice ao n c] 29)
  have HB := Lib.hid hB
  have hT := takes_any lo hi z ao c n fs op _ (hv.kept (Kept.of_below hB hhi)) (Nat.le_trans hhi hB.size) hs
  obtain ⟨t, ht⟩ : ∃ t, takesB z fs op = t := ⟨_, rfl⟩
  rw [ht] at hT
  have HT := Lib.hid hT
  cases t with
  | false =>
    rw [show valIsIdempotent z fs op = (false, false) by simp [valIsIdempotent, ht]]
    clear hT hB hs hv ht
    go_enter Try.func32, Try.ntmps32
    go_wp2_with fail
    refine HT.out.mono ?_
    rintro e w1 ⟨rfl, b1⟩
    have HB1 := Lib.hid (HB.out.trans (b1.mono HB.out.size))
    clear b1
    go_wp2_with fail
    go_ret2
    exact ⟨rfl, HB1.out⟩
  | true =>
    obtain ⟨k, f, rfl, hkl, hf, hfo⟩ := takes_get ht
    have hok := (takes_of ht).1
    have hfl := opD_get hf
    obtain ⟨⟨z1, z2⟩, hn4, _⟩ := algOkB_of hok
    have hn := hv.1
    have hn4' : n ≤ 4 := by omega
    rw [hn] at hkl
    obtain ⟨b, o, rfl, _, hb, hc⟩ := hv.at_ (by omega)
    obtain ⟨a, mt, c', c0, c1, hmc, hcm, hvt⟩ := hc k f hf
    obtain ⟨zn, m, rfl, har, hz1, hz2, hm3, hT2, hnul⟩ := rep_table z1 z2 hfo
    rw [har] at c0
    have C0 := Lib.hid c0
    have hval : valIsIdempotent (zn : Int) fs (k : Int) = (idemB zn f, true) := by simp [valIsIdempotent, ht, hfl]
    have HVal := Lib.hid hval
    have HOk := Lib.hid (And.intro hv (And.intro hok (And.intro hf har)))
    have HNul := Lib.hid hnul
    clear hT hB hs hv ht hok hf hfo hfl hc c0 c1 hvt hval hT2 z1 z2 hn hnul
    by_cases hm0 : m = 0
    · subst hm0
      have hv0 := HNul.out rfl
      obtain ⟨y, hy⟩ : ∃ y, y = idemB zn f := ⟨_, rfl⟩
      rw [hy.symm] at hv0
      have hd : ((zn : Int) == 1) = y := by rw [hv0, Bool.eq_iff_iff]; simp; omega
      have HY := Lib.hid hy
      clear hv0 hy
      go_enter Try.func32, Try.ntmps32
      go_wp2_with fail
      refine HT.out.mono ?_
      rintro e w1 ⟨rfl, b1⟩
      have HB1 := Lib.hid (HB.out.trans (b1.mono HB.out.size))
      have cz : w1.cell? ⟨w.heap.size, 0, none⟩ = some (.int .i64 (zn : Int)) := (b1.cell (p := ⟨w.heap.size, 0, none⟩) (by simp)).trans (by simp)
      have ca : w1.cell? ⟨w.heap.size, 1, none⟩ = some (.slice (some ⟨b, o, none⟩) n c) := (b1.cell (p := ⟨w.heap.size, 1, none⟩) (by simp)).trans (by simp)
      have e0 : w1.cell? ⟨b, o + k * 2, none⟩ = some (.int .i64 0) := (HB1.out.cell (p := ⟨b, _, none⟩) (by show b < _; omega)).trans C0.out
      clear b1
      go_wp2_with fail
      go_ret2
      exact ⟨two_bool (by rw [HVal.out, ← HY.out]), HB1.out⟩
    · have hne : ((m : Int) == 0) = false := by rw [beq_eq_false_iff_ne]; omega
      have hne2 : ((m : Int) != 0) = true := by rw [bne_iff_ne]; omega
      clear hm0
      go_enter Try.func32, Try.ntmps32
      go_wp2_with fail
      refine HT.out.mono ?_
      rintro e w1 ⟨rfl, b1⟩
      have HB1 := Lib.hid (HB.out.trans (b1.mono HB.out.size))
      have cz : w1.cell? ⟨w.heap.size, 0, none⟩ = some (.int .i64 (zn : Int)) := (b1.cell (p := ⟨w.heap.size, 0, none⟩) (by simp)).trans (by simp)
      have ca : w1.cell? ⟨w.heap.size, 1, none⟩ = some (.slice (some ⟨b, o, none⟩) n c) := (b1.cell (p := ⟨w.heap.size, 1, none⟩) (by simp)).trans (by simp)
      have e0 : w1.cell? ⟨b, o + k * 2, none⟩ = some (.int .i64 (m : Int)) := (HB1.out.cell (p := ⟨b, _, none⟩) (by show b < _; omega)).trans C0.out
      clear b1
      go_wp2_with fail
      go_loopw [6] (fun i wr => ∃ x : Nat, x ≤ zn ∧ i = .int .i64 (x : Int) ∧ Hid (∀ x', x' < x → diag zn m x' f = (x' : Int)) ∧ wr.cell? ⟨w.heap.size, 0, none⟩ = some (.int .i64 (zn : Int)) ∧ wr.cell? ⟨w.heap.size, 1, none⟩ = some (.slice (some ⟨b, o, none⟩) n c) ∧ wr.cell? ⟨b, o + k * 2, none⟩ = some (.int .i64 (m : Int)) ∧ Hid (Below w.heap.size w wr)) (fun i _ => zn - (intOf i).toNat)
      case atStart => exact ⟨0, Nat.zero_le _, rfl, fun x' h => by omega, cz, ca, e0, HB1⟩
      case round =>
        obtain ⟨x, hx, rfl, HA, dz, da, de, HBr⟩ := hrel
        clear cz ca e0
        by_cases hlt : x < zn
        · obtain ⟨wi, hwi⟩ : ∃ wi : World, wi = wr := ⟨_, rfl⟩
          rw [← hwi]
          rw [← hwi] at dz da de HBr
          clear hwi
          obtain ⟨hv, hok, hf, hr⟩ := HOk.out
          have h1 := fun g W => @value3 lo hi w.heap.size n c k zn x g m b o fs f w wi hv hhi hok hf hr hm3 hlt HBr.out W
          obtain ⟨v1, hv1⟩ : ∃ v1, diag zn m x f = v1 := ⟨_, rfl⟩
          rw [hv1] at h1
          have H1 := Lib.hid h1
          have V1 := Lib.hid hv1
          have hw0 : Below wi.heap.size wi wi.drew := (Below.refl _ _).drew
          clear h1 hv1 hv hok hf hr
          have hm0' : (0 : Int) ≤ (m : Int) := by omega
          have hm3' : (m : Int) ≤ 3 := by omega
          go_wp2_with fail
          go_region_held3 (fun w' => w'.cell? ⟨w.heap.size, 0, none⟩ = some (.int .i64 (zn : Int)) ∧ w'.cell? ⟨w.heap.size, 1, none⟩ = some (.slice (some ⟨b, o, none⟩) n c) ∧ w'.cell? ⟨b, o + k * 2, none⟩ = some (.int .i64 (m : Int)) ∧ Below wi.heap.size wi w') (first | assumption | (go_keep; done) | (refine And.intro (by go_keep) (And.intro (by go_keep) (And.intro (by go_keep) ?_)); (repeat (first | assumption | exact Below.refl _ _ | apply keep_drew | apply keep_alloc)); done)) ((go_at_call 58; refine (H1.out _ _ ?_ ?_ ?_ ?_).mono ?_; (focus ((first | assumption | (refine And.intro (by go_keep) (And.intro (by go_keep) (And.intro (by go_keep) ?_)); (repeat (first | assumption | exact Below.refl _ _ | apply keep_drew | apply keep_alloc)))); done)); (focus (go_simp; done)); (focus (go_simp; done)); (focus (go_simp; done)); rintro e w2 ⟨rfl, hb_, hS0, hS1, hS3, hS2⟩; obtain ⟨hcc_, _⟩ := bcell hb_; clear hb_))
          all_goals
            have HBn := Lib.hid (HBr.out.trans (hS2.mono HBr.out.size))
            clear hS2 hw0 dz da de
            by_cases hv : v1 = (x : Int)
            · have e1 : (v1 != (x : Int)) = false := by rw [hv]; simp
              have e2 : (v1 == (x : Int)) = true := by rw [hv]; simp
              have HEq := Lib.hid hv
              clear hv
              go_wp2_with fail
              go_roundw
              case rel =>
                refine ⟨x + 1, by omega, by go_num, fun x' h' => ?_, hS0, hS1, hS3, HBn⟩
                by_cases hxx : x' = x
                · subst hxx; rw [V1.out, HEq.out]
                · exact HA.out x' (by omega)
              case measure => simp [intOf]; omega
            · have e1 : (v1 != (x : Int)) = true := by rw [bne_iff_ne]; exact hv
              have e2 : (v1 == (x : Int)) = false := by rw [beq_eq_false_iff_ne]; exact hv
              have HNe := Lib.hid hv
              clear hv
              go_wp2_with fail
              go_ret2
              refine ⟨two_bool ?_, HBn.out⟩
              rw [HVal.out, idemB_no (HOk.out.2.2.2) hlt (by rw [V1.out]; exact HNe.out)]
        · go_wp2_with fail
          go_ret2
          refine ⟨two_bool ?_, HBr.out⟩
          rw [HVal.out, idemB_yes (HOk.out.2.2.2) fun x' h' => HA.out x' (by omega)]

end Go.Proofs.Ythgggoodceogkaa
