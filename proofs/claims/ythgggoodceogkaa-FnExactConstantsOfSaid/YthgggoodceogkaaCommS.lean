/-
  Contracts: spec.IsCommutative and spec.IsAssociative. Conditions: the bounds that each theorem names.
-/
import Derived.Test.YthgggoodceogkaaIdxV
import Derived.Test.YthgggoodceogkaaComm
import Derived.Deep.RegionHeld3
namespace Go.Proofs.Ythgggoodceogkaa
open Go.RowKit
set_option linter.unusedVariables false
set_option linter.unusedSimpArgs false

theorem pair_view {W : World} {g : Nat} {x y : Int} (h0 : W.cell? ⟨g, 0, none⟩ = some (.int .i64 x)) (h1 : W.cell? ⟨g, 1, none⟩ = some (.int .i64 y)) : IView W 0 W.heap.size (some ⟨g, 0, none⟩) 2 [x, y] := by
  refine ⟨rfl, .inr ⟨g, 0, rfl, Nat.zero_le _, World.block_lt_of_cell? W _ h0, fun j u hu => ?_⟩⟩
  match j, hu with
  | 0, hu => simp at hu; subst hu; simpa using h0
  | 1, hu => simp at hu; subst hu; simpa using h1
theorem at2_atA {zn : Nat} {f : OpD} {x y : Nat} : atA (zn : Int) f [(x : Int), (y : Int)] = at2 zn f.2 x y := by
  unfold atA at2
  congr 1
  have : idxA (zn : Int) [(x : Int), (y : Int)] = ((x * zn + y : Nat) : Int) := by simp [idxA]
  rw [this, Int.toNat_natCast]
theorem pair_in {zn x y : Nat} (hx : x < zn) (hy : y < zn) : allIn (zn : Int) [(x : Int), (y : Int)] = true := by
  simp [allIn]; omega

/-- l2Value at two arguments, with what a drawn region wants kept. -/
theorem value2 {lo hi N n c k zn x y g : Nat} {ao : Option Addr} {fs : List OpD} {f : OpD} {w wr : World} (hv : OView w lo hi ao n fs) (hhi : hi ≤ w.heap.size) (hok : algOkB (zn : Int) fs = true) (hf : fs[k]? = some f) (har : f.1 = 2) (hx : x < zn) (hy : y < zn) (hB : Below w.heap.size w wr)
    (W : World) (hS : W.cell? ⟨N, 0, none⟩ = some (.int .i64 (zn : Int)) ∧ W.cell? ⟨N, 1, none⟩ = some (.slice ao n c) ∧ Below wr.heap.size wr W) (h0 : W.cell? ⟨g, 0, none⟩ = some (.int .i64 (x : Int))) (h1 : W.cell? ⟨g, 1, none⟩ = some (.int .i64 (y : Int))) :
    Calls Try.prog 58 #[.agg #[.int .i64 (zn : Int), .slice ao n c], .int .i64 (k : Int), .slice (some ⟨g, 0, none⟩) 2 2] W fun e w' => e = .returned (.int .i64 (at2 zn f.2 x y)) ∧ Below W.heap.size W w' ∧
      (w'.cell? ⟨N, 0, none⟩ = some (.int .i64 (zn : Int)) ∧ w'.cell? ⟨N, 1, none⟩ = some (.slice ao n c) ∧ Below wr.heap.size wr w') := by
  obtain ⟨s0, s1, s2⟩ := hS
  have hz := s2.size
  have hz2 := hB.size
  refine (value_spec lo hi 0 W.heap.size (zn : Int) ao (some ⟨g, 0, none⟩) c n 2 2 k fs f [(x : Int), (y : Int)] W (hv.kept (Kept.of_below (hB.trans (s2.mono hz2)) hhi)) (by omega) hok hf (pair_view h0 h1) (Nat.le_refl _) (pair_in hx hy) (by rw [har]; rfl)).mono fun e w' ⟨he, hb⟩ => ?_
  rw [at2_atA] at he
  exact ⟨he, hb, (hb.cell (World.block_lt_of_cell? W _ s0)).trans s0, (hb.cell (World.block_lt_of_cell? W _ s1)).trans s1, s2.trans (hb.mono hz)⟩

theorem keep_alloc {a W : World} (h : Below a.heap.size a W) (o : Obj) : Below a.heap.size a (W.alloc o) := h.alloc h.size o
theorem keep_drew {a W : World} (h : Below a.heap.size a W) : Below a.heap.size a W.drew := h.drew

set_option maxHeartbeats 2000000 in
theorem specIsCommutative (lo hi : Nat) (z : Int) (ao : Option Addr) (c n : Nat) (fs : List OpD) (op : Int) (w : World) (hv : OView w lo hi ao n fs) (hhi : hi ≤ w.heap.size) (hs : ∀ (j : Nat) (f : OpD), fs[j]? = some f → f.2.length ≤ maxLen) (wz : (Lit.int .i64 op).wf = true) :
    Calls Try.prog 34 #[.agg #[.int .i64 z, .slice ao n c], .int .i64 op] w fun e w' => e = .returned (.tuple #[.bool (valIsCommutative z fs op).1, .bool (valIsCommutative z fs op).2]) ∧ Below w.heap.size w w' := by
  have hB := (Below.refl w.heap.size w).alloc (Nat.le_refl _) (.cells #[.int .i64 z, .slice ao n c] 29)
  have HB := Lib.hid hB
  have hT := takes_any lo hi z ao c n fs op _ (hv.kept (Kept.of_below hB hhi)) (Nat.le_trans hhi hB.size) hs
  obtain ⟨t, ht⟩ : ∃ t, takesB z fs op = t := ⟨_, rfl⟩
  rw [ht] at hT
  have HT := Lib.hid hT
  cases t with
  | false =>
    rw [show valIsCommutative z fs op = (false, false) by simp [valIsCommutative, binB, ht]]
    clear hT hB hs hv ht
    go_enter Try.func34, Try.ntmps34
    go_wp2_with fail
    refine HT.out.mono ?_
    rintro e w1 ⟨rfl, b1⟩
    have HB1 := Lib.hid (HB.out.trans (b1.mono HB.out.size))
    clear b1
    go_wp2_with fail
    go_ret2
    exact ⟨rfl, HB1.out⟩
  | true =>
    obtain ⟨k, f, rfl, hkl, hf, hfo⟩ := takes_get ht
    have hok := (takes_of ht).1
    have hfl := opD_get hf
    obtain ⟨⟨z1, z2⟩, hn4, _⟩ := algOkB_of hok
    have hn := hv.1
    have hn4' : n ≤ 4 := by omega
    rw [hn] at hkl
    obtain ⟨b, o, rfl, _, hb, hc⟩ := hv.at_ (by omega)
    obtain ⟨a, mt, c', c0, c1, hmc, hcm, hvt⟩ := hc k f hf
    obtain ⟨r, hr⟩ : ∃ r, f.1 = r := ⟨_, rfl⟩
    rw [hr] at c0
    have C0 := Lib.hid c0
    by_cases har : r = 2
    · subst har
      obtain ⟨zn, rfl, hz1, hz2, hlen, hTab, _⟩ := bin_table z1 z2 hfo hr
      have hval : valIsCommutative (zn : Int) fs (k : Int) = (commB zn f.2, true) := by simp [valIsCommutative, binB, ht, hfl, hr]
      have HVal := Lib.hid hval
      have HOk := Lib.hid (And.intro hv (And.intro hok (And.intro hf hr)))
      clear hT hB hs hv ht hok hf hfo hfl hc c0 c1 hvt hr hval hTab hlen z1 z2 hn
      go_enter Try.func34, Try.ntmps34
      go_wp2_with fail
      refine HT.out.mono ?_
      rintro e w1 ⟨rfl, b1⟩
      have HB1 := Lib.hid (HB.out.trans (b1.mono HB.out.size))
      have cz : w1.cell? ⟨w.heap.size, 0, none⟩ = some (.int .i64 (zn : Int)) := (b1.cell (p := ⟨w.heap.size, 0, none⟩) (by simp)).trans (by simp)
      have ca : w1.cell? ⟨w.heap.size, 1, none⟩ = some (.slice (some ⟨b, o, none⟩) n c) := (b1.cell (p := ⟨w.heap.size, 1, none⟩) (by simp)).trans (by simp)
      have e0 : w1.cell? ⟨b, o + k * 2, none⟩ = some (.int .i64 2) := (HB1.out.cell (p := ⟨b, _, none⟩) (by show b < _; omega)).trans C0.out
      clear b1
      go_wp2_with fail
      go_loopw [6, 7] (fun i s7 wr => ∃ x : Nat, x ≤ zn ∧ i = .int .i64 (x : Int) ∧ Hid (∀ x' y, x' < x → y < x' → at2 zn f.2 x' y = at2 zn f.2 y x') ∧ wr.cell? ⟨w.heap.size, 0, none⟩ = some (.int .i64 (zn : Int)) ∧ wr.cell? ⟨w.heap.size, 1, none⟩ = some (.slice (some ⟨b, o, none⟩) n c) ∧ Hid (Below w.heap.size w wr)) (fun i _ _ => zn - (intOf i).toNat)
      case atStart => exact ⟨0, Nat.zero_le _, rfl, fun x' y h => by omega, cz, ca, HB1⟩
      case round =>
        obtain ⟨x, hx, rfl, HA, dz, da, HBr⟩ := hrel
        clear cz ca e0
        by_cases hlt : x < zn
        · go_wp2_with fail
          obtain ⟨wo, hwo⟩ : ∃ wo : World, wo = wr := ⟨_, rfl⟩
          rw [← hwo]
          rw [← hwo] at dz da HBr
          clear hwo
          go_loopw [7] (fun i wi => ∃ y : Nat, y ≤ x ∧ i = .int .i64 (y : Int) ∧ Hid (∀ y', y' < y → at2 zn f.2 x y' = at2 zn f.2 y' x) ∧ wi.cell? ⟨w.heap.size, 0, none⟩ = some (.int .i64 (zn : Int)) ∧ wi.cell? ⟨w.heap.size, 1, none⟩ = some (.slice (some ⟨b, o, none⟩) n c) ∧ Hid (Below w.heap.size w wi)) (fun i _ => x - (intOf i).toNat)
          case atStart => exact ⟨0, Nat.zero_le _, rfl, fun y' h => by omega, dz, da, HBr⟩
          case round =>
            obtain ⟨y, hy, rfl, HY, iz, ia, HBi⟩ := hrel
            clear dz da
            by_cases hly : y < x
            · obtain ⟨wi, hwi⟩ : ∃ wi : World, wi = wr := ⟨_, rfl⟩
              rw [← hwi]
              rw [← hwi] at iz ia HBi
              clear hwi
              obtain ⟨hv, hok, hf, hr⟩ := HOk.out
              have h1 := fun g W => @value2 lo hi w.heap.size n c k zn x y g _ fs f w wi hv hhi hok hf hr hlt (by omega) HBi.out W
              have h2 := fun g W => @value2 lo hi w.heap.size n c k zn y x g _ fs f w wi hv hhi hok hf hr (by omega) hlt HBi.out W
              obtain ⟨v1, hv1⟩ : ∃ v1, at2 zn f.2 x y = v1 := ⟨_, rfl⟩
              obtain ⟨v2, hv2⟩ : ∃ v2, at2 zn f.2 y x = v2 := ⟨_, rfl⟩
              rw [hv1] at h1
              rw [hv2] at h2
              have H1 := Lib.hid h1
              have H2 := Lib.hid h2
              have V1 := Lib.hid hv1
              have V2 := Lib.hid hv2
              have hw0 : Below wi.heap.size wi wi.drew := (Below.refl _ _).drew
              clear h1 h2 hv1 hv2 hv hok hf hr
              go_wp2_with fail
              go_region_held3 (fun w' => w'.cell? ⟨w.heap.size, 0, none⟩ = some (.int .i64 (zn : Int)) ∧ w'.cell? ⟨w.heap.size, 1, none⟩ = some (.slice (some ⟨b, o, none⟩) n c) ∧ Below wi.heap.size wi w') (first | assumption | (go_keep; done) | (refine And.intro (by go_keep) (And.intro (by go_keep) ?_); (repeat (first | assumption | exact Below.refl _ _ | apply keep_drew | apply keep_alloc)); done)) ((first | (go_at_call 58; refine (H1.out _ _ ?_ ?_ ?_).mono ?_; (focus ((first | assumption | (refine And.intro (by go_keep) (And.intro (by go_keep) ?_); (repeat (first | assumption | exact Below.refl _ _ | apply keep_drew | apply keep_alloc)))); done)); (focus (go_simp; done)); (focus (go_simp; done)); rintro e w2 ⟨rfl, hb_, hS0, hS1, hS2⟩; obtain ⟨hcc_, _⟩ := bcell hb_; clear hb_) | (go_at_call 58; refine (H2.out _ _ ?_ ?_ ?_).mono ?_; (focus ((first | assumption | (refine And.intro (by go_keep) (And.intro (by go_keep) ?_); (repeat (first | assumption | exact Below.refl _ _ | apply keep_drew | apply keep_alloc)))); done)); (focus (go_simp; done)); (focus (go_simp; done)); rintro e w2 ⟨rfl, hb_, hS0, hS1, hS2⟩; obtain ⟨hcc_, _⟩ := bcell hb_; clear hb_)))
              all_goals
                have HBn := Lib.hid (HBi.out.trans (hS2.mono HBi.out.size))
                clear hS2 hw0 iz ia
                by_cases hv : v1 = v2
                · have e1 : (v1 != v2) = false := by rw [hv]; simp
                  have e2 : (v1 == v2) = true := by rw [hv]; simp
                  have HEq := Lib.hid hv
                  clear hv
                  go_wp2_with fail
                  go_roundw
                  case rel =>
                    refine ⟨y + 1, by omega, by go_num, fun y' h' => ?_, hS0, hS1, HBn⟩
                    by_cases hyy : y' = y
                    · subst hyy; rw [V1.out, V2.out, HEq.out]
                    · exact HY.out y' (by omega)
                  case measure => simp [intOf]; omega
                · have e1 : (v1 != v2) = true := by rw [bne_iff_ne]; exact hv
                  have e2 : (v1 == v2) = false := by rw [beq_eq_false_iff_ne]; exact hv
                  have HNe := Lib.hid hv
                  clear hv
                  go_wp2_with fail
                  go_ret2
                  refine ⟨two_bool ?_, HBn.out⟩
                  rw [HVal.out, commB_no hlt hly (by rw [V1.out, V2.out]; exact HNe.out)]
            · go_wp2_with fail
              go_roundw
              case rel =>
                refine ⟨x + 1, by omega, by go_num, fun x' y' h1 h2 => ?_, iz, ia, HBi⟩
                by_cases hxx : x' = x
                · subst hxx; exact HY.out y' (by omega)
                · exact HA.out x' y' (by omega) h2
              case measure => simp [intOf]; omega
        · go_wp2_with fail
          go_ret2
          refine ⟨two_bool ?_, HBr.out⟩
          rw [HVal.out, commB_yes fun x' y h1 h2 => HA.out x' y (by omega) h2]
    · have hval : valIsCommutative z fs (k : Int) = (false, false) := by
        have : ¬ f.1 = 2 := by rw [hr]; exact har
        simp [valIsCommutative, binB, hfl, this]
      rw [hval]
      have e1 : (r == (2 : Int)) = false := by rw [beq_eq_false_iff_ne]; exact har
      have e2 : (r != (2 : Int)) = true := by rw [bne_iff_ne]; exact har
      clear hT hB hs hv ht hok hf hfo hfl hc c0 c1 hvt hr hval z1 z2 hn har
      go_enter Try.func34, Try.ntmps34
      go_wp2_with fail
      refine HT.out.mono ?_
      rintro e w1 ⟨rfl, b1⟩
      have HB1 := Lib.hid (HB.out.trans (b1.mono HB.out.size))
      have cz : w1.cell? ⟨w.heap.size, 0, none⟩ = some (.int .i64 z) := (b1.cell (p := ⟨w.heap.size, 0, none⟩) (by simp)).trans (by simp)
      have ca : w1.cell? ⟨w.heap.size, 1, none⟩ = some (.slice (some ⟨b, o, none⟩) n c) := (b1.cell (p := ⟨w.heap.size, 1, none⟩) (by simp)).trans (by simp)
      have e0 : w1.cell? ⟨b, o + k * 2, none⟩ = some (.int .i64 r) := (HB1.out.cell (p := ⟨b, _, none⟩) (by show b < _; omega)).trans C0.out
      clear b1
      go_wp2_with fail
      go_ret2
      exact ⟨rfl, HB1.out⟩

end Go.Proofs.Ythgggoodceogkaa
