/-
  Contract: spec.IsAssociative. Conditions: the bounds that each theorem names.
-/
import Derived.Test.YthgggoodceogkaaCommS
import Derived.Deep.RegionHeld3
namespace Go.Proofs.Ythgggoodceogkaa
open Go.RowKit
set_option linter.unusedVariables false
set_option linter.unusedSimpArgs false

set_option maxHeartbeats 8000000 in
theorem specIsAssociative (lo hi : Nat) (z : Int) (ao : Option Addr) (c n : Nat) (fs : List OpD) (op : Int) (w : World) (hv : OView w lo hi ao n fs) (hhi : hi ≤ w.heap.size) (hs : ∀ (j : Nat) (f : OpD), fs[j]? = some f → f.2.length ≤ maxLen) (wz : (Lit.int .i64 op).wf = true) :
    Calls Try.prog 36 #[.agg #[.int .i64 z, .slice ao n c], .int .i64 op] w fun e w' => e = .returned (.tuple #[.bool (valIsAssociative z fs op).1, .bool (valIsAssociative z fs op).2]) ∧ Below w.heap.size w w' := by
  have hB := (Below.refl w.heap.size w).alloc (Nat.le_refl _) (.cells #[.int .i64 z, .slice ao n c] 29)
  have HB := Lib.hid hB
  have hT := takes_any lo hi z ao c n fs op _ (hv.kept (Kept.of_below hB hhi)) (Nat.le_trans hhi hB.size) hs
  obtain ⟨t, ht⟩ : ∃ t, takesB z fs op = t := ⟨_, rfl⟩
  rw [ht] at hT
  have HT := Lib.hid hT
  cases t with
  | false =>
    rw [show valIsAssociative z fs op = (false, false) by simp [valIsAssociative, binB, ht]]
    clear hT hB hs hv ht
    go_enter Try.func36, Try.ntmps36
    go_wp2_with fail
    refine HT.out.mono ?_
    rintro e w1 ⟨rfl, b1⟩
    have HB1 := Lib.hid (HB.out.trans (b1.mono HB.out.size))
    clear b1
    go_wp2_with fail
    go_ret2
    exact ⟨rfl, HB1.out⟩
  | true =>
    obtain ⟨k, f, rfl, hkl, hf, hfo⟩ := takes_get ht
    have hok := (takes_of ht).1
    have hfl := opD_get hf
    obtain ⟨⟨z1, z2⟩, hn4, _⟩ := algOkB_of hok
    have hn := hv.1
    have hn4' : n ≤ 4 := by omega
    rw [hn] at hkl
    obtain ⟨b, o, rfl, _, hb, hc⟩ := hv.at_ (by omega)
    obtain ⟨a, mt, c', c0, c1, hmc, hcm, hvt⟩ := hc k f hf
    obtain ⟨r, hr⟩ : ∃ r, f.1 = r := ⟨_, rfl⟩
    rw [hr] at c0
    have C0 := Lib.hid c0
    by_cases har : r = 2
    · subst har
      obtain ⟨zn, rfl, hz1, hz2, hlen, hTab, hRg⟩ := bin_table z1 z2 hfo hr
      have HRg := Lib.hid hRg
      have hval : valIsAssociative (zn : Int) fs (k : Int) = (assocB zn f.2, true) := by simp [valIsAssociative, binB, ht, hfl, hr]
      have HVal := Lib.hid hval
      have HOk := Lib.hid (And.intro hv (And.intro hok (And.intro hf hr)))
      clear hT hB hs hv ht hok hf hfo hfl hc c0 c1 hvt hr hval hTab hRg hlen z1 z2 hn
      go_enter Try.func36, Try.ntmps36
      go_wp2_with fail
      refine HT.out.mono ?_
      rintro e w1 ⟨rfl, b1⟩
      have HB1 := Lib.hid (HB.out.trans (b1.mono HB.out.size))
      have cz : w1.cell? ⟨w.heap.size, 0, none⟩ = some (.int .i64 (zn : Int)) := (b1.cell (p := ⟨w.heap.size, 0, none⟩) (by simp)).trans (by simp)
      have ca : w1.cell? ⟨w.heap.size, 1, none⟩ = some (.slice (some ⟨b, o, none⟩) n c) := (b1.cell (p := ⟨w.heap.size, 1, none⟩) (by simp)).trans (by simp)
      have e0 : w1.cell? ⟨b, o + k * 2, none⟩ = some (.int .i64 2) := (HB1.out.cell (p := ⟨b, _, none⟩) (by show b < _; omega)).trans C0.out
      clear b1
      go_wp2_with fail
      go_loopw [6, 7, 8] (fun i s7 s8 wr => ∃ x : Nat, x ≤ zn ∧ i = .int .i64 (x : Int) ∧ Hid (∀ x' y u, x' < x → y < zn → u < zn → at2 zn f.2 (at2 zn f.2 x' y).toNat u = at2 zn f.2 x' (at2 zn f.2 y u).toNat) ∧ wr.cell? ⟨w.heap.size, 0, none⟩ = some (.int .i64 (zn : Int)) ∧ wr.cell? ⟨w.heap.size, 1, none⟩ = some (.slice (some ⟨b, o, none⟩) n c) ∧ Hid (Below w.heap.size w wr)) (fun i _ _ _ => zn - (intOf i).toNat)
      case atStart => exact ⟨0, Nat.zero_le _, rfl, fun x' y u h => by omega, cz, ca, HB1⟩
      case round =>
        obtain ⟨x, hx, rfl, HA, dz, da, HBr⟩ := hrel
        clear cz ca e0
        by_cases hlt : x < zn
        · go_wp2_with fail
          obtain ⟨wo, hwo⟩ : ∃ wo : World, wo = wr := ⟨_, rfl⟩
          rw [← hwo]
          rw [← hwo] at dz da HBr
          clear hwo
          go_loopw [7, 8] (fun i s8 wi => ∃ y : Nat, y ≤ zn ∧ i = .int .i64 (y : Int) ∧ Hid (∀ y' u, y' < y → u < zn → at2 zn f.2 (at2 zn f.2 x y').toNat u = at2 zn f.2 x (at2 zn f.2 y' u).toNat) ∧ wi.cell? ⟨w.heap.size, 0, none⟩ = some (.int .i64 (zn : Int)) ∧ wi.cell? ⟨w.heap.size, 1, none⟩ = some (.slice (some ⟨b, o, none⟩) n c) ∧ Hid (Below w.heap.size w wi)) (fun i _ _ => zn - (intOf i).toNat)
          case atStart => exact ⟨0, Nat.zero_le _, rfl, fun y' u h => by omega, dz, da, HBr⟩
          case round =>
            obtain ⟨y, hy, rfl, HY, iz, ia, HBi⟩ := hrel
            clear dz da
            by_cases hly : y < zn
            · go_wp2_with fail
              obtain ⟨wo2, hwo2⟩ : ∃ wo2 : World, wo2 = wr := ⟨_, rfl⟩
              rw [← hwo2]
              rw [← hwo2] at iz ia HBi
              clear hwo2
              go_loopw [8] (fun i wi => ∃ u : Nat, u ≤ zn ∧ i = .int .i64 (u : Int) ∧ Hid (∀ u', u' < u → at2 zn f.2 (at2 zn f.2 x y).toNat u' = at2 zn f.2 x (at2 zn f.2 y u').toNat) ∧ wi.cell? ⟨w.heap.size, 0, none⟩ = some (.int .i64 (zn : Int)) ∧ wi.cell? ⟨w.heap.size, 1, none⟩ = some (.slice (some ⟨b, o, none⟩) n c) ∧ Hid (Below w.heap.size w wi)) (fun i _ => zn - (intOf i).toNat)
              case atStart => exact ⟨0, Nat.zero_le _, rfl, fun u' h => by omega, iz, ia, HBi⟩
              case round =>
                obtain ⟨u, hu, rfl, HU, jz, ja, HBj⟩ := hrel
                clear iz ia
                by_cases hlu : u < zn
                · obtain ⟨wi, hwi⟩ : ∃ wi : World, wi = wr := ⟨_, rfl⟩
                  rw [← hwi]
                  rw [← hwi] at jz ja HBj
                  clear hwi
                  obtain ⟨hv, hok, hf, hr⟩ := HOk.out
                  obtain ⟨r1, r2⟩ := HRg.out x y hlt hly
                  obtain ⟨r3, r4⟩ := HRg.out y u hly hlu
                  obtain ⟨a1, ha1⟩ : ∃ a1 : Nat, at2 zn f.2 x y = (a1 : Int) := ⟨(at2 zn f.2 x y).toNat, by omega⟩
                  obtain ⟨a2, ha2⟩ : ∃ a2 : Nat, at2 zn f.2 y u = (a2 : Int) := ⟨(at2 zn f.2 y u).toNat, by omega⟩
                  rw [ha1] at r2
                  rw [ha2] at r4
                  have h1 := fun g W => @value2 lo hi w.heap.size n c k zn x y g _ fs f w wi hv hhi hok hf hr hlt hly HBj.out W
                  have h2 := fun g W => @value2 lo hi w.heap.size n c k zn y u g _ fs f w wi hv hhi hok hf hr hly hlu HBj.out W
                  have h3 := fun g W => @value2 lo hi w.heap.size n c k zn a1 u g _ fs f w wi hv hhi hok hf hr (by omega) hlu HBj.out W
                  have h4 := fun g W => @value2 lo hi w.heap.size n c k zn x a2 g _ fs f w wi hv hhi hok hf hr hlt (by omega) HBj.out W
                  rw [ha1] at h1
                  rw [ha2] at h2
                  obtain ⟨v1, hv1⟩ : ∃ v1, at2 zn f.2 a1 u = v1 := ⟨_, rfl⟩
                  obtain ⟨v2, hv2⟩ : ∃ v2, at2 zn f.2 x a2 = v2 := ⟨_, rfl⟩
                  rw [hv1] at h3
                  rw [hv2] at h4
                  have hL : at2 zn f.2 (at2 zn f.2 x y).toNat u = v1 := by rw [ha1, Int.toNat_natCast, hv1]
                  have hR : at2 zn f.2 x (at2 zn f.2 y u).toNat = v2 := by rw [ha2, Int.toNat_natCast, hv2]
                  have H1 := Lib.hid h1
                  have H2 := Lib.hid h2
                  have H3 := Lib.hid h3
                  have H4 := Lib.hid h4
                  have V1 := Lib.hid hL
                  have V2 := Lib.hid hR
                  have hw0 : Below wi.heap.size wi wi.drew := (Below.refl _ _).drew
                  clear h1 h2 h3 h4 hv1 hv2 hL hR hv hok hf hr ha1 ha2 r1 r2 r3 r4
                  go_wp2_with fail
                  go_region_held3 (fun w' => w'.cell? ⟨w.heap.size, 0, none⟩ = some (.int .i64 (zn : Int)) ∧ w'.cell? ⟨w.heap.size, 1, none⟩ = some (.slice (some ⟨b, o, none⟩) n c) ∧ Below wi.heap.size wi w') (first | assumption | (go_keep; done) | (refine And.intro (by go_keep) (And.intro (by go_keep) ?_); (repeat (first | assumption | exact Below.refl _ _ | apply keep_drew | apply keep_alloc)); done)) ((first | (go_at_call 58; refine (H1.out _ _ ?_ ?_ ?_).mono ?_; (focus ((first | assumption | (refine And.intro (by go_keep) (And.intro (by go_keep) ?_); (repeat (first | assumption | exact Below.refl _ _ | apply keep_drew | apply keep_alloc)))); done)); (focus (go_simp; done)); (focus (go_simp; done)); rintro e w2 ⟨rfl, hb_, hS0, hS1, hS2⟩; obtain ⟨hcc_, _⟩ := bcell hb_; have hza_ : wi.heap.size < w2.heap.size := (by have h_ := hb_.size; (try simp at h_); omega); have hzb_ : wi.heap.size < w2.heap.size + 1 := (by omega); have hzc_ : wi.heap.size + 1 < w2.heap.size + 1 := (by omega); (try (have hzd_ : wi.heap.size + 1 < w2.heap.size := (by have h_ := hb_.size; (try simp at h_); omega))); clear hb_) | (go_at_call 58; refine (H2.out _ _ ?_ ?_ ?_).mono ?_; (focus ((first | assumption | (refine And.intro (by go_keep) (And.intro (by go_keep) ?_); (repeat (first | assumption | exact Below.refl _ _ | apply keep_drew | apply keep_alloc)))); done)); (focus (go_simp; done)); (focus (go_simp; done)); rintro e w2 ⟨rfl, hb_, hS0, hS1, hS2⟩; obtain ⟨hcc_, _⟩ := bcell hb_; have hza_ : wi.heap.size < w2.heap.size := (by have h_ := hb_.size; (try simp at h_); omega); have hzb_ : wi.heap.size < w2.heap.size + 1 := (by omega); have hzc_ : wi.heap.size + 1 < w2.heap.size + 1 := (by omega); (try (have hzd_ : wi.heap.size + 1 < w2.heap.size := (by have h_ := hb_.size; (try simp at h_); omega))); clear hb_) | (go_at_call 58; refine (H3.out _ _ ?_ ?_ ?_).mono ?_; (focus ((first | assumption | (refine And.intro (by go_keep) (And.intro (by go_keep) ?_); (repeat (first | assumption | exact Below.refl _ _ | apply keep_drew | apply keep_alloc)))); done)); (focus (go_simp; done)); (focus (go_simp; done)); rintro e w2 ⟨rfl, hb_, hS0, hS1, hS2⟩; obtain ⟨hcc_, _⟩ := bcell hb_; have hza_ : wi.heap.size < w2.heap.size := (by have h_ := hb_.size; (try simp at h_); omega); have hzb_ : wi.heap.size < w2.heap.size + 1 := (by omega); have hzc_ : wi.heap.size + 1 < w2.heap.size + 1 := (by omega); (try (have hzd_ : wi.heap.size + 1 < w2.heap.size := (by have h_ := hb_.size; (try simp at h_); omega))); clear hb_) | (go_at_call 58; refine (H4.out _ _ ?_ ?_ ?_).mono ?_; (focus ((first | assumption | (refine And.intro (by go_keep) (And.intro (by go_keep) ?_); (repeat (first | assumption | exact Below.refl _ _ | apply keep_drew | apply keep_alloc)))); done)); (focus (go_simp; done)); (focus (go_simp; done)); rintro e w2 ⟨rfl, hb_, hS0, hS1, hS2⟩; obtain ⟨hcc_, _⟩ := bcell hb_; have hza_ : wi.heap.size < w2.heap.size := (by have h_ := hb_.size; (try simp at h_); omega); have hzb_ : wi.heap.size < w2.heap.size + 1 := (by omega); have hzc_ : wi.heap.size + 1 < w2.heap.size + 1 := (by omega); (try (have hzd_ : wi.heap.size + 1 < w2.heap.size := (by have h_ := hb_.size; (try simp at h_); omega))); clear hb_)))
                  all_goals
                    have HBn := Lib.hid (HBj.out.trans (hS2.mono HBj.out.size))
                    clear hS2 hw0 jz ja
                    by_cases hv : v1 = v2
                    · have e1 : (v1 != v2) = false := by rw [hv]; simp
                      have e2 : (v1 == v2) = true := by rw [hv]; simp
                      have HEq := Lib.hid hv
                      clear hv
                      go_wp2_with fail
                      go_roundw
                      case rel =>
                        refine ⟨u + 1, by omega, by go_num, fun u' h' => ?_, hS0, hS1, HBn⟩
                        by_cases huu : u' = u
                        · subst huu; rw [V1.out, V2.out, HEq.out]
                        · exact HU.out u' (by omega)
                      case measure => simp [intOf]; omega
                    · have e1 : (v1 != v2) = true := by rw [bne_iff_ne]; exact hv
                      have e2 : (v1 == v2) = false := by rw [beq_eq_false_iff_ne]; exact hv
                      have HNe := Lib.hid hv
                      clear hv
                      go_wp2_with fail
                      go_ret2
                      refine ⟨two_bool ?_, HBn.out⟩
                      rw [HVal.out, assocB_no hlt hly hlu (by rw [V1.out, V2.out]; exact HNe.out)]
                · go_wp2_with fail
                  go_roundw
                  case rel =>
                    refine ⟨y + 1, by omega, by go_num, fun y' u' h1 h2 => ?_, jz, ja, HBj⟩
                    by_cases hyy : y' = y
                    · subst hyy; exact HU.out u' (by omega)
                    · exact HY.out y' u' (by omega) h2
                  case measure => simp [intOf]; omega
            · go_wp2_with fail
              go_roundw
              case rel =>
                refine ⟨x + 1, by omega, by go_num, fun x' y' u' h1 h2 h3 => ?_, iz, ia, HBi⟩
                by_cases hxx : x' = x
                · subst hxx; exact HY.out y' u' (by omega) h3
                · exact HA.out x' y' u' (by omega) h2 h3
              case measure => simp [intOf]; omega
        · go_wp2_with fail
          go_ret2
          refine ⟨two_bool ?_, HBr.out⟩
          rw [HVal.out, assocB_yes fun x' y u h1 h2 h3 => HA.out x' y u (by omega) h2 h3]
    · have hval : valIsAssociative z fs (k : Int) = (false, false) := by
        have : ¬ f.1 = 2 := by rw [hr]; exact har
        simp [valIsAssociative, binB, hfl, this]
      rw [hval]
      have e1 : (r == (2 : Int)) = false := by rw [beq_eq_false_iff_ne]; exact har
      have e2 : (r != (2 : Int)) = true := by rw [bne_iff_ne]; exact har
      clear hT hB hs hv ht hok hf hfo hfl hc c0 c1 hvt hr hval z1 z2 hn har
      go_enter Try.func36, Try.ntmps36
      go_wp2_with fail
      refine HT.out.mono ?_
      rintro e w1 ⟨rfl, b1⟩
      have HB1 := Lib.hid (HB.out.trans (b1.mono HB.out.size))
      have cz : w1.cell? ⟨w.heap.size, 0, none⟩ = some (.int .i64 z) := (b1.cell (p := ⟨w.heap.size, 0, none⟩) (by simp)).trans (by simp)
      have ca : w1.cell? ⟨w.heap.size, 1, none⟩ = some (.slice (some ⟨b, o, none⟩) n c) := (b1.cell (p := ⟨w.heap.size, 1, none⟩) (by simp)).trans (by simp)
      have e0 : w1.cell? ⟨b, o + k * 2, none⟩ = some (.int .i64 r) := (HB1.out.cell (p := ⟨b, _, none⟩) (by show b < _; omega)).trans C0.out
      clear b1
      go_wp2_with fail
      go_ret2
      exact ⟨rfl, HB1.out⟩

end Go.Proofs.Ythgggoodceogkaa
