/-
  Contract: impl.IsAssociative. Conditions: the bounds that each theorem names.
-/
import Derived.Test.YthgggoodceogkaaComm
namespace Go.Proofs.Ythgggoodceogkaa
open Go.RowKit
set_option linter.unusedVariables false
set_option linter.unusedSimpArgs false

/-- A place of a table of two arguments, in the walk's spelling. -/
theorem place {zn x y m : Nat} (hz : zn ≤ 8) (hx : x < zn) (hy : y < zn) (hm : m = zn * zn) : ∃ p i : Nat, p = x * zn ∧ i = p + y ∧ IntKind.i64.wrap ((x : Int) * (zn : Int)) = (p : Int) ∧ IntKind.i64.wrap ((p : Int) + (y : Int)) = (i : Int) ∧ (i : Int) < (m : Int) := by
  have h3 : x * zn ≤ (zn - 1) * zn := Nat.mul_le_mul_right _ (by omega)
  have h4 : (zn - 1) * zn + zn = zn * zn := by
    rw [← Nat.succ_mul]; congr 1; omega
  have h5 : zn * zn ≤ 8 * 8 := Nat.mul_le_mul hz hz
  refine ⟨x * zn, x * zn + y, rfl, rfl, ?_, ?_, by omega⟩
  · rw [show (x : Int) * (zn : Int) = ((x * zn : Nat) : Int) by simp]
    exact IntWalk.i64_in _ (by omega)
  · rw [show ((x * zn : Nat) : Int) + (y : Int) = ((x * zn + y : Nat) : Int) by omega]
    exact IntWalk.i64_in _ (by omega)

set_option maxHeartbeats 4000000 in
theorem implIsAssociative (lo hi : Nat) (z : Int) (ao : Option Addr) (c n : Nat) (fs : List OpD) (op : Int) (w : World) (hv : OView w lo hi ao n fs) (hhi : hi ≤ w.heap.size) (hs : ∀ (j : Nat) (f : OpD), fs[j]? = some f → f.2.length ≤ maxLen) (wz : (Lit.int .i64 op).wf = true) :
    Calls Try.prog 37 #[.agg #[.int .i64 z, .slice ao n c], .int .i64 op] w fun e w' => e = .returned (.tuple #[.bool (valIsAssociative z fs op).1, .bool (valIsAssociative z fs op).2]) ∧ Below w.heap.size w w' := by
  have hB := (Below.refl w.heap.size w).alloc (Nat.le_refl _) (.cells #[.int .i64 z, .slice ao n c] 29)
  have HB := Lib.hid hB
  have hv1 := hv.kept (Kept.of_below hB hhi)
  have hhi' := Nat.le_trans hhi hB.size
  obtain ⟨t, ht⟩ : ∃ t, binB z fs op = t := ⟨_, rfl⟩
  cases t with
  | false =>
    have HC := Lib.hid (binOf_no lo hi z ao c n fs op _ hv1 hhi' hs ht)
    rw [show valIsAssociative z fs op = (false, false) by simp [valIsAssociative, ht]]
    clear hB hs hv hv1 hhi' ht
    go_enter Try.func37, Try.ntmps37
    go_wp2_with fail
    refine HC.out.mono ?_
    rintro e w1 ⟨rfl, b1⟩
    have HB1 := Lib.hid ((HB.out.trans (b1.mono HB.out.size)).alloc (Nat.le_trans HB.out.size b1.size) (.cells #[.int .i64 0, .slice none 0 0] 56))
    clear b1
    go_wp2_with fail
    go_ret2
    exact ⟨rfl, HB1.out⟩
  | true =>
    obtain ⟨k, f, rfl, hkl, hf, hfo, har, hfl, hok⟩ := bin_get ht
    obtain ⟨⟨h1, h2⟩, hn4, _⟩ := algOkB_of hok
    have HC := Lib.hid (binOf_yes lo hi z ao c n fs k f _ hv1 hhi' hs hok hf har)
    obtain ⟨zn, rfl, hz1, hz2, hlen, hT, hR⟩ := bin_table h1 h2 hfo har
    have hval : valIsAssociative (zn : Int) fs (k : Int) = (assocB zn f.2, true) := by simp [valIsAssociative, ht, hfl]
    have HVal := Lib.hid hval
    have HT := Lib.hid hT
    have HRg := Lib.hid hR
    have HAr := Lib.hid har
    have HLen := Lib.hid hlen
    clear hB hs hv hv1 hhi' ht hok hf hfo hfl hT hR har hval hlen h1 h2
    go_enter Try.func37, Try.ntmps37
    go_wp2_with fail
    refine HC.out.mono ?_
    rintro e w1 ⟨ta, tm, tc, rfl, hm1, hm2, hm3, hvt, b1⟩
    rw [HAr.out]
    have HB1 := Lib.hid ((HB.out.trans (b1.mono HB.out.size)).alloc (Nat.le_trans HB.out.size b1.size) (.cells #[.int .i64 2, .slice ta tm tc] 56))
    have cz : w1.cell? ⟨w.heap.size, 0, none⟩ = some (.int .i64 (zn : Int)) := (b1.cell (p := ⟨w.heap.size, 0, none⟩) (by simp)).trans (by simp)
    have hsz : w.heap.size < w1.heap.size := by have := b1.size; simp at this; omega
    have hml : tm = zn * zn := hm1.trans HLen.out
    have hzz : 1 ≤ zn * zn := Nat.mul_pos hz1 hz1
    obtain ⟨bt, ot, rfl, _, _, hct⟩ := hvt.at_ (by omega)
    have HCt := Lib.hid hct
    have hbl : bt < w1.heap.size := World.block_lt_of_cell? w1 ⟨bt, ot + 0, none⟩ (hct 0 _ (by have := (HT.out 0 0 (by omega) (by omega)).2.2; simpa using this))
    have HML := Lib.hid hml
    have hmb : tm ≤ 64 := by rw [hml]; exact Nat.mul_le_mul hz2 hz2
    clear b1 hvt hct hm1 hm3 hml hzz
    go_wp2_with fail
    obtain ⟨W, hW⟩ : ∃ W : World, W = w1.alloc (.cells #[.int .i64 2, .slice (some ⟨bt, ot, none⟩) tm tc] 56) := ⟨_, rfl⟩
    have hz0 : W.cell? ⟨w.heap.size, 0, none⟩ = some (.int .i64 (zn : Int)) := by rw [hW]; exact (World.cell?_alloc_lt w1 _ ⟨w.heap.size, 0, none⟩ hsz).trans cz
    have hz1' : W.cell? ⟨w1.heap.size, 1, none⟩ = some (.slice (some ⟨bt, ot, none⟩) tm tc) := by rw [hW]; simp
    have HCt2 : Hid (∀ (j : Nat) (v : Int), f.2[j]? = some v → W.cell? ⟨bt, ot + j, none⟩ = some (.int .i64 v)) := by
      intro j v hj
      rw [hW]
      exact (World.cell?_alloc_lt w1 _ ⟨bt, ot + j, none⟩ hbl).trans (HCt.out j v hj)
    rw [← hW]
    rw [← hW] at HB1
    clear hW cz HCt
    go_loopw [8, 9, 10, 11, 12, 23] (fun s8 s9 s10 s11 s12 i wr => ∃ x q : Nat, x ≤ zn ∧ i = .int .i64 (x : Int) ∧ Hid (∀ x' y u, x' < x → y < zn → u < zn → at2 zn f.2 (at2 zn f.2 x' y).toNat u = at2 zn f.2 x' (at2 zn f.2 y u).toNat) ∧ wr = W.drewN q) (fun _ _ _ _ _ i _ => zn - (intOf i).toNat)
    case atStart => exact ⟨0, 0, Nat.zero_le _, rfl, fun x' y u h => by omega, rfl⟩
    case round =>
      obtain ⟨x, q, hx, rfl, HA, rfl⟩ := hrel
      by_cases hlt : x < zn
      · go_wp2_with fail
        go_loopw [9, 10, 11, 12, 28] (fun s9 s10 s11 s12 i wr => ∃ y q : Nat, y ≤ zn ∧ i = .int .i64 (y : Int) ∧ Hid (∀ y' u, y' < y → u < zn → at2 zn f.2 (at2 zn f.2 x y').toNat u = at2 zn f.2 x (at2 zn f.2 y' u).toNat) ∧ wr = W.drewN q) (fun _ _ _ _ i _ => zn - (intOf i).toNat)
        case atStart => exact ⟨0, q, Nat.zero_le _, rfl, fun y' u h => by omega, rfl⟩
        case round =>
          obtain ⟨y, q, hy, rfl, HY, rfl⟩ := hrel
          by_cases hly : y < zn
          · go_wp2_with fail
            go_loopw [10, 11, 12, 33] (fun s10 s11 s12 i wr => ∃ u q : Nat, u ≤ zn ∧ i = .int .i64 (u : Int) ∧ Hid (∀ u', u' < u → at2 zn f.2 (at2 zn f.2 x y).toNat u' = at2 zn f.2 x (at2 zn f.2 y u').toNat) ∧ wr = W.drewN q) (fun _ _ _ i _ => zn - (intOf i).toNat)
            case atStart => exact ⟨0, q, Nat.zero_le _, rfl, fun u' h => by omega, rfl⟩
            case round =>
              obtain ⟨u, q, hu, rfl, HU, rfl⟩ := hrel
              by_cases hlu : u < zn
              · obtain ⟨r1, r2⟩ := HRg.out x y hlt hly
                obtain ⟨r3, r4⟩ := HRg.out y u hly hlu
                obtain ⟨a1, ha1⟩ : ∃ a1 : Nat, at2 zn f.2 x y = (a1 : Int) := ⟨(at2 zn f.2 x y).toNat, by omega⟩
                obtain ⟨a2, ha2⟩ : ∃ a2 : Nat, at2 zn f.2 y u = (a2 : Int) := ⟨(at2 zn f.2 y u).toNat, by omega⟩
                rw [ha1] at r2
                rw [ha2] at r4
                have c1 := HCt2.out _ _ (HT.out x y hlt hly).2.2
                have c2 := HCt2.out _ _ (HT.out y u hly hlu).2.2
                have c3 := HCt2.out _ _ (HT.out a1 u (by omega) hlu).2.2
                have c4 := HCt2.out _ _ (HT.out x a2 hlt (by omega)).2.2
                rw [ha1] at c1
                rw [ha2] at c2
                obtain ⟨p1, i1, q1, q1', k1, k2, l1⟩ := place hz2 hlt hly HML.out
                obtain ⟨p2, i2, q2, q2', k3, k4, l2⟩ := place hz2 hly hlu HML.out
                obtain ⟨p3, i3, q3, q3', k5, k6, l3⟩ := place hz2 (show a1 < zn by omega) hlu HML.out
                obtain ⟨p4, i4, q4, q4', k7, k8, l4⟩ := place hz2 hlt (show a2 < zn by omega) HML.out
                have hpp : p4 = p1 := by rw [q4, q1]
                subst hpp
                clear k7
                rw [← q1, ← q1'] at c1
                rw [← q2, ← q2'] at c2
                rw [← q3, ← q3'] at c3
                rw [← q4, ← q4'] at c4
                obtain ⟨v1, hv1⟩ : ∃ v1, at2 zn f.2 a1 u = v1 := ⟨_, rfl⟩
                obtain ⟨v2, hv2⟩ : ∃ v2, at2 zn f.2 x a2 = v2 := ⟨_, rfl⟩
                rw [hv1] at c3
                rw [hv2] at c4
                have hL : at2 zn f.2 (at2 zn f.2 x y).toNat u = v1 := by rw [ha1, Int.toNat_natCast, hv1]
                have hR : at2 zn f.2 x (at2 zn f.2 y u).toNat = v2 := by rw [ha2, Int.toNat_natCast, hv2]
                have HL_ := Lib.hid hL
                have HR_ := Lib.hid hR
                clear ha1 ha2 r1 r2 r3 r4 hv1 hv2 hL hR q1' q2' q3' q4'
                have P1 := Lib.hid (And.intro q1 (And.intro q2 (And.intro q3 q4)))
                clear q1 q2 q3 q4
                by_cases hv : v1 = v2
                · have e1 : (v1 != v2) = false := by rw [hv]; simp
                  have e2 : (v1 == v2) = true := by rw [hv]; simp
                  have HEq := Lib.hid hv
                  clear hv
                  go_wp2_with fail
                  go_quiet (fail)
                  go_wp2_with fail
                  go_quiet (fail)
                  go_wp2_with fail
                  go_roundw
                  case rel =>
                    refine ⟨u + 1, _, by omega, by go_num, fun u' h' => ?_, by first | rfl | (rw [World.drewN_drewN, World.drewN_drewN])⟩
                    by_cases huu : u' = u
                    · subst huu; rw [HL_.out, HR_.out, HEq.out]
                    · exact HU.out u' (by omega)
                  case measure => simp [intOf]; omega
                · have e1 : (v1 != v2) = true := by rw [bne_iff_ne]; exact hv
                  have e2 : (v1 == v2) = false := by rw [beq_eq_false_iff_ne]; exact hv
                  have HNe := Lib.hid hv
                  clear hv
                  go_wp2_with fail
                  go_quiet (fail)
                  go_wp2_with fail
                  go_quiet (fail)
                  go_wp2_with fail
                  go_ret2
                  refine ⟨two_bool ?_, ?_⟩
                  · rw [HVal.out, assocB_no hlt hly hlu (by rw [HL_.out, HR_.out]; exact HNe.out)]
                  · first | exact below_drewN HB1.out _ | exact below_drewN (below_drewN (below_drewN HB1.out _) _) _
              · go_wp2_with fail
                go_roundw
                case rel =>
                  refine ⟨y + 1, q, by omega, by go_num, fun y' u' h1 h2 => ?_, rfl⟩
                  by_cases hyy : y' = y
                  · subst hyy; exact HU.out u' (by omega)
                  · exact HY.out y' u' (by omega) h2
                case measure => simp [intOf]; omega
          · go_wp2_with fail
            go_roundw
            case rel =>
              refine ⟨x + 1, q, by omega, by go_num, fun x' y' u' h1 h2 h3 => ?_, rfl⟩
              by_cases hxx : x' = x
              · subst hxx; exact HY.out y' u' (by omega) h3
              · exact HA.out x' y' u' (by omega) h2 h3
            case measure => simp [intOf]; omega
      · go_wp2_with fail
        go_ret2
        refine ⟨two_bool ?_, below_drewN HB1.out _⟩
        rw [HVal.out, assocB_yes fun x' y u h1 h2 h3 => HA.out x' y u (by omega) h2 h3]

end Go.Proofs.Ythgggoodceogkaa
