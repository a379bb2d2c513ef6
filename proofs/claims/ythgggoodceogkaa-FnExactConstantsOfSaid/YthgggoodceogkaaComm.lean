/-
  Contracts: impl.IsCommutative and impl.IsAssociative. Conditions: the bounds that each theorem names.
-/
import Derived.Test.YthgggoodceogkaaBin
namespace Go.Proofs.Ythgggoodceogkaa
open Go.RowKit
set_option linter.unusedVariables false
set_option linter.unusedSimpArgs false

/-- The value that a table of two arguments has. -/
def at2 (z : Nat) (t : List Int) (x y : Nat) : Int := t.getD (x * z + y) 0
def commB (z : Nat) (t : List Int) : Bool := (List.range z).all fun x => (List.range x).all fun y => decide (at2 z t x y = at2 z t y x)
theorem commB_yes {z : Nat} {t : List Int} (h : ∀ x y, x < z → y < x → at2 z t x y = at2 z t y x) : commB z t = true := by
  simp only [commB, List.all_eq_true, List.mem_range, decide_eq_true_eq]
  exact fun x hx y hy => h x y hx hy
theorem commB_no {z : Nat} {t : List Int} {x y : Nat} (hx : x < z) (hy : y < x) (h : ¬ at2 z t x y = at2 z t y x) : commB z t = false := by
  rw [← Bool.not_eq_true]
  intro hc
  simp only [commB, List.all_eq_true, List.mem_range, decide_eq_true_eq] at hc
  exact h (hc x hx y hy)
def assocB (z : Nat) (t : List Int) : Bool := (List.range z).all fun x => (List.range z).all fun y => (List.range z).all fun u => decide (at2 z t (at2 z t x y).toNat u = at2 z t x (at2 z t y u).toNat)
theorem assocB_yes {z : Nat} {t : List Int} (h : ∀ x y u, x < z → y < z → u < z → at2 z t (at2 z t x y).toNat u = at2 z t x (at2 z t y u).toNat) : assocB z t = true := by
  simp only [assocB, List.all_eq_true, List.mem_range, decide_eq_true_eq]
  exact fun x hx y hy u hu => h x y u hx hy hu
theorem assocB_no {z : Nat} {t : List Int} {x y u : Nat} (hx : x < z) (hy : y < z) (hu : u < z) (h : ¬ at2 z t (at2 z t x y).toNat u = at2 z t x (at2 z t y u).toNat) : assocB z t = false := by
  rw [← Bool.not_eq_true]
  intro hc
  simp only [assocB, List.all_eq_true, List.mem_range, decide_eq_true_eq] at hc
  exact h (hc x hx y hy u hu)

def valIsCommutative (z : Int) (fs : List OpD) (op : Int) : Bool × Bool := if binB z fs op then (commB z.toNat (opD fs op).2, true) else (false, false)
def valIsAssociative (z : Int) (fs : List OpD) (op : Int) : Bool × Bool := if binB z fs op then (assocB z.toNat (opD fs op).2, true) else (false, false)

/-- What is known of a valid table of two arguments. -/
theorem bin_table {z : Int} {f : OpD} (h1 : 1 ≤ z) (h2 : z ≤ 8) (hok : opOkB z f = true) (har : f.1 = 2) : ∃ zn : Nat, z = (zn : Int) ∧ 1 ≤ zn ∧ zn ≤ 8 ∧ f.2.length = zn * zn ∧
    (∀ x y, x < zn → y < zn → x * zn + y < zn * zn ∧ x * zn ≤ 56 ∧ f.2[x * zn + y]? = some (at2 zn f.2 x y)) ∧ (∀ x y, x < zn → y < zn → 0 ≤ at2 zn f.2 x y ∧ at2 zn f.2 x y < (zn : Int)) := by
  obtain ⟨zn, rfl⟩ : ∃ zn : Nat, z = (zn : Int) := ⟨z.toNat, by omega⟩
  obtain ⟨_, hlen, hall⟩ := opOkB_of hok
  rw [har] at hlen
  have hl : f.2.length = zn * zn := by
    have : ((f.2.length : Nat) : Int) = ((zn * zn : Nat) : Int) := by rw [hlen]; simp [powI]
    exact Int.ofNat.inj this
  have hb : ∀ x y, x < zn → y < zn → x * zn + y < zn * zn ∧ x * zn ≤ 56 := by
    intro x y hx hy
    have h3 : x * zn ≤ (zn - 1) * zn := Nat.mul_le_mul_right _ (by omega)
    have h4 : (zn - 1) * zn + zn = zn * zn := by
      rw [← Nat.succ_mul]; congr 1; omega
    have h5 : x * zn ≤ 7 * 8 := Nat.mul_le_mul (by omega) (by omega)
    omega
  have hg : ∀ x y, x < zn → y < zn → f.2[x * zn + y]? = some (at2 zn f.2 x y) := by
    intro x y hx hy
    have := (hb x y hx hy).1
    unfold at2
    rw [List.getD_eq_getElem?_getD, List.getElem?_eq_getElem (by omega)]
    rfl
  exact ⟨zn, rfl, by omega, by omega, hl, fun x y hx hy => ⟨(hb x y hx hy).1, (hb x y hx hy).2, hg x y hx hy⟩, fun x y hx hy => allIn_get hall (hg x y hx hy)⟩

theorem two_bool {r s : Bool} {p : Bool × Bool} (h : p = (r, s)) : Ending.returned (.tuple #[.bool r, .bool s]) = .returned (.tuple #[.bool p.1, .bool p.2]) := by rw [h]

set_option maxHeartbeats 2000000 in
theorem implIsCommutative (lo hi : Nat) (z : Int) (ao : Option Addr) (c n : Nat) (fs : List OpD) (op : Int) (w : World) (hv : OView w lo hi ao n fs) (hhi : hi ≤ w.heap.size) (hs : ∀ (j : Nat) (f : OpD), fs[j]? = some f → f.2.length ≤ maxLen) (wz : (Lit.int .i64 op).wf = true) :
    Calls Try.prog 35 #[.agg #[.int .i64 z, .slice ao n c], .int .i64 op] w fun e w' => e = .returned (.tuple #[.bool (valIsCommutative z fs op).1, .bool (valIsCommutative z fs op).2]) ∧ Below w.heap.size w w' := by
  have hB := (Below.refl w.heap.size w).alloc (Nat.le_refl _) (.cells #[.int .i64 z, .slice ao n c] 29)
  have HB := Lib.hid hB
  have hv1 := hv.kept (Kept.of_below hB hhi)
  have hhi' := Nat.le_trans hhi hB.size
  obtain ⟨t, ht⟩ : ∃ t, binB z fs op = t := ⟨_, rfl⟩
  cases t with
  | false =>
    have HC := Lib.hid (binOf_no lo hi z ao c n fs op _ hv1 hhi' hs ht)
    rw [show valIsCommutative z fs op = (false, false) by simp [valIsCommutative, ht]]
    clear hB hs hv hv1 hhi' ht
    go_enter Try.func35, Try.ntmps35
    go_wp2_with fail
    refine HC.out.mono ?_
    rintro e w1 ⟨rfl, b1⟩
    have HB1 := Lib.hid ((HB.out.trans (b1.mono HB.out.size)).alloc (Nat.le_trans HB.out.size b1.size) (.cells #[.int .i64 0, .slice none 0 0] 56))
    clear b1
    go_wp2_with fail
    go_ret2
    exact ⟨rfl, HB1.out⟩
  | true =>
    obtain ⟨k, f, rfl, hkl, hf, hfo, har, hfl, hok⟩ := bin_get ht
    obtain ⟨⟨h1, h2⟩, hn4, _⟩ := algOkB_of hok
    have HC := Lib.hid (binOf_yes lo hi z ao c n fs k f _ hv1 hhi' hs hok hf har)
    obtain ⟨zn, rfl, hz1, hz2, hlen, hT, _⟩ := bin_table h1 h2 hfo har
    have hval : valIsCommutative (zn : Int) fs (k : Int) = (commB zn f.2, true) := by simp [valIsCommutative, ht, hfl]
    have HVal := Lib.hid hval
    have HT := Lib.hid hT
    have HAr := Lib.hid har
    have HLen := Lib.hid hlen
    clear hB hs hv hv1 hhi' ht hok hf hfo hfl hT har hval hlen h1 h2
    go_enter Try.func35, Try.ntmps35
    go_wp2_with fail
    refine HC.out.mono ?_
    rintro e w1 ⟨ta, tm, tc, rfl, hm1, hm2, hm3, hvt, b1⟩
    rw [HAr.out]
    have HB1 := Lib.hid ((HB.out.trans (b1.mono HB.out.size)).alloc (Nat.le_trans HB.out.size b1.size) (.cells #[.int .i64 2, .slice ta tm tc] 56))
    have cz : w1.cell? ⟨w.heap.size, 0, none⟩ = some (.int .i64 (zn : Int)) := (b1.cell (p := ⟨w.heap.size, 0, none⟩) (by simp)).trans (by simp)
    have hsz : w.heap.size < w1.heap.size := by have := b1.size; simp at this; omega
    have hml : tm = zn * zn := hm1.trans HLen.out
    have hzz : 1 ≤ zn * zn := Nat.mul_pos hz1 hz1
    obtain ⟨bt, ot, rfl, _, _, hct⟩ := hvt.at_ (by omega)
    have HCt := Lib.hid hct
    have hbl : bt < w1.heap.size := World.block_lt_of_cell? w1 ⟨bt, ot + 0, none⟩ (hct 0 _ (by have := (HT.out 0 0 (by omega) (by omega)).2.2; simpa using this))
    have HML := Lib.hid hml
    have hmb : tm ≤ 64 := by rw [hml]; exact Nat.mul_le_mul hz2 hz2
    clear b1 hvt hct hm1 hm3 hml hzz
    go_wp2_with fail
    go_loopw [8, 9, 20] (fun s8 s9 i wr => ∃ x q : Nat, x ≤ zn ∧ i = .int .i64 (x : Int) ∧ Hid (∀ x' y, x' < x → y < x' → at2 zn f.2 x' y = at2 zn f.2 y x') ∧ wr = (w1.alloc (.cells #[.int .i64 2, .slice (some ⟨bt, ot, none⟩) tm tc] 56)).drewN q) (fun _ _ i _ => zn - (intOf i).toNat)
    case atStart => exact ⟨0, 0, Nat.zero_le _, rfl, fun x' y h => by omega, rfl⟩
    case round =>
      obtain ⟨x, q, hx, rfl, HA, rfl⟩ := hrel
      by_cases hlt : x < zn
      · go_wp2_with fail
        obtain ⟨wo, hwo⟩ : ∃ wo : World, wo = (w1.alloc (.cells #[.int .i64 2, .slice (some ⟨bt, ot, none⟩) tm tc] 56)).drewN q := ⟨_, rfl⟩
        have HWo := Lib.hid hwo
        have hz0 : wo.cell? ⟨w.heap.size, 0, none⟩ = some (.int .i64 (zn : Int)) := by rw [hwo]; exact (World.cell?_alloc_lt w1 _ ⟨w.heap.size, 0, none⟩ hsz).trans cz
        have hz1' : wo.cell? ⟨w1.heap.size, 1, none⟩ = some (.slice (some ⟨bt, ot, none⟩) tm tc) := by rw [hwo]; simp
        have HCt2 : Hid (∀ (j : Nat) (v : Int), f.2[j]? = some v → wo.cell? ⟨bt, ot + j, none⟩ = some (.int .i64 v)) := by
          intro j v hj
          rw [hwo]
          exact (World.cell?_alloc_lt w1 _ ⟨bt, ot + j, none⟩ hbl).trans (HCt.out j v hj)
        rw [← hwo]
        clear hwo
        go_loopw [9, 24] (fun s9 i wr => ∃ y q2 : Nat, y ≤ x ∧ i = .int .i64 (y : Int) ∧ Hid (∀ y', y' < y → at2 zn f.2 x y' = at2 zn f.2 y' x) ∧ wr = wo.drewN q2) (fun _ i _ => x - (intOf i).toNat)
        case atStart => exact ⟨0, 0, Nat.zero_le _, rfl, fun y' h => by omega, rfl⟩
        case round =>
          obtain ⟨y, q2, hy, rfl, HY, rfl⟩ := hrel
          by_cases hly : y < x
          · obtain ⟨g1, g2, g3⟩ := HT.out x y hlt (by omega)
            obtain ⟨g4, g5, g6⟩ := HT.out y x (by omega) hlt
            have c1 := HCt2.out _ _ g3
            have c2 := HCt2.out _ _ g6
            obtain ⟨p, hp⟩ : ∃ p, p = x * zn := ⟨_, rfl⟩
            obtain ⟨r, hr⟩ : ∃ r, r = y * zn := ⟨_, rfl⟩
            rw [← hp] at g1 g2 c1
            rw [← hr] at g4 g5 c2
            obtain ⟨i1, hi1⟩ : ∃ i1, i1 = p + y := ⟨_, rfl⟩
            obtain ⟨i2, hi2⟩ : ∃ i2, i2 = r + x := ⟨_, rfl⟩
            rw [← hi1] at g1 c1
            rw [← hi2] at g4 c2
            have m1 : (x : Int) * (zn : Int) = (p : Int) := by rw [hp]; simp
            have m2 : (y : Int) * (zn : Int) = (r : Int) := by rw [hr]; simp
            have k1 : IntKind.i64.wrap ((x : Int) * (zn : Int)) = (p : Int) := by rw [m1]; exact IntWalk.i64_in _ (by omega)
            have k2 : IntKind.i64.wrap ((y : Int) * (zn : Int)) = (r : Int) := by rw [m2]; exact IntWalk.i64_in _ (by omega)
            have k3 : IntKind.i64.wrap ((p : Int) + (y : Int)) = (i1 : Int) := by rw [show (p : Int) + (y : Int) = (i1 : Int) by omega]; exact IntWalk.i64_in _ (by omega)
            have k4 : IntKind.i64.wrap ((r : Int) + (x : Int)) = (i2 : Int) := by rw [show (r : Int) + (x : Int) = (i2 : Int) by omega]; exact IntWalk.i64_in _ (by omega)
            have l1 : (i1 : Int) < (tm : Int) := by have := HML.out; omega
            have l2 : (i2 : Int) < (tm : Int) := by have := HML.out; omega
            obtain ⟨v1, hv1⟩ : ∃ v1, at2 zn f.2 x y = v1 := ⟨_, rfl⟩
            obtain ⟨v2, hv2⟩ : ∃ v2, at2 zn f.2 y x = v2 := ⟨_, rfl⟩
            rw [hv1] at c1
            rw [hv2] at c2
            have V1 := Lib.hid hv1
            have V2 := Lib.hid hv2
            clear hp hr hi1 hi2 m1 m2 g1 g2 g3 g4 g5 g6 hv1 hv2
            by_cases hv : v1 = v2
            · have e1 : (v1 != v2) = false := by rw [hv]; simp
              have e2 : (v1 == v2) = true := by rw [hv]; simp
              have HEq := Lib.hid hv
              clear hv
              go_wp2_with fail
              go_quiet (fail)
              go_wp2_with fail
              go_roundw
              case rel =>
                refine ⟨y + 1, _, by omega, by go_num, fun y' h' => ?_, rfl⟩
                by_cases hyy : y' = y
                · subst hyy; rw [V1.out, V2.out, HEq.out]
                · exact HY.out y' (by omega)
              case measure => simp [intOf]; omega
            · have e1 : (v1 != v2) = true := by rw [bne_iff_ne]; exact hv
              have e2 : (v1 == v2) = false := by rw [beq_eq_false_iff_ne]; exact hv
              have HNe := Lib.hid hv
              clear hv
              go_wp2_with fail
              go_quiet (fail)
              go_wp2_with fail
              go_ret2
              refine ⟨two_bool ?_, ?_⟩
              · rw [HVal.out, commB_no hlt hly (by rw [V1.out, V2.out]; exact HNe.out)]
              · rw [HWo.out]; exact below_drewN (below_drewN (below_drewN HB1.out _) _) _
          · go_wp2_with fail
            go_roundw
            case rel =>
              refine ⟨x + 1, q + q2, by omega, by go_num, fun x' y' h1 h2 => ?_, by rw [HWo.out, World.drewN_drewN]⟩
              by_cases hxx : x' = x
              · subst hxx; exact HY.out y' (by omega)
              · exact HA.out x' y' (by omega) h2
            case measure => simp [intOf]; omega
      · go_wp2_with fail
        go_ret2
        refine ⟨two_bool ?_, below_drewN HB1.out _⟩
        rw [HVal.out, commB_yes fun x' y h1 h2 => HA.out x' y (by omega) h2]

end Go.Proofs.Ythgggoodceogkaa
