/-
  Contracts: impl.termsBehind, impl.endOfTerm and spec.l3End: where a term ends. Conditions: the bounds that each theorem names.
-/
import Derived.Test.YtplheohkecooeaaLists
import Derived.Deep.RegionHeld3
import Derived.Deep.DrawnRows
namespace Go.Proofs.Ytplheohkecooeaa
open Go.RowKit
set_option linter.unusedVariables false
set_option linter.unusedSimpArgs false
attribute [local go_sem ↓] Go.wp_at_zero Go.wp_at_succ

theorem wf_bd {x : Int} (h : (Lit.int .i64 x).wf = true) : -9223372036854775808 ≤ x ∧ x ≤ 9223372036854775807 := by
  simp [Lit.wf, IntKind.min, IntKind.max, IntKind.signed, IntKind.bits] at h
  exact ⟨by omega, by omega⟩

theorem behind_any (lo hi : Nat) (z : Int) (ao : Option Addr) (c n : Nat) (fs : List OpD) (x : Int) (w : World) (hv : OView w lo hi ao n fs) (hhi : hi ≤ w.heap.size) (hok : algOkB z fs = true) (hx : (Lit.int .i64 x).wf = true) :
    Calls Try.prog 120 #[.agg #[.int .i64 z, .slice ao n c], .int .i64 x] w fun e w' => e = .returned (.tuple #[.int .i64 ((beh fs x).getD 0), .bool (beh fs x).isSome]) ∧ Below w.heap.size w w' := by
  have hB := below_alloc w (.cells #[.int .i64 z, .slice ao n c] 30)
  have HB := Lib.hid hB
  obtain ⟨x0, x1⟩ := wf_bd hx
  have hn4 : n ≤ 4 := by have := (algOkB_of hok).2.1; have := hv.1; omega
  by_cases h0 : 0 ≤ x
  · by_cases h1 : x < 6
    · rw [beh_var h0 h1]
      clear hB hv hok hx
      go_enter Try.func120, Try.ntmps120
      go_wp2
      go_ret2
      exact ⟨rfl, HB.out⟩
    · rw [beh_big (by omega)]
      clear hB hv hok hx
      go_enter Try.func120, Try.ntmps120
      go_wp2
      go_ret2
      exact ⟨rfl, HB.out⟩
  · by_cases h1 : (n : Int) ≤ -1 - x
    · rw [beh_noop (by omega) (by have := hv.1; omega)]
      clear hB hv hok hx
      go_enter Try.func120, Try.ntmps120
      go_wp2
      go_ret2
      exact ⟨rfl, HB.out⟩
    · obtain ⟨k, hk⟩ : ∃ k : Nat, -1 - x = (k : Int) := ⟨(-1 - x).toNat, by omega⟩
      have hkn : k < n := by omega
      obtain ⟨f, hf⟩ := get_of_lt hv.1 hkn
      rw [beh_op (by omega) hk hf]
      obtain ⟨b, o, rfl, _, hb, hc⟩ := (hv.kept (Kept.of_below hB hhi)).at_ (by omega)
      obtain ⟨a, m, c', c0, _, _, _, _⟩ := hc k f hf
      obtain ⟨r, hr⟩ : ∃ r, f.1 = r := ⟨_, rfl⟩
      rw [hr] at c0 ⊢
      have hx0 : x < 0 := by omega
      have hkn' : (k : Int) < (n : Int) := by omega
      clear hB hv hok hx hc hf hr x0 x1 h0
      go_enter Try.func120, Try.ntmps120
      go_wp2
      go_ret2
      exact ⟨rfl, HB.out⟩

/-- What endOfTerm tells. -/
def endV (r : Option Nat) : Value := .tuple #[.int .i64 ((r.getD 0 : Nat) : Int), .bool r.isSome]

set_option maxHeartbeats 1000000 in
theorem endOf_any (lo hi lo2 hi2 : Nat) (z : Int) (ao bo : Option Addr) (c n d m : Nat) (fs : List OpD) (xs : List Int) (k0 : Nat) (w : World) (hv : OView w lo hi ao n fs) (hhi : hi ≤ w.heap.size) (hok : algOkB z fs = true)
    (hx : IView w lo2 hi2 bo m xs) (hhi2 : hi2 ≤ w.heap.size) (hm : m ≤ 60) (hq : ∀ x, x ∈ xs → (Lit.int .i64 x).wf = true) (hk0 : k0 ≤ m) :
    Calls Try.prog 102 #[.agg #[.int .i64 z, .slice ao n c], .slice bo m d, .int .i64 (k0 : Int)] w fun e w' => e = .returned (endV (endA fs xs k0)) ∧ Below w.heap.size w w' := by
  have hB := below_alloc w (.cells #[.int .i64 z, .slice ao n c] 30)
  have HB := Lib.hid hB
  have HV := Lib.hid hv
  have HX := Lib.hid hx
  have HQ := Lib.hid hq
  have HOk := Lib.hid hok
  obtain ⟨r, hr⟩ : ∃ r, endA fs xs k0 = r := ⟨_, rfl⟩
  have HR := Lib.hid hr
  rw [hr]
  clear hB hv hx hq hok hr
  go_enter Try.func102, Try.ntmps102
  go_wp2
  go_loopw [8, 9] (fun v i wr => ∃ (k : Nat) (q : Int), k ≤ m ∧ i = .int .i64 (k : Int) ∧ v = .int .i64 q ∧ 1 ≤ q ∧ q ≤ 1 + 3 * k ∧ Hid (endN fs (xs.drop k) q k = r) ∧ Hid (Below w.heap.size w wr) ∧ wr.cell? ⟨w.heap.size, 0, none⟩ = some (.int .i64 z) ∧ wr.cell? ⟨w.heap.size, 1, none⟩ = some (.slice ao n c) ∧ w.heap.size < wr.heap.size) (fun _ i _ => m - (intOf i).toNat)
  case atStart => exact ⟨k0, 1, hk0, rfl, rfl, by omega, by omega, HR, HB, by simp, by simp, by simp⟩
  case round =>
    obtain ⟨k, q, hk, rfl, rfl, hq0, hq1, HE, HBr, cz, ca, hsr⟩ := hrel
    by_cases hlt : k < m
    · obtain ⟨b, o, rfl, _, _, hc⟩ := HX.out.at_ (by omega)
      obtain ⟨x, hx⟩ := get_of_lt HX.out.1 hlt
      have cx : wr.cell? ⟨b, o + k, none⟩ = some (.int .i64 x) := cell_b HBr.out (hc k x hx)
      have hcall : ∀ w1, (w1.cell? ⟨w.heap.size, 0, none⟩ = some (.int .i64 z) ∧ w1.cell? ⟨w.heap.size, 1, none⟩ = some (.slice ao n c) ∧ w1.cell? ⟨b, o + k, none⟩ = some (.int .i64 x) ∧ Below wr.heap.size wr w1) → Calls Try.prog 120 #[.agg #[.int .i64 z, .slice ao n c], .int .i64 x] w1 fun e w' => e = .returned (.tuple #[.int .i64 ((beh fs x).getD 0), .bool (beh fs x).isSome]) ∧
          (w'.cell? ⟨w.heap.size, 0, none⟩ = some (.int .i64 z) ∧ w'.cell? ⟨w.heap.size, 1, none⟩ = some (.slice ao n c) ∧ w'.cell? ⟨b, o + k, none⟩ = some (.int .i64 x) ∧ Below wr.heap.size wr w') := by
        intro w1 ⟨q0, q1, q2, hw1⟩
        have h2 := HBr.out.trans (hw1.mono HBr.out.size)
        exact (behind_any lo hi z ao c n fs x w1 (HV.out.kept (Kept.of_below h2 hhi)) (Nat.le_trans hhi h2.size) HOk.out (HQ.out x (List.mem_of_getElem? hx))).mono fun e w' ⟨he, hb⟩ => ⟨he, cell_b hb q0, cell_b hb q1, cell_b hb q2, hw1.trans (hb.mono hw1.size)⟩
      have HXk := Lib.hid hx
      have hw0 : Below wr.heap.size wr wr.drew := (Below.refl _ _).drew
      obtain ⟨y, hy⟩ : ∃ y, beh fs x = y := ⟨_, rfl⟩
      have HY := Lib.hid hy
      rw [hy] at hcall
      have HC := Lib.hid hcall
      clear hc hx hy hcall
      cases y with
      | none =>
        go_wp2_with fail
        go_region_held3 (fun w1 => w1.cell? ⟨w.heap.size, 0, none⟩ = some (.int .i64 z) ∧ w1.cell? ⟨w.heap.size, 1, none⟩ = some (.slice ao n c) ∧ w1.cell? ⟨b, o + k, none⟩ = some (.int .i64 x) ∧ Below wr.heap.size wr w1) (first | assumption | go_keep) ((go_at_call 120; refine (HC.out _ ?_).mono ?_; exact ⟨by assumption, by assumption, by assumption, by assumption⟩; rintro e w2 ⟨rfl, hS⟩))
        obtain ⟨_, _, _, b3⟩ := hS
        have HB3 := Lib.hid (HBr.out.trans (b3.mono HBr.out.size))
        have HN : Hid (none = r) := by unfold Hid; rw [← HE.out, endN_bad HXk.out HY.out]
        clear b3
        go_wp2_with fail
        go_ret2
        exact ⟨by rw [← HN.out]; rfl, HB3.out⟩
      | some y =>
        obtain ⟨y0, y1⟩ := beh_bd HOk.out HY.out
        go_wp2_with fail
        go_region_held3 (fun w1 => w1.cell? ⟨w.heap.size, 0, none⟩ = some (.int .i64 z) ∧ w1.cell? ⟨w.heap.size, 1, none⟩ = some (.slice ao n c) ∧ w1.cell? ⟨b, o + k, none⟩ = some (.int .i64 x) ∧ Below wr.heap.size wr w1) (first | assumption | go_keep) ((go_at_call 120; refine (HC.out _ ?_).mono ?_; exact ⟨by assumption, by assumption, by assumption, by assumption⟩; rintro e w2 ⟨rfl, hS⟩))
        obtain ⟨_, _, _, b3⟩ := hS
        have HB3 := Lib.hid (HBr.out.trans (b3.mono HBr.out.size))
        have cz2 : w2.cell? ⟨w.heap.size, 0, none⟩ = some (.int .i64 z) := cell_b b3 cz
        have ca2 : w2.cell? ⟨w.heap.size, 1, none⟩ = some (.slice ao n c) := cell_b b3 ca
        have hs2 : w.heap.size < w2.heap.size := by have := b3.size; omega
        clear b3 cz ca hsr
        by_cases h0 : q + (y - 1) = 0
        · have HN : Hid (some (k + 1) = r) := by unfold Hid; rw [← HE.out, endN_last HXk.out HY.out h0]
          have he : (q + (y - 1) == 0) = true := by rw [h0]; rfl
          go_wp2_with fail
          go_ret2
          exact ⟨by rw [← HN.out]; rfl, HB3.out⟩
        · have HN : Hid (endN fs (xs.drop (k + 1)) (q + (y - 1)) (k + 1) = r) := by unfold Hid; rw [← HE.out, endN_on HXk.out HY.out h0]
          have he : (q + (y - 1) == 0) = false := by rw [beq_eq_false_iff_ne]; exact h0
          go_wp2_with fail
          go_roundw
          case rel => exact ⟨k + 1, q + (y - 1), by omega, by go_num, rfl, by omega, by omega, HN, HB3, cz2, ca2, hs2⟩
          case measure => simp [intOf]; omega
    · have HN : Hid (none = r) := by unfold Hid; rw [← HE.out, endN_stop (by have := HX.out.1; omega)]
      go_wp2
      go_ret2
      exact ⟨by rw [← HN.out]; rfl, HBr.out⟩

/-- What l3End tells. -/
def endI (r : Option Nat) : Int := match r with | some e => (e : Int) | none => -1

set_option maxHeartbeats 1000000 in
theorem l3End_any (lo hi lo2 hi2 : Nat) (z : Int) (ao bo : Option Addr) (c n d m : Nat) (fs : List OpD) (xs : List Int) (k0 : Nat) (w : World) (hv : OView w lo hi ao n fs) (hhi : hi ≤ w.heap.size) (hok : algOkB z fs = true)
    (hx : IView w lo2 hi2 bo m xs) (hhi2 : hi2 ≤ w.heap.size) (hm : m ≤ 60) (hk0 : k0 ≤ m) :
    Calls Try.prog 71 #[.agg #[.int .i64 z, .slice ao n c], .slice bo m d, .int .i64 (k0 : Int)] w fun e w' => e = .returned (.int .i64 (endI (endA fs xs k0))) ∧ Below w.heap.size w w' := by
  have hB := below_alloc w (.cells #[.int .i64 z, .slice ao n c] 30)
  have HB := Lib.hid hB
  have HV := Lib.hid hv
  have HX := Lib.hid hx
  have HOk := Lib.hid hok
  have hn4 : n ≤ 4 := by have := (algOkB_of hok).2.1; have := hv.1; omega
  obtain ⟨r, hr⟩ : ∃ r, endA fs xs k0 = r := ⟨_, rfl⟩
  have HR := Lib.hid hr
  rw [hr]
  clear hB hv hx hok hr
  go_enter Try.func71, Try.ntmps71
  go_wp2
  go_loopw [7, 8] (fun v i wr => ∃ (k g : Nat) (q : Int), k ≤ m ∧ i = .int .i64 (k : Int) ∧ v = .int .i64 q ∧ 1 ≤ q ∧ q ≤ 1 + 3 * k ∧ Hid (endN fs (xs.drop k) q k = r) ∧ wr = (w.alloc (.cells #[.int .i64 z, .slice ao n c] 30)).drewN g) (fun _ i _ => m - (intOf i).toNat)
  case atStart => exact ⟨k0, 0, 1, hk0, rfl, rfl, by omega, by omega, HR, rfl⟩
  case round =>
    obtain ⟨k, g, q, hk, rfl, rfl, hq0, hq1, HE, rfl⟩ := hrel
    by_cases hlt : k < m
    · obtain ⟨b, o, rfl, _, _, hc⟩ := HX.out.at_ (by omega)
      obtain ⟨x, hx⟩ := get_of_lt HX.out.1 hlt
      have cx : (w.alloc (.cells #[.int .i64 z, .slice ao n c] 30)).cell? ⟨b, o + k, none⟩ = some (.int .i64 x) := cell_b HB.out (hc k x hx)
      have HXk := Lib.hid hx
      have hkm : (k : Int) < (m : Int) := by omega
      clear hc hx
      by_cases h0 : x < 0
      · have hcall := fun w => in_any x (-(n : Int)) (-1) w
        by_cases h1 : -(n : Int) ≤ x
        · rw [inB_yes h1 (by omega)] at hcall
          have HC := Lib.hid hcall
          clear hcall
          obtain ⟨j, hj⟩ : ∃ j : Nat, -1 - x = (j : Int) := ⟨(-1 - x).toNat, by omega⟩
          have hjn : j < n := by omega
          obtain ⟨f, hf⟩ := get_of_lt HV.out.1 hjn
          obtain ⟨b2, o2, rfl, _, _, hc⟩ := HV.out.at_ (by omega)
          obtain ⟨a, t, c', c0, _, _, _, _⟩ := hc j f hf
          have c1 : (w.alloc (.cells #[.int .i64 z, .slice (some ⟨b2, o2, none⟩) n c] 30)).cell? ⟨b2, o2 + j * 2, none⟩ = some (.int .i64 f.1) := cell_b HB.out c0
          have hbh := beh_op h0 hj hf
          obtain ⟨y0, y1⟩ := beh_bd HOk.out hbh
          obtain ⟨y, hy⟩ : ∃ y, f.1 = y := ⟨_, rfl⟩
          rw [hy] at c1 y0 y1 hbh
          have HY := Lib.hid hbh
          have hjn' : (j : Int) < (n : Int) := by omega
          clear hc c0 hf hy hbh
          by_cases hz : q + (y - 1) = 0
          · have HN : Hid (some (k + 1) = r) := by unfold Hid; rw [← HE.out, endN_last HXk.out HY.out hz]
            have he : (q - 1 + y == 0) = true := by rw [show q - 1 + y = 0 by omega]; rfl
            go_wp2_with fail
            go_quiet ((go_at_call 69; exact quiet_add_left (HC.out _)))
            go_wp2_with fail
            go_quiet (fail)
            go_wp2_with fail
            go_ret
            exact ⟨by rw [← HN.out]; rfl, (by first | exact below_drewN HB.out _ | exact below_drewN (below_drewN HB.out _) _)⟩
          · have HN : Hid (endN fs (xs.drop (k + 1)) (q - 1 + y) (k + 1) = r) := by unfold Hid; rw [← HE.out, endN_on HXk.out HY.out hz, show q - 1 + y = q + (y - 1) by omega]
            have he : (q - 1 + y == 0) = false := by rw [beq_eq_false_iff_ne]; omega
            go_wp2_with fail
            go_quiet ((go_at_call 69; exact quiet_add_left (HC.out _)))
            go_wp2_with fail
            go_quiet (fail)
            go_wp2_with fail
            go_roundw
            case rel => exact ⟨k + 1, _, q - 1 + y, by omega, by go_num, rfl, by omega, by omega, HN, rfl⟩
            case measure => simp [intOf]; omega
        · rw [inB_no (by omega)] at hcall
          have HC := Lib.hid hcall
          clear hcall
          have HN : Hid (none = r) := by unfold Hid; rw [← HE.out, endN_bad HXk.out (beh_noop h0 (by have := HV.out.1; omega))]
          go_wp2_with fail
          go_quiet ((go_at_call 69; exact quiet_add_left (HC.out _)))
          go_wp2_with fail
          go_ret
          exact ⟨by rw [← HN.out]; rfl, (by first | exact below_drewN HB.out _ | exact below_drewN (below_drewN HB.out _) _)⟩
      · by_cases h1 : x < 6
        · have HY := Lib.hid (beh_var (fs := fs) (by omega : 0 ≤ x) h1)
          by_cases hz : q + (0 - 1) = 0
          · have HN : Hid (some (k + 1) = r) := by unfold Hid; rw [← HE.out, endN_last HXk.out HY.out hz]
            have he : (q - 1 == 0) = true := by rw [show q - 1 = 0 by omega]; rfl
            go_wp2_with fail
            go_ret
            exact ⟨by rw [← HN.out]; rfl, (by first | exact below_drewN HB.out _ | exact below_drewN (below_drewN HB.out _) _)⟩
          · have HN : Hid (endN fs (xs.drop (k + 1)) (q - 1) (k + 1) = r) := by unfold Hid; rw [← HE.out, endN_on HXk.out HY.out hz, show q - 1 = q + (0 - 1) by omega]
            have he : (q - 1 == 0) = false := by rw [beq_eq_false_iff_ne]; omega
            go_wp2_with fail
            go_roundw
            case rel => exact ⟨k + 1, _, q - 1, by omega, by go_num, rfl, by omega, by omega, HN, rfl⟩
            case measure => simp [intOf]; omega
        · have HN : Hid (none = r) := by unfold Hid; rw [← HE.out, endN_bad HXk.out (beh_big (by omega))]
          go_wp2_with fail
          go_ret
          exact ⟨by rw [← HN.out]; rfl, (by first | exact below_drewN HB.out _ | exact below_drewN (below_drewN HB.out _) _)⟩
    · have HN : Hid (none = r) := by unfold Hid; rw [← HE.out, endN_stop (by have := HX.out.1; omega)]
      go_wp2
      go_ret
      exact ⟨by rw [← HN.out]; rfl, (by first | exact below_drewN HB.out _ | exact below_drewN (below_drewN HB.out _) _)⟩

end Go.Proofs.Ytplheohkecooeaa
