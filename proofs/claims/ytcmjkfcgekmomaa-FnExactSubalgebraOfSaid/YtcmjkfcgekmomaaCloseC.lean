/-
  Contract: spec.l5Close. Conditions: the bounds that it names.
-/
import Derived.Test.YtcmjkfcgekmomaaStepC
namespace Go.Proofs.Ytcmjkfcgekmomaa
open Go.RowKit
set_option linter.unusedVariables false
set_option linter.unusedSimpArgs false

theorem row_cap {w : World} {B g n c : Nat} {e : TypeId} {s : Nat} {xs : List Value} (h : w.ownsRow B e s (.slice (some ⟨g, 0, none⟩) n c) n xs) : n ≤ c ∧ c ≤ maxLen := by
  rcases h.2 with ⟨h1, _⟩ | ⟨_, _, _, h1, _, _, q1, q2, _⟩
  · cases h1
  · cases h1; exact ⟨q1, q2⟩

set_option maxHeartbeats 2000000 in
theorem l5Close_any (lo hi lo2 hi2 : Nat) (z : Int) (ao bo : Option Addr) (c n d m : Nat) (fs : List OpD) (xs : List Int) (w : World) (hv : OView w lo hi ao n fs) (hhi : hi ≤ w.heap.size) (hok : algOkB z fs = true)
    (hx : IView w lo2 hi2 bo m xs) (hhi2 : hi2 ≤ w.heap.size) (hm : m ≤ maxLen) (ha : allIn z xs = true) :
    Calls Try.prog 101 #[.agg #[.int .i64 z, .slice ao n c], .slice bo m d] w fun e w' => ListAt w w' (listK (closeN z fs (setN xs)) 8) e := by
  obtain ⟨h1, h2⟩ := (algOkB_of hok).1
  obtain ⟨zn, rfl⟩ : ∃ zn : Nat, z = (zn : Int) := ⟨z.toNat, by omega⟩
  have hz8 : zn ≤ 8 := by omega
  have hB := below_alloc w (.cells #[.int .i64 (zn : Int), .slice ao n c] 31)
  have HB := Lib.hid hB
  have HV := Lib.hid hv
  have hs : setN xs < 2 ^ zn := setN_lt ha (Int.le_refl _)
  have HLt := Lib.hid (fun k => stepK_lt (fs := fs) (n := zn) hok (Int.le_refl _) hs k)
  have HOk := Lib.hid hok
  have HIn := Lib.hid (l5In_any lo2 hi2 zn bo d m xs _ (hx.kept (Kept.of_below hB hhi2)) (Nat.le_trans hhi2 hB.size) hm ha hz8)
  have hcl : listK (closeN (zn : Int) fs (setN xs)) 8 = listK (stepK (zn : Int) fs (setN xs) (zn + 1)) zn := by
    have h_ := closeN_lt (n := zn) hok (Int.le_refl _) hs
    rw [listK_more h_ hz8]
    unfold closeN
    rw [Int.toNat_natCast]
  rw [hcl]
  have cz : (w.alloc (.cells #[.int .i64 (zn : Int), .slice ao n c] 31)).cell? ⟨w.heap.size, 0, none⟩ = some (.int .i64 (zn : Int)) := by simp
  have ca : (w.alloc (.cells #[.int .i64 (zn : Int), .slice ao n c] 31)).cell? ⟨w.heap.size, 1, none⟩ = some (.slice ao n c) := by simp
  obtain ⟨S, hS⟩ : ∃ S, setN xs = S := ⟨_, rfl⟩
  rw [hS] at HIn HLt ⊢
  clear hv hx hok hB ha hs hcl hS
  unfold ListAt
  go_enter Try.func101, Try.ntmps101
  go_wp2_with fail
  refine HIn.out.mono ?_
  rintro e w1 ⟨g, d1, rfl, ho, b1⟩
  have HB1 := Lib.hid (below_then HB.out b1)
  have cz1 := cell_b b1 cz
  have ca1 := cell_b b1 ca
  have HO1 : Hid (w1.ownsRow w.heap.size 4 1 (.slice (some ⟨g, 0, none⟩) zn d1) zn (boolsV (stepK (zn : Int) fs S 0) zn)) := ownsRow_base ho HB.out.size
  clear ho b1 cz ca
  go_wp2_with fail
  go_loopw [5, 6] (fun v i wr => ∃ (k g d1 : Nat), k ≤ zn + 1 ∧ i = .int .i64 (k : Int) ∧ v = .slice (some ⟨g, 0, none⟩) zn d1 ∧ wr.cell? ⟨w.heap.size, 0, none⟩ = some (.int .i64 (zn : Int)) ∧ wr.cell? ⟨w.heap.size, 1, none⟩ = some (.slice ao n c) ∧ Hid (wr.ownsRow w.heap.size 4 1 (.slice (some ⟨g, 0, none⟩) zn d1) zn (boolsV (stepK (zn : Int) fs S k) zn)) ∧ Hid (Below w.heap.size w wr)) (fun _ i _ => zn + 1 - (intOf i).toNat)
  case atStart => exact ⟨0, g, d1, Nat.zero_le _, rfl, rfl, cz1, ca1, HO1, HB1⟩
  case round =>
    obtain ⟨k, g, d1, hk, rfl, rfl, cz, ca, HR, HBr⟩ := hrel
    clear cz1 ca1 HO1
    obtain ⟨hc1, hc2⟩ := row_cap HR.out
    by_cases hlt : k < zn + 1
    · have HC := Lib.hid (l5Step_any lo hi zn ao c n fs wr.heap.size g d1 (stepK (zn : Int) fs S k) wr (HV.out.kept (Kept.of_below HBr.out hhi)) (Nat.le_trans hhi HBr.out.size) HOk.out (BoolsIn.of_row HR.out) (Nat.le_refl _) (HLt.out k) hc1 hc2)
      have hkz : (k : Int) ≤ (zn : Int) := by omega
      clear hc1 hc2
      go_wp2_with fail
      refine HC.out.mono ?_
      rintro e w2 ⟨g2, d2, rfl, ho2, b2⟩
      have HB2 := Lib.hid (HBr.out.trans (b2.mono HBr.out.size))
      have cz2 := cell_b b2 cz
      have ca2 := cell_b b2 ca
      have HO2 : Hid (w2.ownsRow w.heap.size 4 1 (.slice (some ⟨g2, 0, none⟩) zn d2) zn (boolsV (stepK (zn : Int) fs S (k + 1)) zn)) := ownsRow_base ho2 HBr.out.size
      clear ho2 b2 cz ca
      go_wp2_with fail
      go_roundw
      case rel => exact ⟨k + 1, g2, d2, by omega, by go_num, rfl, cz2, ca2, HO2, HB2⟩
      case measure => simp [intOf]; omega
    · obtain rfl : k = zn + 1 := by omega
      have HC := Lib.hid (l5List_any wr.heap.size g zn d1 (stepK (zn : Int) fs S (zn + 1)) wr (BoolsIn.of_row HR.out) hz8)
      have hkz : ¬ ((zn + 1 : Nat) : Int) ≤ (zn : Int) := by omega
      clear hc1 hc2
      go_wp2_with fail
      refine HC.out.mono ?_
      rintro e w2 ⟨a2, m2, d2, rfl, hm2, ho2, b2⟩
      have HB2 := Lib.hid (HBr.out.trans (b2.mono HBr.out.size))
      have HO2 := Lib.hid (ownsRow_base ho2 HBr.out.size)
      have HM2 := Lib.hid hm2
      clear ho2 b2 hm2
      go_wp2_with fail
      go_ret
      exact ⟨a2, m2, d2, rfl, HM2.out, HO2.out, HB2.out⟩

end Go.Proofs.Ytcmjkfcgekmomaa
