/-
  Contracts: impl.valuesWithin and impl.isClosed. Conditions: the bounds that each theorem names.
-/
import Derived.Test.YtcmjkfcgekmomaaSetQ
import Derived.Test.YtcmjkfcgekmomaaSetL
namespace Go.Proofs.Ytcmjkfcgekmomaa
open Go.RowKit
set_option linter.unusedVariables false
set_option linter.unusedSimpArgs false

set_option maxHeartbeats 2000000 in
theorem within_any (lo hi : Nat) (z : Int) (ao : Option Addr) (c n : Nat) (fs : List OpD) (s : Nat) (w : World) (hv : OView w lo hi ao n fs) (hhi : hi ≤ w.heap.size) (hok : algOkB z fs = true) (hs : s < 2 ^ 8) :
    Calls Try.prog 137 #[.agg #[.int .i64 z, .slice ao n c], .int .u64 (s : Int)] w fun e w' => e = .returned (.int .u64 (valO s z fs fs.length : Int)) ∧ Below w.heap.size w w' := by
  obtain ⟨⟨h1, h2⟩, hn4, hall⟩ := algOkB_of hok
  have HV := Lib.hid hv
  have HAll := Lib.hid hall
  have HS := Lib.hid hs
  have hl := hv.1
  rw [hl] at hn4
  have HB := Lib.hid (below_alloc w (.cells #[.int .i64 z, .slice ao n c] 31))
  have HLt := Lib.hid (fun j hj => valO_lt (s := s) (n := 8) hok h2 j hj)
  clear hv hok hs hall
  go_enter Try.func137, Try.ntmps137
  go_wp2
  go_loopw [5, 13] (fun p i wr => ∃ (k v : Nat), k ≤ n ∧ i = .int .i64 (k : Int) ∧ p = .int .u64 (v : Int) ∧ Hid (v = valO s z fs k) ∧ wr.cell? ⟨w.heap.size, 0, none⟩ = some (.int .i64 z) ∧ Hid (Below w.heap.size w wr)) (fun _ i _ => n - (intOf i).toNat)
  case atStart => exact ⟨0, 0, Nat.zero_le _, rfl, rfl, rfl, by simp, HB⟩
  case round =>
    obtain ⟨k, v, hk, rfl, rfl, HVal, cz, HBr⟩ := hrel
    by_cases hlt : k < n
    · obtain ⟨b, o, rfl, _, hbh, hc⟩ := HV.out.at_ (by omega)
      obtain ⟨f, hf⟩ := get_of_lt HV.out.1 hlt
      obtain ⟨a, m, c', c0, c1, hmc, hcm, hvt⟩ := hc k f hf
      have e0 : wr.cell? ⟨b, o + k * 2, none⟩ = some (.int .i64 f.1) := cell_b HBr.out c0
      have e1 : wr.cell? ⟨b, o + k * 2 + 1, none⟩ = some (.slice a m c') := cell_b HBr.out c1
      obtain ⟨hm5, hf1, hf3⟩ := place_bd h1 h2 (HAll.out f (List.mem_of_getElem? hf))
      obtain ⟨r, hr⟩ : ∃ r, f.1.toNat = r := ⟨_, rfl⟩
      rw [hr] at hf1 hf3
      rw [hf1] at e0
      have hml : f.2.length = m := hvt.1
      rw [hml] at hm5
      have HVt := Lib.hid (hvt.kept (Kept.of_below HBr.out hhi))
      have HF := Lib.hid hf
      have HR := Lib.hid hr
      have HML := Lib.hid hml
      have hkn : (k : Int) < (n : Int) := by omega
      clear hc hf c0 c1 hvt hr hf1 hml
      go_wp2
      have cz1 : (wr.alloc (.cells #[.int .i64 (r : Int), .slice a m c'] 66)).cell? ⟨w.heap.size, 0, none⟩ = some (.int .i64 z) := cell_b (below_alloc _ _) cz
      have cr1 : (wr.alloc (.cells #[.int .i64 (r : Int), .slice a m c'] 66)).cell? ⟨wr.heap.size, 0, none⟩ = some (.int .i64 (r : Int)) := by simp
      have HB1 := Lib.hid (HBr.out.alloc HBr.out.size (.cells #[.int .i64 (r : Int), .slice a m c'] 66))
      have HVt1 := Lib.hid (HVt.out.kept (Kept.of_below (below_alloc wr (.cells #[.int .i64 (r : Int), .slice a m c'] 66)) (Nat.le_trans hhi HBr.out.size)))
      obtain ⟨g, hg⟩ : ∃ g, g = wr.heap.size := ⟨_, rfl⟩
      rw [← hg] at cr1 ⊢
      obtain ⟨W1, hW1⟩ : ∃ W1, W1 = wr.alloc (.cells #[.int .i64 (r : Int), .slice a m c'] 66) := ⟨_, rfl⟩
      rw [← hW1] at cz1 cr1 HB1 HVt1 ⊢
      clear hW1 hg e0 e1 cz HVt
      go_loop [5, 20] (fun p i => ∃ (j u : Nat), j ≤ m ∧ i = .int .i64 (j : Int) ∧ p = .int .u64 (u : Int) ∧ Hid (u = valO s z fs k ||| valT s z f j) ∧ Hid (u < 2 ^ 8)) (fun _ i => m - (intOf i).toNat)
      case atStart => exact ⟨0, v, Nat.zero_le _, rfl, rfl, by unfold Hid; rw [HVal.out]; simp [valT], by unfold Hid; rw [HVal.out]; exact HLt.out k (by omega)⟩
      case round =>
        obtain ⟨j, u, hj, rfl, rfl, HU, HULt⟩ := hrel
        by_cases hjm : j < m
        · obtain ⟨bt, ot, rfl, _, _, hct⟩ := HVt1.out.at_ (by omega)
          obtain ⟨x, hx⟩ := get_of_lt HVt1.out.1 hjm
          have hcell := hct j x hx
          obtain ⟨x0, x1⟩ := allIn_get (opOkB_of (HAll.out f (List.mem_of_getElem? HF.out))).2.2 hx
          have HX := Lib.hid hx
          have HC := fun w => hasArgs_any s z r (j : Int) w HS.out h1 h2 hf3 (by omega) (by omega)
          obtain ⟨t, ht⟩ : ∃ t, hasA s z r (j : Int) = t := ⟨_, rfl⟩
          simp only [ht] at HC
          have HC := Lib.hid HC
          have HT : Hid (hasA s z f.1.toNat (j : Int) = t) := by unfold Hid; rw [HR.out, ht]
          have hjm' : (j : Int) < (m : Int) := by omega
          clear hct hx ht
          cases t with
          | true =>
            go_wp2_with fail
            refine (HC.out _).mono ?_
            rintro e w' ⟨rfl, rfl⟩
            go_wp2_with fail
            go_round
            case rel => exact ⟨j + 1, u ||| 2 ^ x.toNat, by omega, by go_num, by rw [put_set HULt.out x0 (by omega)], by unfold Hid; rw [valT_yes HT.out HX.out, ← Nat.or_assoc, HU.out], or_lt HULt.out (pow_lt_of (by omega))⟩
            case measure => simp [intOf]; omega
          | false =>
            go_wp2_with fail
            refine (HC.out _).mono ?_
            rintro e w' ⟨rfl, rfl⟩
            go_wp2_with fail
            go_round
            case rel => exact ⟨j + 1, u, by omega, by go_num, rfl, by unfold Hid; rw [valT_no HT.out, HU.out], HULt⟩
            case measure => simp [intOf]; omega
        · have hjm' : ¬ (j : Int) < (m : Int) := by omega
          have HUe : Hid (u = valO s z fs (k + 1)) := by
            unfold Hid; rw [valO_succ HF.out, HU.out, HML.out, show j = m by omega]
          go_wp2_with fail
          go_roundw
          case rel => exact ⟨k + 1, u, by omega, by go_num, rfl, HUe, cz1, HB1⟩
          case measure => simp [intOf]; omega
    · go_wp2
      go_ret
      exact ⟨ret_set (by rw [HVal.out, show k = fs.length by omega]), HBr.out⟩

end Go.Proofs.Ytcmjkfcgekmomaa
