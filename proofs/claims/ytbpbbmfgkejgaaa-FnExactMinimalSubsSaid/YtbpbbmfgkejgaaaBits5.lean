/-
  Contract: spec.l5Bits. Conditions: the bounds that it names.
-/
import Derived.Test.YtbpbbmfgkejgaaaSetM
import Derived.Test.YtbpbbmfgkejgaaaPushN
import Derived.Laws.BitsAllLaws
import Derived.Laws.ShiftsVarLaws
import Derived.RangeFuncBox
namespace Go.Proofs.Ytbpbbmfgkejgaaa
open Go.RowKit
set_option linter.unusedVariables false
set_option linter.unusedSimpArgs false

theorem ofInt_s {s : Nat} (h : s < 2 ^ 8) : (BitVec.ofInt 64 (s : Int)).toNat = s := by
  rw [BitVec.ofInt_natCast, BitVec.toNat_ofNat]
  exact Nat.mod_eq_of_lt (Nat.lt_trans h (by decide))
theorem bits_and_i {s t : Nat} (hs : s < 2 ^ 8) (ht : t < 2 ^ 8) : bits .and .i64 (s : Int) (t : Int) = ((s &&& t : Nat) : Int) := by
  show IntKind.i64.wrap ((BitVec.ofInt 64 (s : Int) &&& BitVec.ofInt 64 (t : Int)).toNat : Int) = _
  rw [BitVec.toNat_and, ofInt_s hs, ofInt_s ht, IntKind.wrap_i64]
  have h1 : s &&& t < 2 ^ 8 := Nat.and_lt_two_pow _ ht
  have h2 : (2 : Nat) ^ 8 = 256 := by decide
  omega
theorem bit_i (s k : Nat) (hs : s < 2 ^ 8) : (bits .and .i64 ((s : Int) / 2 ^ k) 1 == 1) = s.testBit k := by
  have h1 : s / 2 ^ k < 2 ^ 8 := Nat.lt_of_le_of_lt (Nat.div_le_self _ _) hs
  have h2 : ((s : Int) / 2 ^ k) = ((s / 2 ^ k : Nat) : Int) := by simp
  have h3 := bits_and_i h1 (show 1 < 2 ^ 8 by decide)
  rw [h2, show (1 : Int) = ((1 : Nat) : Int) from rfl, h3, Nat.and_one_is_mod, Nat.testBit_eq_decide_div_mod_eq]
  by_cases h : s / 2 ^ k % 2 = 1
  · simp [h]
  · have : s / 2 ^ k % 2 = 0 := by omega
    simp [this]
theorem shr_pos {s k : Nat} (h : ¬ s < 2 ^ k) : (0 : Int) < (s : Int) / 2 ^ k := by
  have h2 : ((s : Int) / 2 ^ k) = ((s / 2 ^ k : Nat) : Int) := by simp
  have h3 : 0 < s / 2 ^ k := Nat.div_pos (by omega) (Nat.two_pow_pos k)
  rw [h2]; omega
theorem shr_zero {s k : Nat} (h : s < 2 ^ k) : ¬ (0 : Int) < (s : Int) / 2 ^ k := by
  have h2 : ((s : Int) / 2 ^ k) = ((s / 2 ^ k : Nat) : Int) := by simp
  rw [h2, Nat.div_eq_of_lt h]; omega

set_option maxRecDepth 100000 in
set_option maxHeartbeats 1000000 in
theorem l5Bits_any (s : Nat) (w : World) (hs : s < 2 ^ 8) :
    Calls Try.prog 54 #[.int .i64 (s : Int)] w fun e w' => ∃ g m d, e = .returned (.slice (some ⟨g, 0, none⟩) m d) ∧ m = (listK s 8).length ∧ w'.ownsRow w.heap.size 3 1 (.slice (some ⟨g, 0, none⟩) m d) m ((listK s 8).map (Value.int .i64)) ∧ Below w.heap.size w w' := by
  obtain ⟨i0, hi0, hz0, hz1, hz2⟩ := info_parts Try.infoInt
  have HO0 := Lib.hid (World.ownsRow_lit (base := w.heap.size) (e := 3) (size := 1) w #[] 0 (Nat.le_refl _) (by decide) rfl)
  have HB0 := Lib.hid (below_alloc w (.cells #[] 3))
  have HS := Lib.hid hs
  have HBit := Lib.hid (fun k => bit_i s k hs)
  clear hs
  go_enter Try.func54, Try.ntmps54
  go_wp2_with fail
  go_loopw [3, 4] (fun v i wr => ∃ k t g d : Nat, k ≤ 8 ∧ i = .int .i64 (k : Int) ∧ v = .slice (some ⟨g, 0, none⟩) t d ∧ t ≤ k ∧ Hid (t = (listK s k).length) ∧ Hid (wr.ownsRow w.heap.size 3 1 (.slice (some ⟨g, 0, none⟩) t d) t ((listK s k).map (Value.int .i64))) ∧ Hid (Below w.heap.size w wr)) (fun _ i _ => 8 - (intOf i).toNat)
  case atStart => exact ⟨0, 0, _, _, Nat.zero_le _, rfl, rfl, Nat.le_refl _, rfl, HO0, HB0⟩
  case round =>
    obtain ⟨k, t, g, d, hk, rfl, rfl, htk, HT, HR, HBr⟩ := hrel
    by_cases hlt : s < 2 ^ k
    · have h0 := shr_zero hlt
      have HM : Hid (listK s 8 = listK s k) := listK_more hlt hk
      clear hlt
      go_wp2_with fail
      go_ret
      exact ⟨g, t, d, rfl, by rw [HM.out]; exact HT.out, by rw [HM.out]; exact HR.out, HBr.out⟩
    · have hk8 : k < 8 := by
        rcases Nat.lt_or_ge k 8 with h | h
        · exact h
        · obtain rfl : k = 8 := by omega
          exact absurd HS.out hlt
      have h0 := shr_pos hlt
      have hbit := HBit.out k
      obtain ⟨u, hu⟩ : ∃ u, s.testBit k = u := ⟨_, rfl⟩
      rw [hu] at hbit
      have HU := Lib.hid hu
      clear hlt hu
      cases u with
      | false =>
        have HR2 : Hid (wr.ownsRow w.heap.size 3 1 (.slice (some ⟨g, 0, none⟩) t d) t ((listK s (k + 1)).map (Value.int .i64))) := by unfold Hid; rw [listK_no HU.out]; exact HR.out
        have HT2 : Hid (t = (listK s (k + 1)).length) := by unfold Hid; rw [listK_no HU.out]; exact HT.out
        go_wp2_with fail
        go_roundw
        case rel => exact ⟨k + 1, t, g, d, by omega, by go_num, rfl, by omega, HT2, HR2, HBr⟩
        case measure => simp [intOf]; omega
      | true =>
        go_wp2_with (at_builtin; refine wpList_append_own _ rfl _ _ 40 rfl w.heap.size 3 i0 (.int .i64 0) 1 8 Try.underlying40 hi0 hz0 hz1 hz2 rfl (by decide) (.slice (some ⟨g, 0, none⟩) t d) t ((listK s k).map (Value.int .i64)) rfl (HR.out.alloc _) ⟨wr.heap.size, 0, none⟩ 1 1 [.int .i64 (k : Int)] rfl rfl (cell_one_new _ _ _) (fun x hx => by simp at hx; subst hx; rfl) (by unfold maxLen; omega) (by omega) (by have h1_ := HBr.out.size; simp; omega) ?_; intro v' w7 hown' hgrow' hnil'; obtain ⟨g7, cap7, rfl⟩ := ownsRow_succ hown'; have HO7 := Lib.hid hown'; have HB7 := Lib.hid ((HBr.out.alloc HBr.out.size (.cells #[.int .i64 (k : Int)] 3)).grown hgrow' (by have h1_ := HBr.out.size; simp; omega) (fun q hq => (HR.out.lt q hq).1)); clear hown' hgrow' hnil')
        have HR2 : Hid (w7.ownsRow w.heap.size 3 1 (.slice (some ⟨g7, 0, none⟩) (t + 1) cap7) (t + 1) ((listK s (k + 1)).map (Value.int .i64))) := by
          unfold Hid
          rw [listK_yes HU.out, List.map_append]
          exact HO7.out
        have HT2 : Hid (t + 1 = (listK s (k + 1)).length) := by unfold Hid; rw [listK_yes HU.out, List.length_append, ← HT.out]; rfl
        go_roundw
        case rel => exact ⟨k + 1, t + 1, g7, cap7, by omega, by go_num, rfl, by omega, HT2, HR2, HB7⟩
        case measure => simp [intOf]; omega

end Go.Proofs.Ytbpbbmfgkejgaaa
