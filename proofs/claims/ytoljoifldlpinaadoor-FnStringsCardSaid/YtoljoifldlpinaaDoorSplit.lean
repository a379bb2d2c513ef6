/-
  Contract: spec.l1Split returns the parts of the string between the bytes, in new memory. Condition: the string has at most 2^20 bytes.
-/
import Derived.Test.YtoljoifldlpinaaDoorView
import Derived.Test.YtoljoifldlpinaaDoorSplitPlain
import Derived.Maps.AppendAt
import Derived.RangeFuncBox
namespace Go.Proofs.YtoljoifldlpinaaDoor
open Go.RowKit

theorem Tryd.infoStr2 : (Tryd.prog.info? 9).map (fun i => (i.zero, i.size, i.bytes)) = some (some (.string ByteArray.empty), 1, 16) := by kernel_rfl

/-- The slice holds the parts, in memory of the call's own. -/
def HoldsParts (w w' : World) (xs : List ByteArray) (e : Ending) : Prop :=
  ∃ g cap, e = .returned (.slice (some ⟨g, 0, none⟩) xs.length cap) ∧ w'.ownsRow w.heap.size 9 1 (.slice (some ⟨g, 0, none⟩) xs.length cap) xs.length (xs.map Value.string) ∧ Below w.heap.size w w'

theorem ret_slice {a : Option Addr} {n m c : Nat} (h : n = m) : Ending.returned (.slice a n c) = .returned (.slice a m c) := by rw [h]

set_option maxHeartbeats 1000000 in
theorem split_any (s : ByteArray) (c : UInt8) (w : World) (hs : s.size ≤ 1048576) :
    Calls Tryd.prog 36 #[.string s, .int .u8 (c.toNat : Int)] w fun e w' => HoldsParts w w' (parts s c) e := by
  obtain ⟨i0, hi, hz0, hz1, hz2⟩ := info_parts Tryd.infoStr2
  go_enter Tryd.func36, Tryd.ntmps36
  go_wp2
  go_loopw [5, 6, 7] (fun v fr i wr => ∃ (k f : Nat) (o : List ByteArray), k ≤ s.size ∧ i = .int .i64 k ∧ fr = .int .i64 f ∧ f ≤ k ∧ o.length ≤ k ∧ Hid (cutAt s c k = (f, o)) ∧ Hid (wr.ownsRow w.heap.size 9 1 v o.length (o.map Value.string)) ∧ Hid (Below w.heap.size w wr))
    (fun _ _ i _ => s.size - (intOf i).toNat)
  case atStart => exact ⟨0, 0, [], Nat.zero_le _, rfl, rfl, Nat.le_refl _, Nat.le_refl _, rfl, World.ownsRow_lit w #[] 0 (Nat.le_refl _) (by decide) rfl, (Below.refl _ _).alloc (Nat.le_refl _) _⟩
  case round =>
    obtain ⟨k, f, o, hk, rfl, rfl, hfk, hok, HC, HR, HB⟩ := hrel
    by_cases hlt : k < s.size
    · by_cases he : s[k] = c
      · have he2 : ((s[k].toNat : Int) == (c.toNat : Int)) = true := by rw [he]; simp
        have HX : Hid (cutAt s c (k + 1) = (k + 1, o ++ [s.extract f k])) := by
          have h := cutAt_hit hlt he
          rw [HC.out] at h
          exact h
        clear he
        go_wp2_with (at_builtin; refine wpList_append_own _ rfl _ _ 44 rfl w.heap.size 9 i0 (.string ByteArray.empty) 1 16 Tryd.underlying44 hi hz0 hz1 hz2 rfl (by decide) _ _ _ rfl (HR.out.alloc _) ⟨wr.heap.size, 0, none⟩ 1 1 [.string (s.extract f k)] rfl rfl (cell_one_new _ _ _) (fun x hx => by simp at hx; subst hx; rfl) (by unfold maxLen; omega) (by omega) (by have := HB.out.size; simp; omega) ?_; intro v' w3 hown' hgrow3 hnil3)
        have HB3 := Lib.hid ((HB.out.alloc HB.out.size _).grown hgrow3 (by have := HB.out.size; simp; omega) (fun q hq => (HR.out.lt q hq).1))
        have HR3 : Hid (w3.ownsRow w.heap.size 9 1 v' (o ++ [s.extract f k]).length ((o ++ [s.extract f k]).map Value.string)) := by
          rw [List.length_append, List.map_append]
          exact hown'
        clear hown' hgrow3 hnil3
        go_wp2
        go_roundw
        case rel => exact ⟨k + 1, k + 1, o ++ [s.extract f k], by omega, by go_num, by go_num, Nat.le_refl _, by simp; omega, HX, HR3, HB3⟩
        case measure => simp [intOf]; omega
      · have he2 : ((s[k].toNat : Int) == (c.toNat : Int)) = false := by
          rw [beq_eq_false_iff_ne]
          intro h
          exact he (UInt8.toNat_inj.1 (by omega))
        have HX : Hid (cutAt s c (k + 1) = (f, o)) := by
          have h := cutAt_miss hlt he
          rw [HC.out] at h
          exact h
        clear he
        go_wp2
        go_roundw
        case rel => exact ⟨k + 1, f, o, by omega, by go_num, rfl, by omega, by omega, HX, HR, HB⟩
        case measure => simp [intOf]; omega
    · go_wp2_with (at_builtin; refine wpList_append_own _ rfl _ _ 44 rfl w.heap.size 9 i0 (.string ByteArray.empty) 1 16 Tryd.underlying44 hi hz0 hz1 hz2 rfl (by decide) _ _ _ rfl (HR.out.alloc _) ⟨wr.heap.size, 0, none⟩ 1 1 [.string (s.extract f s.size)] rfl rfl (cell_one_new _ _ _) (fun x hx => by simp at hx; subst hx; rfl) (by unfold maxLen; omega) (by omega) (by have := HB.out.size; simp; omega) ?_; intro v' w3 hown' hgrow3 hnil3)
      have HB3 := Lib.hid ((HB.out.alloc HB.out.size _).grown hgrow3 (by have := HB.out.size; simp; omega) (fun q hq => (HR.out.lt q hq).1))
      have hp : parts s c = o ++ [s.extract f s.size] := by
        unfold parts
        have h := HC.out
        obtain rfl : k = s.size := by omega
        rw [h]
      obtain ⟨g, cap, rfl⟩ := ownsRow_succ hown'
      have HR3 : Hid (w3.ownsRow w.heap.size 9 1 (.slice (some ⟨g, 0, none⟩) (o.length + 1) cap) (o ++ [s.extract f s.size]).length ((o ++ [s.extract f s.size]).map Value.string)) := by
        rw [List.length_append, List.map_append]
        exact hown'
      have HP := Lib.hid hp
      clear hown' hgrow3 hnil3 hp
      go_wp2
      go_ret
      have hl : o.length + 1 = (parts s c).length := by rw [HP.out]; simp
      refine ⟨g, cap, ret_slice hl, ?_, HB3.out⟩
      rw [← hl]
      have h := HR3.out
      rw [← HP.out, ← hl] at h
      exact h

end Go.Proofs.YtoljoifldlpinaaDoor
