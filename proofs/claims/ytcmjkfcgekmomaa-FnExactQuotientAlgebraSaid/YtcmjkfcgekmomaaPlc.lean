/-
  Contracts: slices.Index and spec.l5Place: the place of an element in a list. Conditions: the bounds that each theorem names.
-/
import Derived.Test.YtcmjkfcgekmomaaPlM
import Derived.Test.YtcmjkfcgekmomaaShelf
namespace Go.Proofs.Ytcmjkfcgekmomaa
open Go.RowKit
set_option linter.unusedVariables false
set_option linter.unusedSimpArgs false

theorem idxBy_ix (x : Int) : ∀ (l : List Int) (i : Nat), Lib.idxByFrom (fun x y : Int => x == y) x l i = if x ∈ l then ((i + ixP l x : Nat) : Int) else -1
  | [], i => by simp [Lib.idxByFrom]
  | y :: r, i => by
    rw [Lib.idxByFrom, ixP]
    by_cases h : x = y
    · simp [h]
    · have h2 : (x == y) = false := by rw [beq_eq_false_iff_ne]; exact h
      have h3 : ¬ y = x := fun e => h e.symm
      rw [h2, idxBy_ix x r (i + 1)]
      by_cases hm : x ∈ r
      · have hm2 : x ∈ y :: r := List.mem_cons_of_mem _ hm
        simp only [Bool.false_eq_true, if_false, if_pos hm, if_pos hm2, if_neg h3]
        omega
      · have hm2 : x ∉ y :: r := by rw [List.mem_cons]; rintro (e | e); exact h e; exact hm e
        simp only [Bool.false_eq_true, if_false, if_neg hm, if_neg hm2]
theorem place_impl (lo hi b o t vc : Nat) (l : List Int) (x : Int) (W : World) (h : IView W lo hi (some ⟨b, o, none⟩) t l) (h0 : 0 < t) (ht : t ≤ 1048576) :
    Calls Try.prog 63 #[.slice (some ⟨b, o, none⟩) t vc, .int .i64 x] W fun e w' => e = .returned (.int .i64 (plI l x)) ∧ w' = W := by
  have hl := h.1
  obtain ⟨b', o', he, _, _, hc⟩ := h.at_ h0
  cases he
  refine (Try.slices_Index (Value.int .i64) (fun x y => x == y) (EqlAt.int Try.prog 3 .i64) b o t vc l x W (by omega) (by omega) (fun j hj => by
    have hj' : j < l.length := hj
    rw [hc j _ (List.getElem?_eq_getElem hj'), getElem!_pos l j hj'])).mono fun e w' ⟨he, hw⟩ => ⟨?_, hw⟩
  rw [he, List.take_of_length_le (by omega), Lib.idxBy, idxBy_ix, plI]
  simp

set_option maxHeartbeats 400000 in
theorem place_spec (lo hi t vc : Nat) (ao : Option Addr) (l : List Int) (x : Int) (W : World) (h : IView W lo hi ao t l) (ht : t ≤ 1048576) :
    Calls Try.prog 104 #[.slice ao t vc, .int .i64 x] W fun e w' => e = .returned (.int .i64 (plI l x)) ∧ w' = W := by
  have HX := Lib.hid h
  obtain ⟨u, hu⟩ : ∃ u, plI l x = u := ⟨_, rfl⟩
  have HU := Lib.hid hu
  rw [hu]
  clear h hu
  go_enter Try.func104, Try.ntmps104
  go_wp2
  go_loop [5] (fun i => ∃ k : Nat, k ≤ t ∧ i = .int .i64 (k : Int) ∧ Hid (¬ x ∈ l.take k)) (fun i => t - (intOf i).toNat)
  case atStart => exact ⟨0, Nat.zero_le _, rfl, by unfold Hid; simp⟩
  case round =>
    obtain ⟨k, hk, rfl, HN⟩ := hrel
    by_cases hlt : k < t
    · obtain ⟨b, o, rfl, _, _, hc⟩ := HX.out.at_ (by omega)
      obtain ⟨y, hy⟩ := get_of_lt HX.out.1 hlt
      have hcell := hc k y hy
      have hlt' : (k : Int) < (t : Int) := by omega
      by_cases hyx : y = x
      · subst hyx
        have HE : Hid (u = (k : Int)) := by unfold Hid; rw [← HU.out]; exact plI_hit hy HN.out
        clear hc hy
        go_wp2
        go_ret
        exact ⟨ret_int (by rw [HE.out]), rfl⟩
      · have HN2 : Hid (¬ x ∈ l.take (k + 1)) := by
          unfold Hid
          rw [List.take_add_one, hy, Option.toList_some, List.mem_append, List.mem_singleton]
          rintro (h_ | h_)
          · exact HN.out h_
          · exact hyx h_.symm
        clear hc hy
        go_wp2
        go_round
        case rel => exact ⟨k + 1, by omega, by go_num, HN2⟩
        case measure => simp [intOf]; omega
    · have hlt' : ¬ (k : Int) < (t : Int) := by omega
      have HE : Hid (u = -1) := by
        unfold Hid
        rw [← HU.out]
        have h_ := HN.out
        rw [List.take_of_length_le (by have := HX.out.1; omega)] at h_
        exact plI_no h_
      go_wp2
      go_ret
      exact ⟨ret_int (by rw [HE.out]), rfl⟩

end Go.Proofs.Ytcmjkfcgekmomaa
