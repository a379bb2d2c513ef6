/-
  Proved: for every list of strings and every separator the law FnExactJoinStrings returns true (JoinStrings answers as its model and changes no argument) and both arguments read as before. The only condition: an argument longer than the form's reach is not spoken of.
-/
import Derived.Test.YtoljoifldlpinaaRows
import Derived.Test.YtoljoifldlpinaaLawJoin
import Derived.ProofKit
import Derived.OpenShut
import Derived.ShutString
import Derived.SizedLaws
namespace Go.Proofs.Ytoljoifldlpinaa.fnExactJoinStrings
open Go.ChangeShapes Go.WideShapes Go.ChangeAt Go.RowKit
open Go.ChangeMaps (open_string shut_string)

theorem own : ownKnob Try.prog.godebug = none := by kernel_rfl
theorem laidOut : laidOutB Try.prog = true := by kernel_rfl
theorem cellsStr : Try.prog.cellsOf 9 = 1 := by kernel_rfl

set_option maxRecDepth 100000 in
theorem lifted (os : Os) (started : os.Started) (H : Type) (enc : TypeId × Value → H) :
    ReturnsInHanded {} Try.checked os 5 .any (Rows.fnExactJoinStringsSpec.pre6 enc Try.prog Try.f5 Rows.fnExactJoinStringsRow.domain false) (Rows.fnExactJoinStringsSpec.post enc Try.prog Try.f5 false true false false) := by
  refine returnsInHanded_of_change (C := Try.checked) own started (by kernel_rfl) Try.func5
    (ChangeSpec.witness6 (enc := enc) (C := Try.checked) false ⟨#[], #[.slice none 0 0, .string ByteArray.empty], []⟩ 8 (by kernel_rfl) (by kernel_rfl) (by kernel_rfl) (by kernel_rfl)) ?_
  intro W base args ds gs before hval0 hW hcnd _
  have hval : ∀ (j : Nat) t v, Try.f5.params[j]? = some t → args[j]? = some v → Value.okWide Try.prog W .any base t v := hval0
  have hW' := hW
  obtain ⟨p, q, hA0, hV, rfl, hfz, hnd⟩ := hW
  have hA : DataW.TrodAll enc Try.prog W 0 (fun _ => true) true Try.f5.params.toList args.toList ds p := hA0
  rw [Try.params5] at hA hval
  obtain ⟨v0, v1, d0, d1, p0, p1, rfl, rfl, rfl, h0, h1⟩ := trodAll_two hA
  obtain ⟨rfl, rfl⟩ := trodVars_none hV
  obtain ⟨a1, rfl, rfl, rfl, w1⟩ := open_string Try.underlying9 (hval 1 9 v1 rfl rfl) h1
  obtain ⟨a0, len, cap, rfl⟩ := okWide_slice Try.underlying26 (hval 0 26 v0 rfl rfl)
  have h0k := h0
  obtain ⟨fuel, hf⟩ := h0
  clear hA0 hval0
  simp only [List.append_nil] at hW'
  have hlt : ∀ x ∈ p0, x.block < W.heap.size := fun x hx => by simpa using hW'.lt x hx
  have fin : ∀ W', Below W.heap.size W W' → Rows.fnExactJoinStringsSpec.post enc Try.prog Try.f5 false true false false W #[.slice a0 len cap, .string a1] (.bool true) W' := by
    intro W' hnx
    have hargs := trodAll_mk2 (Below.trod laidOut (by kernel_rfl) (of_decide_eq_true (by kernel_rfl)) h0k hnx hlt) (shut_string (enc := enc) (P := Try.prog) Try.underlying9 w1)
    simp only [List.append_nil] at hargs
    exact ⟨_, _, _, [], p0, [], hW', trodAll_mk1 (shut_bool Try.underlying4 _), hargs, rfl, hnx.frame _, fun h => by cases h⟩
  have go : ∀ xs : List ByteArray, View W a0 len xs → len ≤ maxLen → (∀ (j : Nat) (x : ByteArray), xs[j]? = some x → x.size ≤ maxLen) →
      Calls Try.checked.prog 5 #[.slice a0 len cap, .string a1] W fun e W' => ∃ v, e = Ending.returned v ∧ Rows.fnExactJoinStringsSpec.post enc Try.checked.prog Try.f5 false true false false W #[.slice a0 len cap, .string a1] v W' := by
    intro xs hv hl hs
    refine (lawJoin a0 cap len xs a1 W hv hl hs w1).mono fun e W' ⟨he, hb⟩ => ?_
    subst he
    exact ⟨_, rfl, fin W' hb⟩
  rcases open_strings Try.underlying26 Try.underlying9 cellsStr hf with ⟨hcs, hx⟩ | ⟨a, len', cap', ss, hcs, _, hl, hm, hz, hx, hcell, hws⟩
  · simp [Value.cells] at hcs
    obtain ⟨rfl, rfl, rfl⟩ := hcs
    exact go [] ⟨rfl, .inl rfl⟩ (Nat.zero_le _) (fun j x h => by simp at h)
  · simp [Value.cells] at hcs
    obtain ⟨rfl, rfl, rfl⟩ := hcs
    simp only [if_true] at hz
    simp only [Prod.mk.injEq] at hx
    refine go (ss.take len) ?_ (by omega) (fun j x h => ?_)
    · refine ⟨by simp; omega, ?_⟩
      by_cases hl0 : len = 0
      · exact .inl hl0
      · obtain ⟨b, off, spot⟩ := a
        have hspot : spot = none := by simpa [Addr.add] using World.cell?_spot (hcell 0 (by omega))
        subst hspot
        refine .inr ⟨b, off, rfl, ?_, fun j x h => ?_⟩
        · rw [hx.2] at hlt
          exact hlt (.cell b off) (MemPlace.mem_row.2 ⟨0, by omega, by simp⟩)
        · have hj : j < len := by have := (List.getElem?_eq_some_iff.1 h).1; simp at this; omega
          have h3 := hcell j (by omega)
          rw [add_plain] at h3
          rw [h3]
          rw [List.getElem?_take, if_pos hj] at h
          rw [List.getD_eq_getElem?_getD, h]
          rfl
    · have hj : j < len := by have := (List.getElem?_eq_some_iff.1 h).1; simp at this; omega
      rw [List.getElem?_take, if_pos hj] at h
      exact hws x (List.mem_of_getElem? h)

theorem over : Rows.fnExactJoinStringsRow.holds Try.pinned (OpenSpec.ofChange Rows.fnExactJoinStringsSpec) :=
  OpenClaim.holds_of_wide 5 Try.f5 rfl rfl rfl rfl rfl rfl rfl ⟨rfl, rfl, rfl, rfl, rfl⟩ rfl rfl rfl rfl rfl (by kernel_rfl) Try.func5 (by kernel_rfl)
    (of_decide_eq_true (by kernel_rfl)) (by unfold Func.isWrapper; first | (rw [if_pos (by decide +kernel)]; kernel_rfl) | (rw [if_neg (by decide +kernel)]; exact ⟨rfl, rfl⟩))
    (fun os started H enc _ => lifted os started H enc)

/-- The given statement. -/
theorem proved : Rows.FnExactJoinStringsSaid :=
  over
#print axioms proved
end Go.Proofs.Ytoljoifldlpinaa.fnExactJoinStrings
