/-
  What an argument that reads as a list of machine integers is. No condition.
-/
import Derived.Test.YtfdolbpbddjhmaaArgs
namespace Go.Proofs.Ytfdolbpbddjhmaa
open Go.ChangeShapes Go.WideShapes Go.ChangeAt Go.RowKit Go.Joins
section
variable {H : Type} {enc : TypeId × Value → H} {W : World} {base : Nat}

set_option maxRecDepth 100000 in
theorem arg_term {v : Value} {d : DataW H} {p : List MemPlace} (hv : Value.okWide Try.prog W .any base 37 v) (h : DataW.Trod enc Try.prog W 0 (fun _ => true) true 37 v d p) :
    ∃ ao n c xs, v = .slice ao n c ∧ n ≤ c ∧ c ≤ maxLen ∧ IView W 0 W.heap.size ao n xs ∧ (∀ x, x ∈ xs → (Lit.int .i64 x).wf = true) := by
  obtain ⟨ao, n, c, rfl⟩ := okWide_slice Try.underlying37 hv
  obtain ⟨fuel, hf⟩ := h
  rcases open_ints Try.underlying37 Try.underlying3 (by kernel_rfl) hf with ⟨hcs, _⟩ | ⟨a, len, cap, zs, hcs, _, hl, hm, hz, _, hcell, hw⟩
  · simp [Value.cells] at hcs
    obtain ⟨rfl, rfl, rfl⟩ := hcs
    exact ⟨_, _, _, [], rfl, Nat.le_refl _, Nat.zero_le _, ⟨rfl, .inl rfl⟩, fun x hx => by simp at hx⟩
  · simp only [if_true] at hz
    simp [Value.cells] at hcs
    obtain ⟨rfl, rfl, rfl⟩ := hcs
    refine ⟨_, _, _, zs.take n, rfl, hl, hm, ⟨by simp; omega, ?_⟩, fun x hx => hw x (List.mem_of_mem_take hx)⟩
    rcases Nat.eq_zero_or_pos n with h0 | h0
    · exact .inl h0
    · obtain ⟨b, o, rfl, hb⟩ := plain_addr (hcell 0 (by omega))
      refine .inr ⟨b, o, rfl, Nat.zero_le _, hb, fun j x hx => ?_⟩
      have hj : j < n := by have := (List.getElem?_eq_some_iff.1 hx).1; simp at this; omega
      have h3 := hcell j (by omega)
      rw [add_plain] at h3
      rw [h3]
      rw [List.getElem?_take, if_pos hj] at hx
      rw [List.getD_eq_getElem?_getD, hx]
      rfl
end
end Go.Proofs.Ytfdolbpbddjhmaa
