/-
  What an argument that reads as a list of lists of machine integers is. No condition.
-/
import Derived.Test.YtfdolbpbddjhmaaArgsW
import Derived.Test.YtfdolbpbddjhmaaLView
import Derived.Deep.Slices
namespace Go.Proofs.Ytfdolbpbddjhmaa
open Go.ChangeShapes Go.WideShapes Go.ChangeAt Go.RowKit Go.Joins
section
variable {H : Type} {enc : TypeId × Value → H} {W : World} {base : Nat}

theorem readLL : Try.prog.readableRec 46 = true := by kernel_rfl
theorem rowLL : 46 < Try.prog.types.size := of_decide_eq_true (by kernel_rfl)

set_option maxRecDepth 100000 in
theorem term_view {fuel : Nat} {cs : List Value} {x : DataW H × List MemPlace} (h : DataW.trod enc Try.prog W 0 (fun _ => true) true fuel 37 cs = some x) :
    ∃ a m c xs, cs = [.slice a m c] ∧ m ≤ c ∧ c ≤ maxLen ∧ IView W 0 W.heap.size a m xs ∧ (∀ x, x ∈ xs → (Lit.int .i64 x).wf = true) := by
  rcases open_ints Try.underlying37 Try.underlying3 (by kernel_rfl) h with ⟨hcs, _⟩ | ⟨a, len, cap, zs, hcs, _, hl, hm, hz, _, hcell, hw⟩
  · exact ⟨_, _, _, [], hcs, Nat.le_refl _, Nat.zero_le _, ⟨rfl, .inl rfl⟩, fun x hx => by simp at hx⟩
  · simp only [if_true] at hz
    refine ⟨_, _, _, zs.take len, hcs, hl, hm, ⟨by simp; omega, ?_⟩, fun x hx => hw x (List.mem_of_mem_take hx)⟩
    rcases Nat.eq_zero_or_pos len with h0 | h0
    · exact .inl h0
    · obtain ⟨b, o, rfl, hb⟩ := plain_addr (hcell 0 (by omega))
      refine .inr ⟨b, o, rfl, Nat.zero_le _, hb, fun j x hx => ?_⟩
      have hj : j < len := by have := (List.getElem?_eq_some_iff.1 hx).1; simp at this; omega
      have h3 := hcell j (by omega)
      rw [add_plain] at h3
      rw [h3]
      rw [List.getElem?_take, if_pos hj] at hx
      rw [List.getD_eq_getElem?_getD, hx]
      rfl

set_option maxRecDepth 100000 in
theorem arg_ll {v : Value} {d : DataW H} {p : List MemPlace} (hv : Value.okWide Try.prog W .any base 46 v) (h : DataW.Trod enc Try.prog W 0 (fun _ => true) true 46 v d p) :
    ∃ ao n c ls, v = .slice ao n c ∧ n ≤ c ∧ c ≤ maxLen ∧ LView W 0 W.heap.size ao n ls ∧ (∀ xs, xs ∈ ls → ∀ x, x ∈ xs → (Lit.int .i64 x).wf = true) := by
  obtain ⟨ao, n, c, rfl⟩ := okWide_slice Try.underlying46 hv
  obtain ⟨fuel, hf⟩ := h
  rcases Go.Deep.open_slice1 Try.underlying46 (by kernel_rfl) hf with ⟨hcs, _⟩ | ⟨a, len, cap, m, k', V, D, P, hcs, _, hl, hm, hmm, _, hx⟩
  · simp [Value.cells] at hcs
    obtain ⟨rfl, rfl, rfl⟩ := hcs
    exact ⟨_, _, _, [], rfl, Nat.le_refl _, Nat.zero_le _, ⟨rfl, .inl rfl⟩, fun x hx => by simp at hx⟩
  · simp only [if_true] at hmm
    subst hmm
    simp [Value.cells] at hcs
    obtain ⟨rfl, rfl, rfl⟩ := hcs
    have each : ∀ i, i < n → ∃ xs : List Int, (∀ x, x ∈ xs → (Lit.int .i64 x).wf = true) ∧ ∃ a' m' c', W.cell? (a.add i) = some (.slice a' m' c') ∧ m' ≤ c' ∧ c' ≤ maxLen ∧ IView W 0 W.heap.size a' m' xs := by
      intro i hi
      obtain ⟨c0, t0⟩ := hx i (by omega)
      obtain ⟨a', m', c', xs, hcs', h4, h5, h6, h7⟩ := term_view t0
      refine ⟨xs, h7, a', m', c', ?_, h4, h5, h6⟩
      rw [c0]; simpa using hcs'
    obtain ⟨F, hF⟩ := Go.Deep.choose_lt (α := List Int) each
    refine ⟨_, _, _, (List.range n).map F, rfl, hl, hm, ⟨by simp, ?_⟩, fun xs hxs => ?_⟩
    · rcases Nat.eq_zero_or_pos n with h0 | h0
      · exact .inl h0
      · obtain ⟨_, a0, m0, c0, q0, _⟩ := hF 0 h0
        obtain ⟨b, o, rfl, hb⟩ := plain_addr q0
        refine .inr ⟨b, o, rfl, Nat.zero_le _, hb, fun j f hf => ?_⟩
        have hj : j < n := by have := (List.getElem?_eq_some_iff.1 hf).1; simpa using this
        have : F j = f := by rw [List.getElem?_map, List.getElem?_range hj] at hf; simpa using hf
        subst this
        obtain ⟨_, a', m', c', e0, r1, r2, r3⟩ := hF j hj
        rw [add_plain] at e0
        exact ⟨a', m', c', e0, r1, r2, r3⟩
    · obtain ⟨j, hj, rfl⟩ := List.mem_map.1 hxs
      exact (hF j (List.mem_range.1 hj)).1
end
end Go.Proofs.Ytfdolbpbddjhmaa
