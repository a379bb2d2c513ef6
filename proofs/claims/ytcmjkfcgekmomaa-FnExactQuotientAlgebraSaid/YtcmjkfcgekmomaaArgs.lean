/-
  What an argument that reads as data is: an algebra, a list of integers. No condition.
-/
import Derived.Test.YtcmjkfcgekmomaaAlg
import Derived.Lib.SmallJoins
import Derived.Deep.SlicePairs
import Derived.ProofKit
import Derived.OpenShut
namespace Go.Proofs.Ytcmjkfcgekmomaa
open Go.ChangeShapes Go.WideShapes Go.ChangeAt Go.RowKit Go.Joins

theorem own : ownKnob Try.prog.godebug = none := by kernel_rfl
theorem laidOut : laidOutB Try.prog = true := by kernel_rfl
theorem readAlg : Try.prog.readableRec 24 = true := by kernel_rfl
theorem readInt : Try.prog.readableRec 3 = true := by kernel_rfl
theorem readInts : Try.prog.readableRec 25 = true := by kernel_rfl
theorem rowAlg : 24 < Try.prog.types.size := of_decide_eq_true (by kernel_rfl)
theorem rowInt : 3 < Try.prog.types.size := of_decide_eq_true (by kernel_rfl)
theorem rowInts : 25 < Try.prog.types.size := of_decide_eq_true (by kernel_rfl)

theorem plain_addr {w : World} {a : Addr} {v : Value} (h : w.cell? (a.add 0) = some v) : ∃ b o, a = ⟨b, o, none⟩ ∧ b < w.heap.size := by
  obtain ⟨b, o, sp⟩ := a
  have hs := World.cell?_spot h
  have hl := World.block_lt_of_cell? w _ h
  simp [Addr.add] at hs hl
  subst hs
  exact ⟨b, o, rfl, hl⟩

section
variable {H : Type} {enc : TypeId × Value → H} {W : World} {base : Nat}

theorem ints_view {fuel : Nat} {cs : List Value} {x : DataW H × List MemPlace} (h : DataW.trod enc Try.prog W 0 (fun _ => true) true fuel 25 cs = some x) :
    ∃ a m c xs, cs = [.slice a m c] ∧ m ≤ c ∧ c ≤ maxLen ∧ IView W 0 W.heap.size a m xs := by
  rcases open_ints Try.underlying25 Try.underlying3 (by kernel_rfl) h with ⟨hcs, _⟩ | ⟨a, len, cap, zs, hcs, _, hl, hm, hz, _, hcell, _⟩
  · exact ⟨_, _, _, [], hcs, Nat.le_refl _, Nat.zero_le _, rfl, .inl rfl⟩
  · simp only [if_true] at hz
    refine ⟨_, _, _, zs.take len, hcs, hl, hm, by simp; omega, ?_⟩
    rcases Nat.eq_zero_or_pos len with h0 | h0
    · exact .inl h0
    · obtain ⟨b, o, rfl, hb⟩ := plain_addr (hcell 0 (by omega))
      refine .inr ⟨b, o, rfl, Nat.zero_le _, hb, fun j x hx => ?_⟩
      have hj : j < len := by have := (List.getElem?_eq_some_iff.1 hx).1; simp at this; omega
      have h3 := hcell j (by omega)
      rw [add_plain] at h3
      rw [h3]
      rw [List.getElem?_take, if_pos hj] at hx
      rw [List.getD_eq_getElem?_getD, hx]
      rfl

set_option maxRecDepth 100000 in
theorem arg_ints {v : Value} {d : DataW H} {p : List MemPlace} (hv : Value.okWide Try.prog W .any base 25 v) (h : DataW.Trod enc Try.prog W 0 (fun _ => true) true 25 v d p) :
    ∃ ao n c xs, v = .slice ao n c ∧ n ≤ c ∧ c ≤ maxLen ∧ IView W 0 W.heap.size ao n xs := by
  obtain ⟨ao, n, c, rfl⟩ := okWide_slice Try.underlying25 hv
  obtain ⟨fuel, hf⟩ := h
  obtain ⟨a, m, c', xs, hcs, h1, h2, h3⟩ := ints_view hf
  simp [Value.cells] at hcs
  obtain ⟨rfl, rfl, rfl⟩ := hcs
  exact ⟨_, _, _, xs, rfl, h1, h2, h3⟩

set_option maxRecDepth 100000 in
theorem arg_alg {v : Value} {d : DataW H} {p : List MemPlace} (hv : Value.okWide Try.prog W .any base 24 v) (h : DataW.Trod enc Try.prog W 0 (fun _ => true) true 24 v d p) :
    ∃ z ao n c, ∃ fs : List OpD, v = .agg #[.int .i64 z, .slice ao n c] ∧ (Lit.int .i64 z).wf = true ∧ n ≤ maxLen ∧ (∀ (j : Nat) (f : OpD), fs[j]? = some f → f.2.length ≤ maxLen) ∧ OView W 0 W.heap.size ao n fs := by
  obtain ⟨v0, v1, y0, y1, k, rfl, _, _, h0, h1⟩ := open_agg2 Try.underlying24 (by kernel_rfl) (by kernel_rfl) hv h
  obtain ⟨z, hz, _, hwz⟩ := DataW.trod_int Try.underlying3 h0
  obtain rfl : v0 = .int .i64 z := by simpa using hz
  rcases Go.Deep.open_slice_pairs Try.underlying22 Try.underlying90 (by kernel_rfl) (by kernel_rfl) (by kernel_rfl) (by kernel_rfl) (by kernel_rfl) h1 with ⟨hcs, _⟩ | ⟨a, len, cap, m, k', V0, V1, D0, D1, P0, P1, hcs, _, hl, hm, hmm, _, hx⟩
  · obtain rfl : v1 = .slice none 0 0 := by simpa using hcs
    exact ⟨z, _, _, _, [], rfl, hwz, Nat.zero_le _, (fun j f h => by simp at h), rfl, .inl rfl⟩
  · obtain rfl : v1 = .slice (some a) len cap := by simpa using hcs
    simp only [if_true] at hmm
    subst hmm
    have each : ∀ i, i < len → ∃ f : OpD, f.2.length ≤ maxLen ∧ ∃ a' m' c', W.cell? (a.add (i * 2)) = some (.int .i64 f.1) ∧ W.cell? (a.add (i * 2 + 1)) = some (.slice a' m' c') ∧ m' ≤ c' ∧ c' ≤ maxLen ∧ IView W 0 W.heap.size a' m' f.2 := by
      intro i hi
      obtain ⟨c0, c1, t0, t1⟩ := hx i (by omega)
      obtain ⟨r, hr, _, _⟩ := DataW.trod_int Try.underlying3 t0
      obtain ⟨a', m', c', xs, hcs', h4, h5, h6⟩ := ints_view t1
      refine ⟨(r, xs), by show xs.length ≤ maxLen; have := h6.1; omega, a', m', c', ?_, ?_, h4, h5, h6⟩
      · rw [c0]; simpa using hr
      · rw [c1]; simpa using hcs'
    obtain ⟨F, hF⟩ := Go.Deep.choose_lt (α := OpD) each
    refine ⟨z, _, _, _, (List.range len).map F, rfl, hwz, by omega, fun j f hf => ?_, by simp, ?_⟩
    · have hj : j < len := by have := (List.getElem?_eq_some_iff.1 hf).1; simpa using this
      have : F j = f := by rw [List.getElem?_map, List.getElem?_range hj] at hf; simpa using hf
      subst this
      exact (hF j hj).1
    · rcases Nat.eq_zero_or_pos len with h0 | h0
      · exact .inl h0
      · obtain ⟨_, a0, m0, c0, q0, _⟩ := hF 0 h0
        rw [Nat.zero_mul] at q0
        obtain ⟨b, o, rfl, hb⟩ := plain_addr q0
        refine .inr ⟨b, o, rfl, Nat.zero_le _, hb, fun j f hf => ?_⟩
        have hj : j < len := by have := (List.getElem?_eq_some_iff.1 hf).1; simpa using this
        have : F j = f := by rw [List.getElem?_map, List.getElem?_range hj] at hf; simpa using hf
        subst this
        obtain ⟨_, a', m', c', e0, e1, r1, r2, r3⟩ := hF j hj
        rw [add_plain] at e0 e1
        exact ⟨a', m', c', e0, by rw [Nat.add_assoc]; exact e1, r1, r2, r3⟩
end
end Go.Proofs.Ytcmjkfcgekmomaa
