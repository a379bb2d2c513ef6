/-
  A function that ranges over functions in a loop leaves with a mark for each of them. Over whatever program. No condition of its own.
-/
import Derived.RangeFuncWrites
import Derived.RangeFuncLeaves
namespace Go.Proofs.Ytcmjkfcgekmomaa
open Go.RowKit
set_option linter.unusedVariables false
variable {F : Fence} {n : Nat} {P : Program}

/-- The marks of ranges that have ended: their blocks lie from n0 on, each once. -/
def Marks (n0 : Nat) (W : World) : List Deferred → Prop
  | [] => True
  | d :: ds => (∃ D, d = { target := .collected D, args := #[] } ∧ n0 ≤ D ∧ W.heap[D]? = some (.deferred (some [])) ∧ ∀ d' ∈ ds, d'.target ≠ .collected D) ∧ Marks n0 W ds
theorem Marks.same {n0 : Nat} {W W' : World} : ∀ {ds : List Deferred}, Marks n0 W ds → (∀ D, n0 ≤ D → (∃ d ∈ ds, d.target = .collected D) → W.heap[D]? = some (.deferred (some [])) → W'.heap[D]? = some (.deferred (some []))) → Marks n0 W' ds
  | [], _, _ => trivial
  | d :: ds, ⟨⟨D, e, h1, h2, h3⟩, h4⟩, hk => ⟨⟨D, e, h1, hk D h1 ⟨d, List.mem_cons_self, by rw [e]⟩ h2, h3⟩, h4.same fun D' k1 k2 k3 => hk D' k1 (by obtain ⟨d', m, t⟩ := k2; exact ⟨d', List.mem_cons_of_mem _ m, t⟩) k3⟩
theorem Marks.lt {n0 : Nat} {W : World} {D : Nat} : ∀ {ds : List Deferred}, Marks n0 W ds → (∃ d ∈ ds, d.target = .collected D) → D < W.heap.size
  | [], _, ⟨_, m, _⟩ => by cases m
  | d :: ds, ⟨⟨D', e, h1, h2, h3⟩, h4⟩, ⟨d', m, t⟩ => by
    rcases List.mem_cons.1 m with rfl | m
    · rw [e] at t
      injection t with t
      subst t
      exact (Array.getElem?_eq_some_iff.1 h2).1
    · exact h4.lt ⟨d', m, t⟩
theorem Marks.kept {n0 R : Nat} {W W' : World} {ds : List Deferred} (h : Marks n0 W ds) (hk : ∀ j, j < W.heap.size → j ≠ R → W'.heap[j]? = W.heap[j]?) (hR : ∀ o, W.heap[R]? = some o → o.isCells = true) : Marks n0 W' ds :=
  h.same fun D _ hm hd => by
    have hl := h.lt hm
    refine (hk D hl ?_).trans hd
    intro e
    subst e
    have := hR _ hd
    cases this
theorem Marks.push {n0 D : Nat} {W0 W : World} {ds : List Deferred} (h : Marks n0 W ds) (h0 : Marks n0 W0 ds) (hD : W0.heap.size ≤ D) (hn : n0 ≤ D) (hd : W.heap[D]? = some (.deferred (some []))) : Marks n0 W ({ target := .collected D, args := #[] } :: ds) :=
  ⟨⟨D, rfl, hn, hd, fun d' m t => by have := h0.lt ⟨d', m, t⟩; omega⟩, h⟩

theorem leaves_marks {fn : Func} {tmps : Array Value} {R : Ending → World → Prop} {n0 : Nat} : ∀ {ds : List Deferred} {W : World}, Marks n0 W ds → n0 ≤ W.heap.size →
    (∀ W', Below n0 W W' → (∀ (j : Nat) (o : Obj), W.heap[j]? = some o → o.isCells = true → W'.heap[j]? = some o) → LeavesInM F n P fn tmps R [] .returning W') → LeavesInM F n P fn tmps R ds .returning W
  | [], W, _, _, h => h W (Below.refl _ _) fun _ _ e _ => e
  | d :: ds, W, ⟨⟨D, e, h1, h2, h3⟩, h4⟩, hn, h => by
    subst e
    refine ⟨by simp, .inl ⟨D, _, rfl, run_takeDeferred h2, ?_⟩⟩
    have hlt := (Array.getElem?_eq_some_iff.1 h2).1
    have hb : Below n0 W (W.putObj D (.deferred none)) := (Below.refl n0 W).grown (grownBy_putObj' W D _) (by omega) (fun k e => by cases e; omega)
    refine leaves_marks (h4.same fun D' _ hm hd => ?_) (by simp [World.putObj]; omega) fun W' hW' hc => h W' (hb.trans hW') fun j o ho hoc => hc j o ?_ hoc
    · rw [World.putObj_heap_other]
      · exact hd
      · intro e
        subst e
        obtain ⟨d', m, t⟩ := hm
        exact h3 d' m t
    · rw [World.putObj_heap_other]
      · exact ho
      · intro e
        subst e
        rw [h2] at ho
        injection ho with ho
        subst ho
        cases hoc

end Go.Proofs.Ytcmjkfcgekmomaa
