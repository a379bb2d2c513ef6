/-
  Rows of slices in memory of the call's own, each of which reads as a list of integers; append to such a row at a step of a region that draws its order. Conditions: the bounds that each theorem names.
-/
import Derived.Test.YtbpbbmfgkejgaaaMarkA
import Derived.Test.YtbpbbmfgkejgaaaStep
import Derived.Test.YtbpbbmfgkejgaaaLView
import Derived.Test.YtbpbbmfgkejgaaaLL
import Derived.Deep.AppendLies
namespace Go.Proofs.Ytbpbbmfgkejgaaa
open Go.RowKit
set_option linter.unusedVariables false
set_option linter.unusedSimpArgs false

def InnerAt (w : World) (B : Nat) (v : Value) (xs : List Int) : Prop := ∃ a m c, v = .slice a m c ∧ m ≤ c ∧ c ≤ maxLen ∧ IView w B w.heap.size a m xs
def InnL (w : World) (B : Nat) (vs : List Value) (ls : List (List Int)) : Prop := vs.length = ls.length ∧ ∀ (j : Nat) (v : Value) (xs : List Int), vs[j]? = some v → ls[j]? = some xs → InnerAt w B v xs
theorem InnL.nil (w : World) (B : Nat) : InnL w B [] [] := ⟨rfl, fun j v xs h _ => by simp at h⟩
theorem InnL.one {w : World} {B : Nat} {v : Value} {xs : List Int} (h : InnerAt w B v xs) : InnL w B [v] [xs] := by
  refine ⟨rfl, fun j v' xs' h1 h2 => ?_⟩
  match j, h1, h2 with
  | 0, h1, h2 => simp at h1 h2; subst h1; subst h2; exact h
theorem InnL.append {w : World} {B : Nat} {vs us : List Value} {ls ks : List (List Int)} (h : InnL w B vs ls) (h2 : InnL w B us ks) : InnL w B (vs ++ us) (ls ++ ks) := by
  refine ⟨by rw [List.length_append, List.length_append, h.1, h2.1], fun j v xs hv hx => ?_⟩
  by_cases hj : j < vs.length
  · rw [List.getElem?_append_left hj] at hv
    rw [List.getElem?_append_left (by rw [← h.1]; exact hj)] at hx
    exact h.2 j v xs hv hx
  · rw [List.getElem?_append_right (by omega)] at hv
    rw [List.getElem?_append_right (by rw [← h.1]; omega), ← h.1] at hx
    exact h2.2 _ v xs hv hx
theorem InnL.take {w : World} {B : Nat} {vs : List Value} {ls : List (List Int)} (h : InnL w B vs ls) (k : Nat) : InnL w B (vs.take k) (ls.take k) := by
  refine ⟨by rw [List.length_take, List.length_take, h.1], fun j v xs hv hx => ?_⟩
  by_cases hj : j < k
  · rw [List.getElem?_take_of_lt hj] at hv hx
    exact h.2 j v xs hv hx
  · rw [List.getElem?_take_eq_none (by omega)] at hv
    cases hv
theorem InnL.drop {w : World} {B : Nat} {vs : List Value} {ls : List (List Int)} (h : InnL w B vs ls) (k : Nat) : InnL w B (vs.drop k) (ls.drop k) := by
  refine ⟨by rw [List.length_drop, List.length_drop, h.1], fun j v xs hv hx => ?_⟩
  rw [List.getElem?_drop] at hv hx
  exact h.2 _ v xs hv hx
theorem InnerAt.below {w w' : World} {B : Nat} {v : Value} {xs : List Int} (h : InnerAt w B v xs) (hb : Below w.heap.size w w') : InnerAt w' B v xs := by
  obtain ⟨a, m, c, h1, h2, h3, h4⟩ := h
  exact ⟨a, m, c, h1, h2, h3, (h4.kept (Kept.of_below hb (Nat.le_refl _))).mono (Nat.le_refl _) hb.size⟩
theorem InnL.below {w w' : World} {B : Nat} {vs : List Value} {ls : List (List Int)} (h : InnL w B vs ls) (hb : Below w.heap.size w w') : InnL w' B vs ls := ⟨h.1, fun j v xs hv hx => (h.2 j v xs hv hx).below hb⟩
theorem InnL.flat {w : World} {B : Nat} {vs : List Value} {ls : List (List Int)} (h : InnL w B vs ls) : ∀ u ∈ vs, u.oneCell' = true := by
  intro u hu
  obtain ⟨j, hj, hv⟩ := List.getElem_of_mem hu
  have hjl : j < ls.length := by rw [← h.1]; exact hj
  obtain ⟨a, m, c, rfl, _⟩ := h.2 j u (ls[j]'hjl) (by rw [List.getElem?_eq_getElem hj, hv]) (List.getElem?_eq_getElem hjl)
  rfl
theorem InnL.at_ {w : World} {B : Nat} {vs : List Value} {ls : List (List Int)} (h : InnL w B vs ls) {j : Nat} (hj : j < ls.length) : ∃ a m c xs, vs[j]? = some (.slice a m c) ∧ ls[j]? = some xs ∧ m ≤ c ∧ c ≤ maxLen ∧ IView w B w.heap.size a m xs := by
  have hj2 : j < vs.length := by rw [h.1]; exact hj
  obtain ⟨a, m, c, e, h2, h3, h4⟩ := h.2 j (vs[j]'hj2) (ls[j]'hj) (List.getElem?_eq_getElem hj2) (List.getElem?_eq_getElem hj)
  exact ⟨a, m, c, _, by rw [← e]; exact List.getElem?_eq_getElem hj2, List.getElem?_eq_getElem hj, h2, h3, h4⟩
theorem row_LView {w : World} {B g n c : Nat} {vs : List Value} {ls : List (List Int)} (h : w.ownsRow B 40 1 (.slice (some ⟨g, 0, none⟩) n c) n vs) (hI : InnL w B vs ls) : LView w B w.heap.size (some ⟨g, 0, none⟩) n ls := by
  have hl : vs.length = n := by have := h.1; simpa using this
  have hlt := h.lt g rfl
  refine ⟨by rw [← hI.1, hl], .inr ⟨g, 0, rfl, hlt.1, hlt.2, fun j xs hx => ?_⟩⟩
  have hj : j < ls.length := (List.getElem?_eq_some_iff.1 hx).1
  obtain ⟨a, m, c', xs', h1, h2, h3, h4, h5⟩ := hI.at_ hj
  rw [hx] at h2
  cases h2
  exact ⟨a, m, c', by rw [Nat.zero_add, h.cellAt j (by have := hI.1; omega)]; exact h1, h3, h4, h5⟩
theorem own_nilL (W : World) {base : Nat} (h : base ≤ W.heap.size) : (W.alloc (.cells #[] 40)).ownsRow base 40 1 (.slice (some ⟨W.heap.size, 0, none⟩) 0 0) 0 [] :=
  World.ownsRow_lit (base := base) (e := 40) (size := 1) W #[] 0 h (by decide) rfl
theorem cell_new0 (W : World) (v : Value) (T : TypeId) : (W.alloc (.cells #[v] T)).cell? ⟨W.heap.size, 0, none⟩ = some v := by simp
theorem one_atV {W : World} {b : Nat} {v : Value} (h : W.cell? ⟨b, 0, none⟩ = some v) : ∀ j u, [v][j]? = some u → W.cell? ((⟨b, 0, none⟩ : Addr).add j) = some u := by
  intro j u hj
  match j, hj with
  | 0, hj => simp at hj; subst hj; simpa [Addr.add] using h
theorem take_atV {W : World} {B g n c k : Nat} {vs : List Value} (h : W.ownsRow B 40 1 (.slice (some ⟨g, 0, none⟩) n c) n vs) : ∀ j u, (vs.take k)[j]? = some u → W.cell? ((⟨g, 0, none⟩ : Addr).add j) = some u := by
  intro j u hj
  have hl : vs.length = n := by have := h.1; simpa using this
  by_cases hjk : j < k
  · rw [List.getElem?_take_of_lt hjk] at hj
    rw [WideShapes.add_plain, Nat.zero_add, h.cellAt j (by have := (List.getElem?_eq_some_iff.1 hj).1; omega)]
    exact hj
  · rw [List.getElem?_take_eq_none (by omega)] at hj
    cases hj
theorem drop_atV {W : World} {B g n c k : Nat} {vs : List Value} (h : W.ownsRow B 40 1 (.slice (some ⟨g, 0, none⟩) n c) n vs) {q : Addr} (hq : k < n → q = ⟨g, k, none⟩) : ∀ j u, (vs.drop k)[j]? = some u → W.cell? (q.add j) = some u := by
  intro j u hj
  have hl : vs.length = n := by have := h.1; simpa using this
  rw [List.getElem?_drop] at hj
  have hlt : k + j < n := by rw [← hl]; exact (List.getElem?_eq_some_iff.1 hj).1
  rw [hq (by omega), WideShapes.add_plain, h.cellAt (k + j) (by omega)]
  exact hj

theorem step_append_lists {w : World} {ops : Array Oper} {o : Oper} {a : Act} {K : Act → World → Prop} {Q : Exit → Act → World → Prop} {E : Prop} (hgd : o.guard = none) (s x : Operand)
    (ho : o.op = .call { callee := .builtin .append, args := #[s, x], argTypes := #[26, 26] })
    (base n : Nat) {g0 c0 : Nat} (vs : List Value) (hs : a.eval s = .slice (some ⟨g0, 0, none⟩) n c0) (hown : w.ownsRow base 40 1 (.slice (some ⟨g0, 0, none⟩) n c0) n vs)
    (ad : Addr) (m : Nat) {c : Nat} (us : List Value) (hx : a.eval x = .slice (some ad) m c) (hl : us.length = m) (hcell : ∀ j u, us[j]? = some u → w.cell? (ad.add j) = some u) (h1 : ∀ u ∈ us, u.oneCell' = true)
    (t : Nat) (ht : n + m = t) (hb : t ≤ 1099511627776) (hbase : base ≤ w.heap.size)
    (h : ∀ g cap w', w'.ownsRow base 40 1 (.slice (some ⟨g, 0, none⟩) t cap) t (vs ++ us) → w.grownBy w' (some g0) → K (a.put o.dst (.slice (some ⟨g, 0, none⟩) t cap)) w') :
    if Region.wanted o (yielded ops a.tmps) = true then Oper.wp Try.prog o a w K Q else E := by
  have hw : Region.wanted o (yielded ops a.tmps) = true := by simp [Region.wanted, hgd]
  rw [if_pos hw]
  subst ht
  obtain ⟨i0, hi0, hz0, hz1, hz2⟩ := info_parts Try.infoInts
  obtain ⟨v', w', hr, h2, h3, h4, h5⟩ := run_append_own_at (P := Try.prog) w base 26 o.type 40 i0 (.slice none 0 0) 1 24 Try.underlying26 hi0 hz0 hz1 hz2 rfl (by decide) _ n _ hown ad m c us (by rw [hl]; omega) hcell h1 (by unfold maxLen; omega) (by omega) hbase
  obtain ⟨g, cap, rfl⟩ : ∃ g cap, v' = .slice (some ⟨g, 0, none⟩) (n + m) cap := by
    rcases h2.2 with ⟨h6, _⟩ | ⟨g, cap, _, h6, _⟩
    · exact absurd (h4.1 h6).1 (fun e => by cases e)
    · exact ⟨g, cap, h6⟩
  unfold Oper.wp execOp
  simp only [ho, resolve, invoke, builtin, Sem.run_bind, Sem.run_pure, Result.andThen_ok, List.map_toArray, List.map_cons, List.map_nil, hs, hx, hr]
  exact h g cap w' h2 (by simpa [Value.ownBlock] using h3)

end Go.Proofs.Ytbpbbmfgkejgaaa
