/-
  Contracts: spec.l2Perm and impl.hasEachOnce: whether a list of names has each element once. Conditions: the bounds that each theorem names.
-/
import Derived.Test.YtcmjkfcgekmomaaElems
import Derived.Test.YtcmjkfcgekmomaaPerM
import Derived.Test.YtcmjkfcgekmomaaStep
namespace Go.Proofs.Ytcmjkfcgekmomaa
open Go.RowKit
set_option linter.unusedVariables false
set_option linter.unusedSimpArgs false

theorem Try.infoBool : (Try.prog.info? 4).map (fun i => (i.zero, i.size, i.bytes)) = some (some (.bool false), 1, 1) := by kernel_rfl
/-- What has been seen. -/
def seenL (xs : List Int) (n : Nat) : List Bool := (List.range n).map fun (v : Nat) => decide ((v : Int) ∈ xs)
theorem seenL_get {xs : List Int} {n v : Nat} (h : v < n) : (seenL xs n)[v]? = some (decide ((v : Int) ∈ xs)) := by simp [seenL, h]
theorem seenL_nil (n : Nat) : seenL [] n = List.replicate n false := by
  apply List.ext_getElem?
  intro j
  by_cases h : j < n
  · rw [seenL_get h, List.getElem?_replicate, if_pos h]; simp
  · rw [List.getElem?_eq_none (by simp [seenL]; omega), List.getElem?_eq_none (by simp; omega)]
theorem seenL_set {xs : List Int} {n v : Nat} (h : v < n) : ((seenL xs n).map Value.bool).set v (.bool true) = (seenL (xs ++ [(v : Int)]) n).map Value.bool := by
  apply List.ext_getElem?
  intro j
  rw [List.getElem?_set]
  by_cases hj : j < n
  · rw [List.getElem?_map, List.getElem?_map, seenL_get hj, seenL_get hj]
    by_cases hv : v = j
    · subst hv; simp [seenL, h]
    · rw [if_neg hv]
      have : ¬ (j : Int) = (v : Int) := by omega
      simp [this]
  · have h1 : ((seenL xs n).map Value.bool)[j]? = none := List.getElem?_eq_none (by simp [seenL]; omega)
    have h2 : ((seenL (xs ++ [(v : Int)]) n).map Value.bool)[j]? = none := List.getElem?_eq_none (by simp [seenL]; omega)
    rw [h1, h2]
    by_cases hv : v = j
    · omega
    · rw [if_neg hv]
theorem permB_len {z : Int} {xs : List Int} (h : ¬ (xs.length : Int) = z) : permB z xs = false := by simp [permB, h]
theorem permB_in {z : Int} {xs : List Int} (h : allIn z xs = false) : permB z xs = false := by simp [permB, h]
theorem permB_yes {z : Int} {xs : List Int} (hl : (xs.length : Int) = z) (h : allIn z xs = true) (hn : xs.Nodup) : permB z xs = true := by simp [permB, hl, h, hn]
theorem permB_no {z : Int} {xs : List Int} {k : Nat} {x : Int} (hx : xs[k]? = some x) (hm : x ∈ xs.take k) : permB z xs = false := by
  have : ¬ xs.Nodup := by
    intro hn
    rw [← List.take_append_drop k xs] at hn
    obtain ⟨hk, rfl⟩ := List.getElem?_eq_some_iff.1 hx
    have hd : xs[k] ∈ xs.drop k := by rw [List.drop_eq_getElem_cons hk]; exact List.mem_cons_self ..
    exact (List.nodup_append.1 hn).2.2 _ hm _ hd rfl
  simp [permB, this]
theorem nodup_snoc {xs : List Int} {k : Nat} {x : Int} (hx : xs[k]? = some x) (hn : (xs.take k).Nodup) (hm : ¬ x ∈ xs.take k) : (xs.take (k + 1)).Nodup := by
  rw [List.take_add_one, hx, Option.toList_some, List.nodup_append]
  exact ⟨hn, by simp, fun a ha b hb => by simp at hb; subst hb; exact fun e => hm (e ▸ ha)⟩



end Go.Proofs.Ytcmjkfcgekmomaa
