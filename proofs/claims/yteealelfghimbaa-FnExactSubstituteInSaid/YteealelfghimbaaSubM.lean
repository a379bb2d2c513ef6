/-
  Plain mathematics: terms put for the variables of a term. No condition.
-/
import Derived.Test.YteealelfghimbaaLists
import Derived.Test.YteealelfghimbaaEvalI
namespace Go.Proofs.Yteealelfghimbaa
open Go.RowKit
set_option linter.unusedVariables false
set_option linter.unusedSimpArgs false

/-- What stands in the place of a number. -/
def partS (tss : List (List Int)) (x : Int) : List Int := if x < 0 then [x] else tss.getD x.toNat []
def flatS (tss : List (List Int)) (xs : List Int) : List Int := xs.flatMap (partS tss)
theorem flatS_succ {tss : List (List Int)} {xs : List Int} {k : Nat} {x : Int} (h : xs[k]? = some x) : flatS tss (xs.take (k + 1)) = flatS tss (xs.take k) ++ partS tss x := by
  unfold flatS
  rw [List.take_add_one, h, List.flatMap_append]
  simp
theorem flatS_len_le {tss : List (List Int)} {xs : List Int} (k : Nat) : (flatS tss (xs.take k)).length ≤ (flatS tss xs).length := by
  unfold flatS
  have h := List.flatMap_append (xs := xs.take k) (ys := xs.drop k) (f := partS tss)
  rw [List.take_append_drop] at h
  rw [h, List.length_append]
  omega
theorem flatS_all {tss : List (List Int)} {xs : List Int} {k : Nat} (h : xs.length ≤ k) : flatS tss (xs.take k) = flatS tss xs := by rw [List.take_of_length_le h]
theorem partS_op {tss : List (List Int)} {x : Int} (h : x < 0) : partS tss x = [x] := if_pos h
theorem partS_var {tss : List (List Int)} {v : Nat} {ts : List Int} (h : tss[v]? = some ts) : partS tss (v : Int) = ts := by
  unfold partS
  rw [if_neg (by omega), Int.toNat_natCast, List.getD_eq_getElem?_getD, h]; rfl
/-- All parts, if they are not too long together. -/
def subR (tss : List (List Int)) (xs : List Int) : List Int × Bool := if (flatS tss xs).length ≤ 60 then (flatS tss xs, true) else ([], false)
def subB (z : Int) (fs : List OpD) (xs : List Int) (tss : List (List Int)) : Bool := (isTermB z fs xs && (decide (tss.length ≤ 6) && tss.all (termB fs))) && fitsB xs tss.length
def valSubstituteIn (z : Int) (fs : List OpD) (xs : List Int) (tss : List (List Int)) : List Int × Bool := if subB z fs xs tss then subR tss xs else ([], false)
theorem subR_len (tss : List (List Int)) (xs : List Int) : (subR tss xs).1.length ≤ 60 := by
  unfold subR
  split
  · assumption
  · simp
theorem smallSubstituteIn (z : Int) (fs : List OpD) (xs : List Int) (tss : List (List Int)) : (valSubstituteIn z fs xs tss).1.length ≤ 4194304 := by
  unfold valSubstituteIn
  split
  · have := subR_len tss xs; omega
  · simp
theorem term_len {fs : List OpD} {ts : List Int} (h : termB fs ts = true) : 0 < ts.length ∧ ts.length ≤ 60 := by
  unfold termB at h
  simp only [Bool.and_eq_true, decide_eq_true_eq, beq_iff_eq] at h
  exact ⟨term_pos h.2, h.1⟩

/-- Room that is filled from its front. -/
def roomS (n : Nat) (ys : List Int) : List Int := ys ++ List.replicate (n - ys.length) 0
theorem roomS_len {n : Nat} {ys : List Int} (h : ys.length ≤ n) : (roomS n ys).length = n := by unfold roomS; simp; omega
theorem roomS_put {n : Nat} {ys zs : List Int} (h : ys.length + zs.length ≤ n) : (roomS n ys).take ys.length ++ (zs ++ (roomS n ys).drop (ys.length + zs.length)) = roomS n (ys ++ zs) := by
  unfold roomS
  rw [List.take_left', List.drop_append, List.drop_of_length_le (by omega), List.nil_append, List.drop_replicate, List.append_assoc]
  · congr 2
    congr 1
    simp; omega
  · rfl
theorem roomS_take {n : Nat} {ys : List Int} : (roomS n ys).take ys.length = ys := by unfold roomS; rw [List.take_left']; rfl

end Go.Proofs.Yteealelfghimbaa
