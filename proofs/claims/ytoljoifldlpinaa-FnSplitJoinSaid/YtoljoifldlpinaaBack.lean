/-
  Plain mathematics: the parts of a string, joined with the byte that cut it, give the string back; no part holds the byte. Condition of the last two: the string has at most 4000 bytes.
-/
import Derived.Test.YtoljoifldlpinaaSplitPlain
import Derived.Test.YtoljoifldlpinaaJoin
namespace Go.Proofs.Ytoljoifldlpinaa
open Go

theorem joinTail_append (sep : List UInt8) (a b : List (List UInt8)) : Lib.joinTail sep (a ++ b) = Lib.joinTail sep a ++ Lib.joinTail sep b := by
  unfold Lib.joinTail; rw [List.map_append, List.flatten_append]
theorem join_snoc (sep : List UInt8) (a : List (List UInt8)) (y : List UInt8) : Lib.join (a ++ [y]) sep = (match a with | [] => y | _ :: _ => Lib.join a sep ++ sep ++ y) := by
  cases a with
  | nil => exact Lib.join_one y sep
  | cons x r =>
    show Lib.join (x :: (r ++ [y])) sep = Lib.join (x :: r) sep ++ sep ++ y
    rw [Lib.join_cons, Lib.join_cons, joinTail_append]
    simp [Lib.joinTail, List.append_assoc]
theorem join_grow (sep : List UInt8) (a : List (List UInt8)) (y z : List UInt8) : Lib.join (a ++ [y ++ z]) sep = Lib.join (a ++ [y]) sep ++ z := by
  rw [join_snoc, join_snoc]
  cases a <;> simp [List.append_assoc]
theorem join_open (sep : List UInt8) (a : List (List UInt8)) (y : List UInt8) : Lib.join (a ++ [y] ++ [[]]) sep = Lib.join (a ++ [y]) sep ++ sep := by
  rw [join_snoc]
  cases a <;> simp
theorem lists_snoc (o : List ByteArray) (x : ByteArray) : lists (o ++ [x]) = lists o ++ [x.data.toList] := by simp [lists]
theorem extract_same (s : ByteArray) (k : Nat) : (s.extract k k).data.toList = [] := by rw [Lib.extract_data]; simp
theorem extract_more (s : ByteArray) (f k : Nat) (hf : f ≤ k) (hk : k < s.size) : (s.extract f (k + 1)).data.toList = (s.extract f k).data.toList ++ [s[k]] := by
  rw [Lib.extract_data, Lib.extract_data, show k + 1 - f = (k - f) + 1 by omega, List.take_add_one, List.getElem?_drop, show f + (k - f) = k by omega]
  rw [List.getElem?_eq_getElem (show k < s.data.toList.length by simpa using hk)]
  rfl
theorem extract_size (s : ByteArray) (f k : Nat) (hf : f ≤ k) (hk : k ≤ s.size) : (s.extract f k).size = k - f := by
  have h : (s.extract f k).size = (s.extract f k).data.toList.length := rfl
  have h2 : s.size = s.data.toList.length := rfl
  rw [h, Lib.extract_data]
  rw [List.length_take, List.length_drop, ← h2]
  omega

/-- What is known after k bytes. -/
structure Cut (s : ByteArray) (c : UInt8) (k f : Nat) (o : List ByteArray) : Prop where
  le : f ≤ k
  join : Lib.join (lists (o ++ [s.extract f k])) [c] = s.data.toList.take k
  free : o.all (noSep c) = true
  last : noSep c (s.extract f k) = true
  lens : blens o + o.length = f

theorem noSep_list (c : UInt8) (x : ByteArray) : noSep c x = !(x.data.toList.contains c) := rfl
theorem cut_at (s : ByteArray) (c : UInt8) : ∀ k, k ≤ s.size → Cut s c k (cutAt s c k).1 (cutAt s c k).2
  | 0, _ => by
    have h : s.extract 0 0 = ⟨#[]⟩ := by
      have := extract_same s 0
      apply ByteArray.ext
      exact Array.toList_inj.1 (by rw [this])
    refine ⟨Nat.le_refl _, ?_, rfl, ?_, rfl⟩
    · show Lib.join (lists ([] ++ [s.extract 0 0])) [c] = _
      rw [lists_snoc, extract_same]; simp [lists, Lib.join_one]
    · show noSep c (s.extract 0 0) = true
      rw [noSep_list, extract_same]; rfl
  | k + 1, hk => by
    have h := cut_at s c k (by omega)
    have hlt : k < s.size := by omega
    by_cases he : s[k] = c
    · rw [cutAt_hit hlt he]
      refine ⟨Nat.le_refl _, ?_, ?_, ?_, ?_⟩
      · show Lib.join (lists ((cutAt s c k).2 ++ [s.extract (cutAt s c k).1 k] ++ [s.extract (k + 1) (k + 1)])) [c] = _
        have hj := h.join
        rw [lists_snoc] at hj
        rw [lists_snoc, lists_snoc, extract_same, join_open, hj, take_snoc s k hlt, he]
      · show ((cutAt s c k).2 ++ [s.extract (cutAt s c k).1 k]).all (noSep c) = true
        rw [List.all_append, h.free]; simp [h.last]
      · show noSep c (s.extract (k + 1) (k + 1)) = true
        rw [noSep_list, extract_same]; rfl
      · show blens ((cutAt s c k).2 ++ [s.extract (cutAt s c k).1 k]) + ((cutAt s c k).2 ++ [s.extract (cutAt s c k).1 k]).length = k + 1
        have hl := h.lens
        have hz := extract_size s _ k h.le (by omega)
        have hle := h.le
        unfold blens at hl ⊢
        simp only [List.map_append, List.map_cons, List.map_nil, List.sum_append, List.sum_cons, List.sum_nil, List.length_append, List.length_cons, List.length_nil, hz]
        omega
    · rw [cutAt_miss hlt he]
      have hle := h.le
      refine ⟨by omega, ?_, h.free, ?_, h.lens⟩
      · have hj := h.join
        rw [lists_snoc] at hj
        rw [lists_snoc, extract_more s _ k h.le hlt, join_grow, hj, take_snoc s k hlt]
      · have hl := h.last
        rw [noSep_list] at hl ⊢
        rw [extract_more s _ k h.le hlt]
        simp only [List.contains_append, Bool.not_or, hl, Bool.true_and]
        simp [Ne.symm he]

theorem parts_join (s : ByteArray) (c : UInt8) : joinV (parts s c) ⟨#[c]⟩ = s := by
  have h := (cut_at s c s.size (Nat.le_refl _)).join
  rw [take_all s _ (Nat.le_refl _)] at h
  unfold joinV parts
  apply ByteArray.ext
  show (Lib.join _ [c]).toArray = s.data
  rw [h]
theorem parts_fit (s : ByteArray) (c : UInt8) (hs : s.size ≤ 4000) : fitsB (parts s c) c = true := by
  have h := cut_at s c s.size (Nat.le_refl _)
  have hl := h.lens
  have hz := extract_size s _ s.size h.le (Nat.le_refl _)
  have hle := h.le
  unfold fitsB
  rw [Bool.and_eq_true, decide_eq_true_eq]
  constructor
  · unfold parts blens at *
    simp only [List.map_append, List.map_cons, List.map_nil, List.sum_append, List.sum_cons, List.sum_nil, List.length_append, List.length_cons, List.length_nil, hz]
    omega
  · unfold parts
    rw [List.all_append, h.free]; simp [h.last]
theorem parts_is (s : ByteArray) (c : UInt8) (hs : s.size ≤ 4000) : JoinIs (parts s c) ⟨#[c]⟩ s true := by
  unfold JoinIs joinRes
  rw [if_pos ⟨rfl, parts_pos s c, parts_fit s c hs⟩, parts_join]

end Go.Proofs.Ytoljoifldlpinaa
