/-
  Contract: spec.JoinStrings returns the join where no part has the separator and the result has at most 4000 bytes, else the empty string and false; it only reads. Conditions: the bounds that each theorem names.
-/
import Derived.Test.YtoljoifldlpinaaJoin
namespace Go.Proofs.Ytoljoifldlpinaa
open Go.RowKit

theorem specJoin_sep (ao : Option Addr) (c n : Nat) (sep : ByteArray) (w : World) (hs : sep.size ≠ 1) :
    Calls Try.prog 13 #[.slice ao n c, .string sep] w fun e w' => e = .returned (.tuple #[.string ⟨#[]⟩, .bool false]) ∧ w = w' := by
  have h2 : ((sep.size : Int) != 1) = true := by rw [bne_iff_ne]; omega
  have h3 : ((sep.size : Int) == 1) = false := by rw [beq_eq_false_iff_ne]; omega
  go_enter Try.func13, Try.ntmps13
  go_wp2
  go_ret2
  exact ⟨rfl, rfl⟩

theorem specJoin_none (ao : Option Addr) (c : Nat) (sep : ByteArray) (w : World) (hs : sep.size = 1) :
    Calls Try.prog 13 #[.slice ao 0 c, .string sep] w fun e w' => e = .returned (.tuple #[.string ⟨#[]⟩, .bool false]) ∧ w = w' := by
  have h2 : ((sep.size : Int) != 1) = false := by rw [← Bool.not_eq_true, bne_iff_ne]; omega
  have h3 : ((sep.size : Int) == 1) = true := by rw [beq_iff_eq]; omega
  clear hs
  go_enter Try.func13, Try.ntmps13
  go_wp2
  go_ret2
  exact ⟨rfl, rfl⟩

/-- What spec.JoinStrings has gathered after k parts. -/
structure Acc (xs : List ByteArray) (sp : UInt8) (k s : Nat) (acc : ByteArray) : Prop where
  data : acc.data.toList = Lib.join (lists (xs.take k)) [sp]
  lens : s = blens (xs.take k)
  all : (xs.take k).all (noSep sp) = true
  small : k = 0 ∨ s + k ≤ 4001

theorem Acc.size {xs : List ByteArray} {sp : UInt8} {k s : Nat} {acc : ByteArray} (h : Acc xs sp k s acc) (hk : k ≤ xs.length) : (0 < k → acc.size + 1 = s + k) ∧ (k = 0 → acc.size = 0) := by
  have e : acc.size = acc.data.toList.length := by show acc.data.size = _; simp
  rw [e, h.data, h.lens]
  cases k with
  | zero => exact ⟨fun h => absurd h (by omega), fun _ => by simp [lists, Lib.join_nil]⟩
  | succ k => exact ⟨fun _ => by rw [join_len (n := k) (by simp; omega)]; simp; omega, fun h => absurd h (by omega)⟩

theorem join_first {xs : List ByteArray} {x : ByteArray} (sep : List UInt8) (hx : xs[0]? = some x) : Lib.join (lists (xs.take 1)) sep = x.data.toList := by
  cases xs with
  | nil => simp at hx
  | cons y r => simp at hx; subst hx; simp [lists, Lib.join_one]
theorem join_next {xs : List ByteArray} {x : ByteArray} {k : Nat} (sep : List UInt8) (hk : 0 < k) (hx : xs[k]? = some x) : Lib.join (lists (xs.take (k + 1))) sep = Lib.join (lists (xs.take k)) sep ++ sep ++ x.data.toList := by
  cases xs with
  | nil => simp at hx
  | cons y r =>
    obtain ⟨m, rfl⟩ : ∃ m, k = m + 1 := ⟨k - 1, by omega⟩
    have hy : ∀ j, lists ((y :: r).take (j + 1)) = y.data.toList :: (lists r).take j := fun j => by simp [lists, List.map_take]
    rw [hy, hy, Lib.join_cons, Lib.join_cons, Lib.joinTail_take_succ sep (lists r) m x.data.toList (by simp at hx; simp [lists, hx])]
    simp [List.append_assoc]
theorem Acc.first {xs : List ByteArray} {sp : UInt8} {s : Nat} {acc x : ByteArray} (h : Acc xs sp 0 s acc) (hx : xs[0]? = some x) (hn : noSep sp x = true) (hl : x.size ≤ 4000) : Acc xs sp 1 x.size (acc ++ x) := by
  have h0 : acc.data.toList = [] := by rw [h.data]; simp [lists, Lib.join_nil]
  refine ⟨?_, ?_, ?_, .inr (by omega)⟩
  · rw [join_first _ hx, ByteArray.data_append, Array.toList_append, h0]; rfl
  · rw [blens_succ (k := 0) hx]; simp [blens]
  · exact all_succ (k := 0) hx (by simp) hn
theorem Acc.next {xs : List ByteArray} {sp : UInt8} {k s : Nat} {acc x : ByteArray} (h : Acc xs sp k s acc) (hk : 0 < k) (hx : xs[k]? = some x) (hn : noSep sp x = true) (hl : s + x.size + k ≤ 4000) : Acc xs sp (k + 1) (s + x.size) (acc ++ ⟨#[sp]⟩ ++ x) := by
  refine ⟨?_, ?_, all_succ hx h.all hn, .inr (by omega)⟩
  · rw [join_next _ hk hx, ByteArray.data_append, Array.toList_append, ByteArray.data_append, Array.toList_append, h.data]
  · rw [blens_succ hx, h.lens]
theorem acc_end {xs : List ByteArray} {sp : UInt8} {k s : Nat} {acc : ByteArray} (h : Acc xs sp k s acc) (hk : xs.length ≤ k) : acc = joinV xs ⟨#[sp]⟩ := by
  have hd := h.data
  rw [List.take_of_length_le hk] at hd
  unfold joinV
  rw [← hd]
theorem ret_str_bool {a b : ByteArray} {c : Bool} (h : a = b) : Ending.returned (.tuple #[.string a, .bool c]) = .returned (.tuple #[.string b, .bool c]) := by rw [h]
def JoinPost (xs : List ByteArray) (sp : UInt8) (e : Ending) : Prop :=
  (fitsB xs sp = true → e = .returned (.tuple #[.string (joinV xs ⟨#[sp]⟩), .bool true])) ∧ (fitsB xs sp = false → e = .returned (.tuple #[.string ⟨#[]⟩, .bool false]))
theorem JoinPost.yes {xs : List ByteArray} {sp : UInt8} {e : Ending} (hf : fitsB xs sp = true) (h : e = .returned (.tuple #[.string (joinV xs ⟨#[sp]⟩), .bool true])) : JoinPost xs sp e :=
  ⟨fun _ => h, fun h2 => by rw [hf] at h2; cases h2⟩
theorem JoinPost.no {xs : List ByteArray} {sp : UInt8} {e : Ending} (hf : fitsB xs sp = false) (h : e = .returned (.tuple #[.string ⟨#[]⟩, .bool false])) : JoinPost xs sp e :=
  ⟨(fun h2 => by rw [hf] at h2; cases h2), fun _ => h⟩

theorem drawn_cell {w wr : World} (h : ∃ q, wr = w.drewN q) (a : Addr) : wr.cell? a = w.cell? a := by obtain ⟨q, rfl⟩ := h; rfl
theorem drawn_more {w wr : World} (h : ∃ q, wr = w.drewN q) (n : Nat) : ∃ q, wr.drewN n = w.drewN q := by obtain ⟨q, rfl⟩ := h; exact ⟨q + n, World.drewN_drewN _ _ _⟩

set_option maxHeartbeats 1000000 in
theorem specJoin_some (b o c n : Nat) (xs : List ByteArray) (sp : UInt8) (w : World) (h0 : 0 < n) (hlen : xs.length = n) (hn : n + blens xs ≤ 4611686018427387904)
    (hc : ∀ j x, xs[j]? = some x → w.cell? ⟨b, o + j, none⟩ = some (.string x)) :
    Calls Try.prog 13 #[.slice (some ⟨b, o, none⟩) n c, .string ⟨#[sp]⟩] w fun e w' => JoinPost xs sp e ∧ ∃ q, w' = w.drewN q := by
  have h1 : ((n : Int) == 0) = false := by rw [beq_eq_false_iff_ne]; omega
  have HL := Lib.hid hlen
  have HC := Lib.hid hc
  have hb0 : ∀ h, (⟨#[sp]⟩ : ByteArray)[0]'h = sp := fun _ => rfl
  clear hlen hc
  go_enter Try.func13, Try.ntmps13
  go_wp2
  go_loopw [6, 7] (fun v i wr => ∃ (k s : Nat) (acc : ByteArray), k ≤ n ∧ i = .int .i64 k ∧ v = .string acc ∧ Hid (Acc xs sp k s acc) ∧ Hid (∃ q, wr = w.drewN q)) (fun _ i _ => n - (intOf i).toNat)
  case atStart => exact ⟨0, 0, ⟨#[]⟩, Nat.zero_le _, rfl, rfl, ⟨by simp [lists, Lib.join_nil], by simp [blens], by simp, .inl rfl⟩, 0, rfl⟩
  case round =>
    obtain ⟨k, s, acc, hk, rfl, rfl, HA, HW⟩ := hrel
    have hsz := HA.out.size (by have := HL.out; omega)
    have HSz := Lib.hid hsz
    clear hsz
    by_cases hlt : k < n
    · obtain ⟨x, hx⟩ := get_of_lt HL.out hlt
      have hcell : wr.cell? ⟨b, o + k, none⟩ = some (.string x) := (drawn_cell HW.out _).trans (HC.out k x hx)
      have hle := blens_take_le xs (k + 1)
      rw [blens_succ hx, ← HA.out.lens] at hle
      have hst := fun (w : World) => stands_any x sp w (by unfold maxLen; omega)
      obtain ⟨r, hr⟩ : ∃ r, noSep sp x = r := ⟨_, rfl⟩
      have HX := Lib.hid hx
      have HR := Lib.hid hr
      have HLe := Lib.hid hle
      have hxs : x.size ≤ 4611686018427387904 := by omega
      rw [hr] at hst
      have HST := Lib.hid hst
      clear hx hr hst hle
      cases r with
      | false =>
        go_wp2
        go_quiet ((go_at_call 32; exact Calls.quiet_of_same (HST.out _)))
        go_wp2
        go_ret2
        exact ⟨JoinPost.no (fitsB_sep HX.out HR.out) rfl, drawn_more HW.out _⟩
      | true =>
        rcases Nat.eq_zero_or_pos k with hk0 | hk0
        · subst hk0
          have ha0 : acc.size ≤ 0 := by have := HSz.out.2 rfl; omega
          have hcell0 : wr.cell? ⟨b, o, none⟩ = some (.string x) := by simpa using hcell
          clear hcell
          by_cases hf : x.size ≤ 4000
          · go_wp2
            go_quiet ((go_at_call 32; exact Calls.quiet_of_same (HST.out _)))
            go_wp2
            go_roundw
            case rel => exact ⟨1, x.size, _, by omega, by go_num, rfl, HA.out.first HX.out HR.out hf, drawn_more HW.out _⟩
            case measure => simp [intOf]; omega
          · go_wp2
            go_quiet ((go_at_call 32; exact Calls.quiet_of_same (HST.out _)))
            go_wp2
            go_ret2
            exact ⟨JoinPost.no (fitsB_size HL.out (k := 0 + 1) (by rw [blens_succ HX.out]; omega)) rfl, drawn_more HW.out _⟩
        · have ha0 : acc.size + 1 ≤ s + k := by have := HSz.out.1 hk0; omega
          have hsk : s + k ≤ 4001 := by have := HA.out.small; omega
          have ha1 : s + k ≤ acc.size + 1 := by have := HSz.out.1 hk0; omega
          by_cases hf : s + x.size + k ≤ 4000
          · go_wp2
            go_quiet ((go_at_call 32; exact Calls.quiet_of_same (HST.out _)))
            go_wp2
            go_roundw
            case rel => exact ⟨k + 1, s + x.size, _, by omega, by go_num, rfl, HA.out.next hk0 HX.out HR.out hf, drawn_more HW.out _⟩
            case measure => simp [intOf]; omega
          · go_wp2
            go_quiet ((go_at_call 32; exact Calls.quiet_of_same (HST.out _)))
            go_wp2
            go_ret2
            exact ⟨JoinPost.no (fitsB_size HL.out (k := k + 1) (by rw [blens_succ HX.out, ← HA.out.lens]; omega)) rfl, drawn_more HW.out _⟩
    · go_wp2
      go_ret2
      have hkn : xs.length ≤ k := by have := HL.out; omega
      exact ⟨JoinPost.yes (fitsB_yes HL.out (k := k) (by omega) (by have := HA.out.small; rw [← HA.out.lens]; omega) HA.out.all) (ret_str_bool (acc_end HA.out hkn)), HW.out⟩

end Go.Proofs.Ytoljoifldlpinaa
