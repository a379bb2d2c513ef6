/-
  Contracts: impl.canJoin, impl.JoinStrings, spec.l1Stands, spec.JoinStrings: both JoinStrings return the join where no part has the separator and the result has at most 4000 bytes, else the empty string and false. Conditions: the bounds that each theorem names.
-/
import Derived.Test.YtoljoifldlpinaaDoorView
import Derived.Deep.LoopGhost
import Derived.Test.YtoljoifldlpinaaDoorShelf
namespace Go.Proofs.YtoljoifldlpinaaDoor
open Go.RowKit

def noSep (c : UInt8) (x : ByteArray) : Bool := !(x.data.toList.contains c)
def fitsB (xs : List ByteArray) (c : UInt8) : Bool := decide (blens xs + xs.length ≤ 4001) && xs.all (noSep c)

theorem noSep_at {c : UInt8} {x : ByteArray} (h : ∀ j (hj : j < x.size), x[j] ≠ c) : noSep c x = true := by
  unfold noSep
  rw [Bool.not_eq_true', ← Bool.not_eq_true, List.contains_iff_mem]
  intro hm
  obtain ⟨j, hj, he⟩ := List.mem_iff_getElem.1 hm
  exact h j (by simpa using hj) he
theorem noSep_of {c : UInt8} {x : ByteArray} (h : noSep c x = true) (j : Nat) (hj : j < x.size) : x[j] ≠ c := by
  unfold noSep at h
  rw [Bool.not_eq_true', ← Bool.not_eq_true, List.contains_iff_mem] at h
  intro he
  exact h (he ▸ List.getElem_mem (by simpa using hj))

theorem all_succ {c : UInt8} {xs : List ByteArray} {k : Nat} {x : ByteArray} (hx : xs[k]? = some x) (h : (xs.take k).all (noSep c) = true) (h2 : noSep c x = true) : (xs.take (k + 1)).all (noSep c) = true := by
  rw [List.take_add_one, hx, List.all_append, h]; simp [h2]
theorem fitsB_yes {c : UInt8} {xs : List ByteArray} {n k : Nat} (hn : xs.length = n) (hk : n ≤ k) (h1 : blens (xs.take k) + n ≤ 4001) (h2 : (xs.take k).all (noSep c) = true) : fitsB xs c = true := by
  rw [List.take_of_length_le (by omega)] at h1 h2
  unfold fitsB; rw [h2, Bool.and_true, decide_eq_true_eq]; omega
theorem fitsB_size {c : UInt8} {xs : List ByteArray} {n k : Nat} (hn : xs.length = n) (h1 : 4001 < blens (xs.take k) + n) : fitsB xs c = false := by
  have := blens_take_le xs k
  unfold fitsB; rw [decide_eq_false (by omega)]; rfl
theorem fitsB_sep {c : UInt8} {xs : List ByteArray} {k : Nat} {x : ByteArray} (hx : xs[k]? = some x) (h : noSep c x = false) : fitsB xs c = false := by
  unfold fitsB
  have : xs.all (noSep c) = false := by
    rw [← Bool.not_eq_true, List.all_eq_true]
    intro hall
    have := hall x (List.mem_of_getElem? hx)
    rw [h] at this; cases this
  rw [this, Bool.and_false]
theorem noSep_no {c : UInt8} {x : ByteArray} {j : Nat} (hj : j < x.size) (h : x[j] = c) : noSep c x = false := by
  rw [← Bool.not_eq_true]
  intro h2
  exact noSep_of h2 j hj h

theorem ne_succ {c : UInt8} {x : ByteArray} {j : Nat} {hj : j < x.size} (h : ∀ i (hi : i < x.size), i < j → x[i] ≠ c) (he : ¬ x[j] = c) : Hid (∀ i (hi : i < x.size), i < j + 1 → x[i] ≠ c) := by
  intro i hi hij
  rcases Nat.lt_or_ge i j with h1 | h1
  · exact h i hi h1
  · obtain rfl : i = j := by omega
    exact he

set_option maxHeartbeats 1000000 in
theorem canJoin_some (b o c n : Nat) (sp : UInt8) (xs : List ByteArray) (w : World) (hlen : xs.length = n) (h0 : 0 < n) (hn : n + blens xs ≤ 4611686018427387904)
    (hc : ∀ j x, xs[j]? = some x → w.cell? ⟨b, o + j, none⟩ = some (.string x)) :
    Calls Tryd.prog 41 #[.slice (some ⟨b, o, none⟩) n c, .int .u8 (sp.toNat : Int)] w fun e w' => e = .returned (.bool (fitsB xs sp)) ∧ w = w' := by
  have HL := Lib.hid hlen
  have HC := Lib.hid hc
  obtain ⟨r, hr⟩ : ∃ r, fitsB xs sp = r := ⟨_, rfl⟩
  have HR := Lib.hid hr
  rw [hr]
  clear hlen hc hr
  go_enter Tryd.func41, Tryd.ntmps41
  go_wp2
  go_step3
  go_wp2
  go_step3
  go_wp2
  go_loopg [5, 6, 15] n (fun g s5 s6 s15 wx => ∃ k s : Nat, k + g = n ∧ s15 = .int .i64 k ∧ s5 = .bool true ∧ s6 = .int .i64 (n - 1 + s) ∧ Hid (s = blens (xs.take k) ∧ (xs.take k).all (noSep sp) = true ∧ (k = 0 ∨ n + s ≤ 4001)) ∧ n + s ≤ 4611686018427387904 ∧ w = wx)
  case atStart => exact ⟨0, 0, by omega, rfl, rfl, by simp, ⟨rfl, rfl, .inl rfl⟩, by omega, rfl⟩
  case round =>
    obtain ⟨k, s, hkg, rfl, rfl, rfl, HI, hs, rfl⟩ := hrel
    cases gk with
    | zero =>
      have hkz : ¬ ((k : Int) < (n : Int)) := by omega
      go_wp2
      go_ret
      refine ⟨?_, rfl⟩
      obtain ⟨i1, i2, i3⟩ := HI.out
      have hkn : k ≠ 0 := by omega
      have := fitsB_yes HL.out (k := k) (by omega) (by omega) i2
      exact ret_bool (this.symm.trans HR.out)
    | succ g =>
      have hkz : (k : Int) < (n : Int) := by omega
      obtain ⟨x, hx⟩ := get_of_lt HL.out (show k < n by omega)
      have hcell := HC.out k x hx
      have hsz := blens_take_le xs (k + 1)
      rw [blens_succ hx] at hsz
      have hsz2 : s + x.size ≤ blens xs := by have := HI.out.1; omega
      have HX := Lib.hid hx
      clear hx hsz
      by_cases hf : n + (s + x.size) ≤ 4001
      · go_wp2
        go_loopg [5, 27] x.size (fun g2 s5 s27 wy => ∃ j : Nat, j + g2 = x.size ∧ s27 = .int .i64 j ∧ s5 = .bool true ∧ Hid (∀ i (hi : i < x.size), i < j → x[i] ≠ sp) ∧ w = wy)
        case atStart => exact ⟨0, by omega, rfl, rfl, fun i _ hi => by omega, rfl⟩
        case round =>
          obtain ⟨j, hjg, rfl, rfl, HJ, rfl⟩ := hrel
          cases gk with
          | zero =>
            have hjz : ¬ ((j : Int) < (x.size : Int)) := by omega
            go_wp2
            go_roundg g
            case measure => omega
            case rel =>
              obtain ⟨i1, i2, i3⟩ := HI.out
              exact ⟨k + 1, s + x.size, by omega, by go_num, rfl, by go_num, ⟨by rw [blens_succ HX.out, i1], all_succ HX.out i2 (noSep_at fun i hi => HJ.out i hi (by omega)), .inr hf⟩, by omega, rfl⟩
          | succ g2 =>
            have hjz : (j : Int) < (x.size : Int) := by omega
            have hjx : j < x.size := by omega
            by_cases he : x[j] = sp
            · have he2 : ((x[j].toNat : Int) == (sp.toNat : Int)) = true := by rw [he]; simp
              have HE := Lib.hid he
              clear he
              go_wp2
              rw [Exit.noGoto_ret]
              go_ret
              refine ⟨?_, rfl⟩
              exact ret_bool ((fitsB_sep HX.out (noSep_no hjx HE.out)).symm.trans HR.out)
            · have he2 : ((x[j].toNat : Int) == (sp.toNat : Int)) = false := by
                rw [beq_eq_false_iff_ne]
                intro h
                exact he (UInt8.toNat_inj.1 (by omega))
              have HE := Lib.hid he
              clear he
              go_wp2
              go_roundg g2
              case measure => omega
              case rel => exact ⟨j + 1, by omega, by go_num, rfl, ne_succ HJ.out HE.out, rfl⟩
      · go_wp2
        rw [Exit.noGoto_ret]
        go_ret
        refine ⟨?_, rfl⟩
        exact ret_bool ((fitsB_size HL.out (k := k + 1) (by rw [blens_succ HX.out, ← HI.out.1]; omega)).symm.trans HR.out)

theorem stands_any (x : ByteArray) (sp : UInt8) (w : World) (hx : x.size ≤ maxLen) :
    Calls Tryd.prog 33 #[.string x, .int .u8 (sp.toNat : Int)] w fun e w' => e = .returned (.bool (!noSep sp x)) ∧ w' = w := by
  unfold maxLen at hx
  obtain ⟨r, hr⟩ : ∃ r, noSep sp x = r := ⟨_, rfl⟩
  have HR := Lib.hid hr
  rw [hr]
  clear hr
  go_enter Tryd.func33, Tryd.ntmps33
  go_wp2
  go_loop [5] (fun i => ∃ j : Nat, j ≤ x.size ∧ i = .int .i64 j ∧ Hid (∀ i (hi : i < x.size), i < j → x[i] ≠ sp)) (fun i => x.size - (intOf i).toNat)
  case atStart => exact ⟨0, Nat.zero_le _, rfl, fun i _ hi => by omega⟩
  case round =>
    obtain ⟨j, hj, rfl, HJ⟩ := hrel
    by_cases hlt : j < x.size
    · by_cases he : x[j] = sp
      · have he2 : ((x[j].toNat : Int) == (sp.toNat : Int)) = true := by rw [he]; simp
        have HE := Lib.hid he
        clear he
        go_wp2
        go_ret
        refine ⟨?_, rfl⟩
        have := noSep_no hlt HE.out
        exact ret_bool (by rw [← HR.out, this]; rfl)
      · have he2 : ((x[j].toNat : Int) == (sp.toNat : Int)) = false := by
          rw [beq_eq_false_iff_ne]
          intro h
          exact he (UInt8.toNat_inj.1 (by omega))
        have HE := Lib.hid he
        clear he
        go_wp2
        go_round
        case rel => exact ⟨j + 1, by omega, by go_num, ne_succ HJ.out HE.out⟩
        case measure => simp [intOf]; omega
    · go_wp2
      go_ret
      refine ⟨?_, rfl⟩
      have := noSep_at (c := sp) (x := x) fun i hi => HJ.out i hi (by omega)
      exact ret_bool (by rw [← HR.out, this]; rfl)

def lists (xs : List ByteArray) : List (List UInt8) := xs.map (·.data.toList)
def joinV (xs : List ByteArray) (sep : ByteArray) : ByteArray := ⟨(Lib.join (lists xs) sep.data.toList).toArray⟩
theorem lens_lists (xs : List ByteArray) : Lib.lens (lists xs) = blens xs := by
  unfold Lib.lens lists blens
  rw [List.map_map]
  congr 1
theorem join_len {xs : List ByteArray} {sep : List UInt8} {n : Nat} (hn : xs.length = n + 1) : (Lib.join (lists xs) sep).length = sep.length * n + blens xs := by
  cases xs with
  | nil => simp at hn
  | cons x r =>
    have h : lists (x :: r) = x.data.toList :: lists r := rfl
    rw [← lens_lists, h, Lib.join_length]
    have : (lists r).length = n := by simp [lists] at hn ⊢; exact hn
    rw [this]

/-! impl.JoinStrings -/
theorem implJoin_none (ao : Option Addr) (c : Nat) (sep : ByteArray) (w : World) :
    Calls Tryd.prog 32 #[.slice ao 0 c, .string sep] w fun e w' => e = .returned (.tuple #[.string ⟨#[]⟩, .bool false]) ∧ w = w' := by
  go_enter Tryd.func32, Tryd.ntmps32
  go_wp2
  go_ret2
  exact ⟨rfl, rfl⟩

theorem implJoin_sep (ao : Option Addr) (c n : Nat) (sep : ByteArray) (w : World) (hs : sep.size ≠ 1) (hn : 0 < n) :
    Calls Tryd.prog 32 #[.slice ao n c, .string sep] w fun e w' => e = .returned (.tuple #[.string ⟨#[]⟩, .bool false]) ∧ w = w' := by
  have h1 : ((n : Int) == 0) = false := by rw [beq_eq_false_iff_ne]; omega
  have h2 : ((sep.size : Int) != 1) = true := by rw [bne_iff_ne]; omega
  have h3 : ((sep.size : Int) == 1) = false := by rw [beq_eq_false_iff_ne]; omega
  go_enter Tryd.func32, Tryd.ntmps32
  go_wp2
  go_ret2
  exact ⟨rfl, rfl⟩

theorem implJoin_bad (b o c n : Nat) (xs : List ByteArray) (sep : ByteArray) (sp : UInt8) (w : World) (hs : sep = ⟨#[sp]⟩) (h0 : 0 < n) (hlen : xs.length = n) (hn : n + blens xs ≤ 4611686018427387904)
    (hc : ∀ j x, xs[j]? = some x → w.cell? ⟨b, o + j, none⟩ = some (.string x)) (hf : fitsB xs sp = false) :
    Calls Tryd.prog 32 #[.slice (some ⟨b, o, none⟩) n c, .string sep] w fun e w' => e = .returned (.tuple #[.string ⟨#[]⟩, .bool false]) ∧ w = w' := by
  have h1 : ((n : Int) == 0) = false := by rw [beq_eq_false_iff_ne]; omega
  have hcall := canJoin_some b o c n sp xs w hlen h0 hn hc
  rw [hf] at hcall
  have HC := Lib.hid hcall
  clear hcall hlen hn hc hf
  subst hs
  go_enter Tryd.func32, Tryd.ntmps32
  go_wp2_with (go_at_call 41; refine HC.out.mono ?_; rintro e w' ⟨rfl, rfl⟩)
  go_ret2
  exact ⟨rfl, rfl⟩

theorem implJoin_good (b o c n : Nat) (xs : List ByteArray) (sep : ByteArray) (sp : UInt8) (w : World) (hs : sep = ⟨#[sp]⟩) (h0 : 0 < n) (hlen : xs.length = n) (hb : b < w.heap.size) (hcap : n ≤ c)
    (hc : ∀ j x, xs[j]? = some x → w.cell? ⟨b, o + j, none⟩ = some (.string x)) (hf : fitsB xs sp = true) :
    Calls Tryd.prog 32 #[.slice (some ⟨b, o, none⟩) n c, .string sep] w fun e w' => e = .returned (.tuple #[.string (joinV xs sep), .bool true]) ∧ Below w.heap.size w w' := by
  have h1 : ((n : Int) == 0) = false := by rw [beq_eq_false_iff_ne]; omega
  have hf2 : blens xs + n ≤ 4001 := by
    unfold fitsB at hf; rw [Bool.and_eq_true, decide_eq_true_eq] at hf; omega
  have hcall := canJoin_some b o c n sp xs w hlen h0 (by omega) hc
  rw [hf] at hcall
  have hjl : (Lib.join (lists xs) sep.data.toList).length ≤ 140737488355328 := by
    rw [join_len (n := n - 1) (by omega), hs]
    simp
    omega
  have hj := Tryd.strings_Join b o c xs sep w hc hb (by omega) (by omega) hjl
  rw [hlen] at hj
  have HC := Lib.hid hcall
  have HJ := Lib.hid hj
  clear hcall hlen hc hf hj hjl
  subst hs
  go_enter Tryd.func32, Tryd.ntmps32
  go_wp2_with (first | (go_at_call 41; refine HC.out.mono ?_; rintro e w' ⟨rfl, rfl⟩) | (go_at_call 42; refine HJ.out.mono ?_; rintro e w' ⟨rfl, hb'⟩))
  go_ret2
  exact ⟨rfl, hb'⟩

/-- What JoinStrings answers. -/
def joinRes (xs : List ByteArray) (sep : ByteArray) : ByteArray × Bool :=
  if sep.size = 1 ∧ 0 < xs.length ∧ fitsB xs (sep.data.toList.headD 0) = true then (joinV xs sep, true) else (⟨#[]⟩, false)
def JoinIs (xs : List ByteArray) (sep js : ByteArray) (jb : Bool) : Prop := joinRes xs sep = (js, jb)
def JoinEnd (js : ByteArray) (jb : Bool) (e : Ending) : Prop := e = .returned (.tuple #[.string js, .bool jb])
theorem one_byte {sep : ByteArray} (h : sep.size = 1) : ∃ sp, sep = ⟨#[sp]⟩ := by
  rcases sep with ⟨⟨l⟩⟩
  match l, h with
  | [x], _ => exact ⟨x, rfl⟩
theorem JoinIs.bad {xs : List ByteArray} {sep js : ByteArray} {jb : Bool} (h : JoinIs xs sep js jb) (hb : ¬ (sep.size = 1 ∧ 0 < xs.length ∧ fitsB xs (sep.data.toList.headD 0) = true)) {e : Ending} (he : e = .returned (.tuple #[.string ⟨#[]⟩, .bool false])) : JoinEnd js jb e := by
  unfold JoinIs joinRes at h
  rw [if_neg hb] at h
  cases h
  exact he
theorem JoinIs.good {xs : List ByteArray} {sep js : ByteArray} {jb : Bool} (h : JoinIs xs sep js jb) (hb : sep.size = 1 ∧ 0 < xs.length ∧ fitsB xs (sep.data.toList.headD 0) = true) {e : Ending} (he : e = .returned (.tuple #[.string (joinV xs sep), .bool true])) : JoinEnd js jb e := by
  unfold JoinIs joinRes at h
  rw [if_pos hb] at h
  cases h
  exact he

theorem implJoin_view (ao : Option Addr) (c n : Nat) (xs : List ByteArray) (sep js : ByteArray) (jb : Bool) (w : World) (h : View w ao n xs) (hn : n + blens xs ≤ 4611686018427387904) (hcap : n ≤ c) (hj : JoinIs xs sep js jb) :
    Calls Tryd.prog 32 #[.slice ao n c, .string sep] w fun e w' => JoinEnd js jb e ∧ Below w.heap.size w w' := by
  rcases Nat.eq_zero_or_pos n with h0 | h0
  · subst h0
    have hx := List.eq_nil_of_length_eq_zero h.1
    subst hx
    exact (implJoin_none ao c sep w).mono fun e w' ⟨he, hw⟩ => ⟨hj.bad (by rintro ⟨_, h, _⟩; exact absurd h (by simp)) he, hw ▸ Below.refl _ _⟩
  by_cases hs : sep.size = 1
  · obtain ⟨sp, rfl⟩ := one_byte hs
    obtain ⟨hl, h2 | ⟨b, o, rfl, hb, hc⟩⟩ := h
    · omega
    cases hf : fitsB xs sp with
    | false => exact (implJoin_bad b o c n xs _ sp w rfl h0 hl hn hc hf).mono fun e w' ⟨he, hw⟩ => ⟨hj.bad (by rintro ⟨_, _, h⟩; rw [show (⟨#[sp]⟩ : ByteArray).data.toList.headD 0 = sp from rfl, hf] at h; cases h) he, hw ▸ Below.refl _ _⟩
    | true => exact (implJoin_good b o c n xs _ sp w rfl h0 hl hb hcap hc hf).mono fun e w' ⟨he, hw⟩ => ⟨hj.good ⟨rfl, by omega, hf⟩ he, hw⟩
  · exact (implJoin_sep ao c n sep w hs h0).mono fun e w' ⟨he, hw⟩ => ⟨hj.bad (fun h => hs h.1) he, hw ▸ Below.refl _ _⟩

end Go.Proofs.YtoljoifldlpinaaDoor
