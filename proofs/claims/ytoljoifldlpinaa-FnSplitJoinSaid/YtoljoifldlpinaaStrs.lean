/-
  Contracts on slices of strings: szStringS, toStringS and eqStringS of the laws' package. A slice is told by the list of its strings ('View'). Conditions: the bounds that each theorem names.
-/
import Derived.Test.YtoljoifldlpinaaView
namespace Go.Proofs.Ytoljoifldlpinaa
open Go.RowKit

def szOf (n : Nat) : Int := if n ≤ 1048576 then 1048576 - (n : Int) else -1
theorem szOf_yes {n : Nat} (h : n ≤ 1048576) : szOf n = 1048576 - (n : Int) := if_pos h
theorem szOf_no {n : Nat} (h : 1048576 < n) : szOf n = -1 := if_neg (by omega)
theorem Try.infoStr : (Try.prog.info? 9).map (fun i => (i.zero, i.size, i.bytes)) = some (some (.string ByteArray.empty), 1, 16) := by kernel_rfl

/-! szStringS -/
theorem sz_zero (ao : Option Addr) (c : Nat) (w : World) :
    Calls Try.prog 21 #[.slice ao 0 c, .int .i64 1048576] w fun e w' => e = .returned (.int .i64 1048576) ∧ w = w' := by
  go_enter Try.func21, Try.ntmps21
  go_wp2
  refine wp_loop_rounds 1 ?_
  rw [rounds_succ]
  go_wp2
  go_ret
  exact ⟨rfl, rfl⟩

set_option maxHeartbeats 400000 in
theorem sz_some (b o c n : Nat) (xs : List ByteArray) (w : World) (hlen : xs.length = n) (hn : n ≤ maxLen) (hs : ∀ (j : Nat) (x : ByteArray), xs[j]? = some x → x.size ≤ maxLen)
    (hc : ∀ j x, xs[j]? = some x → w.cell? ⟨b, o + j, none⟩ = some (.string x)) :
    Calls Try.prog 21 #[.slice (some ⟨b, o, none⟩) n c, .int .i64 1048576] w fun e w' => e = .returned (.int .i64 (szOf (n + blens xs))) ∧ w = w' := by
  unfold maxLen at hn
  have HL := Lib.hid hlen
  have HC := Lib.hid hc
  have HSz := Lib.hid hs
  clear hlen hc hs
  by_cases h0 : n ≤ 1048576
  · go_enter Try.func21, Try.ntmps21
    go_wp2
    go_loop [1, 5] (fun l i => ∃ k s : Nat, k ≤ n ∧ i = .int .i64 k ∧ Hid (s = blens (xs.take k)) ∧ n + s ≤ 1048576 ∧ l = .int .i64 (1048576 - n - s)) (fun _ i => n - (intOf i).toNat)
    case atStart => exact ⟨0, 0, Nat.zero_le _, rfl, rfl, by omega, by simp⟩
    case round =>
      obtain ⟨k, s, hk, rfl, HS, hs, rfl⟩ := hrel
      by_cases hlt : k < n
      · obtain ⟨x, hx⟩ := get_of_lt HL.out hlt
        have hcell := HC.out k x hx
        have hxs := HSz.out k x hx
        unfold maxLen at hxs
        have HX := Lib.hid hx
        clear hx
        by_cases hf : n + s + x.size ≤ 1048576
        · go_wp2
          go_round
          case rel => exact ⟨k + 1, s + x.size, by omega, by go_num, by unfold Hid; rw [blens_succ HX.out, HS.out], by omega, by go_num⟩
          case measure => simp [intOf]; omega
        · go_wp2
          go_ret
          refine ⟨ret_int ?_, rfl⟩
          have h1 := blens_take_le xs (k + 1)
          rw [blens_succ HX.out, ← HS.out] at h1
          rw [szOf_no (by omega)]
      · go_wp2
        go_ret
        refine ⟨?_, rfl⟩
        have hs2 : s = blens xs := by rw [HS.out, blens_all (by have := HL.out; omega)]
        rw [szOf_yes (by omega), ← hs2]
        go_num
  · go_enter Try.func21, Try.ntmps21
    go_wp2
    go_ret
    exact ⟨ret_int (by rw [szOf_no (by omega)]), rfl⟩

theorem sz_view (ao : Option Addr) (c n : Nat) (xs : List ByteArray) (w : World) (h : View w ao n xs) (hn : n ≤ maxLen) (hs : ∀ (j : Nat) (x : ByteArray), xs[j]? = some x → x.size ≤ maxLen) :
    Calls Try.prog 21 #[.slice ao n c, .int .i64 1048576] w fun e w' => e = .returned (.int .i64 (szOf (n + blens xs))) ∧ w = w' := by
  obtain ⟨h1, rfl | ⟨b, o, rfl, _, hc⟩⟩ := h
  · obtain rfl : xs = [] := List.eq_nil_of_length_eq_zero h1
    exact sz_zero ao c w
  · exact sz_some b o c n xs w h1 hn hs hc

/-! toStringS -/
theorem toList_madeCells_zero (z : Value) : (madeCells z.cells (0 * 1)).toList = [] := by simp [madeCells]
theorem to_row {xs : List ByteArray} {k n : Nat} {x : ByteArray} (hl : xs.length = n) (hx : xs[k]? = some x) (z : Value) :
    ((xs.take k).map Value.string ++ List.replicate (n - k) z).set k (.string x) = (xs.take (k + 1)).map Value.string ++ List.replicate (n - (k + 1)) z := by
  have hk : k < xs.length := (List.getElem?_eq_some_iff.1 hx).1
  have hl' : ((xs.take k).map Value.string).length = k := by simp; omega
  rw [List.set_append_right _ _ (by omega), hl', Nat.sub_self, List.take_add_one, hx]
  have : n - k = (n - (k + 1)) + 1 := by omega
  rw [this, List.replicate_succ]
  simp

theorem to_zero (ao : Option Addr) (c : Nat) (w : World) :
    Calls Try.prog 22 #[.slice ao 0 c] w fun e w' => e = .returned (.slice (some ⟨w.heap.size, 0, none⟩) 0 0) ∧
      w'.ownsRow w.heap.size 9 1 (.slice (some ⟨w.heap.size, 0, none⟩) 0 0) 0 [] ∧ Below w.heap.size w w' := by
  obtain ⟨i0, hi, hz0, hz1, hz2⟩ := info_parts Try.infoStr
  go_enter Try.func22, Try.ntmps22
  go_wp2_with (at_make; refine wpList_make_full _ rfl _ _ 26 rfl w.heap.size 9 i0 _ 1 Try.underlying26 hi hz0 hz1 _ _ _ _ 0 rfl rfl rfl rfl (by rw [hz2]; omega) (by decide) (Nat.le_refl _) ?_; intro w1 hown hgrow)
  refine wp_loop_rounds 1 ?_
  rw [rounds_succ]
  go_wp2
  go_ret
  rw [toList_madeCells_zero] at hown
  exact ⟨rfl, hown, (Below.refl _ _).grown hgrow (Nat.le_refl _) (by intro k hk; cases hk)⟩

set_option maxHeartbeats 400000 in
theorem to_some (b o c n : Nat) (xs : List ByteArray) (w : World) (hlen : xs.length = n) (hn : n * 16 ≤ 281474976710656) (hb : b < w.heap.size)
    (hc : ∀ j x, xs[j]? = some x → w.cell? ⟨b, o + j, none⟩ = some (.string x)) :
    Calls Try.prog 22 #[.slice (some ⟨b, o, none⟩) n c] w fun e w' => e = .returned (.slice (some ⟨w.heap.size, 0, none⟩) n n) ∧
      w'.ownsRow w.heap.size 9 1 (.slice (some ⟨w.heap.size, 0, none⟩) n n) n (xs.map Value.string) ∧ Below w.heap.size w w' := by
  have HL := Lib.hid hlen
  have HC := Lib.hid hc
  clear hlen hc
  obtain ⟨i0, hi, hz0, hz1, hz2⟩ := info_parts Try.infoStr
  go_enter Try.func22, Try.ntmps22
  go_wp2_with (at_make; refine wpList_make_full _ rfl _ _ 26 rfl w.heap.size 9 i0 _ 1 Try.underlying26 hi hz0 hz1 _ _ _ _ n rfl rfl rfl rfl (by rw [hz2]; omega) (by unfold maxLen; omega) (Nat.le_refl _) ?_; intro w1 hown hgrow)
  have hB1 : Below w.heap.size w w1 := (Below.refl _ _).grown hgrow (Nat.le_refl _) (by intro k hk; cases hk)
  have hown1 : w1.ownsRow w.heap.size 9 1 (.slice (some ⟨w.heap.size, 0, none⟩) n n) n ((xs.take 0).map Value.string ++ List.replicate (n - 0) (.string ByteArray.empty)) := by
    have h := hown
    rw [show (Value.string ByteArray.empty).cells = #[Value.string ByteArray.empty] from rfl, Nat.mul_one, toList_madeCells_one] at h
    simpa using h
  have HO := Lib.hid hown1
  have HB := Lib.hid hB1
  clear hown hgrow hown1 hB1 hi hz0 hz1 hz2
  go_loopw [4] (fun i wr => ∃ k : Nat, k ≤ n ∧ i = .int .i64 k ∧ Hid (wr.ownsRow w.heap.size 9 1 (.slice (some ⟨w.heap.size, 0, none⟩) n n) n ((xs.take k).map Value.string ++ List.replicate (n - k) (.string ByteArray.empty))) ∧ Hid (Below w.heap.size w wr)) (fun i _ => n - (intOf i).toNat)
  case atStart => exact ⟨0, Nat.zero_le _, rfl, HO, HB⟩
  case round =>
    obtain ⟨k, hk, rfl, HR, HBr⟩ := hrel
    by_cases hlt : k < n
    · obtain ⟨x, hx⟩ := get_of_lt HL.out hlt
      have hcell : wr.cell? ⟨b, o + k, none⟩ = some (.string x) := (HBr.out.cell (p := ⟨b, o + k, none⟩) hb).trans (HC.out k x hx)
      have hfr := HR.out.frozenAt k
      have hst := HR.out.stored k (.string x)
      rw [to_row HL.out hx] at hst
      have hold : ∃ u, wr.cell? ⟨w.heap.size, k, none⟩ = some u := by
        rw [HR.out.cellAt k (by omega)]
        have hl1 := HR.out.1
        exact ⟨_, List.getElem?_eq_getElem (by omega)⟩
      obtain ⟨u, hu⟩ := hold
      have HST := Lib.hid hst
      clear hst hx
      go_wp2
      go_roundw
      case rel => exact ⟨k + 1, by omega, by go_num, HST.out.1, HBr.out.grown HST.out.2 HBr.out.size (by intro j hj; cases hj; exact Nat.le_refl _)⟩
      case measure => simp [intOf]; omega
    · go_wp2
      go_ret
      have hk' : k = n := by omega
      refine ⟨rfl, ?_, HBr.out⟩
      have h := HR.out
      rw [hk', Nat.sub_self, List.replicate_zero, List.append_nil, List.take_of_length_le (by have := HL.out; omega)] at h
      exact h

theorem to_view (ao : Option Addr) (c n : Nat) (xs : List ByteArray) (w : World) (h : View w ao n xs) (hn : n * 16 ≤ 281474976710656) :
    Calls Try.prog 22 #[.slice ao n c] w fun e w' => e = .returned (.slice (some ⟨w.heap.size, 0, none⟩) n n) ∧
      w'.ownsRow w.heap.size 9 1 (.slice (some ⟨w.heap.size, 0, none⟩) n n) n (xs.map Value.string) ∧ Below w.heap.size w w' := by
  obtain ⟨h1, rfl | ⟨b, o, rfl, hb, hc⟩⟩ := h
  · obtain rfl : xs = [] := List.eq_nil_of_length_eq_zero h1
    exact to_zero ao c w
  · exact to_some b o c n xs w h1 hn hb hc

/-! eqStringS, where the lists are the same -/
theorem eqs_zero (ao bo : Option Addr) (c d : Nat) (w : World) :
    Calls Try.prog 18 #[.slice ao 0 c, .slice bo 0 d] w fun e w' => e = .returned (.bool true) ∧ ∃ q, w' = w.drewN q := by
  go_enter Try.func18, Try.ntmps18
  go_wp2
  refine wp_loop_rounds 1 ?_
  rw [rounds_succ]
  go_wp2
  go_ret
  exact ⟨rfl, 0, rfl⟩

set_option maxHeartbeats 400000 in
theorem eqs_some (b o c b2 o2 c2 n : Nat) (xs : List ByteArray) (w : World) (hlen : xs.length = n) (hn : n ≤ maxLen)
    (hc : ∀ j x, xs[j]? = some x → w.cell? ⟨b, o + j, none⟩ = some (.string x)) (hc2 : ∀ j x, xs[j]? = some x → w.cell? ⟨b2, o2 + j, none⟩ = some (.string x)) :
    Calls Try.prog 18 #[.slice (some ⟨b, o, none⟩) n c, .slice (some ⟨b2, o2, none⟩) n c2] w fun e w' => e = .returned (.bool true) ∧ ∃ q, w' = w.drewN q := by
  unfold maxLen at hn
  have HL := Lib.hid hlen
  have HC := Lib.hid hc
  have HC2 := Lib.hid hc2
  clear hlen hc hc2
  go_enter Try.func18, Try.ntmps18
  go_wp2
  go_loopw [5] (fun i wr => ∃ k q : Nat, k ≤ n ∧ i = .int .i64 k ∧ wr = w.drewN q) (fun i _ => n - (intOf i).toNat)
  case atStart => exact ⟨0, 0, Nat.zero_le _, rfl, rfl⟩
  case round =>
    obtain ⟨k, q, hk, rfl, rfl⟩ := hrel
    by_cases hlt : k < n
    · obtain ⟨x, hx⟩ := get_of_lt HL.out hlt
      have h1 := HC.out k x hx
      have h2 := HC2.out k x hx
      clear hx
      go_wp2
      go_quiet (fail)
      go_wp2
      go_roundw
      case rel => exact ⟨k + 1, _, by omega, by go_num, rfl⟩
      case measure => simp [intOf]; omega
    · go_wp2
      go_ret
      exact ⟨rfl, q, rfl⟩

theorem eqs_view (ao bo : Option Addr) (c d n : Nat) (xs : List ByteArray) (w : World) (h : View w ao n xs) (h2 : View w bo n xs) (hn : n ≤ maxLen) :
    Calls Try.prog 18 #[.slice ao n c, .slice bo n d] w fun e w' => e = .returned (.bool true) ∧ ∃ q, w' = w.drewN q := by
  obtain ⟨h1, rfl | ⟨b, o, rfl, _, hc⟩⟩ := h
  · exact eqs_zero ao bo c d w
  · obtain ⟨_, rfl | ⟨b2, o2, rfl, _, hc2⟩⟩ := h2
    · exact eqs_zero _ bo c d w
    · exact eqs_some b o c b2 o2 d n xs w h1 hn hc hc2

end Go.Proofs.Ytoljoifldlpinaa
