/-
  The walk of the law FnExactJoinStrings: it returns true for every list of strings and every separator, and leaves what lay there as it was. Conditions: the lengths are at most maxLen.
-/
import Derived.Test.YtoljoifldlpinaaSpecJoin
import Derived.Test.YtoljoifldlpinaaStrs
namespace Go.Proofs.Ytoljoifldlpinaa
open Go.RowKit

theorem specJoin_view (ao : Option Addr) (c n : Nat) (xs : List ByteArray) (sep js : ByteArray) (jb : Bool) (w : World) (h : View w ao n xs) (hn : n + blens xs ≤ 4611686018427387904) (hj : JoinIs xs sep js jb) :
    Calls Try.prog 13 #[.slice ao n c, .string sep] w fun e w' => JoinEnd js jb e ∧ ∃ q, w' = w.drewN q := by
  by_cases hs : sep.size = 1
  · rcases Nat.eq_zero_or_pos n with h0 | h0
    · subst h0
      have hx := List.eq_nil_of_length_eq_zero h.1
      subst hx
      exact (specJoin_none ao c sep w hs).mono fun e w' ⟨he, hw⟩ => ⟨hj.bad (by rintro ⟨_, h, _⟩; exact absurd h (by simp)) he, 0, hw ▸ rfl⟩
    · obtain ⟨sp, rfl⟩ := one_byte hs
      obtain ⟨hl, h2 | ⟨b, o, rfl, hb, hc⟩⟩ := h
      · omega
      refine (specJoin_some b o c n xs sp w h0 hl hn hc).mono fun e w' ⟨he, hw⟩ => ⟨?_, hw⟩
      cases hf : fitsB xs sp with
      | false => exact hj.bad (by rintro ⟨_, _, h⟩; rw [show (⟨#[sp]⟩ : ByteArray).data.toList.headD 0 = sp from rfl, hf] at h; cases h) (he.2 hf)
      | true => exact hj.good ⟨rfl, by omega, hf⟩ (he.1 hf)
  · exact (specJoin_sep ao c n sep w hs).mono fun e w' ⟨he, hw⟩ => ⟨hj.bad (fun h => hs h.1) he, 0, hw ▸ rfl⟩

set_option maxHeartbeats 1000000 in
theorem lawJoin (ao : Option Addr) (c n : Nat) (xs : List ByteArray) (sep : ByteArray) (w : World) (h : View w ao n xs) (hn : n ≤ maxLen) (hs : ∀ (j : Nat) (x : ByteArray), xs[j]? = some x → x.size ≤ maxLen) (hsep : sep.size ≤ maxLen) :
    Calls Try.prog 5 #[.slice ao n c, .string sep] w fun e w' => e = .returned (.bool true) ∧ Below w.heap.size w w' := by
  unfold maxLen at hsep
  by_cases h1 : sep.size ≤ 1048576
  · by_cases h2 : n + blens xs ≤ 1048576
    · have hsz := sz_view ao c n xs w h hn hs
      obtain ⟨l, hl, hl0⟩ : ∃ l : Int, szOf (n + blens xs) = l ∧ 0 ≤ l := ⟨_, szOf_yes h2, by omega⟩
      rw [hl] at hsz
      obtain ⟨⟨js, jb⟩, hj⟩ : ∃ p, joinRes xs sep = p := ⟨_, rfl⟩
      have HJ : Hid (JoinIs xs sep js jb) := hj
      have HV := Lib.hid h
      have HSz := Lib.hid hsz
      clear hj h hsz hl hs hn
      go_enter Try.func5, Try.ntmps5
      go_wp2_with fail
      refine HSz.out.mono ?_
      rintro e w' ⟨rfl, rfl⟩
      go_wp2_with fail
      refine (to_view ao c n xs _ HV.out (by omega)).mono ?_
      rintro e w1 ⟨rfl, o1, b1⟩
      have v1 := Lib.hid (View.of_owns o1)
      have B1 := Lib.hid b1
      clear o1 b1
      go_wp2_with fail
      refine (specJoin_view _ _ n xs sep js jb _ v1.out (by omega) HJ.out).mono ?_
      rintro e w2 ⟨rfl, d2⟩
      have B2 := Lib.hid (below_drawn B1.out d2)
      have V2 := Lib.hid (HV.out.below B2.out)
      clear d2 v1 B1
      go_wp2_with fail
      refine (to_view ao c n xs _ V2.out (by omega)).mono ?_
      rintro e w3 ⟨rfl, o3, b3⟩
      have v3 := Lib.hid (View.of_owns o3)
      have s3 := b3.size
      have B3 := Lib.hid (B2.out.trans (b3.mono B2.out.size))
      have V3 := Lib.hid (V2.out.below b3)
      clear o3 b3 s3 B2 V2
      go_wp2_with fail
      refine (implJoin_view _ _ n xs sep js jb _ v3.out (by omega) (Nat.le_refl _) HJ.out).mono ?_
      rintro e w4 ⟨rfl, b4⟩
      have v4 := Lib.hid (v3.out.below b4)
      have B4 := Lib.hid (B3.out.trans (b4.mono B3.out.size))
      have V4 := Lib.hid (V3.out.below b4)
      clear b4 v3 B3 V3
      go_wp2_with fail
      refine (to_view ao c n xs _ V4.out (by omega)).mono ?_
      rintro e w5 ⟨rfl, o5, b5⟩
      have v5 := Lib.hid (View.of_owns o5)
      have v6 := Lib.hid (v4.out.below b5)
      have B5 := Lib.hid (B4.out.trans (b5.mono B4.out.size))
      clear o5 b5 v4 B4 V4
      go_wp2_with fail
      refine (eqs_view _ _ _ _ n xs _ v6.out v5.out (by unfold maxLen; omega)).mono ?_
      rintro e w6 ⟨rfl, d6⟩
      have B6 := Lib.hid (below_drawn B5.out d6)
      clear d6 v5 v6 B5
      go_wp2_with fail
      go_ret
      exact ⟨rfl, B6.out⟩
    · have hsz := sz_view ao c n xs w h hn hs
      rw [szOf_no (by omega)] at hsz
      have HSz := Lib.hid hsz
      clear h hsz hs hn
      go_enter Try.func5, Try.ntmps5
      go_wp2_with fail
      refine HSz.out.mono ?_
      rintro e w' ⟨rfl, rfl⟩
      go_wp2_with fail
      go_ret
      exact ⟨rfl, Below.refl _ _⟩
  · clear h hs hn
    go_enter Try.func5, Try.ntmps5
    go_wp2_with fail
    go_ret
    exact ⟨rfl, Below.refl _ _⟩

end Go.Proofs.Ytoljoifldlpinaa
