/-
  The walk of the law FnExactSplitString: it returns true for every string and separator, and leaves what lay there as it was. Conditions: the lengths are at most maxLen.
-/
import Derived.Test.YtoljoifldlpinaaSpecSplit
import Derived.Test.YtoljoifldlpinaaImplSplit
import Derived.Test.YtoljoifldlpinaaMark
import Derived.Test.YtoljoifldlpinaaStrs
import Derived.Test.YtoljoifldlpinaaJoin
namespace Go.Proofs.Ytoljoifldlpinaa
open Go.RowKit

set_option maxHeartbeats 1000000 in
theorem lawSplitGood (s : ByteArray) (c : UInt8) (w : World) (hs : s.size ≤ 4000) :
    Calls Try.prog 4 #[.string s, .string ⟨#[c]⟩] w fun e w' => e = .returned (.bool true) ∧ Below w.heap.size w w' := by
  have hS := Lib.hid (specSplit_good s c w hs)
  have hI := Lib.hid (fun w => implSplit_good s c w hs)
  have hle := parts_le s c
  obtain ⟨ps, hp⟩ : ∃ ps, ps = parts s c := ⟨_, rfl⟩
  rw [← hp] at hS hI hle
  obtain ⟨n, hn⟩ : ∃ n, n = ps.length := ⟨_, rfl⟩
  have hnn : n ≤ 4002 := by omega
  have HN := Lib.hid hn
  have h1 : (⟨#[c]⟩ : ByteArray).size = 1 := rfl
  clear hp hle hn
  go_enter Try.func4, Try.ntmps4
  go_wp2_with fail
  refine hS.out.mono ?_
  rintro e w1 ⟨ga, ca, rfl, oa, b1⟩
  rw [← HN.out] at oa ⊢
  have VA1 := Lib.hid (View.of_owns oa)
  have B1 := Lib.hid b1
  clear oa b1
  go_wp2_with fail
  refine (hI.out _).mono ?_
  rintro e w2 ⟨gb, cb, rfl, ob, b2⟩
  rw [← HN.out] at ob ⊢
  have hsz2 := b2.size
  have VA2 := Lib.hid (VA1.out.below b2)
  have VA2w : Hid (View w2 (some ⟨ga, 0, none⟩) n ps) := VA2.out
  have B2 := Lib.hid (B1.out.trans (b2.mono B1.out.size))
  have OB2 := Lib.hid ob
  have VB2 := Lib.hid (View.of_owns ob)
  have HA1 := Lib.hid b2
  clear ob b2 VA2w
  go_wp2_with fail
  refine (eqs_view _ _ _ _ n ps _ VB2.out VA2.out (by unfold maxLen; omega)).mono ?_
  rintro e w3 ⟨rfl, q3, rfl⟩
  go_wp2_with fail
  refine (markS_own w1.heap.size gb n cb _ (w2.drewN q3) (by omega) hsz2 OB2.out).mono ?_
  rintro e w4 ⟨rfl, ob4, b4⟩
  have OB4 := Lib.hid ob4
  have VA4 : Hid (View w4 (some ⟨ga, 0, none⟩) n ps) := VA1.out.below ((below_drewN HA1.out q3).trans b4)
  have B4 : Hid (Below w.heap.size w w4) := (below_drewN B2.out q3).trans (b4.mono B1.out.size)
  clear ob4 b4 VA2 VB2 OB2 HA1 hsz2 B2
  go_wp2_with fail
  refine (heldS_own _ gb n cb _ (by omega) OB4.out).mono ?_
  rintro e w5 ⟨rfl, b5⟩
  have OB5 := Lib.hid (OB4.out.kept (grown_of_below b5 none) (own_em _))
  have VA5 := Lib.hid (VA4.out.below b5)
  have B5 := Lib.hid (B4.out.trans (b5.mono B4.out.size))
  clear b5 OB4 VA4 B4
  go_wp2_with fail
  refine (hI.out _).mono ?_
  rintro e w6 ⟨gc, cc, rfl, oc, b6⟩
  rw [← HN.out] at oc ⊢
  have OB6 := Lib.hid (OB5.out.kept (grown_of_below b6 none) (own_em _))
  have VA6 := Lib.hid (VA5.out.below b6)
  have VC6 := Lib.hid (View.of_owns oc)
  have B6 := Lib.hid (B5.out.trans (b6.mono B5.out.size))
  clear b6 oc OB5 VA5 B5
  go_wp2_with fail
  refine (eqs_view _ _ _ _ n ps _ VC6.out VA6.out (by unfold maxLen; omega)).mono ?_
  rintro e w7 ⟨rfl, q7, rfl⟩
  go_wp2_with fail
  refine (heldS_own w1.heap.size gb n cb (w6.drewN q7) (by omega) OB6.out).mono ?_
  rintro e w8 ⟨rfl, b8⟩
  have B8 := Lib.hid ((below_drewN B6.out q7).trans (b8.mono B6.out.size))
  clear b8
  go_wp2_with fail
  go_ret
  exact ⟨rfl, B8.out⟩

set_option maxHeartbeats 1000000 in
theorem lawSplitBad (s sep : ByteArray) (w : World) (hs : s.size ≤ 1048576) (hsep : sep.size ≤ 1048576) (hb : 4000 < s.size ∨ sep.size ≠ 1) :
    Calls Try.prog 4 #[.string s, .string sep] w fun e w' => e = .returned (.bool true) ∧ Below w.heap.size w w' := by
  have hS := Lib.hid (specSplit_bad s sep w hb)
  have hI := Lib.hid (fun w => implSplit_bad s sep w hb)
  clear hb
  go_enter Try.func4, Try.ntmps4
  go_wp2_with fail
  refine hS.out.mono ?_
  rintro e w1 ⟨⟨a, rfl⟩, b1⟩
  have B1 := Lib.hid b1
  clear b1
  go_wp2_with fail
  refine (hI.out _).mono ?_
  rintro e w2 ⟨rfl, rfl⟩
  go_wp2_with fail
  refine (eqs_zero _ _ _ _ _).mono ?_
  rintro e w3 ⟨rfl, q3, rfl⟩
  go_wp2_with fail
  refine (markS_zero _ _ _).mono ?_
  rintro e w4 ⟨rfl, rfl⟩
  go_wp2_with fail
  refine (heldS_zero _ _ _).mono ?_
  rintro e w4 ⟨rfl, rfl⟩
  go_wp2_with fail
  refine (hI.out _).mono ?_
  rintro e w2 ⟨rfl, rfl⟩
  go_wp2_with fail
  refine (eqs_zero _ _ _ _ _).mono ?_
  rintro e w3 ⟨rfl, q4, rfl⟩
  go_wp2_with fail
  refine (heldS_zero _ _ _).mono ?_
  rintro e w4 ⟨rfl, rfl⟩
  go_wp2_with fail
  go_ret
  exact ⟨rfl, by first | exact below_drewN (below_drewN B1.out q3) q4 | exact below_drewN B1.out _⟩

theorem lawSplit (s sep : ByteArray) (w : World) (hs : s.size ≤ maxLen) (hsep : sep.size ≤ maxLen) :
    Calls Try.prog 4 #[.string s, .string sep] w fun e w' => e = .returned (.bool true) ∧ Below w.heap.size w w' := by
  unfold maxLen at hs hsep
  by_cases h1 : s.size ≤ 1048576
  · by_cases h2 : sep.size ≤ 1048576
    · by_cases h3 : 4000 < s.size ∨ sep.size ≠ 1
      · exact lawSplitBad s sep w h1 h2 h3
      · obtain ⟨c, rfl⟩ := one_byte (show sep.size = 1 by omega)
        exact lawSplitGood s c w (by omega)
    · go_enter Try.func4, Try.ntmps4
      go_wp2
      go_ret
      exact ⟨rfl, Below.refl _ _⟩
  · go_enter Try.func4, Try.ntmps4
    go_wp2
    go_ret
    exact ⟨rfl, Below.refl _ _⟩

end Go.Proofs.Ytoljoifldlpinaa
