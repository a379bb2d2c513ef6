/-
  Contract: the law FnSplitJoin returns true, and leaves every block as it was. Condition: each cell of the code is a byte.
-/
import Derived.Test.YtoljoifldlpinaaDrawJoin
import Derived.Test.YtoljoifldlpinaaBack
import Derived.Test.YtoljoifldlpinaaImplSplit
import Derived.Test.YtoljoifldlpinaaLawJoin
namespace Go.Proofs.Ytoljoifldlpinaa
open Go.RowKit

theorem less_asym : ∀ x y : List UInt8, Op.bytesLess x y = true → Op.bytesLess y x = false
  | _, [], h => by simp [Op.bytesLess] at h
  | [], _ :: _, _ => rfl
  | a :: x, b :: y, h => by
    rw [Op.bytesLess, Bool.or_eq_true, Bool.and_eq_true, decide_eq_true_eq] at h
    rw [Op.bytesLess, Bool.or_eq_false_iff, Bool.and_eq_false_iff, decide_eq_false_iff_not]
    rcases h with h | ⟨h1, h2⟩
    · refine ⟨fun h3 => ?_, .inl ?_⟩
      · have := UInt8.lt_iff_toNat_lt.1 h; have := UInt8.lt_iff_toNat_lt.1 h3; omega
      · rw [beq_eq_false_iff_ne]; rintro rfl; have := UInt8.lt_iff_toNat_lt.1 h; omega
    · obtain rfl : a = b := by simpa using h1
      refine ⟨fun h3 => ?_, .inr (less_asym x y h2)⟩
      have := UInt8.lt_iff_toNat_lt.1 h3; omega
theorem less_impl (a b : ByteArray) (w : World) :
    Calls Try.prog 15 #[.string a, .string b] w fun e w' => e = .returned (.bool (Op.bytesLess a.toList b.toList)) ∧ w = w' := by
  go_enter Try.func15, Try.ntmps15
  go_wp2
  go_ret
  exact ⟨rfl, rfl⟩
theorem less_spec (a b : ByteArray) (w : World) :
    Calls Try.prog 16 #[.string a, .string b] w fun e w' => e = .returned (.bool (Op.bytesLess a.toList b.toList)) ∧ w = w' := by
  go_enter Try.func16, Try.ntmps16
  go_wp2
  go_ret
  exact ⟨rfl, rfl⟩

theorem CodeOk.up {w : World} {B B' n : Nat} {ao : Option Addr} (h : CodeOk w B ao n) (hb : B ≤ B') : CodeOk w B' ao n := by
  rcases h with h | ⟨b, o, h1, h2, h3⟩
  · exact .inl h
  · exact .inr ⟨b, o, h1, by omega, h3⟩
theorem CodeOk.below {w w' : World} {n : Nat} {ao : Option Addr} (h : CodeOk w w.heap.size ao n) (hb : Below w.heap.size w w') : CodeOk w' w'.heap.size ao n :=
  (h.kept hb.block).up hb.size
theorem view_own {w : World} {B e : Nat} {v : Value} {xs : List ByteArray} (h : w.ownsRow B e 1 v xs.length (xs.map Value.string)) : ∃ ao cap, v = .slice ao xs.length cap ∧ xs.length ≤ cap ∧ View w ao xs.length xs := by
  rcases h.2 with ⟨hv, hn⟩ | ⟨g, cap, cur, rfl, _, _, hc, _⟩
  · refine ⟨none, 0, ?_, by omega, rfl, .inl hn⟩
    rw [hv, hn]
  · exact ⟨_, cap, rfl, hc, View.of_owns h⟩
theorem short_blens {xs : List ByteArray} (h : Short xs) : blens xs ≤ 4020 * xs.length := by
  induction xs with
  | nil => simp [blens]
  | cons x r ih =>
    have h0 := h 0 x rfl
    have h1 := ih (fun j y hy => h (j + 1) y hy)
    simp only [blens, List.map_cons, List.sum_cons, List.length_cons] at h1 ⊢
    omega

set_option maxHeartbeats 1000000 in
theorem lawBack (ao : Option Addr) (n cap : Nat) (w : World) (h : CodeOk w w.heap.size ao n) :
    Calls Try.prog 3 #[.slice ao n cap] w fun e w' => e = .returned (.bool true) ∧ Below w.heap.size w w' := by
  by_cases hn : 65536 < n
  · go_enter Try.func3, Try.ntmps3
    go_wp2_with fail
    refine (big_any ao n cap w).mono ?_
    rw [decide_eq_true hn]
    rintro e w' ⟨rfl, rfl⟩
    go_wp2_with fail
    go_ret
    exact ⟨rfl, Below.refl _ _⟩
  have HC := Lib.hid h
  clear h
  go_enter Try.func3, Try.ntmps3
  go_wp2_with fail
  refine (big_any ao n cap w).mono ?_
  rw [decide_eq_false hn]
  rintro e w' ⟨rfl, rfl⟩
  go_wp2_with fail
  refine (DrawSplit_any ao n cap w HC.out (by omega)).mono ?_
  rintro e w1 ⟨s, sep, rfl, hs, hsep, b1⟩
  have B1 := Lib.hid b1
  clear b1
  go_wp2_with fail
  by_cases hz : sep.size = 1
  · obtain ⟨c, rfl⟩ := one_byte hz
    refine (implSplit_good s c w1 (by omega)).mono ?_
    rintro e w2 ⟨g, gc, rfl, o2, b2⟩
    obtain ⟨hgc, hv2⟩ : (parts s c).length ≤ gc ∧ View w2 (some ⟨g, 0, none⟩) (parts s c).length (parts s c) := by
      obtain ⟨ao', cap', he, h1, h2⟩ := view_own o2
      cases he
      exact ⟨h1, h2⟩
    have P2 := Lib.hid hv2
    have B2 := Lib.hid (B1.out.trans (b2.mono B1.out.size))
    have PI := Lib.hid (parts_is s c (by omega))
    have hpl := parts_le s c
    have hpb : blens (parts s c) + (parts s c).length ≤ 4001 := by
      have := parts_fit s c (by omega)
      unfold fitsB at this
      rw [Bool.and_eq_true, decide_eq_true_eq] at this
      exact this.1
    have HPS := Lib.hid (And.intro hpl hpb)
    obtain ⟨ps, hps⟩ : ∃ ps, ps = parts s c := ⟨_, rfl⟩
    rw [← hps] at P2 PI HPS hgc
    rw [← hps]
    clear o2 b2 hv2 hpl hpb hps
    go_wp2_with fail
    refine (DrawJoin_any ao n cap w2 (HC.out.below B2.out) (by omega)).mono ?_
    rintro e w3 ⟨v, xs, mk, rfl, hS, hmk, hx4, b3, o3⟩
    obtain ⟨ko, kc, rfl, hkc, v3⟩ := view_own o3
    have hbl := short_blens hS
    have V3 := Lib.hid v3
    have B3 := Lib.hid (B2.out.trans (b3.mono B2.out.size))
    have P3 := Lib.hid (P2.out.below b3)
    obtain ⟨⟨js, jb⟩, hj⟩ : ∃ p, joinRes xs mk = p := ⟨_, rfl⟩
    have HJ := Lib.hid (show JoinIs xs mk js jb from hj)
    clear hS b3 o3 v3 hj
    go_wp2_with fail
    refine (implJoin_view _ _ _ xs mk js jb _ V3.out (by omega) hkc HJ.out).mono ?_
    rintro e w4 ⟨rfl, b4⟩
    have V4 := Lib.hid (V3.out.below b4)
    have B4 := Lib.hid (B3.out.trans (b4.mono B3.out.size))
    have P4 := Lib.hid (P3.out.below b4)
    clear b4
    go_wp2_with fail
    refine (specJoin_view _ _ _ xs mk js jb _ V4.out (by omega) HJ.out).mono ?_
    rintro e w5 ⟨rfl, d5⟩
    have b5 := below_drawn (Below.refl w4.heap.size w4) d5
    have B5 := Lib.hid (B4.out.trans (b5.mono B4.out.size))
    have P5 := Lib.hid (P4.out.below b5)
    clear b5 d5
    go_wp2_with fail
    refine (DrawLess_any ao n cap w5 (HC.out.below B5.out) (by omega)).mono ?_
    rintro e w6 ⟨x, y, rfl, hx, hy, b6⟩
    have B6 := Lib.hid (B5.out.trans (b6.mono B5.out.size))
    have P6 := Lib.hid (P5.out.below b6)
    obtain ⟨r1, hr1⟩ : ∃ r, Op.bytesLess x.toList y.toList = r := ⟨_, rfl⟩
    obtain ⟨r2, hr2⟩ : ∃ r, Op.bytesLess y.toList x.toList = r := ⟨_, rfl⟩
    have ha := less_asym x.toList y.toList
    rw [hr1, hr2] at ha
    have l1 := less_impl x y w6
    have l2 := less_spec x y w6
    have l3 := less_impl y x w6
    rw [hr1] at l1 l2
    rw [hr2] at l3
    have L1 := Lib.hid l1
    have L2 := Lib.hid l2
    have L3 := Lib.hid l3
    clear l1 l2 l3 hr1 hr2 b6
    go_wp2_with fail
    refine L1.out.mono ?_
    rintro e w' ⟨rfl, rfl⟩
    go_wp2_with fail
    refine L2.out.mono ?_
    rintro e w' ⟨rfl, rfl⟩
    cases r1 with
    | true =>
      have hr2 := ha rfl
      subst hr2
      go_wp2_with fail
      refine L1.out.mono ?_
      rintro e w' ⟨rfl, rfl⟩
      go_wp2_with fail
      refine L3.out.mono ?_
      rintro e w' ⟨rfl, rfl⟩
      go_wp2_with fail
      refine (implJoin_view _ _ _ ps ⟨#[c]⟩ s true _ P6.out (by have := HPS.out; omega) hgc PI.out).mono ?_
      rintro e w7 ⟨rfl, b7⟩
      have B7 := Lib.hid (B6.out.trans (b7.mono B6.out.size))
      clear b7
      go_wp2_with fail
      go_ret
      exact ⟨rfl, B7.out⟩
    | false =>
      go_wp2_with fail
      refine L1.out.mono ?_
      rintro e w' ⟨rfl, rfl⟩
      go_wp2_with fail
      refine (implJoin_view _ _ _ ps ⟨#[c]⟩ s true _ P6.out (by have := HPS.out; omega) hgc PI.out).mono ?_
      rintro e w7 ⟨rfl, b7⟩
      have B7 := Lib.hid (B6.out.trans (b7.mono B6.out.size))
      clear b7
      go_wp2_with fail
      go_ret
      exact ⟨rfl, B7.out⟩
  · refine (implSplit_bad s sep w1 (.inr hz)).mono ?_
    rintro e w2 ⟨rfl, rfl⟩
    have B2 := B1
    have h2 : ((sep.size : Int) != 1) = true := by rw [bne_iff_ne]; omega
    have h3 : ((sep.size : Int) == 1) = false := by rw [beq_eq_false_iff_ne]; omega
    go_wp2_with fail
    refine (DrawJoin_any ao n cap w1 (HC.out.below B2.out) (by omega)).mono ?_
    rintro e w3 ⟨v, xs, mk, rfl, hS, hmk, hx4, b3, o3⟩
    obtain ⟨ko, kc, rfl, hkc, v3⟩ := view_own o3
    have hbl := short_blens hS
    have V3 := Lib.hid v3
    have B3 := Lib.hid (B2.out.trans (b3.mono B2.out.size))
    obtain ⟨⟨js, jb⟩, hj⟩ : ∃ p, joinRes xs mk = p := ⟨_, rfl⟩
    have HJ := Lib.hid (show JoinIs xs mk js jb from hj)
    clear hS b3 o3 v3 hj
    go_wp2_with fail
    refine (implJoin_view _ _ _ xs mk js jb _ V3.out (by omega) hkc HJ.out).mono ?_
    rintro e w4 ⟨rfl, b4⟩
    have V4 := Lib.hid (V3.out.below b4)
    have B4 := Lib.hid (B3.out.trans (b4.mono B3.out.size))
    clear b4
    go_wp2_with fail
    refine (specJoin_view _ _ _ xs mk js jb _ V4.out (by omega) HJ.out).mono ?_
    rintro e w5 ⟨rfl, d5⟩
    have b5 := below_drawn (Below.refl w4.heap.size w4) d5
    have B5 := Lib.hid (B4.out.trans (b5.mono B4.out.size))
    clear b5 d5
    go_wp2_with fail
    refine (DrawLess_any ao n cap w5 (HC.out.below B5.out) (by omega)).mono ?_
    rintro e w6 ⟨x, y, rfl, hx, hy, b6⟩
    have B6 := Lib.hid (B5.out.trans (b6.mono B5.out.size))
    obtain ⟨r1, hr1⟩ : ∃ r, Op.bytesLess x.toList y.toList = r := ⟨_, rfl⟩
    obtain ⟨r2, hr2⟩ : ∃ r, Op.bytesLess y.toList x.toList = r := ⟨_, rfl⟩
    have ha := less_asym x.toList y.toList
    rw [hr1, hr2] at ha
    have l1 := less_impl x y w6
    have l2 := less_spec x y w6
    have l3 := less_impl y x w6
    rw [hr1] at l1 l2
    rw [hr2] at l3
    have L1 := Lib.hid l1
    have L2 := Lib.hid l2
    have L3 := Lib.hid l3
    clear l1 l2 l3 hr1 hr2 b6
    go_wp2_with fail
    refine L1.out.mono ?_
    rintro e w' ⟨rfl, rfl⟩
    go_wp2_with fail
    refine L2.out.mono ?_
    rintro e w' ⟨rfl, rfl⟩
    cases r1 with
    | true =>
      have hr2 := ha rfl
      subst hr2
      go_wp2_with fail
      refine L1.out.mono ?_
      rintro e w' ⟨rfl, rfl⟩
      go_wp2_with fail
      refine L3.out.mono ?_
      rintro e w' ⟨rfl, rfl⟩
      go_wp2_with fail
      go_ret
      exact ⟨rfl, B6.out⟩
    | false =>
      go_wp2_with fail
      refine L1.out.mono ?_
      rintro e w' ⟨rfl, rfl⟩
      go_wp2_with fail
      go_ret
      exact ⟨rfl, B6.out⟩

end Go.Proofs.Ytoljoifldlpinaa
