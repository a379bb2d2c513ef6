/-
  Contracts: the laws' eqIntS, eqOp, eqOpS, eqAlgebra, where both sides are the same. Conditions: the bounds that each theorem names.
-/
import Derived.Test.YtcmjkfcgekmomaaAlg
import Derived.Deep.RegionHeld3
namespace Go.Proofs.Ytcmjkfcgekmomaa
open Go.RowKit

theorem eqInts_zero (ao bo : Option Addr) (c d : Nat) (w : World) :
    Calls Try.prog 20 #[.slice ao 0 c, .slice bo 0 d] w fun e w' => e = .returned (.bool true) ∧ ∃ q, w' = w.drewN q := by
  go_enter Try.func20, Try.ntmps20
  go_wp2
  refine wp_loop_rounds 1 ?_
  rw [rounds_succ]
  go_wp2
  go_ret
  exact ⟨rfl, 0, rfl⟩

set_option maxHeartbeats 400000 in
theorem eqInts_some (b o c b2 o2 c2 n : Nat) (xs : List Int) (w : World) (hlen : xs.length = n) (hn : n ≤ maxLen)
    (hc : ∀ j x, xs[j]? = some x → w.cell? ⟨b, o + j, none⟩ = some (.int .i64 x)) (hc2 : ∀ j x, xs[j]? = some x → w.cell? ⟨b2, o2 + j, none⟩ = some (.int .i64 x)) :
    Calls Try.prog 20 #[.slice (some ⟨b, o, none⟩) n c, .slice (some ⟨b2, o2, none⟩) n c2] w fun e w' => e = .returned (.bool true) ∧ ∃ q, w' = w.drewN q := by
  unfold maxLen at hn
  have HL := Lib.hid hlen
  have HC := Lib.hid hc
  have HC2 := Lib.hid hc2
  clear hlen hc hc2
  go_enter Try.func20, Try.ntmps20
  go_wp2
  go_loopw [5] (fun i wr => ∃ k q : Nat, k ≤ n ∧ i = .int .i64 k ∧ wr = w.drewN q) (fun i _ => n - (intOf i).toNat)
  case atStart => exact ⟨0, 0, Nat.zero_le _, rfl, rfl⟩
  case round =>
    obtain ⟨k, q, hk, rfl, rfl⟩ := hrel
    by_cases hlt : k < n
    · obtain ⟨x, hx⟩ := get_of_lt HL.out hlt
      have h1 := HC.out k x hx
      have h2 := HC2.out k x hx
      clear hx
      go_wp2
      go_quiet (fail)
      go_wp2
      go_roundw
      case rel => exact ⟨k + 1, _, by omega, by go_num, rfl⟩
      case measure => simp [intOf]; omega
    · go_wp2
      go_ret
      exact ⟨rfl, q, rfl⟩

theorem eqInts_view (lo hi lo2 hi2 : Nat) (ao bo : Option Addr) (c d n : Nat) (xs : List Int) (w : World) (h : IView w lo hi ao n xs) (h2 : IView w lo2 hi2 bo n xs) (hn : n ≤ maxLen) :
    Calls Try.prog 20 #[.slice ao n c, .slice bo n d] w fun e w' => e = .returned (.bool true) ∧ ∃ q, w' = w.drewN q := by
  obtain ⟨h1, rfl | ⟨b, o, rfl, _, _, hc⟩⟩ := h
  · exact eqInts_zero ao bo c d w
  · obtain ⟨_, rfl | ⟨b2, o2, rfl, _, _, hc2⟩⟩ := h2
    · exact eqInts_zero _ bo c d w
    · exact eqInts_some b o c b2 o2 d n xs w h1 hn hc hc2

theorem eqOp_view (lo hi lo2 hi2 : Nat) (r : Int) (ao bo : Option Addr) (c d n : Nat) (xs : List Int) (w : World) (h : IView w lo hi ao n xs) (h2 : IView w lo2 hi2 bo n xs) (hn : n ≤ maxLen) (hh : hi ≤ w.heap.size) (hh2 : hi2 ≤ w.heap.size) :
    Calls Try.prog 96 #[.agg #[.int .i64 r, .slice ao n c], .agg #[.int .i64 r, .slice bo n d]] w fun e w' => e = .returned (.bool true) ∧ Below w.heap.size w w' := by
  have hc := Lib.hid (fun (w1 : World) (hb : Below w.heap.size w w1) => eqInts_view lo hi lo2 hi2 ao bo c d n xs w1 (h.kept (Kept.of_below hb hh)) (h2.kept (Kept.of_below hb hh2)) hn)
  clear h h2 hn
  have hB := Lib.hid (((Below.refl w.heap.size w).alloc (Nat.le_refl _) (.cells #[.int .i64 r, .slice ao n c] 66)).alloc (by simp) (.cells #[.int .i64 r, .slice bo n d] 66))
  go_enter Try.func96, Try.ntmps96
  go_wp2_with fail
  refine (hc.out _ hB.out).mono ?_
  rintro e w1 ⟨rfl, hq⟩
  have hB1 := Lib.hid (below_drawn hB.out hq)
  clear hq
  go_wp2_with fail
  go_ret
  exact ⟨rfl, hB1.out⟩

theorem eqOps_zero (ao bo : Option Addr) (c d : Nat) (w : World) :
    Calls Try.prog 55 #[.slice ao 0 c, .slice bo 0 d] w fun e w' => e = .returned (.bool true) ∧ Below w.heap.size w w' := by
  go_enter Try.func55, Try.ntmps55
  go_wp2
  refine wp_loop_rounds 1 ?_
  rw [rounds_succ]
  go_wp2
  go_ret
  exact ⟨rfl, Below.refl _ _⟩

/-- Four cells that a round reads, and that nothing old has turned. -/
def Four (wr : World) (p0 p1 p2 p3 : Addr) (v0 v1 v2 v3 : Value) (w' : World) : Prop :=
  w'.cell? p0 = some v0 ∧ w'.cell? p1 = some v1 ∧ w'.cell? p2 = some v2 ∧ w'.cell? p3 = some v3 ∧ Below wr.heap.size wr w'

set_option maxHeartbeats 1000000 in
theorem eqOps_some (lo hi lo2 hi2 : Nat) (b o c b2 o2 c2 n : Nat) (fs : List OpD) (w : World) (hlen : fs.length = n) (hn : n ≤ maxLen) (hs : ∀ (j : Nat) (f : OpD), fs[j]? = some f → f.2.length ≤ maxLen) (hh : hi ≤ w.heap.size) (hh2 : hi2 ≤ w.heap.size) (hb : b < hi) (hb2 : b2 < hi2)
    (hc : ∀ j f, fs[j]? = some f → ∃ a m c, w.cell? ⟨b, o + j * 2, none⟩ = some (.int .i64 f.1) ∧ w.cell? ⟨b, o + j * 2 + 1, none⟩ = some (.slice a m c) ∧ m ≤ c ∧ c ≤ maxLen ∧ IView w lo hi a m f.2)
    (hc2 : ∀ j f, fs[j]? = some f → ∃ a m c, w.cell? ⟨b2, o2 + j * 2, none⟩ = some (.int .i64 f.1) ∧ w.cell? ⟨b2, o2 + j * 2 + 1, none⟩ = some (.slice a m c) ∧ m ≤ c ∧ c ≤ maxLen ∧ IView w lo2 hi2 a m f.2) :
    Calls Try.prog 55 #[.slice (some ⟨b, o, none⟩) n c, .slice (some ⟨b2, o2, none⟩) n c2] w fun e w' => e = .returned (.bool true) ∧ Below w.heap.size w w' := by
  unfold maxLen at hn
  have HL := Lib.hid hlen
  have HC := Lib.hid hc
  have HC2 := Lib.hid hc2
  have HSz := Lib.hid hs
  clear hlen hc hc2 hs
  go_enter Try.func55, Try.ntmps55
  go_wp2
  go_loopw [5] (fun i wr => ∃ k : Nat, k ≤ n ∧ i = .int .i64 k ∧ Hid (Below w.heap.size w wr)) (fun i _ => n - (intOf i).toNat)
  case atStart => exact ⟨0, Nat.zero_le _, rfl, Below.refl _ _⟩
  case round =>
    obtain ⟨k, hk, rfl, HB⟩ := hrel
    by_cases hlt : k < n
    · obtain ⟨f, hf⟩ := get_of_lt HL.out hlt
      obtain ⟨a, m, c', c0, c1, _, _, hv⟩ := HC.out k f hf
      obtain ⟨a2, m2, c2', d0, d1, _, _, hv2⟩ := HC2.out k f hf
      have e0 : wr.cell? ⟨b, o + k * 2, none⟩ = some (.int .i64 f.1) := (HB.out.cell (p := ⟨b, _, none⟩) (by show b < _; omega)).trans c0
      have e1 : wr.cell? ⟨b, o + k * 2 + 1, none⟩ = some (.slice a m c') := (HB.out.cell (p := ⟨b, _, none⟩) (by show b < _; omega)).trans c1
      have g0 : wr.cell? ⟨b2, o2 + k * 2, none⟩ = some (.int .i64 f.1) := (HB.out.cell (p := ⟨b2, _, none⟩) (by show b2 < _; omega)).trans d0
      have g1 : wr.cell? ⟨b2, o2 + k * 2 + 1, none⟩ = some (.slice a2 m2 c2') := (HB.out.cell (p := ⟨b2, _, none⟩) (by show b2 < _; omega)).trans d1
      obtain rfl : m2 = m := by have h1 := hv.1; have h2 := hv2.1; omega
      have hm := HSz.out k f hf
      rw [hv.1] at hm
      have hkl := hv.kept (Kept.of_below HB.out hh)
      have hkl2 := hv2.kept (Kept.of_below HB.out hh2)
      have hsz := HB.out.size
      have hcall : ∀ w1, Four wr ⟨b, o + k * 2, none⟩ ⟨b, o + k * 2 + 1, none⟩ ⟨b2, o2 + k * 2, none⟩ ⟨b2, o2 + k * 2 + 1, none⟩ (.int .i64 f.1) (.slice a m2 c') (.int .i64 f.1) (.slice a2 m2 c2') w1 →
          Calls Try.prog 96 #[.agg #[.int .i64 f.1, .slice a m2 c'], .agg #[.int .i64 f.1, .slice a2 m2 c2']] w1 fun e w' => e = .returned (.bool true) ∧ Four wr ⟨b, o + k * 2, none⟩ ⟨b, o + k * 2 + 1, none⟩ ⟨b2, o2 + k * 2, none⟩ ⟨b2, o2 + k * 2 + 1, none⟩ (.int .i64 f.1) (.slice a m2 c') (.int .i64 f.1) (.slice a2 m2 c2') w' := by
        intro w1 ⟨q0, q1, q2, q3, q4⟩
        have hz := q4.size
        refine (eqOp_view lo hi lo2 hi2 f.1 a a2 c' c2' m2 f.2 w1 (hkl.kept (Kept.of_below q4 (by omega))) (hkl2.kept (Kept.of_below q4 (by omega))) hm (by omega) (by omega)).mono fun e w' ⟨he, hb'⟩ => ⟨he, ?_, ?_, ?_, ?_, q4.trans (hb'.mono hz)⟩
        · exact (hb'.cell (World.block_lt_of_cell? w1 _ q0)).trans q0
        · exact (hb'.cell (World.block_lt_of_cell? w1 _ q1)).trans q1
        · exact (hb'.cell (World.block_lt_of_cell? w1 _ q2)).trans q2
        · exact (hb'.cell (World.block_lt_of_cell? w1 _ q3)).trans q3
      obtain ⟨r, hr⟩ : ∃ r, f.1 = r := ⟨_, rfl⟩
      rw [hr] at e0 g0 hcall
      have HCall := Lib.hid hcall
      clear hf hv hv2 c0 c1 d0 d1 hr hkl hkl2 hcall hm
      have hw0 : Below wr.heap.size wr wr.drew := (Below.refl _ _).drew
      go_wp2_with fail
      unfold Four at HCall
      go_region_held3 (fun w' => w'.cell? ⟨b, o + k * 2, none⟩ = some (.int .i64 r) ∧ w'.cell? ⟨b, o + k * 2 + 1, none⟩ = some (.slice a m2 c') ∧ w'.cell? ⟨b2, o2 + k * 2, none⟩ = some (.int .i64 r) ∧ w'.cell? ⟨b2, o2 + k * 2 + 1, none⟩ = some (.slice a2 m2 c2') ∧ Below wr.heap.size wr w') (first | assumption | go_keep) ((go_at_call 96; refine (HCall.out _ ?_).mono ?_; exact ⟨by assumption, by assumption, by assumption, by assumption, by assumption⟩; rintro e w2 ⟨rfl, hS⟩))
      have HB2 : Hid (Below w.heap.size w w2) := HB.out.trans (hS.2.2.2.2.mono HB.out.size)
      clear hS hw0 e0 e1 g0 g1
      go_wp2
      go_roundw
      case rel => exact ⟨k + 1, by omega, by go_num, HB2⟩
      case measure => simp [intOf]; omega
    · go_wp2
      go_ret
      exact ⟨rfl, HB.out⟩

theorem eqOps_view (lo hi lo2 hi2 : Nat) (ao bo : Option Addr) (c d n : Nat) (fs : List OpD) (w : World) (h : OView w lo hi ao n fs) (h2 : OView w lo2 hi2 bo n fs) (hn : n ≤ maxLen) (hs : ∀ (j : Nat) (f : OpD), fs[j]? = some f → f.2.length ≤ maxLen) (hh : hi ≤ w.heap.size) (hh2 : hi2 ≤ w.heap.size) :
    Calls Try.prog 55 #[.slice ao n c, .slice bo n d] w fun e w' => e = .returned (.bool true) ∧ Below w.heap.size w w' := by
  obtain ⟨h1, rfl | ⟨b, o, rfl, _, hb, hc⟩⟩ := h
  · exact eqOps_zero ao bo c d w
  · obtain ⟨_, rfl | ⟨b2, o2, rfl, _, hb2, hc2⟩⟩ := h2
    · exact eqOps_zero _ bo c d w
    · exact eqOps_some lo hi lo2 hi2 b o c b2 o2 d n fs w h1 hn hs hh hh2 hb hb2 hc hc2

theorem eqAlg_view (lo hi lo2 hi2 : Nat) (z : Int) (ao bo : Option Addr) (c d n : Nat) (fs : List OpD) (w : World) (h : OView w lo hi ao n fs) (h2 : OView w lo2 hi2 bo n fs) (hn : n ≤ maxLen) (hs : ∀ (j : Nat) (f : OpD), fs[j]? = some f → f.2.length ≤ maxLen) (hh : hi ≤ w.heap.size) (hh2 : hi2 ≤ w.heap.size) :
    Calls Try.prog 21 #[.agg #[.int .i64 z, .slice ao n c], .agg #[.int .i64 z, .slice bo n d]] w fun e w' => e = .returned (.bool true) ∧ Below w.heap.size w w' := by
  have hc := Lib.hid (fun (w1 : World) (hb : Below w.heap.size w w1) => eqOps_view lo hi lo2 hi2 ao bo c d n fs w1 (h.kept (Kept.of_below hb hh)) (h2.kept (Kept.of_below hb hh2)) hn hs (by have := hb.size; omega) (by have := hb.size; omega))
  clear h h2 hn hs
  have hB := Lib.hid (((Below.refl w.heap.size w).alloc (Nat.le_refl _) (.cells #[.int .i64 z, .slice ao n c] 31)).alloc (by simp) (.cells #[.int .i64 z, .slice bo n d] 31))
  go_enter Try.func21, Try.ntmps21
  go_wp2_with fail
  refine (hc.out _ hB.out).mono ?_
  rintro e w1 ⟨rfl, hq⟩
  have hB1 := Lib.hid (hB.out.trans (hq.mono hB.out.size))
  clear hq
  go_wp2_with fail
  go_ret
  exact ⟨rfl, hB1.out⟩

end Go.Proofs.Ytcmjkfcgekmomaa
