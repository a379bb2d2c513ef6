/-
  Proved: both FirstBroken tell the same index, for every algebra and list of identities. The only condition: an argument longer than the form's reach is not spoken of.
-/
import Derived.Test.YtplheohkecooeaaIdl
import Derived.Test.YtplheohkecooeaaArgsL
import Derived.Test.YtplheohkecooeaaStep
import Derived.Deep.DrawnRows
import Derived.Deep.RegionHeld3
import Derived.Test.YtplheohkecooeaaBrk
import Derived.Test.YtplheohkecooeaaRows
import Derived.Carry
import Derived.ProofKit
import Derived.OpenShut
namespace Go.Proofs.Ytplheohkecooeaa
open Go.ChangeShapes Go.WideShapes Go.ChangeAt Go.RowKit Go.Joins
set_option linter.unusedVariables false
set_option linter.unusedSimpArgs false

theorem readIdl : Try.prog.readableRec 70 = true := by kernel_rfl
theorem rowIdl : 70 < Try.prog.types.size := of_decide_eq_true (by kernel_rfl)

section
variable {H : Type} {enc : TypeId × Value → H} {W : World} {base : Nat}
set_option maxRecDepth 100000 in
theorem arg_idl {v : Value} {d : DataW H} {p : List MemPlace} (hv : Value.okWide Try.prog W .any base 70 v) (h : DataW.Trod enc Try.prog W 0 (fun _ => true) true 70 v d p) :
    ∃ ao n c, ∃ es : List IdD, v = .slice ao n c ∧ n ≤ c ∧ c ≤ maxLen ∧ DView W 0 W.heap.size ao n es ∧ (∀ e, e ∈ es → (∀ x, x ∈ e.1 → (Lit.int .i64 x).wf = true) ∧ (∀ x, x ∈ e.2 → (Lit.int .i64 x).wf = true)) := by
  obtain ⟨ao, n, c, rfl⟩ := okWide_slice Try.underlying70 hv
  obtain ⟨fuel, hf⟩ := h
  rcases Go.Deep.open_slice_pairs Try.underlying70 Try.underlying60 (by kernel_rfl) (by kernel_rfl) (by kernel_rfl) (by kernel_rfl) (by kernel_rfl) hf with ⟨hcs, _⟩ | ⟨a, len, cap, m, k', V0, V1, D0, D1, P0, P1, hcs, _, hl, hm, hmm, _, hx⟩
  · simp [Value.cells] at hcs
    obtain ⟨rfl, rfl, rfl⟩ := hcs
    exact ⟨_, _, _, [], rfl, Nat.le_refl _, Nat.zero_le _, ⟨rfl, .inl rfl⟩, fun x hx => by simp at hx⟩
  · simp only [if_true] at hmm
    subst hmm
    simp [Value.cells] at hcs
    obtain ⟨rfl, rfl, rfl⟩ := hcs
    have each : ∀ i, i < n → ∃ e : IdD, ((∀ x, x ∈ e.1 → (Lit.int .i64 x).wf = true) ∧ (∀ x, x ∈ e.2 → (Lit.int .i64 x).wf = true)) ∧ ∃ a' m' c' a'' m'' c'', W.cell? (a.add (i * 2)) = some (.slice a' m' c') ∧ W.cell? (a.add (i * 2 + 1)) = some (.slice a'' m'' c'') ∧ (m' ≤ c' ∧ c' ≤ maxLen ∧ IView W 0 W.heap.size a' m' e.1) ∧ (m'' ≤ c'' ∧ c'' ≤ maxLen ∧ IView W 0 W.heap.size a'' m'' e.2) := by
      intro i hi
      obtain ⟨c0, c1, t0, t1⟩ := hx i (by omega)
      obtain ⟨a', m', c', xs, hcs', h4, h5, h6, h7⟩ := term_view t0
      obtain ⟨a'', m'', c'', ys, hcs'', r4, r5, r6, r7⟩ := term_view t1
      refine ⟨(xs, ys), ⟨h7, r7⟩, a', m', c', a'', m'', c'', ?_, ?_, ⟨h4, h5, h6⟩, ⟨r4, r5, r6⟩⟩
      · rw [c0]; simpa using hcs'
      · rw [c1]; simpa using hcs''
    obtain ⟨F, hF⟩ := Go.Deep.choose_lt (α := IdD) each
    refine ⟨_, _, _, (List.range n).map F, rfl, hl, hm, ⟨by simp, ?_⟩, fun xs hxs => ?_⟩
    · rcases Nat.eq_zero_or_pos n with h0 | h0
      · exact .inl h0
      · obtain ⟨_, a0, m0, c0, _, _, _, q0, _⟩ := hF 0 h0
        rw [Nat.zero_mul] at q0
        obtain ⟨b, o, rfl, hb⟩ := plain_addr q0
        refine .inr ⟨b, o, rfl, Nat.zero_le _, hb, fun j f hf => ?_⟩
        have hj : j < n := by have := (List.getElem?_eq_some_iff.1 hf).1; simpa using this
        have : F j = f := by rw [List.getElem?_map, List.getElem?_range hj] at hf; simpa using hf
        subst this
        obtain ⟨_, a', m', c', a'', m'', c'', e0, e1, r1, r2⟩ := hF j hj
        rw [add_plain] at e0 e1
        exact ⟨a', m', c', a'', m'', c'', e0, by rw [Nat.add_assoc]; exact e1, r1, r2⟩
    · obtain ⟨j, hj, rfl⟩ := List.mem_map.1 hxs
      exact (hF j (List.mem_range.1 hj)).1
end

theorem Try.infoIdn : (Try.prog.info? 64).map (fun i => (i.zero, i.size, i.bytes)) = some (some (.agg #[.slice none 0 0, .slice none 0 0]), 2, 48) := by kernel_rfl

/-- The first k identities of a row that is filled. -/
def PartD (wr : World) (R n k : Nat) (es : List IdD) : Prop :=
  ∃ Z, wr.ownsRow R 64 2 (.slice (some ⟨R, 0, none⟩) n n) n Z ∧ ∀ (j : Nat) (e : IdD), j < k → es[j]? = some e → ∃ g g' : Nat, Z[j * 2]? = some (.slice (some ⟨g, 0, none⟩) e.1.length e.1.length) ∧ Z[j * 2 + 1]? = some (.slice (some ⟨g', 0, none⟩) e.2.length e.2.length) ∧ IView wr (R + 1) wr.heap.size (some ⟨g, 0, none⟩) e.1.length e.1 ∧ IView wr (R + 1) wr.heap.size (some ⟨g', 0, none⟩) e.2.length e.2
theorem PartD.view {wr : World} {R n : Nat} {es : List IdD} (h : PartD wr R n n es) (hl : es.length = n) (hs : ∀ (j : Nat) (e : IdD), es[j]? = some e → e.1.length ≤ 1048576 ∧ e.2.length ≤ 1048576) : DView wr R wr.heap.size (some ⟨R, 0, none⟩) n es := by
  obtain ⟨Z, hr, hz⟩ := h
  refine ⟨hl, .inr ⟨R, 0, rfl, Nat.le_refl _, (hr.lt R rfl).2, fun j e he => ?_⟩⟩
  have hj : j < n := by have := (List.getElem?_eq_some_iff.1 he).1; omega
  obtain ⟨g, g', z0, z1, v0, v1⟩ := hz j e hj he
  obtain ⟨s0, s1⟩ := hs j e he
  refine ⟨_, _, _, _, _, _, ?_, ?_, ⟨Nat.le_refl _, by unfold maxLen; omega, v0.mono (by omega) (Nat.le_refl _)⟩, ⟨Nat.le_refl _, by unfold maxLen; omega, v1.mono (by omega) (Nat.le_refl _)⟩⟩
  · rw [Nat.zero_add, hr.cellAt _ (by omega)]; exact z0
  · rw [Nat.zero_add, hr.cellAt _ (by omega)]; exact z1

set_option maxHeartbeats 1000000 in
theorem toIdl_some (hi b o c n : Nat) (es : List IdD) (w : World) (hlen : es.length = n) (hn1 : n ≤ 1048576) (hs : ∀ (j : Nat) (e : IdD), es[j]? = some e → e.1.length ≤ 1048576 ∧ e.2.length ≤ 1048576) (hb : b < hi) (hhi : hi ≤ w.heap.size)
    (hc : ∀ (j : Nat) (e : IdD), es[j]? = some e → ∃ a m c a' m' c', w.cell? ⟨b, o + j * 2, none⟩ = some (.slice a m c) ∧ w.cell? ⟨b, o + j * 2 + 1, none⟩ = some (.slice a' m' c') ∧ (m ≤ c ∧ c ≤ maxLen ∧ IView w 0 hi a m e.1) ∧ (m' ≤ c' ∧ c' ≤ maxLen ∧ IView w 0 hi a' m' e.2)) :
    Calls Try.prog 58 #[.slice (some ⟨b, o, none⟩) n c] w fun e w' => e = .returned (.slice (some ⟨w.heap.size, 0, none⟩) n n) ∧ PartD w' w.heap.size n n es ∧ Below w.heap.size w w' := by
  have HL := Lib.hid hlen
  have HC := Lib.hid hc
  have HSz := Lib.hid hs
  clear hlen hc hs
  obtain ⟨i0, hi0, hz0, hz1, hz2⟩ := info_parts Try.infoIdn
  obtain ⟨w1, hmk, r1, r2⟩ := run_make_full (P := Try.prog) (w := w) w.heap.size 73 64 i0 _ 2 Try.underlying73 hi0 hz0 hz1 .i64 .i64 n (by rw [hz2]; omega) (by unfold maxLen; omega) (Nat.le_refl _)
  have hb1 : Below w.heap.size w w1 := (Below.refl _ _).grown r2 (Nat.le_refl _) (by intro k hk; cases hk)
  obtain ⟨R, hR⟩ : ∃ R : Nat, R = w.heap.size := ⟨_, rfl⟩
  rw [← hR] at hmk r1 hb1 hhi ⊢
  have HP0 : Hid (PartD w1 R n 0 es) := ⟨_, r1, fun j e hj => by omega⟩
  have HB := Lib.hid hb1
  have HR0 := Lib.hid hR
  have hsz1 := (r1.lt R rfl).2
  clear hR r1 r2 hb1 hi0 hz0 hz1 hz2
  go_enter Try.func58, Try.ntmps58
  go_wp2_with fail
  go_loopw [4] (fun i wr => ∃ k : Nat, k ≤ n ∧ i = .int .i64 k ∧ Hid (PartD wr R n k es) ∧ Hid (Below R w wr) ∧ R < wr.heap.size) (fun i _ => n - (intOf i).toNat)
  case atStart => exact ⟨0, Nat.zero_le _, rfl, HP0, HB, hsz1⟩
  case round =>
    obtain ⟨k, hk, rfl, HP, HBr, hRs⟩ := hrel
    clear HP0 HB hsz1
    have hRw := HR0.out
    by_cases hlt : k < n
    · obtain ⟨f, hf⟩ := get_of_lt HL.out hlt
      obtain ⟨a, m, c', a', m', c'', c0, c1, ⟨_, _, p3⟩, ⟨_, _, q3⟩⟩ := HC.out k f hf
      have e0 : wr.cell? ⟨b, o + k * 2, none⟩ = some (.slice a m c') := (HBr.out.cell (p := ⟨b, _, none⟩) (by show b < _; omega)).trans c0
      have e1 : wr.cell? ⟨b, o + k * 2 + 1, none⟩ = some (.slice a' m' c'') := (HBr.out.cell (p := ⟨b, _, none⟩) (by show b < _; omega)).trans c1
      have hfs := HSz.out k f hf
      obtain rfl : f.1.length = m := p3.1
      obtain rfl : f.2.length = m' := q3.1
      have hcall := Lib.hid (toIdn_own 0 hi 0 hi a a' c' c'' f.1.length f.2.length f.1 f.2 wr (p3.kept (Kept.of_below HBr.out (by omega))) (by have := HBr.out.size; omega) (q3.kept (Kept.of_below HBr.out (by omega))) (by have := HBr.out.size; omega) (by omega) (by omega))
      obtain ⟨m, hm⟩ : ∃ m, f.1.length = m := ⟨_, rfl⟩
      obtain ⟨m', hm'⟩ : ∃ m', f.2.length = m' := ⟨_, rfl⟩
      rw [hm, hm'] at hcall
      rw [hm] at e0
      rw [hm'] at e1
      have HF := Lib.hid hf
      have HM := Lib.hid hm
      have HM' := Lib.hid hm'
      clear hf c0 c1 p3 q3 hfs hm hm' hRw
      go_wp2_with fail
      refine hcall.out.mono ?_
      rintro e w2 ⟨g, g', mid, rfl, hmid, hmid2, ho, ho', b2⟩
      have hRw := HR0.out
      obtain ⟨Z, hr, hz⟩ := HP.out
      have hrow2 := hr.kept (grown_of_below b2 none) (own_em _)
      have f0 := hrow2.frozenAt (k * 2)
      have f1 := hrow2.frozenAt (k * 2 + 1)
      have hl1 := hrow2.1
      obtain ⟨u0, o0⟩ : ∃ u, w2.cell? ⟨R, k * 2, none⟩ = some u := by
        rw [hrow2.cellAt (k * 2) (by omega)]
        exact ⟨_, List.getElem?_eq_getElem (by omega)⟩
      obtain ⟨u1, o1⟩ : ∃ u, w2.cell? ⟨R, k * 2 + 1, none⟩ = some u := by
        rw [hrow2.cellAt (k * 2 + 1) (by omega)]
        exact ⟨_, List.getElem?_eq_getElem (by omega)⟩
      have hs1 := hrow2.stored (k * 2) (.slice (some ⟨g, 0, none⟩) m m)
      have hs2 := hs1.1.stored (k * 2 + 1) (.slice (some ⟨g', 0, none⟩) m' m')
      have hsz : ((w2.setCell ⟨R, k * 2, none⟩ (.slice (some ⟨g, 0, none⟩) m m)).setCell ⟨R, k * 2 + 1, none⟩ (.slice (some ⟨g', 0, none⟩) m' m')).heap.size = w2.heap.size := by simp [World.setCell]
      have hkp : Kept (R + 1) w2.heap.size w2 ((w2.setCell ⟨R, k * 2, none⟩ (.slice (some ⟨g, 0, none⟩) m m)).setCell ⟨R, k * 2 + 1, none⟩ (.slice (some ⟨g', 0, none⟩) m' m')) := fun q h1_ h2_ => by
        rw [Below.heap_setCell _ _ _ _ (by show q ≠ R; omega), Below.heap_setCell _ _ _ _ (by show q ≠ R; omega)]
      have hb2s := b2.size
      have HPn : Hid (PartD ((w2.setCell ⟨R, k * 2, none⟩ (.slice (some ⟨g, 0, none⟩) m m)).setCell ⟨R, k * 2 + 1, none⟩ (.slice (some ⟨g', 0, none⟩) m' m')) R n (k + 1) es) := by
        refine ⟨_, hs2.1, fun j e hj he => ?_⟩
        rw [hsz]
        by_cases hjk : j = k
        · subst hjk
          rw [HF.out] at he
          cases he
          rw [HM.out, HM'.out]
          refine ⟨g, g', ?_, ?_, ?_, ?_⟩
          · rw [List.getElem?_set_ne (by omega), List.getElem?_set_self (by omega)]
          · rw [List.getElem?_set_self (by simp; omega)]
          · exact (ho.view.mono (lo' := R + 1) (by omega) hmid2).kept hkp
          · exact (ho'.view.mono (lo' := R + 1) (by omega) (Nat.le_refl _)).kept hkp
        · obtain ⟨q, q', z0, z1, v0, v1⟩ := hz j e (by omega) he
          refine ⟨q, q', ?_, ?_, ?_, ?_⟩
          · rw [List.getElem?_set_ne (by omega), List.getElem?_set_ne (by omega)]; exact z0
          · rw [List.getElem?_set_ne (by omega), List.getElem?_set_ne (by omega)]; exact z1
          · exact ((v0.kept (Kept.of_below b2 (Nat.le_refl _))).mono (Nat.le_refl _) hb2s).kept hkp
          · exact ((v1.kept (Kept.of_below b2 (Nat.le_refl _))).mono (Nat.le_refl _) hb2s).kept hkp
      have HB2 := Lib.hid (((HBr.out.trans (b2.mono (by have := HBr.out.size; omega))).setCell (p := ⟨R, k * 2, none⟩) (by show R ≤ R; omega) (.slice (some ⟨g, 0, none⟩) m m)).setCell (p := ⟨R, k * 2 + 1, none⟩) (by show R ≤ R; omega) (.slice (some ⟨g', 0, none⟩) m' m'))
      have hRn : R < ((w2.setCell ⟨R, k * 2, none⟩ (.slice (some ⟨g, 0, none⟩) m m)).setCell ⟨R, k * 2 + 1, none⟩ (.slice (some ⟨g', 0, none⟩) m' m')).heap.size := by rw [hsz]; omega
      have HRn := Lib.hid hRn
      clear hs1 hs2 hrow2 hr hz b2 ho ho' hl1 hsz hkp hRw hRn hmid hmid2 hcall
      go_wp2_with fail
      go_roundw
      case rel => exact ⟨k + 1, by omega, by go_num, HPn, HB2, HRn.out⟩
      case measure => simp [intOf]; omega
    · obtain rfl : k = n := by omega
      clear hRw
      go_wp2_with fail
      go_ret
      exact ⟨rfl, HP.out, HBr.out⟩

theorem toIdl_zero (ao : Option Addr) (c : Nat) (w : World) :
    Calls Try.prog 58 #[.slice ao 0 c] w fun e w' => e = .returned (.slice (some ⟨w.heap.size, 0, none⟩) 0 0) ∧ Below w.heap.size w w' := by
  obtain ⟨i0, hi0, hz0, hz1, hz2⟩ := info_parts Try.infoIdn
  obtain ⟨w1, hmk, r1, r2⟩ := run_make_full (P := Try.prog) (w := w) w.heap.size 73 64 i0 _ 2 Try.underlying73 hi0 hz0 hz1 .i64 .i64 0 (by rw [hz2]; omega) (by unfold maxLen; omega) (Nat.le_refl _)
  have hmk2 : (Instr.makeSlice 73 (.int .i64 0) (.int .i64 0)).run Try.prog w = .ok (.slice (some ⟨w.heap.size, 0, none⟩) 0 0) w1 := hmk
  have HB := Lib.hid (show Below w.heap.size w w1 from (Below.refl _ _).grown r2 (Nat.le_refl _) (by intro k hk; cases hk))
  clear r1 r2 hmk hi0 hz0 hz1 hz2
  go_enter Try.func58, Try.ntmps58
  go_wp2_with fail
  refine wp_loop_rounds 1 ?_
  rw [rounds_succ]
  go_wp2_with fail
  go_ret
  exact ⟨rfl, HB.out⟩

theorem toIdl_view (hi : Nat) (ao : Option Addr) (c n : Nat) (es : List IdD) (w : World) (h : DView w 0 hi ao n es) (hhi : hi ≤ w.heap.size) (hn1 : n ≤ 1048576) (hs : ∀ (j : Nat) (e : IdD), es[j]? = some e → e.1.length ≤ 1048576 ∧ e.2.length ≤ 1048576) :
    Calls Try.prog 58 #[.slice ao n c] w fun e w' => ∃ g, e = .returned (.slice (some ⟨g, 0, none⟩) n n) ∧ DView w' w.heap.size w'.heap.size (some ⟨g, 0, none⟩) n es ∧ Below w.heap.size w w' := by
  obtain ⟨h1, rfl | ⟨b, o, rfl, _, hb, hc⟩⟩ := h
  · exact (toIdl_zero ao c w).mono fun e w' ⟨he, hb⟩ => ⟨_, he, ⟨h1, .inl rfl⟩, hb⟩
  · exact (toIdl_some hi b o c n es w h1 hn1 hs hb hhi hc).mono fun e w' ⟨he, hp, hb⟩ => ⟨_, he, hp.view h1 hs, hb⟩

end Go.Proofs.Ytplheohkecooeaa

namespace Go.Proofs.Ytplheohkecooeaa
open Go.RowKit
set_option linter.unusedVariables false
set_option linter.unusedSimpArgs false
attribute [local go_sem ↓] Go.wp_at_zero Go.wp_at_succ

set_option maxHeartbeats 400000 in
theorem lawFirstBroken_no0 (w : World) (z0 : Int) (a0 : Option Addr) (n0 c0 : Nat) (fs0 : List OpD) (wz0 : (Lit.int .i64 z0).wf = true) (hn0 : n0 ≤ maxLen) (ht0 : ∀ (j : Nat) (f : OpD), fs0[j]? = some f → f.2.length ≤ maxLen) (hv0 : OView w 0 w.heap.size a0 n0 fs0) (a1 : Option Addr) (n1 c1 : Nat) (es1 : List IdD) (hc1 : n1 ≤ c1) (hm1 : c1 ≤ maxLen) (hv1 : DView w 0 w.heap.size a1 n1 es1) (hq1 : ∀ e, e ∈ es1 → (∀ x, x ∈ e.1 → (Lit.int .i64 x).wf = true) ∧ (∀ x, x ∈ e.2 → (Lit.int .i64 x).wf = true)) (hfit0 : ¬ ((n0 + osum fs0 : Nat) : Int) ≤ 1048576) :
    Calls Try.prog 14 #[.agg #[.int .i64 z0, .slice a0 n0 c0], .slice a1 n1 c1] w fun e w' => e = .returned (.bool true) ∧ Below w.heap.size w w' := by
  have hB0 := (below_alloc w (.cells #[.int .i64 z0, .slice a0 n0 c0] 24))
  have hsz0 := fun (W : World) (hW : Below w.heap.size w W) => szAlg_any w.heap.size z0 a0 c0 n0 fs0 (1048576) W (hv0.kept (Kept.of_below hW (Nat.le_refl _))) hW.size hn0 ht0 (by omega) (by omega)
  simp only [szI_no (show ¬ ((n0 + osum fs0 : Nat) : Int) ≤ 1048576 by omega)] at hsz0
  have HSz0 := Lib.hid hsz0
  clear hsz0
  have HB0 := Lib.hid hB0
  clear hB0 hv0 ht0 hn0 wz0 hm1 hv1 hq1 hc1 hfit0
  go_enter Try.func14, Try.ntmps14
  go_wp2_with fail
  refine (HSz0.out _ HB0.out).mono ?_
  rintro e v1 ⟨rfl, b1⟩
  have B1 := Lib.hid (below_then HB0.out b1)
  clear b1
  go_wp2_with fail
  go_ret
  exact ⟨rfl, B1.out⟩

set_option maxHeartbeats 400000 in
theorem lawFirstBroken_no1 (w : World) (z0 : Int) (a0 : Option Addr) (n0 c0 : Nat) (fs0 : List OpD) (wz0 : (Lit.int .i64 z0).wf = true) (hn0 : n0 ≤ maxLen) (ht0 : ∀ (j : Nat) (f : OpD), fs0[j]? = some f → f.2.length ≤ maxLen) (hv0 : OView w 0 w.heap.size a0 n0 fs0) (a1 : Option Addr) (n1 c1 : Nat) (es1 : List IdD) (hc1 : n1 ≤ c1) (hm1 : c1 ≤ maxLen) (hv1 : DView w 0 w.heap.size a1 n1 es1) (hq1 : ∀ e, e ∈ es1 → (∀ x, x ∈ e.1 → (Lit.int .i64 x).wf = true) ∧ (∀ x, x ∈ e.2 → (Lit.int .i64 x).wf = true)) (hfit0 : ((n0 + osum fs0 : Nat) : Int) ≤ 1048576) (hfit1 : ¬ ((n1 + isum es1 : Nat) : Int) ≤ 1048576 - ((n0 + osum fs0 : Nat) : Int)) :
    Calls Try.prog 14 #[.agg #[.int .i64 z0, .slice a0 n0 c0], .slice a1 n1 c1] w fun e w' => e = .returned (.bool true) ∧ Below w.heap.size w w' := by
  have hB0 := (below_alloc w (.cells #[.int .i64 z0, .slice a0 n0 c0] 24))
  have hsz0 := fun (W : World) (hW : Below w.heap.size w W) => szAlg_any w.heap.size z0 a0 c0 n0 fs0 (1048576) W (hv0.kept (Kept.of_below hW (Nat.le_refl _))) hW.size hn0 ht0 (by omega) (by omega)
  obtain ⟨l1, hl_1, hl_1a, hl_1b⟩ : ∃ l : Int, l = 1048576 - ((n0 + osum fs0 : Nat) : Int) ∧ 0 ≤ l ∧ l ≤ 1048576 := ⟨_, rfl, by omega, by omega⟩
  simp only [szI_yes (show ((n0 + osum fs0 : Nat) : Int) ≤ 1048576 by omega), ← hl_1] at hsz0
  have HSz0 := Lib.hid hsz0
  clear hsz0
  have hsz1 := fun (W : World) (hW : Below w.heap.size w W) => szIdl_any w.heap.size a1 c1 n1 es1 (l1) W (hv1.kept (Kept.of_below hW (Nat.le_refl _))) (Nat.le_trans hc1 hm1) (by omega) (by omega) hW.size
  simp only [szI_no (show ¬ ((n1 + isum es1 : Nat) : Int) ≤ l1 by omega)] at hsz1
  have HSz1 := Lib.hid hsz1
  clear hsz1
  have HB0 := Lib.hid hB0
  clear hB0 hv0 ht0 hn0 wz0 hm1 hv1 hq1 hc1 hl_1 hfit0 hfit1
  go_enter Try.func14, Try.ntmps14
  go_wp2_with fail
  refine (HSz0.out _ HB0.out).mono ?_
  rintro e v1 ⟨rfl, b1⟩
  have B1 := Lib.hid (below_then HB0.out b1)
  clear b1
  go_wp2_with fail
  refine (HSz1.out _ B1.out).mono ?_
  rintro e v2 ⟨rfl, b1⟩
  have B2 := Lib.hid (below_then B1.out b1)
  clear b1
  go_wp2_with fail
  go_ret
  exact ⟨rfl, B2.out⟩

set_option maxRecDepth 100000 in
set_option maxHeartbeats 4000000 in
theorem lawFirstBroken_fit (w : World) (z0 : Int) (a0 : Option Addr) (n0 c0 : Nat) (fs0 : List OpD) (wz0 : (Lit.int .i64 z0).wf = true) (hn0 : n0 ≤ maxLen) (ht0 : ∀ (j : Nat) (f : OpD), fs0[j]? = some f → f.2.length ≤ maxLen) (hv0 : OView w 0 w.heap.size a0 n0 fs0) (a1 : Option Addr) (n1 c1 : Nat) (es1 : List IdD) (hc1 : n1 ≤ c1) (hm1 : c1 ≤ maxLen) (hv1 : DView w 0 w.heap.size a1 n1 es1) (hq1 : ∀ e, e ∈ es1 → (∀ x, x ∈ e.1 → (Lit.int .i64 x).wf = true) ∧ (∀ x, x ∈ e.2 → (Lit.int .i64 x).wf = true)) (hfit0 : ((n0 + osum fs0 : Nat) : Int) ≤ 1048576) (hfit1 : ((n1 + isum es1 : Nat) : Int) ≤ 1048576 - ((n0 + osum fs0 : Nat) : Int)) :
    Calls Try.prog 14 #[.agg #[.int .i64 z0, .slice a0 n0 c0], .slice a1 n1 c1] w fun e w' => e = .returned (.bool true) ∧ Below w.heap.size w w' := by
  obtain ⟨hn1_0, hn2_0, hn3_0, hs80, hsM0⟩ := small_of (left := 1048576) (show ((n0 + osum fs0 : Nat) : Int) ≤ 1048576 by omega) (Int.le_refl _)
  obtain ⟨hn1_1, hsI1⟩ := smallI_of (show ((n1 + isum es1 : Nat) : Int) ≤ 1048576 by omega)
  have hB0 := (below_alloc w (.cells #[.int .i64 z0, .slice a0 n0 c0] 24))
  have hsz0 := fun (W : World) (hW : Below w.heap.size w W) => szAlg_any w.heap.size z0 a0 c0 n0 fs0 (1048576) W (hv0.kept (Kept.of_below hW (Nat.le_refl _))) hW.size hn0 ht0 (by omega) (by omega)
  obtain ⟨l1, hl_1, hl_1a, hl_1b⟩ : ∃ l : Int, l = 1048576 - ((n0 + osum fs0 : Nat) : Int) ∧ 0 ≤ l ∧ l ≤ 1048576 := ⟨_, rfl, by omega, by omega⟩
  simp only [szI_yes (show ((n0 + osum fs0 : Nat) : Int) ≤ 1048576 by omega), ← hl_1] at hsz0
  have HSz0 := Lib.hid hsz0
  clear hsz0
  have hsz1 := fun (W : World) (hW : Below w.heap.size w W) => szIdl_any w.heap.size a1 c1 n1 es1 (l1) W (hv1.kept (Kept.of_below hW (Nat.le_refl _))) (Nat.le_trans hc1 hm1) (by omega) (by omega) hW.size
  obtain ⟨l2, hl_2, hl_2a, hl_2b⟩ : ∃ l : Int, l = l1 - ((n1 + isum es1 : Nat) : Int) ∧ 0 ≤ l ∧ l ≤ 1048576 := ⟨_, rfl, by omega, by omega⟩
  simp only [szI_yes (show ((n1 + isum es1 : Nat) : Int) ≤ l1 by omega), ← hl_2] at hsz1
  have HSz1 := Lib.hid hsz1
  clear hsz1
  have HB0 := Lib.hid hB0
  have HV0 := Lib.hid hv0
  have hl0 := Lib.hid hv0.1
  have HW0 := Lib.hid wz0
  have HS80 := Lib.hid hs80
  have HSM0 := Lib.hid hsM0
  have HFit0 : Hid (((n0 + osum fs0 : Nat) : Int) ≤ 1048576) := (show ((n0 + osum fs0 : Nat) : Int) ≤ 1048576 by omega)
  have HV1 := Lib.hid hv1
  have HQ1 := Lib.hid hq1
  have HSI1 := Lib.hid hsI1
  obtain ⟨⟨r, ok⟩, hval⟩ : ∃ p, valFirstBroken z0 fs0 es1 = p := ⟨_, rfl⟩
  have HVal := Lib.hid hval
  clear hB0 hval hv0 ht0 hn0 wz0 hm1 hv1 hq1 hc1 hs80 hsM0 hn2_0 hsI1 hfit0 hfit1 hl_1 hl_2
  have hne_ok : (ok != ok) = false := by cases ok <;> rfl
  go_enter Try.func14, Try.ntmps14
  go_wp2_with fail
  refine (HSz0.out _ (below_alloc w (.cells #[.int .i64 z0, .slice a0 n0 c0] 24))).mono ?_
  rintro e w1 ⟨rfl, b_⟩
  have b1 : Below w.heap.size w w1 := below_then (below_alloc w (.cells #[.int .i64 z0, .slice a0 n0 c0] 24)) b_
  have s1 : w.heap.size ≤ w1.heap.size := b1.size
  have a00_1 : w1.cell? ⟨w.heap.size, 0, none⟩ = some (.int .i64 z0) := cell_b b_ (by simp)
  have a01_1 : w1.cell? ⟨w.heap.size, 1, none⟩ = some (.slice a0 n0 c0) := cell_b b_ (by simp)
  have za0 : w.heap.size < w1.heap.size := (by have := b_.size; simp at this; omega)
  have B1 : Hid (Below w.heap.size w w1) := b1
  clear b_
  go_wp2_with fail
  refine (HSz1.out _ B1.out).mono ?_
  rintro e w2 ⟨rfl, b_⟩
  have b2 : Below w1.heap.size w1 w2 := b_
  have s2 : w1.heap.size ≤ w2.heap.size := b2.size
  have a00_2 : w2.cell? ⟨w.heap.size, 0, none⟩ = some (.int .i64 z0) := cell_b b2 a00_1
  have a01_2 : w2.cell? ⟨w.heap.size, 1, none⟩ = some (.slice a0 n0 c0) := cell_b b2 a01_1
  have B2 : Hid (Below w.heap.size w w2) := below_then B1.out b2
  clear a00_1 a01_1 b_
  have hC_ := toAlg_view w.heap.size z0 a0 c0 n0 fs0 w2 (HV0.out.kept (Kept.of_below B2.out (Nat.le_refl _))) B2.out.size hn3_0 HS80.out
  have HC_ := Lib.hid hC_
  clear hC_
  go_wp2_with fail
  refine HC_.out.mono ?_
  rintro e w3 ⟨S0g, rfl, m_⟩; have b_ := m_.2
  have b3 : Below w2.heap.size w2 w3 := b_
  have s3 : w2.heap.size ≤ w3.heap.size := b3.size
  have a00_3 : w3.cell? ⟨w.heap.size, 0, none⟩ = some (.int .i64 z0) := cell_b b3 a00_2
  have a01_3 : w3.cell? ⟨w.heap.size, 1, none⟩ = some (.slice a0 n0 c0) := cell_b b3 a01_2
  have B3 : Hid (Below w.heap.size w w3) := below_then B2.out b3
  clear a00_2 a01_2 b_
  clear HC_
  have m_ := m_.view hl0.out
  have HS0_3 := Lib.hid m_
  clear m_
  have hC_ := toIdl_view w.heap.size a1 c1 n1 es1 w3 (HV1.out.kept (Kept.of_below B3.out (Nat.le_refl _))) B3.out.size hn1_1 HSI1.out
  have HC_ := Lib.hid hC_
  clear hC_
  go_wp2_with fail
  refine HC_.out.mono ?_
  rintro e w4 ⟨S1g, rfl, m_, b_⟩
  have b4 : Below w3.heap.size w3 w4 := b_
  have s4 : w3.heap.size ≤ w4.heap.size := b4.size
  have a00_4 : w4.cell? ⟨w.heap.size, 0, none⟩ = some (.int .i64 z0) := cell_b b4 a00_3
  have a01_4 : w4.cell? ⟨w.heap.size, 1, none⟩ = some (.slice a0 n0 c0) := cell_b b4 a01_3
  have HS0_4 := Lib.hid (HS0_3.out.kept (Kept.of_below b4 (by omega)))
  have B4 : Hid (Below w.heap.size w w4) := below_then B3.out b4
  clear a00_3 a01_3 HS0_3 b_
  clear HC_
  have HS1_4 := Lib.hid m_
  clear m_
  have hC_ := specFirstBroken _ _ z0 _ n0 n0 fs0 _ _ _ n1 n1 es1 w4 HS0_4.out (by omega) HSM0.out HS1_4.out (by omega) (Nat.le_refl _) (by unfold maxLen; omega) HQ1.out
  simp only [HVal.out] at hC_
  have HC_ := Lib.hid hC_
  clear hC_
  go_wp2_with fail
  refine HC_.out.mono ?_
  rintro e w5 ⟨rfl, b_⟩
  have b5 : Below w4.heap.size w4 w5 := b_
  have s5 : w4.heap.size ≤ w5.heap.size := b5.size
  have a00_5 : w5.cell? ⟨w.heap.size, 0, none⟩ = some (.int .i64 z0) := cell_b b5 a00_4
  have a01_5 : w5.cell? ⟨w.heap.size, 1, none⟩ = some (.slice a0 n0 c0) := cell_b b5 a01_4
  have HS0_5 := Lib.hid (HS0_4.out.kept (Kept.of_below b5 (by omega)))
  have HS1_5 := Lib.hid (HS1_4.out.kept (Kept.of_below b5 (by omega)))
  have B5 : Hid (Below w.heap.size w w5) := below_then B4.out b5
  clear a00_4 a01_4 HS0_4 HS1_4 b_
  clear HC_
  clear HS0_5
  clear HS1_5
  have hC_ := toAlg_view w.heap.size z0 a0 c0 n0 fs0 w5 (HV0.out.kept (Kept.of_below B5.out (Nat.le_refl _))) B5.out.size hn3_0 HS80.out
  have HC_ := Lib.hid hC_
  clear hC_
  go_wp2_with fail
  refine HC_.out.mono ?_
  rintro e w6 ⟨X0g, rfl, m_⟩; have b_ := m_.2
  have b6 : Below w5.heap.size w5 w6 := b_
  have s6 : w5.heap.size ≤ w6.heap.size := b6.size
  have a00_6 : w6.cell? ⟨w.heap.size, 0, none⟩ = some (.int .i64 z0) := cell_b b6 a00_5
  have a01_6 : w6.cell? ⟨w.heap.size, 1, none⟩ = some (.slice a0 n0 c0) := cell_b b6 a01_5
  have B6 : Hid (Below w.heap.size w w6) := below_then B5.out b6
  clear a00_5 a01_5 b_
  clear HC_
  obtain ⟨⟨X0G, X0C, m_⟩, _⟩ := m_
  have HX0_6 := Lib.hid m_
  clear m_
  have a00_p : ((w6.alloc (.cells #[.int .i64 z0, .slice (some ⟨X0g, 0, none⟩) n0 n0] 30))).cell? ⟨w.heap.size, 0, none⟩ = some (.int .i64 z0) := cell_b (below_alloc w6 (.cells #[.int .i64 z0, .slice (some ⟨X0g, 0, none⟩) n0 n0] 30)) a00_6
  have a01_p : ((w6.alloc (.cells #[.int .i64 z0, .slice (some ⟨X0g, 0, none⟩) n0 n0] 30))).cell? ⟨w.heap.size, 1, none⟩ = some (.slice a0 n0 c0) := cell_b (below_alloc w6 (.cells #[.int .i64 z0, .slice (some ⟨X0g, 0, none⟩) n0 n0] 30)) a01_6
  have hC_ := toIdl_view w.heap.size a1 c1 n1 es1 (w6.alloc (.cells #[.int .i64 z0, .slice (some ⟨X0g, 0, none⟩) n0 n0] 30)) (HV1.out.kept (Kept.of_below (below_then B6.out (below_alloc w6 (.cells #[.int .i64 z0, .slice (some ⟨X0g, 0, none⟩) n0 n0] 30))) (Nat.le_refl _))) (below_then B6.out (below_alloc w6 (.cells #[.int .i64 z0, .slice (some ⟨X0g, 0, none⟩) n0 n0] 30))).size hn1_1 HSI1.out
  have HC_ := Lib.hid hC_
  clear hC_
  go_wp2_with fail
  refine HC_.out.mono ?_
  rintro e w7 ⟨X1g, rfl, m_, b_⟩
  have b7 : Below w6.heap.size w6 w7 := below_then (below_alloc w6 (.cells #[.int .i64 z0, .slice (some ⟨X0g, 0, none⟩) n0 n0] 30)) b_
  have s7 : w6.heap.size ≤ w7.heap.size := b7.size
  have a00_7 : w7.cell? ⟨w.heap.size, 0, none⟩ = some (.int .i64 z0) := cell_b b7 a00_6
  have a01_7 : w7.cell? ⟨w.heap.size, 1, none⟩ = some (.slice a0 n0 c0) := cell_b b7 a01_6
  have HX0_7 := Lib.hid (HX0_6.out.kept (Kept.of_below b7 (by omega)))
  have x00_7 : w7.cell? ⟨w6.heap.size, 0, none⟩ = some (.int .i64 z0) := cell_b b_ (by simp)
  have x01_7 : w7.cell? ⟨w6.heap.size, 1, none⟩ = some (.slice (some ⟨X0g, 0, none⟩) n0 n0) := cell_b b_ (by simp)
  have zx0 : w6.heap.size < w7.heap.size := (by have := b_.size; simp at this; omega)
  have B7 : Hid (Below w.heap.size w w7) := below_then B6.out b7
  clear a00_6 a01_6 HX0_6 b_
  clear a00_p a01_p
  clear HC_
  simp only [World.size_alloc, World.size_drew] at m_
  have HX1_7 := Lib.hid m_
  clear m_
  have h_ := HX0_7.out.view
  rw [← hl0.out, map_range_get, hl0.out] at h_
  have HXV0_ := Lib.hid h_
  clear h_
  have hC_ := implFirstBroken _ _ z0 _ n0 n0 fs0 _ _ _ n1 n1 es1 w7 HXV0_.out (by omega) HSM0.out HX1_7.out (by omega) (Nat.le_refl _) (by unfold maxLen; omega) HQ1.out
  simp only [HVal.out] at hC_
  have HC_ := Lib.hid hC_
  clear hC_
  go_wp2_with fail
  refine HC_.out.mono ?_
  rintro e w8 ⟨rfl, b_⟩
  have b8 : Below w7.heap.size w7 w8 := b_
  have s8 : w7.heap.size ≤ w8.heap.size := b8.size
  have a00_8 : w8.cell? ⟨w.heap.size, 0, none⟩ = some (.int .i64 z0) := cell_b b8 a00_7
  have a01_8 : w8.cell? ⟨w.heap.size, 1, none⟩ = some (.slice a0 n0 c0) := cell_b b8 a01_7
  have x00_8 : w8.cell? ⟨w6.heap.size, 0, none⟩ = some (.int .i64 z0) := cell_b b8 x00_7
  have x01_8 : w8.cell? ⟨w6.heap.size, 1, none⟩ = some (.slice (some ⟨X0g, 0, none⟩) n0 n0) := cell_b b8 x01_7
  have HX0_8 := Lib.hid (HX0_7.out.kept (Kept.of_below b8 (by omega)))
  have HX1_8 := Lib.hid (HX1_7.out.kept (Kept.of_below b8 (by omega)))
  have B8 : Hid (Below w.heap.size w w8) := below_then B7.out b8
  clear a00_7 a01_7 x00_7 x01_7 HX0_7 HX1_7 b_
  clear HC_
  clear HXV0_
  go_wp2_with fail
  refine wp_region_noPanic ?_
  refine wp_region_held_drew (S := fun W => W.cell? ⟨w.heap.size, 0, none⟩ = some (.int .i64 z0) ∧ W.cell? ⟨w.heap.size, 1, none⟩ = some (.slice a0 n0 c0) ∧ W.cell? ⟨w6.heap.size, 0, none⟩ = some (.int .i64 z0) ∧ W.cell? ⟨w6.heap.size, 1, none⟩ = some (.slice (some ⟨X0g, 0, none⟩) n0 n0)) (by kernel_rfl) ?_ (fun hHeld => ?_)
  · exact ⟨a00_8, a01_8, x00_8, x01_8⟩
  refine wpAnyH_take (i := 0) (oi := ⟨_, _, _, _, _, _⟩) (v := ?_) rfl (by kernel_rfl) (by kernel_rfl) (by kernel_rfl) (fun _ _ _ h => h) (Or.inl ⟨rfl, ?_⟩) (by assumption) ?_
  rotate_left 1
  · intro w_ hSw; (try dsimp only at hSw); go_simp; (try with_reducible rfl)
  (try simp only [Act.put, List.setIfInBounds_toArray, List.set_cons_zero, List.set_cons_succ])
  refine wpAnyH_take (i := 1) (oi := ⟨_, _, _, _, _, _⟩) (v := ?_) rfl (by kernel_rfl) (by kernel_rfl) (by kernel_rfl) (fun _ _ _ h => h) (Or.inl ⟨rfl, ?_⟩) (by assumption) ?_
  rotate_left 1
  · intro w_ hSw; (try dsimp only at hSw); go_simp; (try with_reducible rfl)
  (try simp only [Act.put, List.setIfInBounds_toArray, List.set_cons_zero, List.set_cons_succ])
  refine wpAnyH_ready (rs := [2]) (by kernel_rfl) (by simp) ?_
  refine AllReadyH.cons (o := ⟨_, _, _, _, _, _⟩) rfl (fun K hK => ?_) AllReadyH.nil
  go_simp
  go_at_call 17
  have hC_ := toAlg_view w.heap.size z0 a0 c0 n0 fs0 w8.drew (HV0.out.kept (Kept.of_below (below_then B8.out (below_drew w8)) (Nat.le_refl _))) (below_then B8.out (below_drew w8)).size hn3_0 HS80.out
  refine hC_.mono ?_
  clear hC_
  rintro e w9 ⟨Y0g, rfl, m_⟩; have b_ := m_.2
  have b9 : Below w8.heap.size w8 w9 := below_then (below_drew w8) b_
  have s9 : w8.heap.size ≤ w9.heap.size := b9.size
  have a00_9 : w9.cell? ⟨w.heap.size, 0, none⟩ = some (.int .i64 z0) := cell_b b9 a00_8
  have a01_9 : w9.cell? ⟨w.heap.size, 1, none⟩ = some (.slice a0 n0 c0) := cell_b b9 a01_8
  have x00_9 : w9.cell? ⟨w6.heap.size, 0, none⟩ = some (.int .i64 z0) := cell_b b9 x00_8
  have x01_9 : w9.cell? ⟨w6.heap.size, 1, none⟩ = some (.slice (some ⟨X0g, 0, none⟩) n0 n0) := cell_b b9 x01_8
  have HX0_9 := Lib.hid (HX0_8.out.kept (Kept.of_below b9 (by omega)))
  have HX1_9 := Lib.hid (HX1_8.out.kept (Kept.of_below b9 (by omega)))
  have B9 : Hid (Below w.heap.size w w9) := below_then B8.out b9
  clear a00_8 a01_8 x00_8 x01_8 HX0_8 HX1_8 b_
  have m_ := m_.view hl0.out
  simp only [World.size_alloc, World.size_drew] at m_
  have HY0_9 := Lib.hid m_
  clear m_
  go_wp2_with fail
  refine hK.out _ _ ?_ (fun hHeld => ?_)
  · exact ⟨a00_9, a01_9, x00_9, x01_9⟩
  clear hK K
  (try simp only [Act.put, List.setIfInBounds_toArray, List.set_cons_zero, List.set_cons_succ])
  refine wpAnyH_ready (rs := [3]) (by kernel_rfl) (by simp) ?_
  refine AllReadyH.cons (o := ⟨_, _, _, _, _, _⟩) rfl (fun K hK => ?_) AllReadyH.nil
  go_simp
  have h_ := HX0_9.out.view
  rw [← hl0.out, map_range_get, hl0.out] at h_
  have XV_ := Lib.hid h_
  clear h_
  go_at_call 20
  have hC_ := eqAlg_view _ _ _ _ z0 _ _ n0 n0 n0 fs0 w9 XV_.out HY0_9.out (by unfold maxLen; omega) HSM0.out (by omega) (by omega)
  refine hC_.mono ?_
  clear hC_
  rintro e w10 ⟨rfl, b_⟩; clear XV_
  have b10 : Below w9.heap.size w9 w10 := b_
  have s10 : w9.heap.size ≤ w10.heap.size := b10.size
  have a00_10 : w10.cell? ⟨w.heap.size, 0, none⟩ = some (.int .i64 z0) := cell_b b10 a00_9
  have a01_10 : w10.cell? ⟨w.heap.size, 1, none⟩ = some (.slice a0 n0 c0) := cell_b b10 a01_9
  have x00_10 : w10.cell? ⟨w6.heap.size, 0, none⟩ = some (.int .i64 z0) := cell_b b10 x00_9
  have x01_10 : w10.cell? ⟨w6.heap.size, 1, none⟩ = some (.slice (some ⟨X0g, 0, none⟩) n0 n0) := cell_b b10 x01_9
  have HX0_10 := Lib.hid (HX0_9.out.kept (Kept.of_below b10 (by omega)))
  have HX1_10 := Lib.hid (HX1_9.out.kept (Kept.of_below b10 (by omega)))
  have HY0_10 := Lib.hid (HY0_9.out.kept (Kept.of_below b10 (by omega)))
  have B10 : Hid (Below w.heap.size w w10) := below_then B9.out b10
  clear a00_9 a01_9 x00_9 x01_9 HX0_9 HX1_9 HY0_9 b_
  go_wp2_with fail
  refine hK.out _ _ ?_ (fun hHeld => ?_)
  · exact ⟨a00_10, a01_10, x00_10, x01_10⟩
  clear hK K
  (try simp only [Act.put, List.setIfInBounds_toArray, List.set_cons_zero, List.set_cons_succ])
  refine wpAnyH_take (i := 4) (oi := ⟨_, _, _, _, _, _⟩) (v := ?_) rfl (by kernel_rfl) (by kernel_rfl) (by kernel_rfl) (fun _ _ _ h => h) (Or.inl ⟨rfl, ?_⟩) (by assumption) ?_
  rotate_left 1
  · intro w_ hSw; (try dsimp only at hSw); go_simp; (try with_reducible rfl)
  (try simp only [Act.put, List.setIfInBounds_toArray, List.set_cons_zero, List.set_cons_succ])
  refine wpAnyH_done (by kernel_rfl) ?_ _
  refine NoPanic.normal ?_
  clear HY0_10
  have hC_ := toIdl_view w.heap.size a1 c1 n1 es1 w10 (HV1.out.kept (Kept.of_below B10.out (Nat.le_refl _))) B10.out.size hn1_1 HSI1.out
  have HC_ := Lib.hid hC_
  clear hC_
  go_wp2_with fail
  refine HC_.out.mono ?_
  rintro e w11 ⟨Y1g, rfl, m_, b_⟩
  have b11 : Below w10.heap.size w10 w11 := b_
  have s11 : w10.heap.size ≤ w11.heap.size := b11.size
  have a00_11 : w11.cell? ⟨w.heap.size, 0, none⟩ = some (.int .i64 z0) := cell_b b11 a00_10
  have a01_11 : w11.cell? ⟨w.heap.size, 1, none⟩ = some (.slice a0 n0 c0) := cell_b b11 a01_10
  have x00_11 : w11.cell? ⟨w6.heap.size, 0, none⟩ = some (.int .i64 z0) := cell_b b11 x00_10
  have x01_11 : w11.cell? ⟨w6.heap.size, 1, none⟩ = some (.slice (some ⟨X0g, 0, none⟩) n0 n0) := cell_b b11 x01_10
  have HX0_11 := Lib.hid (HX0_10.out.kept (Kept.of_below b11 (by omega)))
  have HX1_11 := Lib.hid (HX1_10.out.kept (Kept.of_below b11 (by omega)))
  have B11 : Hid (Below w.heap.size w w11) := below_then B10.out b11
  clear a00_10 a01_10 x00_10 x01_10 HX0_10 HX1_10 b_
  clear HC_
  have HY1_11 := Lib.hid m_
  clear m_
  have hC_ := eqIdl_view _ _ _ _ _ _ n1 n1 n1 es1 w11 HX1_11.out HY1_11.out (by unfold maxLen; omega) HSI1.out (by omega) (by omega)
  have HC_ := Lib.hid hC_
  clear hC_
  go_wp2_with fail
  refine HC_.out.mono ?_
  rintro e w12 ⟨rfl, b_⟩
  have b12 : Below w11.heap.size w11 w12 := b_
  have s12 : w11.heap.size ≤ w12.heap.size := b12.size
  have a00_12 : w12.cell? ⟨w.heap.size, 0, none⟩ = some (.int .i64 z0) := cell_b b12 a00_11
  have a01_12 : w12.cell? ⟨w.heap.size, 1, none⟩ = some (.slice a0 n0 c0) := cell_b b12 a01_11
  have x00_12 : w12.cell? ⟨w6.heap.size, 0, none⟩ = some (.int .i64 z0) := cell_b b12 x00_11
  have x01_12 : w12.cell? ⟨w6.heap.size, 1, none⟩ = some (.slice (some ⟨X0g, 0, none⟩) n0 n0) := cell_b b12 x01_11
  have HX0_12 := Lib.hid (HX0_11.out.kept (Kept.of_below b12 (by omega)))
  have HX1_12 := Lib.hid (HX1_11.out.kept (Kept.of_below b12 (by omega)))
  have HY1_12 := Lib.hid (HY1_11.out.kept (Kept.of_below b12 (by omega)))
  have B12 : Hid (Below w.heap.size w w12) := below_then B11.out b12
  clear a00_11 a01_11 x00_11 x01_11 HX0_11 HX1_11 HY1_11 b_
  clear HC_
  clear HY1_12
  go_wp2_with fail
  go_ret
  exact ⟨rfl, B12.out⟩

theorem lawFirstBroken (w : World) (z0 : Int) (a0 : Option Addr) (n0 c0 : Nat) (fs0 : List OpD) (wz0 : (Lit.int .i64 z0).wf = true) (hn0 : n0 ≤ maxLen) (ht0 : ∀ (j : Nat) (f : OpD), fs0[j]? = some f → f.2.length ≤ maxLen) (hv0 : OView w 0 w.heap.size a0 n0 fs0) (a1 : Option Addr) (n1 c1 : Nat) (es1 : List IdD) (hc1 : n1 ≤ c1) (hm1 : c1 ≤ maxLen) (hv1 : DView w 0 w.heap.size a1 n1 es1) (hq1 : ∀ e, e ∈ es1 → (∀ x, x ∈ e.1 → (Lit.int .i64 x).wf = true) ∧ (∀ x, x ∈ e.2 → (Lit.int .i64 x).wf = true)) :
    Calls Try.prog 14 #[.agg #[.int .i64 z0, .slice a0 n0 c0], .slice a1 n1 c1] w fun e w' => e = .returned (.bool true) ∧ Below w.heap.size w w' := by
  refine (Classical.em (((n0 + osum fs0 : Nat) : Int) ≤ 1048576)).elim (fun hfit0 => ?_) (fun hfit0 => lawFirstBroken_no0 w z0 a0 n0 c0 fs0 wz0 hn0 ht0 hv0 a1 n1 c1 es1 hc1 hm1 hv1 hq1   hfit0)
  refine (Classical.em (((n1 + isum es1 : Nat) : Int) ≤ 1048576 - ((n0 + osum fs0 : Nat) : Int))).elim (fun hfit1 => ?_) (fun hfit1 => lawFirstBroken_no1 w z0 a0 n0 c0 fs0 wz0 hn0 ht0 hv0 a1 n1 c1 es1 hc1 hm1 hv1 hq1   hfit0 hfit1)
  exact lawFirstBroken_fit w z0 a0 n0 c0 fs0 wz0 hn0 ht0 hv0 a1 n1 c1 es1 hc1 hm1 hv1 hq1   hfit0 hfit1

end Go.Proofs.Ytplheohkecooeaa

namespace Go.Proofs.Ytplheohkecooeaa.fnExactFirstBroken
open Go.ChangeShapes Go.WideShapes Go.ChangeAt Go.RowKit

set_option maxRecDepth 100000 in
theorem lifted (os : Os) (started : os.Started) (H : Type) (enc : TypeId × Value → H) :
    ReturnsInHanded {} Try.checked os 14 .any (Rows.fnExactFirstBrokenSpec.pre6 enc Try.prog Try.f14 Rows.fnExactFirstBrokenRow.domain false) (Rows.fnExactFirstBrokenSpec.post enc Try.prog Try.f14 false true false false) := by
  refine returnsInHanded_of_change (C := Try.checked) own started (by kernel_rfl) Try.func14
    (ChangeSpec.witness6 (enc := enc) (C := Try.checked) false ⟨#[], #[.agg #[.int .i64 0, .slice none 0 0], .slice none 0 0], []⟩ 8 (by kernel_rfl) (by kernel_rfl) (by kernel_rfl) (by kernel_rfl)) ?_
  intro W base args ds gs before hval0 hW hcnd _
  have hval : ∀ (j : Nat) t v, Try.f14.params[j]? = some t → args[j]? = some v → Value.okWide Try.prog W .any base t v := hval0
  have hW' := hW
  obtain ⟨p, q, hA0, hV, rfl, hfz, hnd⟩ := hW
  have hA : DataW.TrodAll enc Try.prog W 0 (fun _ => true) true Try.f14.params.toList args.toList ds p := hA0
  rw [Try.params14] at hA hval
  obtain ⟨v0, v1, d0, d1, p0, p1, rfl, rfl, rfl, h0, h1⟩ := trodAll_two hA
  obtain ⟨rfl, rfl⟩ := trodVars_none hV
  have k0 := h0
  have k1 := h1
  obtain ⟨z0, a0, n0, c0, fs0, rfl, wz0, hn0, ht0, hv0⟩ := arg_alg (hval 0 24 v0 rfl rfl) h0
  obtain ⟨a1, n1, c1, es1, rfl, hc1, hm1, hv1, hq1⟩ := arg_idl (hval 1 70 v1 rfl rfl) h1
  clear hA0 hval0
  simp only [List.append_nil] at hW'
  refine (lawFirstBroken W z0 a0 n0 c0 fs0 wz0 hn0 ht0 hv0 a1 n1 c1 es1 hc1 hm1 hv1 hq1).mono fun e W' ⟨he, hnx⟩ => ?_
  subst he
  have hlt := fun x hx => by simpa using hW'.lt x hx
  have hargs := trodAll_mk2 (Below.trod laidOut readAlg rowAlg k0 hnx (fun x hx => hlt x (by simp [hx]))) (Below.trod laidOut readIdl rowIdl k1 hnx (fun x hx => hlt x (by simp [hx])))
  try simp only [List.append_nil] at hargs
  exact ⟨_, rfl, _, _, _, [], _, [], hW', trodAll_mk1 (shut_bool Try.underlying4 _), hargs, rfl, hnx.frame _, fun h => by cases h⟩

theorem over : Rows.fnExactFirstBrokenRow.holds Try.pinned (OpenSpec.ofChange Rows.fnExactFirstBrokenSpec) :=
  OpenClaim.holds_of_wide 14 Try.f14 rfl rfl rfl rfl rfl rfl rfl ⟨rfl, rfl, rfl, rfl, rfl⟩ rfl rfl rfl rfl rfl (by kernel_rfl) Try.func14 (by kernel_rfl)
    (of_decide_eq_true (by kernel_rfl)) (by unfold Func.isWrapper; first | (rw [if_pos (by decide +kernel)]; kernel_rfl) | (rw [if_neg (by decide +kernel)]; exact ⟨rfl, rfl⟩))
    (fun os started H enc _ => lifted os started H enc)

/-- The given statement. -/
theorem proved : Rows.FnExactFirstBrokenSaid :=
  over
#print axioms proved
end Go.Proofs.Ytplheohkecooeaa.fnExactFirstBroken
