/-
  Contracts: the laws' toIntS, toOp, toOpS, toAlgebra: a copy of an argument, in memory of the call's own. Conditions: the bounds that each theorem names.
-/
import Derived.Test.YtcmjkfcgekmomaaOwn
namespace Go.Proofs.Ytcmjkfcgekmomaa
open Go.RowKit

theorem Try.infoInt : (Try.prog.info? 3).map (fun i => (i.zero, i.size, i.bytes)) = some (some (.int .i64 0), 1, 8) := by kernel_rfl
theorem Try.infoOp : (Try.prog.info? 66).map (fun i => (i.zero, i.size, i.bytes)) = some (some (.agg #[.int .i64 0, .slice none 0 0]), 2, 32) := by kernel_rfl

theorem toList_madeCells_zero (z : Value) (s : Nat) : (madeCells z.cells (0 * s)).toList = [] := by simp [madeCells]
theorem int_row {xs : List Int} {k n : Nat} {x : Int} (hl : xs.length = n) (hx : xs[k]? = some x) (z : Value) :
    ((xs.take k).map (Value.int .i64) ++ List.replicate (n - k) z).set k (.int .i64 x) = (xs.take (k + 1)).map (Value.int .i64) ++ List.replicate (n - (k + 1)) z := by
  have hk : k < xs.length := (List.getElem?_eq_some_iff.1 hx).1
  have hl' : ((xs.take k).map (Value.int .i64)).length = k := by simp; omega
  rw [List.set_append_right _ _ (by omega), hl', Nat.sub_self, List.take_add_one, hx]
  have : n - k = (n - (k + 1)) + 1 := by omega
  rw [this, List.replicate_succ]
  simp

theorem toInts_zero (ao : Option Addr) (c : Nat) (w : World) :
    Calls Try.prog 18 #[.slice ao 0 c] w fun e w' => e = .returned (.slice (some ⟨w.heap.size, 0, none⟩) 0 0) ∧
      w'.ownsRow w.heap.size 3 1 (.slice (some ⟨w.heap.size, 0, none⟩) 0 0) 0 [] ∧ Below w.heap.size w w' := by
  obtain ⟨i0, hi, hz0, hz1, hz2⟩ := info_parts Try.infoInt
  go_enter Try.func18, Try.ntmps18
  go_wp2_with (at_make; refine wpList_make_full _ rfl _ _ 25 rfl w.heap.size 3 i0 _ 1 Try.underlying25 hi hz0 hz1 _ _ _ _ 0 rfl rfl rfl rfl (by rw [hz2]; omega) (by decide) (Nat.le_refl _) ?_; intro w1 hown hgrow)
  refine wp_loop_rounds 1 ?_
  rw [rounds_succ]
  go_wp2
  go_ret
  rw [toList_madeCells_zero] at hown
  exact ⟨rfl, hown, (Below.refl _ _).grown hgrow (Nat.le_refl _) (by intro k hk; cases hk)⟩

set_option maxHeartbeats 400000 in
theorem toInts_some (b o c n : Nat) (xs : List Int) (w : World) (hlen : xs.length = n) (hn : n * 8 ≤ 281474976710656) (hb : b < w.heap.size)
    (hc : ∀ j x, xs[j]? = some x → w.cell? ⟨b, o + j, none⟩ = some (.int .i64 x)) :
    Calls Try.prog 18 #[.slice (some ⟨b, o, none⟩) n c] w fun e w' => e = .returned (.slice (some ⟨w.heap.size, 0, none⟩) n n) ∧
      w'.ownsRow w.heap.size 3 1 (.slice (some ⟨w.heap.size, 0, none⟩) n n) n (xs.map (Value.int .i64)) ∧ Below w.heap.size w w' := by
  have HL := Lib.hid hlen
  have HC := Lib.hid hc
  clear hlen hc
  obtain ⟨i0, hi, hz0, hz1, hz2⟩ := info_parts Try.infoInt
  go_enter Try.func18, Try.ntmps18
  go_wp2_with (at_make; refine wpList_make_full _ rfl _ _ 25 rfl w.heap.size 3 i0 _ 1 Try.underlying25 hi hz0 hz1 _ _ _ _ n rfl rfl rfl rfl (by rw [hz2]; omega) (by unfold maxLen; omega) (Nat.le_refl _) ?_; intro w1 hown hgrow)
  have hB1 : Below w.heap.size w w1 := (Below.refl _ _).grown hgrow (Nat.le_refl _) (by intro k hk; cases hk)
  have hown1 : w1.ownsRow w.heap.size 3 1 (.slice (some ⟨w.heap.size, 0, none⟩) n n) n ((xs.take 0).map (Value.int .i64) ++ List.replicate (n - 0) (.int .i64 0)) := by
    have h := hown
    rw [show (Value.int .i64 0).cells = #[Value.int .i64 0] from rfl, Nat.mul_one, toList_madeCells_one] at h
    simpa using h
  have HO := Lib.hid hown1
  have HB := Lib.hid hB1
  clear hown hgrow hown1 hB1 hi hz0 hz1 hz2
  go_loopw [4] (fun i wr => ∃ k : Nat, k ≤ n ∧ i = .int .i64 k ∧ Hid (wr.ownsRow w.heap.size 3 1 (.slice (some ⟨w.heap.size, 0, none⟩) n n) n ((xs.take k).map (Value.int .i64) ++ List.replicate (n - k) (.int .i64 0))) ∧ Hid (Below w.heap.size w wr)) (fun i _ => n - (intOf i).toNat)
  case atStart => exact ⟨0, Nat.zero_le _, rfl, HO, HB⟩
  case round =>
    obtain ⟨k, hk, rfl, HR, HBr⟩ := hrel
    by_cases hlt : k < n
    · obtain ⟨x, hx⟩ := get_of_lt HL.out hlt
      have hcell : wr.cell? ⟨b, o + k, none⟩ = some (.int .i64 x) := (HBr.out.cell (p := ⟨b, o + k, none⟩) hb).trans (HC.out k x hx)
      have hfr := HR.out.frozenAt k
      have hst := HR.out.stored k (.int .i64 x)
      rw [int_row HL.out hx] at hst
      have hold : ∃ u, wr.cell? ⟨w.heap.size, k, none⟩ = some u := by
        rw [HR.out.cellAt k (by omega)]
        have hl1 := HR.out.1
        exact ⟨_, List.getElem?_eq_getElem (by omega)⟩
      obtain ⟨u, hu⟩ := hold
      have HST := Lib.hid hst
      clear hst hx
      go_wp2
      go_roundw
      case rel => exact ⟨k + 1, by omega, by go_num, HST.out.1, HBr.out.grown HST.out.2 HBr.out.size (by intro j hj; cases hj; exact Nat.le_refl _)⟩
      case measure => simp [intOf]; omega
    · go_wp2
      go_ret
      have hk' : k = n := by omega
      refine ⟨rfl, ?_, HBr.out⟩
      have h := HR.out
      rw [hk', Nat.sub_self, List.replicate_zero, List.append_nil, List.take_of_length_le (by have := HL.out; omega)] at h
      exact h

theorem toInts_view (lo hi : Nat) (ao : Option Addr) (c n : Nat) (xs : List Int) (w : World) (h : IView w lo hi ao n xs) (hhi : hi ≤ w.heap.size) (hn : n * 8 ≤ 281474976710656) :
    Calls Try.prog 18 #[.slice ao n c] w fun e w' => e = .returned (.slice (some ⟨w.heap.size, 0, none⟩) n n) ∧
      w'.ownsRow w.heap.size 3 1 (.slice (some ⟨w.heap.size, 0, none⟩) n n) n (xs.map (Value.int .i64)) ∧ Below w.heap.size w w' := by
  obtain ⟨h1, rfl | ⟨b, o, rfl, _, hb, hc⟩⟩ := h
  · obtain rfl : xs = [] := List.eq_nil_of_length_eq_zero h1
    exact toInts_zero ao c w
  · exact toInts_some b o c n xs w h1 hn (by omega) hc

/-- What toOp gives: the operation, its table in memory of the call's own. -/
def MadeOp (w w' : World) (r : Int) (n : Nat) (xs : List Int) (e : Ending) : Prop :=
  ∃ g, e = .returned (.agg #[.int .i64 r, .slice (some ⟨g, 0, none⟩) n n]) ∧ w'.ownsRow w.heap.size 3 1 (.slice (some ⟨g, 0, none⟩) n n) n (xs.map (Value.int .i64)) ∧ Below w.heap.size w w'

theorem toOp_any (lo hi : Nat) (r : Int) (ao : Option Addr) (c n : Nat) (xs : List Int) (w : World) (h : IView w lo hi ao n xs) (hhi : hi ≤ w.heap.size) (hn : n * 8 ≤ 281474976710656) :
    Calls Try.prog 93 #[.agg #[.int .i64 r, .slice ao n c]] w fun e w' => MadeOp w w' r n xs e := by
  have hc := Lib.hid (fun (w1 : World) (hb : Below w.heap.size w w1) => toInts_view lo hi ao c n xs w1 (h.kept (Kept.of_below hb hhi)) (by have := hb.size; omega) hn)
  clear h hhi
  go_enter Try.func93, Try.ntmps93
  go_wp2_with fail
  refine (hc.out _ ((((Below.refl _ _).alloc (Nat.le_refl _) _).alloc (by simp) _).alloc (by simp; omega) _)).mono ?_
  rintro e w1 ⟨rfl, h1, h2⟩
  obtain ⟨hcc, hff⟩ := bcell h2
  have hz : w.heap.size + 1 + 1 + 1 ≤ w1.heap.size := by have := h2.size; simp at this; omega
  have H1 := Lib.hid h1
  have H2 := Lib.hid h2
  clear h1 h2
  go_wp2_with fail
  refine bodyPost_ret (v := .agg #[.int .i64 r, .slice (some ⟨w.heap.size + 1 + 1 + 1, 0, none⟩) n n]) (by simp [results, Try.results93, go_sem, hcc]) rfl ⟨_, rfl, ?_, ?_⟩
  · have h1 := H1.out
    simp only [World.size_alloc] at h1
    exact ownsRow_base (ownsRow_setCell_below (ownsRow_setCell_below (ownsRow_setCell_below h1 (by show _ < _; simp) _) (by show _ < _; simp) _) (by show _ < _; simp) _) (by omega)
  · exact ((((((Below.refl _ _).alloc (Nat.le_refl _) _).alloc (by simp) _).alloc (by simp; omega) _).trans (H2.out.mono (by simp; omega))).setCell (by show _ ≤ _; simp; omega) _).setCell (by show _ ≤ _; simp) _ |>.setCell (by show _ ≤ _; simp) _

theorem toOps_zero (ao : Option Addr) (c : Nat) (w : World) :
    Calls Try.prog 52 #[.slice ao 0 c] w fun e w' => e = .returned (.slice (some ⟨w.heap.size, 0, none⟩) 0 0) ∧
      w'.ownsRow w.heap.size 66 2 (.slice (some ⟨w.heap.size, 0, none⟩) 0 0) 0 [] ∧ Below w.heap.size w w' := by
  obtain ⟨i0, hi, hz0, hz1, hz2⟩ := info_parts Try.infoOp
  go_enter Try.func52, Try.ntmps52
  go_wp2_with (at_make; refine wpList_make_full _ rfl _ _ 29 rfl w.heap.size 66 i0 _ 2 Try.underlying29 hi hz0 hz1 _ _ _ _ 0 rfl rfl rfl rfl (by rw [hz2]; omega) (by decide) (Nat.le_refl _) ?_; intro w1 hown hgrow)
  refine wp_loop_rounds 1 ?_
  rw [rounds_succ]
  go_wp2
  go_ret
  rw [toList_madeCells_zero] at hown
  exact ⟨rfl, hown, (Below.refl _ _).grown hgrow (Nat.le_refl _) (by intro k hk; cases hk)⟩

set_option maxHeartbeats 1000000 in
theorem toOps_some (hi b o c n : Nat) (fs : List OpD) (w : World) (hlen : fs.length = n) (hn : n * 32 ≤ 281474976710656) (hs : ∀ (j : Nat) (f : OpD), fs[j]? = some f → f.2.length * 8 ≤ 281474976710656) (hb : b < hi) (hhi : hi ≤ w.heap.size)
    (hc : ∀ j f, fs[j]? = some f → ∃ a m c, w.cell? ⟨b, o + j * 2, none⟩ = some (.int .i64 f.1) ∧ w.cell? ⟨b, o + j * 2 + 1, none⟩ = some (.slice a m c) ∧ m ≤ c ∧ c ≤ maxLen ∧ IView w 0 hi a m f.2) :
    Calls Try.prog 52 #[.slice (some ⟨b, o, none⟩) n c] w fun e w' => e = .returned (.slice (some ⟨w.heap.size, 0, none⟩) n n) ∧
      (∃ G C, OwnsOps w' w.heap.size w'.heap.size (.slice (some ⟨w.heap.size, 0, none⟩) n n) n G C (fun j => fs.getD j (0, []))) ∧ Below w.heap.size w w' := by
  have HL := Lib.hid hlen
  have HC := Lib.hid hc
  have HSz := Lib.hid hs
  clear hlen hc hs
  obtain ⟨i0, hi0, hz0, hz1, hz2⟩ := info_parts Try.infoOp
  go_enter Try.func52, Try.ntmps52
  go_wp2_with (at_make; refine wpList_make_full _ rfl _ _ 29 rfl w.heap.size 66 i0 _ 2 Try.underlying29 hi0 hz0 hz1 _ _ _ _ n rfl rfl rfl rfl (by rw [hz2]; omega) (by unfold maxLen; omega) (Nat.le_refl _) ?_; intro w1 hown hgrow)
  have hB1 : Below w.heap.size w w1 := (Below.refl _ _).grown hgrow (Nat.le_refl _) (by intro k hk; cases hk)
  obtain ⟨Z, hZ⟩ : ∃ Z, Z = (madeCells (Value.agg #[.int .i64 0, .slice none 0 0]).cells (n * 2)).toList := ⟨_, rfl⟩
  rw [← hZ] at hown
  have HZ : Hid (Z.length = n * 2) := hown.1
  have HO := Lib.hid hown
  have HB := Lib.hid hB1
  clear hown hgrow hB1 hi0 hz0 hz1 hz2 hZ
  go_loopw [4] (fun i wr => ∃ k : Nat, k ≤ n ∧ i = .int .i64 k ∧ Hid (∃ G C F, OwnsTabs wr w.heap.size k G C F ∧ (∀ j, j < k → F j = fs.getD j (0, [])) ∧ wr.ownsRow w.heap.size 66 2 (.slice (some ⟨w.heap.size, 0, none⟩) n n) n (fillN k G C F Z)) ∧ Hid (Below w.heap.size w wr)) (fun i _ => n - (intOf i).toNat)
  case atStart => exact ⟨0, Nat.zero_le _, rfl, ⟨fun _ => 0, fun _ => 0, fun _ => (0, []), OwnsTabs.nil _ _ _ _ _, fun j hj => by omega, by rw [fillN_zero]; exact HO.out⟩, HB⟩
  case round =>
    obtain ⟨k, hk, rfl, HR, HBr⟩ := hrel
    by_cases hlt : k < n
    · obtain ⟨f, hf⟩ := get_of_lt HL.out hlt
      obtain ⟨a, m, c', c0, c1, hmc, hcm, hv⟩ := HC.out k f hf
      have e0 : wr.cell? ⟨b, o + k * 2, none⟩ = some (.int .i64 f.1) := (HBr.out.cell (p := ⟨b, _, none⟩) (by show b < _; omega)).trans c0
      have e1 : wr.cell? ⟨b, o + k * 2 + 1, none⟩ = some (.slice a m c') := (HBr.out.cell (p := ⟨b, _, none⟩) (by show b < _; omega)).trans c1
      have hfl : f.2.length = m := hv.1
      have hfs := HSz.out k f hf
      have hcall := Lib.hid (toOp_any 0 hi f.1 a c' m f.2 wr (hv.kept (Kept.of_below HBr.out (by omega))) (by have := HBr.out.size; omega) (by omega))
      obtain ⟨r, hr⟩ : ∃ r, f.1 = r := ⟨_, rfl⟩
      obtain ⟨xs, hxs⟩ : ∃ xs, f.2 = xs := ⟨_, rfl⟩
      have HF : Hid (fs.getD k (0, []) = (r, xs)) := by
        unfold Hid
        rw [List.getD_eq_getElem?_getD, hf]
        show f = _
        rw [← hr, ← hxs]
      rw [hr, hxs] at hcall
      rw [hr] at e0
      rw [hxs] at hfl
      have HFL := Lib.hid hfl
      clear hf hfl hv c0 c1 hmc hcm hr hxs hfs
      go_wp2_with fail
      refine hcall.out.mono ?_
      rintro e w2 ⟨g, rfl, ho, b2⟩
      obtain ⟨G, C, F, ht, hFs, hrow⟩ := HR.out
      have hrow2 := hrow.kept (grown_of_below b2 none) (own_em _)
      have ht2 := ht.push (r := r) b2 HBr.out.size (xs := xs) (by rw [HFL.out]; exact ho)
      have f0 := hrow2.frozenAt (k * 2)
      have f1 := hrow2.frozenAt (k * 2 + 1)
      have hzl := HZ.out
      have hl1 := hrow2.1
      have o0 : ∃ u, w2.cell? ⟨w.heap.size, k * 2, none⟩ = some u := by
        rw [hrow2.cellAt (k * 2) (by omega)]
        exact ⟨_, List.getElem?_eq_getElem (by omega)⟩
      have o1 : ∃ u, w2.cell? ⟨w.heap.size, k * 2 + 1, none⟩ = some u := by
        rw [hrow2.cellAt (k * 2 + 1) (by omega)]
        exact ⟨_, List.getElem?_eq_getElem (by omega)⟩
      obtain ⟨u0, o0⟩ := o0
      obtain ⟨u1, o1⟩ := o1
      have hs1 := hrow2.stored (k * 2) (.int .i64 r)
      have hs2 := hs1.1.stored (k * 2 + 1) (.slice (some ⟨g, 0, none⟩) m m)
      have HN : Hid (∀ j, j < k + 1 → upd G k g j ≠ w.heap.size) := fun j hj e => row_ne hrow2 (ht2.tab j hj) (by decide) (by rw [e]; rfl)
      have HS1 := Lib.hid hs1
      have HS2 := Lib.hid hs2
      have HT2 := Lib.hid ht2
      have HFs := Lib.hid hFs
      have HB2 := Lib.hid (HBr.out.trans (b2.mono HBr.out.size))
      have hg := Lib.hid ((ht2.lt (show k < k + 1 by omega)).1)
      clear hs1 hs2 ht2 hFs hrow hrow2 ht b2 ho hl1 hzl
      go_wp2_with fail
      go_roundw
      case rel =>
        refine ⟨k + 1, by omega, by go_num, ⟨_, _, _, (HT2.out.setRow HS1.out.2 HN.out).setRow HS2.out.2 HN.out, fun j hj => ?_, ?_⟩, (HB2.out.setCell (by show _ ≤ _; exact Nat.le_refl _) _).setCell (by show _ ≤ _; exact Nat.le_refl _) _⟩
        · by_cases hjk : j = k
          · subst hjk; rw [upd_same]; exact HF.out.symm
          · rw [upd_other hjk]; exact HFs.out j (by omega)
        · have h := HS2.out.1
          rw [← HFL.out, fillN_step HZ.out hlt] at h
          rw [← HFL.out]
          exact h
      case measure => simp [intOf]; omega
    · go_wp2
      go_ret
      have hk' : k = n := by omega
      refine ⟨rfl, ?_, HBr.out⟩
      obtain ⟨G, C, F, ht, hFs, hrow⟩ := HR.out
      subst hk'
      rw [fillN_all HZ.out] at hrow
      exact ⟨G, C, (ht.ops hrow).congr fun j hj => ⟨rfl, rfl, hFs j hj⟩⟩

/-- A copy of a list of operations, in memory of the call's own. -/
def MadeOps (w w' : World) (ao : Option Addr) (n c : Nat) (fs : List OpD) : Prop :=
  (∃ G C, OwnsOps w' w.heap.size w'.heap.size (.slice ao n c) n G C (fun j => fs.getD j (0, []))) ∧ Below w.heap.size w w'
theorem MadeOps.view {w w' : World} {ao : Option Addr} {n c : Nat} {fs : List OpD} (h : MadeOps w w' ao n c fs) (hl : fs.length = n) : OView w' w.heap.size w'.heap.size ao n fs := by
  obtain ⟨⟨G, C, ho⟩, _⟩ := h
  have h2 := ho.view
  rw [← hl, map_range_get] at h2
  rw [← hl]
  exact h2

theorem toOps_view (hi : Nat) (ao : Option Addr) (c n : Nat) (fs : List OpD) (w : World) (h : OView w 0 hi ao n fs) (hhi : hi ≤ w.heap.size) (hn : n * 32 ≤ 281474976710656) (hs : ∀ (j : Nat) (f : OpD), fs[j]? = some f → f.2.length * 8 ≤ 281474976710656) :
    Calls Try.prog 52 #[.slice ao n c] w fun e w' => e = .returned (.slice (some ⟨w.heap.size, 0, none⟩) n n) ∧ MadeOps w w' (some ⟨w.heap.size, 0, none⟩) n n fs := by
  obtain ⟨h1, rfl | ⟨b, o, rfl, _, hb, hc⟩⟩ := h
  · obtain rfl : fs = [] := List.eq_nil_of_length_eq_zero h1
    exact (toOps_zero ao c w).mono fun e w' ⟨he, ho, hb⟩ => ⟨he, ⟨fun _ => 0, fun _ => 0, (OwnsTabs.nil _ _ _ _ _).ops ho⟩, hb⟩
  · exact toOps_some hi b o c n fs w h1 hn hs hb hhi hc

/-- The algebra as a value. -/
def algV (z : Int) (ao : Option Addr) (n c : Nat) : Value := .agg #[.int .i64 z, .slice ao n c]
/-- A copy of an algebra. -/
def MadeAlg (w w' : World) (z : Int) (n : Nat) (fs : List OpD) (e : Ending) : Prop :=
  ∃ g, e = .returned (.agg #[.int .i64 z, .slice (some ⟨g, 0, none⟩) n n]) ∧ MadeOps w w' (some ⟨g, 0, none⟩) n n fs

theorem toAlg_view (hi : Nat) (z : Int) (ao : Option Addr) (c n : Nat) (fs : List OpD) (w : World) (h : OView w 0 hi ao n fs) (hhi : hi ≤ w.heap.size) (hn : n * 32 ≤ 281474976710656) (hs : ∀ (j : Nat) (f : OpD), fs[j]? = some f → f.2.length * 8 ≤ 281474976710656) :
    Calls Try.prog 17 #[.agg #[.int .i64 z, .slice ao n c]] w fun e w' => MadeAlg w w' z n fs e := by
  have hc := Lib.hid (fun (w1 : World) (hb : Below w.heap.size w w1) => toOps_view hi ao c n fs w1 (h.kept (Kept.of_below hb hhi)) (by have := hb.size; omega) hn hs)
  clear h hhi hs
  go_enter Try.func17, Try.ntmps17
  go_wp2_with fail
  refine (hc.out _ ((((Below.refl _ _).alloc (Nat.le_refl _) _).alloc (by simp) _).alloc (by simp; omega) _)).mono ?_
  rintro e w1 ⟨rfl, ⟨G, C, h1⟩, h2⟩
  obtain ⟨hcc, hff⟩ := bcell h2
  have hz : w.heap.size + 1 + 1 + 1 ≤ w1.heap.size := by have := h2.size; simp at this; omega
  have H1 := Lib.hid h1
  have H2 := Lib.hid h2
  clear h1 h2
  go_wp2_with fail
  refine bodyPost_ret (v := .agg #[.int .i64 z, .slice (some ⟨w.heap.size + 1 + 1 + 1, 0, none⟩) n n]) (by simp [results, Try.results17, go_sem, hcc]) rfl ⟨_, rfl, ?_, ?_⟩
  · have h1 := H1.out
    simp only [World.size_alloc] at h1
    have hk : ∀ (v1 v2 v3 : Value) (a2 a3 : Addr), a2.block = w.heap.size + 1 → a3.block = w.heap.size + 1 → Kept (w.heap.size + 1 + 1 + 1) w1.heap.size w1 (((w1.setCell ⟨w.heap.size + 1 + 1, 1, none⟩ v1).setCell a2 v2).setCell a3 v3) := by
      intro v1 v2 v3 a2 a3 h2 h3 k hk1 hk2
      rw [Below.heap_setCell _ _ _ _ (by omega), Below.heap_setCell _ _ _ _ (by omega), Below.heap_setCell _ _ _ _ (by show k ≠ w.heap.size + 1 + 1; omega)]
    exact ⟨G, C, ((h1.kept (hk _ _ _ _ _ rfl rfl)).lo_mono (by omega)).hi_mono (by simp [World.setCell])⟩
  · exact ((((((Below.refl _ _).alloc (Nat.le_refl _) _).alloc (by simp) _).alloc (by simp; omega) _).trans (H2.out.mono (by simp; omega))).setCell (by show _ ≤ _; simp; omega) _).setCell (by show _ ≤ _; simp) _ |>.setCell (by show _ ≤ _; simp) _

end Go.Proofs.Ytcmjkfcgekmomaa
