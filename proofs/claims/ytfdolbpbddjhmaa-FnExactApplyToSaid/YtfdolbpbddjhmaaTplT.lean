/-
  Contract: impl.tuplesOf: lists as arrays of 64 bytes. Conditions: the bounds that it names.
-/
import Derived.Test.YtfdolbpbddjhmaaTplM
import Derived.Test.YtfdolbpbddjhmaaTplI
import Derived.Test.YtfdolbpbddjhmaaLView
import Derived.Test.YtfdolbpbddjhmaaDia
import Derived.Laws.CopyOwn
namespace Go.Proofs.Ytfdolbpbddjhmaa
open Go.RowKit
set_option linter.unusedVariables false
set_option linter.unusedSimpArgs false

/-- N cells of one byte each. -/
def cellsB (N : Nat) (G : Nat → Int) : List Value := (List.range N).map (fun k => Value.int .u8 (G k))
theorem cellsB_len (N : Nat) (G : Nat → Int) : (cellsB N G).length = N := by simp [cellsB]
theorem cellsB_get {N k : Nat} (G : Nat → Int) (h : k < N) : (cellsB N G)[k]? = some (.int .u8 (G k)) := by simp [cellsB, h]
theorem cellsB_set {N k : Nat} (G : Nat → Int) (x : Int) (h : k < N) : (cellsB N G).set k (.int .u8 x) = cellsB N (putB G k x) := by
  apply List.ext_getElem?
  intro j
  rw [List.getElem?_set]
  by_cases hj : j < N
  · rw [cellsB_get (putB G k x) hj]
    by_cases hjk : k = j
    · subst hjk
      rw [if_pos rfl, if_pos (by rw [cellsB_len]; exact hj), putB_same]
    · rw [if_neg hjk, cellsB_get G hj, putB_other (fun e => hjk e.symm)]
  · rw [List.getElem?_eq_none (l := cellsB N (putB G k x)) (by rw [cellsB_len]; omega)]
    by_cases hjk : k = j
    · omega
    · rw [if_neg hjk, List.getElem?_eq_none (by rw [cellsB_len]; omega)]
theorem infoBT : (Try.prog.info? 84).map (fun i => (i.zero, i.size, i.bytes)) = some (some (.agg (arrB fun _ => 0)), 64, 64) := by kernel_rfl
theorem made_cellsB (n : Nat) : (madeCells (Value.agg (arrB fun _ => 0)).cells (n * 64)).toList = cellsB (n * 64) (fun _ => 0) := by
  show (madeCells (arrB fun _ => 0) (n * 64)).toList = _
  apply List.ext_getElem?
  intro j
  by_cases hj : j < n * 64
  · rw [cellsB_get _ hj]
    have h2 : (arrB fun _ => 0)[j % 64]? = some (.int .u8 0) := arrB_get _ (Nat.mod_lt _ (by decide))
    simp [madeCells, arrB_size, hj, h2, Array.getElem!_eq_getD, Array.getD_eq_getD_getElem?]
  · rw [List.getElem?_eq_none (l := cellsB (n * 64) fun _ => 0) (by rw [cellsB_len]; omega)]
    exact List.getElem?_eq_none (by simp [madeCells]; omega)

def ResTups (w w' : World) (ls : List (List Int)) (n : Nat) (r : Bool) (e : Ending) : Prop :=
  (r = true ∧ ∃ g G, e = .returned (.tuple #[.slice (some ⟨g, 0, none⟩) n n, .bool true]) ∧ w'.ownsRow w.heap.size 84 64 (.slice (some ⟨g, 0, none⟩) n n) n (cellsB (n * 64) G) ∧ (∀ i t p, ls[i]? = some t → p < 64 → G (i * 64 + p) = t.getD p 0) ∧ Below w.heap.size w w')
  ∨ (r = false ∧ e = .returned (.tuple #[.slice none 0 0, .bool false]) ∧ Below w.heap.size w w')

set_option maxRecDepth 100000 in
set_option maxHeartbeats 4000000 in
theorem tuplesOf_any (lo hi : Nat) (z : Int) (ao : Option Addr) (c n : Nat) (fs : List OpD) (K : Nat) (lo2 hi2 : Nat) (bo : Option Addr) (d m : Nat) (ls : List (List Int)) (w : World) (hv : OView w lo hi ao n fs) (hhi : hi ≤ w.heap.size) (hs : ∀ (j : Nat) (f : OpD), fs[j]? = some f → f.2.length ≤ maxLen) (hok : algOkB z fs = true)
    (hx : LView w lo2 hi2 bo m ls) (hhi2 : hi2 ≤ w.heap.size) (hm : m ≤ 1099511627776) :
    Calls Try.prog 77 #[.agg #[.int .i64 z, .slice ao n c], .int .i64 (K : Int), .slice bo m d] w fun e w' => ResTups w w' ls m (tupsB z K ls) e := by
  obtain ⟨⟨h1, h2⟩, _, _⟩ := algOkB_of hok
  have hB := below_alloc w (.cells #[.int .i64 z, .slice ao n c] 28)
  have HB := Lib.hid hB
  have hG := isAlg_any lo hi z ao c n fs _ (hv.kept (Kept.of_below hB hhi)) (Nat.le_trans hhi hB.size) hs
  rw [hok] at hG
  have HG := Lib.hid hG
  have cz0 : (w.alloc (.cells #[.int .i64 z, .slice ao n c] 28)).cell? ⟨w.heap.size, 0, none⟩ = some (.int .i64 z) := by simp
  have HL := Lib.hid (fun W => isLen_any (K : Int) W)
  obtain ⟨t2, ht2⟩ : ∃ t, inB 1 64 (K : Int) = t := ⟨_, rfl⟩
  rw [ht2] at HL
  have HX := Lib.hid hx
  cases t2 with
  | false =>
    rw [show tupsB z K ls = false by rw [tupsB, ht2, Bool.and_false]]
    clear hG hB hs hv hok cz0 ht2 hx
    go_enter Try.func77, Try.ntmps77
    go_wp2_with fail
    refine HG.out.mono ?_
    rintro e w1 ⟨rfl, b1⟩
    have HB1 := Lib.hid (HB.out.trans (b1.mono HB.out.size))
    clear b1
    go_wp2_with fail
    refine (HL.out _).mono ?_
    rintro e w2 ⟨rfl, rfl⟩
    go_wp2_with fail
    go_ret2
    exact .inr ⟨rfl, rfl, HB1.out⟩
  | true =>
    have hK1 : 1 ≤ K := by simp [inB] at ht2; omega
    have hK64 : K ≤ 64 := by simp [inB] at ht2; omega
    obtain ⟨j0, hj0, hq0, hq1, hq2⟩ := info_parts infoBT
    obtain ⟨R, hR⟩ : ∃ R, tupsB z K ls = R := ⟨_, rfl⟩
    have hR2 : ls.all (tupB z K) = R := by rw [← hR, tupsB, ht2, Bool.and_true]
    have HR := Lib.hid hR
    have HR2' := Lib.hid hR2
    rw [hR]
    clear hG hB hs hv hok ht2 hx hR hR2
    go_enter Try.func77, Try.ntmps77
    go_wp2_with fail
    refine HG.out.mono ?_
    rintro e w1 ⟨rfl, b1⟩
    have HB1 := Lib.hid (HB.out.trans (b1.mono HB.out.size))
    have cz : w1.cell? ⟨w.heap.size, 0, none⟩ = some (.int .i64 z) := cell_b b1 cz0
    have hsz : w.heap.size < w1.heap.size := by have := b1.size; simp at this; omega
    clear b1 cz0
    go_wp2_with fail
    refine (HL.out _).mono ?_
    rintro e w2 ⟨rfl, rfl⟩
    obtain ⟨w3, hr3, ho3, hg3⟩ := run_make_full (P := Try.prog) w1 w1.heap.size 80 84 j0 _ 64 Try.underlying80 hj0 hq0 hq1 .i64 .i64 m (by rw [hq2]; omega) (by unfold maxLen; omega) (Nat.le_refl _)
    rw [made_cellsB] at ho3
    obtain ⟨g, hg⟩ : ∃ g : Nat, g = w1.heap.size := ⟨_, rfl⟩
    rw [← hg] at hr3 ho3
    have HR3 := Lib.hid ho3
    have HB3 : Hid (Below g w1 w3) := (Below.refl g w1).grown hg3 (by omega) (by intro k hk; cases hk)
    have cz3 : w3.cell? ⟨w.heap.size, 0, none⟩ = some (.int .i64 z) := (HB3.out.cell (p := ⟨w.heap.size, 0, none⟩) (by show w.heap.size < g; omega)).trans cz
    have hwg : w.heap.size < g := by omega
    have HGs : Hid (g = w1.heap.size) := hg
    clear ho3 hg3 cz hsz hg
    go_wp2_with fail
    go_loopw [9, 10, 11, 12, 26] (fun s9 s10 s11 s12 i wr => ∃ (j : Nat) (G : Nat → Int), j ≤ m ∧ i = .int .i64 (j : Int) ∧ Hid (wr.ownsRow g 84 64 (.slice (some ⟨g, 0, none⟩) m m) m (cellsB (m * 64) G)) ∧ Hid (∀ i t p, ls[i]? = some t → p < 64 → G (i * 64 + p) = if i < j then t.getD p 0 else 0) ∧ Hid ((ls.take j).all (tupB z K) = true) ∧ Hid (Below g w1 wr) ∧ wr.cell? ⟨w.heap.size, 0, none⟩ = some (.int .i64 z)) (fun _ _ _ _ i _ => m - (intOf i).toNat)
    case atStart => exact ⟨0, fun _ => 0, Nat.zero_le _, rfl, HR3, fun i t p _ _ => by rw [if_neg (by omega)], rfl, HB3, cz3⟩
    case round =>
      obtain ⟨j, G, hj, rfl, HRo, HGt, HAl, HBr, dz⟩ := hrel
      clear HR3 HB3 cz3 hr3
      by_cases hlt : j < m
      · obtain ⟨b, o, rfl, _, hbh, hc⟩ := HX.out.at_ (by omega)
        obtain ⟨t, ht⟩ : ∃ t, ls[j]? = some t := ⟨_, List.getElem?_eq_getElem (by have := HX.out.1; omega)⟩
        obtain ⟨a, l, c', c0, hmc, hcm, hvt⟩ := hc j t ht
        have HBW : Hid (Below w.heap.size w wr) := HB1.out.trans (HBr.out.mono (by omega))
        have e1 : wr.cell? ⟨b, o + j, none⟩ = some (.slice a l c') := cell_b HBW.out c0
        have hvr := hvt.kept (Kept.of_below HBW.out hhi2)
        have hE := elems_impl _ _ z a c' l t wr hvr (by omega)
        have HVr := Lib.hid hvr
        have Ht := Lib.hid ht
        have hjn : (j : Int) < (m : Int) := by omega
        have hll : t.length = l := hvt.1
        have HLL := Lib.hid hll
        obtain ⟨u, hu⟩ : ∃ u, allIn z t = u := ⟨_, rfl⟩
        rw [hu] at hE
        have HE := Lib.hid hE
        have Hu := Lib.hid hu
        by_cases hlK : l = K
        · have hne : ((l : Int) != (K : Int)) = false := by simp [hlK]
          have HK := Lib.hid hlK
          clear hc c0 hvt hvr hE ht hu hll hlK
          cases u with
          | false =>
            obtain rfl : R = false := by
              have h := all_no Ht.out (z := z) (k := (K : Int)) (by rw [tupB, Hu.out, Bool.and_false])
              rw [← HR.out, h]
            go_wp2_with fail
            refine HE.out.mono ?_
            rintro e w2 ⟨rfl, rfl⟩
            go_wp2_with fail
            go_ret2
            exact .inr ⟨rfl, rfl, HBW.out⟩
          | true =>
            go_wp2_with fail
            refine HE.out.mono ?_
            rintro e w2 ⟨rfl, rfl⟩
            go_wp2_with fail
            go_loopw [11, 12, 44] (fun s11 s12 i wi => ∃ (q : Nat) (F : Nat → Int), q ≤ l ∧ i = .int .i64 (q : Int) ∧ Hid (wi.ownsRow g 84 64 (.slice (some ⟨g, 0, none⟩) m m) m (cellsB (m * 64) F)) ∧ Hid (∀ i t p, ls[i]? = some t → p < 64 → F (i * 64 + p) = if i < j ∨ (i = j ∧ p < q) then t.getD p 0 else 0) ∧ Hid (Below g w1 wi) ∧ wi.cell? ⟨w.heap.size, 0, none⟩ = some (.int .i64 z)) (fun _ _ i _ => l - (intOf i).toNat)
            case atStart => exact ⟨0, G, Nat.zero_le _, rfl, HRo, (fun i t p h h' => by rw [HGt.out i t p h h']; simp), HBr, dz⟩
            case round =>
              obtain ⟨q, F, hq, rfl, HRi, HFt, HBi, di⟩ := hrel
              by_cases hltq : q < l
              · obtain ⟨b3, o3, rfl, _, hb3, hc3⟩ := HVr.out.at_ (by omega)
                obtain ⟨x, hx⟩ := get_of_lt HLL.out hltq
                obtain ⟨x0, x1⟩ := allIn_get Hu.out hx
                have hxd : t.getD q 0 = x := by rw [List.getD_eq_getElem?_getD, hx]; rfl
                have HXd := Lib.hid hxd
                have e2 : wr.cell? ⟨b3, o3 + q, none⟩ = some (.int .i64 x) := by
                  have h := hc3 q x hx
                  have hb : b3 < g := by omega
                  rw [HBi.out.cell (p := ⟨b3, o3 + q, none⟩) hb, ← HBr.out.cell (p := ⟨b3, o3 + q, none⟩) hb]; exact h
                have hx255 : x ≤ 255 := by omega
                have hq64 : (q : Int) < 64 := by have := HK.out; omega
                have hql : (q : Int) < (l : Int) := by omega
                have hN : j * 64 + q < m * 64 := by have := HK.out; omega
                have hce : wr.cell? ⟨g, j * 64 + q, none⟩ = some (.int .u8 (F (j * 64 + q))) := by rw [HRi.out.cellAt _ hN]; exact cellsB_get F hN
                have hfr := HRi.out.frozenAt (j * 64 + q)
                have hst := HRi.out.stored (j * 64 + q) (.int .u8 x)
                rw [cellsB_set F x hN] at hst
                have HST := Lib.hid hst
                have HF2 : Hid (∀ i t p, ls[i]? = some t → p < 64 → putB F (j * 64 + q) x (i * 64 + p) = if i < j ∨ (i = j ∧ p < q + 1) then t.getD p 0 else 0) := by
                  intro i t' p hi hp
                  have hK_ := HK.out
                  by_cases he : i = j ∧ p = q
                  · obtain ⟨rfl, rfl⟩ := he
                    obtain rfl : t = t' := by have := Ht.out.symm.trans hi; injection this
                    rw [putB_same, if_pos (by omega), HXd.out]
                  · rw [putB_other (by omega), HFt.out i t' p hi hp]
                    by_cases h : i < j ∨ (i = j ∧ p < q)
                    · rw [if_pos h, if_pos (by omega)]
                    · rw [if_neg h, if_neg (by omega)]
                have HB2 : Hid (Below g w1 (wr.setCell ⟨g, j * 64 + q, none⟩ (.int .u8 x))) := HBi.out.setCell (Nat.le_refl g) _
                have d2 : (wr.setCell ⟨g, j * 64 + q, none⟩ (.int .u8 x)).cell? ⟨w.heap.size, 0, none⟩ = some (.int .i64 z) :=
                  (World.cell?_of_block (a := ⟨w.heap.size, 0, none⟩) (heap_setCell_other wr ⟨g, j * 64 + q, none⟩ w.heap.size (.int .u8 x) (by show w.heap.size ≠ g; omega))).trans di
                clear hc3 hx hxd hst hb3
                go_wp2_with fail
                go_roundw
                case rel => exact ⟨q + 1, _, by omega, by go_num, HST.out.1, HF2, HB2, d2⟩
                case measure => simp [intOf]; omega
              · obtain rfl : q = l := by omega
                have hql : ¬ (q : Int) < (q : Int) := by omega
                have HF3 : Hid (∀ i t p, ls[i]? = some t → p < 64 → F (i * 64 + p) = if i < j + 1 then t.getD p 0 else 0) := by
                  intro i t' p hi hp
                  rw [HFt.out i t' p hi hp]
                  by_cases he : i = j
                  · subst he
                    obtain rfl : t = t' := by have := Ht.out.symm.trans hi; injection this
                    by_cases hpq : p < q
                    · rw [if_pos (by omega), if_pos (by omega)]
                    · rw [if_neg (by omega), if_pos (by omega), List.getD_eq_getElem?_getD, List.getElem?_eq_none (by have := HLL.out; omega)]; rfl
                  · by_cases h : i < j
                    · rw [if_pos (by omega), if_pos (by omega)]
                    · rw [if_neg (by omega), if_neg (by omega)]
                have HA2 := Lib.hid (all_take_succ Ht.out HAl.out (by rw [tupB, Hu.out, Bool.and_true, HLL.out, HK.out]; simp))
                go_wp2_with fail
                go_roundw
                case rel => exact ⟨j + 1, F, by omega, by go_num, HRi, HF3, HA2, HBi, di⟩
                case measure => simp [intOf]; omega
        · have hne : ((l : Int) != (K : Int)) = true := by simp; omega
          obtain rfl : R = false := by
            have h := all_no ht (z := z) (k := (K : Int)) (by rw [tupB, hll, decide_eq_false (by omega), Bool.false_and])
            rw [← HR.out, h]
          clear hc c0 hvt hvr hE ht hu hll hlK
          go_wp2_with fail
          go_ret2
          exact .inr ⟨rfl, rfl, HBW.out⟩
      · obtain rfl : j = m := by omega
        have hjn : ¬ (j : Int) < (j : Int) := by omega
        obtain rfl : R = true := by
          have h := HAl.out
          rw [List.take_of_length_le (by have := HX.out.1; omega)] at h
          rw [← HR2'.out, h]
        go_wp2_with fail
        go_ret2
        refine .inl ⟨rfl, g, G, rfl, ownsRow_base HRo.out (by omega), ?_, HB1.out.trans (HBr.out.mono (by omega))⟩
        intro i t p hi hp
        rw [HGt.out i t p hi hp, if_pos (by have := HX.out.1; have := (List.getElem?_eq_some_iff.1 hi).1; omega)]

end Go.Proofs.Ytfdolbpbddjhmaa
