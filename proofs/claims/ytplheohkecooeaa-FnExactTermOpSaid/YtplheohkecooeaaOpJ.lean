/-
  Contract: impl.TermOp at its good arguments. Conditions: the bounds that it names.
-/
import Derived.Test.YtplheohkecooeaaOpI
namespace Go.Proofs.Ytplheohkecooeaa
open Go.RowKit
set_option linter.unusedVariables false
set_option linter.unusedSimpArgs false
attribute [local go_sem ↓] Go.wp_at_zero Go.wp_at_succ

set_option maxRecDepth 100000 in
set_option maxHeartbeats 4000000 in
theorem iop_yes (lo hi : Nat) (z : Int) (ao : Option Addr) (c n : Nat) (fs : List OpD) (lo2 hi2 : Nat) (bo : Option Addr) (d m : Nat) (xs : List Int) (kn n0 : Nat) (w : World) (hv : OView w lo hi ao n fs) (hhi : hi ≤ w.heap.size) (hs : ∀ (j : Nat) (f : OpD), fs[j]? = some f → f.2.length ≤ maxLen)
    (hx : IView w lo2 hi2 bo m xs) (hhi2 : hi2 ≤ w.heap.size) (hmd : m ≤ d) (hm : d ≤ maxLen) (hq : ∀ x, x ∈ xs → (Lit.int .i64 x).wf = true) (hr : isTermB z fs xs = true) (hk3 : kn ≤ 3) (hf : fitsB xs kn = true) (hn0 : powI z kn = (n0 : Int)) :
    Calls Try.prog 40 #[.agg #[.int .i64 z, .slice ao n c], .slice bo m d, .int .i64 (kn : Int)] w fun e w' => ResO w w' ((kn : Int), opT z fs xs kn n0) true e := by
  have hB := below_then (below_then (below_alloc w (.cells #[.int .i64 z, .slice ao n c] 30)) (below_alloc _ (.cells #[.int .i64 0, .slice none 0 0] 54))) (below_alloc _ (.cells #[.slice bo m d] 25))
  have HB := Lib.hid hB
  have hcall := areT_one lo hi lo2 hi2 z ao bo c n d m fs xs w _ hB hv hhi hs hx hhi2 hmd hm hq (w.heap.size + 1 + 1) (by simp) (by go_simp) 1
  rw [hr] at hcall
  have HC := Lib.hid hcall
  obtain ⟨hok, h60, hend⟩ := isTermB_of hr
  have hlx := hx.1
  have hm0 : 0 < m := by have := term_pos hend; omega
  obtain ⟨hz1, hz2⟩ := (algOkB_of hok).1
  have hbd : ∀ x, x ∈ xs → -9223372036854775808 ≤ x ∧ x < 6 := fun x hxx => by
    obtain ⟨j, hj⟩ := List.getElem?_of_mem hxx
    exact ⟨(wf_bd (hq x hxx)).1, (term_lt hok hend hj).1⟩
  have hne : xs ≠ [] := fun e => by rw [e] at hlx; simp at hlx; omega
  have HN := Lib.hid (fun (w1 : World) (hB1 : Below w.heap.size w w1) => needed_any lo2 hi2 bo d m xs w1 (hx.kept (Kept.of_below hB1 hhi2)) hm0 (by omega) hbd)
  have hfm := fits_max (k := kn) hne
  obtain ⟨q, hqe⟩ : ∃ q, max (maxL xs + 1) 0 = q := ⟨_, rfl⟩
  rw [hqe] at HN hfm
  have hgt : ¬ (kn : Int) < q := by
    rw [hfm] at hf
    have := of_decide_eq_true hf
    omega
  have h3' : ¬ (3 : Int) < (kn : Int) := by omega
  have HL := Lib.hid (fun (W : World) => len_any z kn W hz1 hz2 hk3)
  rw [hn0] at HL
  have hnb := powI_bd hz1 hz2 hk3
  rw [hn0] at hnb
  obtain ⟨hn1, hn2⟩ : 1 ≤ n0 ∧ n0 ≤ 512 := ⟨by omega, by omega⟩
  have hfit : ∀ x, x ∈ xs → x < (kn : Int) := fun x hxx => by
    have := List.all_eq_true.1 hf x hxx
    simpa using this
  have HV := Lib.hid (fun (j g : Nat) (W : World) (hb : Below w.heap.size w W) (hd : IView W g W.heap.size (some ⟨g, 0, none⟩) kn (digs z kn (j : Int))) => valueT_any lo hi lo2 hi2 g W.heap.size z ao bo (some ⟨g, 0, none⟩) n c m d kn kn fs xs (digs z kn (j : Int)) W (hv.kept (Kept.of_below hb hhi)) (Nat.le_trans hhi hb.size) hok (hx.kept (Kept.of_below hb hhi2)) (Nat.le_trans hhi2 hb.size) hd (Nat.le_refl _) h60 hend (digs_in hz1 kn j) hfit)
  have HA := Lib.hid (fun (j : Nat) (hj : j < n0) (W : World) => argsImpl_any z (j : Int) kn hk3 W hz1 hz2 (by omega) (by omega))
  obtain ⟨T, hT⟩ : ∃ T, opT z fs xs kn n0 = T := ⟨_, rfl⟩
  have HT := Lib.hid (show T.length = n0 by rw [← hT, opT_len])
  have HTg := Lib.hid (fun (j : Nat) (hj : j < n0) => show T[j]? = some (evT z fs (digs z kn (j : Int)) xs) by rw [← hT]; exact opT_get hj)
  rw [hT]
  clear hB hv hs hx hq hcall hr hok hend hbd hne hfm hqe hf hn0 hnb hfit hT
  unfold ResO
  go_enter Try.func40, Try.ntmps40
  go_wp2_with fail
  refine HC.out.mono ?_
  rintro e w1 ⟨rfl, b1⟩
  have cz : w1.cell? ⟨w.heap.size, 0, none⟩ = some (.int .i64 z) := cell_b b1 (by go_simp)
  have ca : w1.cell? ⟨w.heap.size, 1, none⟩ = some (.slice ao n c) := cell_b b1 (by go_simp)
  have hR1 : Hid (w1.heap[w.heap.size + 1]? = some (.cells #[.int .i64 0, .slice none 0 0] 54 (0, 0))) := by
    unfold Hid
    rw [b1.block _ (by simp), Below.heap_alloc _ _ _ (by simp)]
    have h := heap_alloc_new (w.alloc (.cells #[.int .i64 z, .slice ao n c] 30)) (.cells #[.int .i64 0, .slice none 0 0] 54)
    rw [World.size_alloc] at h
    exact h
  have hs1 : w.heap.size + 1 < w1.heap.size := by have := b1.size; simp at this; omega
  have HB1 := Lib.hid (HB.out.trans (b1.mono HB.out.size))
  clear b1
  go_wp2_with fail
  refine (HN.out _ HB1.out).mono ?_
  rintro e w2 ⟨rfl, rfl⟩
  go_wp2_with fail
  refine (HL.out _).mono ?_
  rintro e w2 ⟨rfl, rfl⟩
  obtain ⟨w2, hmk, ho2, hb2⟩ := make_ints w1 n0 (by omega)
  have hs2 : w1.heap.size < w2.heap.size := (ho2.lt w1.heap.size rfl).2
  have cz2 := cell_b hb2 cz
  have ca2 := cell_b hb2 ca
  have HR2 : Hid (w2.heap[w.heap.size + 1]? = some (.cells #[.int .i64 0, .slice none 0 0] 54 (0, 0))) := (hb2.block _ hs1).trans hR1.out
  have HB2 := Lib.hid (HB1.out.trans (hb2.mono HB1.out.size))
  have HO2 := Lib.hid ho2
  clear hb2 ho2 cz ca hR1
  obtain ⟨G, hG⟩ : ∃ G : Nat, G = w1.heap.size := ⟨_, rfl⟩
  rw [← hG] at hmk HO2 hs1 hs2
  clear hG
  go_wp2_with fail
  have HB3 := Lib.hid (HB2.out.alloc HB2.out.size (.cells #[.int .i64 (kn : Int), .slice (some ⟨G, 0, none⟩) n0 n0] 54))
  have HBox : Hid ((w2.alloc (.cells #[.int .i64 (kn : Int), .slice (some ⟨G, 0, none⟩) n0 n0] 54)).heap[w2.heap.size]? = some (.cells #[.int .i64 (kn : Int), .slice (some ⟨G, 0, none⟩) n0 n0] 54 (0, 0))) := heap_alloc_new _ _
  have HR3 : Hid ((w2.alloc (.cells #[.int .i64 (kn : Int), .slice (some ⟨G, 0, none⟩) n0 n0] 54)).heap[w.heap.size + 1]? = some (.cells #[.int .i64 0, .slice none 0 0] 54 (0, 0))) := (Below.heap_alloc _ _ _ (by omega)).trans HR2.out
  have HO3 : Hid ((w2.alloc (.cells #[.int .i64 (kn : Int), .slice (some ⟨G, 0, none⟩) n0 n0] 54)).ownsRow G 3 1 (.slice (some ⟨G, 0, none⟩) n0 n0) n0 ((fillL T (List.replicate n0 (0 : Int)) 0).map (Value.int .i64))) := by
    rw [fillL_zero]; exact HO2.out.alloc _
  have cz3 := cell_b (below_alloc w2 (.cells #[.int .i64 (kn : Int), .slice (some ⟨G, 0, none⟩) n0 n0] 54)) cz2
  have ca3 := cell_b (below_alloc w2 (.cells #[.int .i64 (kn : Int), .slice (some ⟨G, 0, none⟩) n0 n0] 54)) ca2
  obtain ⟨w3, hw3⟩ : ∃ w3 : World, w3 = w2.alloc (.cells #[.int .i64 (kn : Int), .slice (some ⟨G, 0, none⟩) n0 n0] 54) := ⟨_, rfl⟩
  obtain ⟨F, hF⟩ : ∃ F : Nat, F = w2.heap.size := ⟨_, rfl⟩
  have hs3 : F < w3.heap.size := by rw [hw3, hF]; simp
  rw [← hw3] at HB3 HBox HR3 HO3 cz3 ca3 ⊢
  rw [← hF] at HBox hs2 ⊢
  clear cz2 ca2 HO2 HR2 HB2 hmk hw3 HB1 hF HL HN HC HB
  go_loopw [9, 40] (fun s9 i wr => ∃ j : Nat, j ≤ n0 ∧ i = .int .i64 (j : Int) ∧ Hid (wr.ownsRow G 3 1 (.slice (some ⟨G, 0, none⟩) n0 n0) n0 ((fillL T (List.replicate n0 (0 : Int)) j).map (Value.int .i64))) ∧ Hid (wr.heap[F]? = some (.cells #[.int .i64 (kn : Int), .slice (some ⟨G, 0, none⟩) n0 n0] 54 (0, 0))) ∧ Hid (wr.heap[w.heap.size + 1]? = some (.cells #[.int .i64 0, .slice none 0 0] 54 (0, 0))) ∧ wr.cell? ⟨w.heap.size, 0, none⟩ = some (.int .i64 z) ∧ wr.cell? ⟨w.heap.size, 1, none⟩ = some (.slice ao n c) ∧ Hid (Below w.heap.size w wr) ∧ F < wr.heap.size) (fun _ i _ => n0 - (intOf i).toNat)
  case atStart => exact ⟨0, Nat.zero_le _, rfl, HO3, HBox, HR3, cz3, ca3, HB3, hs3⟩
  case round =>
    obtain ⟨j, hj, rfl, HO, HX, HR, dz, da, HBr, hsr⟩ := hrel
    clear HO3 HBox HR3 cz3 ca3 HB3 hs3
    by_cases hlt : j < n0
    · obtain ⟨wi, hwi⟩ : ∃ wi : World, wi = wr := ⟨_, rfl⟩
      rw [← hwi]
      rw [← hwi] at HO HX HR dz da HBr hsr
      clear hwi
      obtain ⟨x0, x1, xf⟩ := boxC HX.out
      obtain ⟨y, hy⟩ : ∃ y, evT z fs (digs z kn (j : Int)) xs = y := ⟨_, rfl⟩
      have HVj := Lib.hid (HV.out j)
      rw [hy] at HVj
      have HAj := Lib.hid (HA.out j hlt)
      have HTj := Lib.hid (HTg.out j hlt)
      rw [hy] at HTj
      have hjn : (j : Int) < (n0 : Int) := by omega
      clear hy xf x0
      go_wp2_with fail
      go_region_with ((first
        | (go_at_call 89
           refine (HAj.out _).mono ?_
           rintro e wA ⟨rfl, hwA⟩
           have bA : Below wi.heap.size wi wA := by rw [hwA]; exact below_then (below_drew wi) (below_alloc _ _)
           have DA : Hid (IView wA wi.heap.size wA.heap.size (some ⟨wi.heap.size, 0, none⟩) kn (digs z kn (j : Int))) := digs_view (W := wA) (g := wi.heap.size) (z := z) (at_ := (j : Int)) (m := kn) (ty := 3) (by rw [hwA]; exact heap_alloc_new _ _)
           have x1A := cell_b bA x1
           have dzA := cell_b bA dz
           have daA := cell_b bA da
           have HBA := Lib.hid bA
           clear hwA bA)
        | (go_at_call 86
           refine (HVj.out _ _ (HBr.out.trans (HBA.out.mono HBr.out.size)) DA.out).mono ?_
           rintro e wV ⟨rfl, bV⟩
           have BV := below_then HBA.out bV
           have x1V := cell_b BV x1
           have HOV := HO.out.kept (grown_of_below BV none) (own_em _)
           obtain ⟨u, hu⟩ : ∃ u, wV.cell? ⟨G, j, none⟩ = some u := by
             rw [HOV.cellAt j (by omega)]
             have hl1 := HOV.1
             exact ⟨_, List.getElem?_eq_getElem (by omega)⟩
           have hfr := HOV.frozenAt j
           have hst := HOV.stored j (.int .i64 y)
           rw [← List.map_set, fillL_set (n := n0) HT.out (by simp) hlt HTj.out] at hst
           have HST := Lib.hid hst
           have HBV := Lib.hid BV
           clear hst bV BV HOV)))
      all_goals
        have hbs := HBr.out.size
        have hvs := HBV.out.size
        have hG1 := HST.out.1.lt G rfl
        have hfar : ∀ b, b ≠ G → b < wi.heap.size → (wV.setCell ⟨G, j, none⟩ (.int .i64 y)).heap[b]? = wi.heap[b]? := fun b hb1 hb2 => by
          rw [Below.heap_setCell _ _ _ _ (by show b ≠ G; omega), HBV.out.block b hb2]
        have HX6 : Hid ((wV.setCell ⟨G, j, none⟩ (.int .i64 y)).heap[F]? = some (.cells #[.int .i64 (kn : Int), .slice (some ⟨G, 0, none⟩) n0 n0] 54 (0, 0))) := (hfar _ (by omega) (by omega)).trans HX.out
        have HR6 : Hid ((wV.setCell ⟨G, j, none⟩ (.int .i64 y)).heap[w.heap.size + 1]? = some (.cells #[.int .i64 0, .slice none 0 0] 54 (0, 0))) := (hfar _ (by omega) (by omega)).trans HR.out
        have HB6 : Hid (Below w.heap.size w (wV.setCell ⟨G, j, none⟩ (.int .i64 y))) := (HBr.out.trans (HBV.out.mono hbs)).setCell (by show w.heap.size ≤ G; omega) _
        have hs6 : F < (wV.setCell ⟨G, j, none⟩ (.int .i64 y)).heap.size := by
          simp [World.setCell]; omega
        have z6 : (wV.setCell ⟨G, j, none⟩ (.int .i64 y)).cell? ⟨w.heap.size, 0, none⟩ = some (.int .i64 z) := keepS (cell_b HBV.out dz) (by show G ≠ w.heap.size; omega)
        have a6 : (wV.setCell ⟨G, j, none⟩ (.int .i64 y)).cell? ⟨w.heap.size, 1, none⟩ = some (.slice ao n c) := keepS (cell_b HBV.out da) (by show G ≠ w.heap.size; omega)
        have HO6 := Lib.hid HST.out.1
        clear hfar hu hfr x1 x1A x1V dz da dzA daA
        go_wp2_with fail
        go_roundw
        case rel => exact ⟨j + 1, by omega, by go_num, HO6, HX6, HR6, z6, a6, HB6, hs6⟩
        case measure => simp [intOf]; omega
    · obtain rfl : j = n0 := by omega
      obtain ⟨x0, x1, _⟩ := boxC HX.out
      obtain ⟨r0, r1, rf⟩ := boxC HR.out
      have hO := HO.out
      rw [fillL_all HT.out (by simp)] at hO
      have HOe := Lib.hid hO
      clear hO
      go_wp2_with fail
      refine bodyPost_ret (v := .tuple #[.agg #[.int .i64 (kn : Int), .slice (some ⟨G, 0, none⟩) j j], .bool true]) (by simp [results, Try.results40, go_sem, r0, r1]) rfl ⟨some ⟨G, 0, none⟩, j, j, rfl, HT.out.symm, ?_, (HBr.out.setCell (by show _ ≤ _; simp) _).setCell (by show _ ≤ _; simp) _⟩
      refine OwnsInts.of_row (ownsRow_base (ownsRow_block HOe.out fun g hg => ?_) (by omega))
      obtain rfl : G = g := by injection hg
      rw [Below.heap_setCell _ _ _ _ (by show G ≠ w.heap.size + 1; omega), Below.heap_setCell _ _ _ _ (by show G ≠ w.heap.size + 1; omega)]

theorem implTermOp (lo hi : Nat) (z : Int) (ao : Option Addr) (c n : Nat) (fs : List OpD) (lo2 hi2 : Nat) (bo : Option Addr) (d m : Nat) (xs : List Int) (k : Int) (w : World) (hv : OView w lo hi ao n fs) (hhi : hi ≤ w.heap.size) (hs : ∀ (j : Nat) (f : OpD), fs[j]? = some f → f.2.length ≤ maxLen)
    (hx : IView w lo2 hi2 bo m xs) (hhi2 : hi2 ≤ w.heap.size) (hmd : m ≤ d) (hm : d ≤ maxLen) (hq : ∀ x, x ∈ xs → (Lit.int .i64 x).wf = true) (hk : (Lit.int .i64 k).wf = true) :
    Calls Try.prog 40 #[.agg #[.int .i64 z, .slice ao n c], .slice bo m d, .int .i64 k] w fun e w' => ResO w w' (valTermOp z fs xs k).1 (valTermOp z fs xs k).2 e := by
  cases h : opB z fs xs k with
  | true =>
    have h' := h
    unfold opB at h'
    simp only [Bool.and_eq_true, decide_eq_true_eq] at h'
    obtain ⟨kn, rfl⟩ : ∃ kn : Nat, k = (kn : Int) := ⟨k.toNat, by omega⟩
    have h1 := (algOkB_of (isTermB_of h'.1).1).1
    have h2 := powI_bd h1.1 h1.2 (k := kn) (by omega)
    obtain ⟨n0, hn0⟩ : ∃ n0 : Nat, powI z kn = (n0 : Int) := ⟨(powI z kn).toNat, by omega⟩
    rw [val_op_yes h hn0]
    exact iop_yes lo hi z ao c n fs lo2 hi2 bo d m xs kn n0 w hv hhi hs hx hhi2 hmd hm hq h'.1 (by omega) h'.2.2 hn0
  | false =>
    rw [val_op_no h]
    refine (iop_no lo hi z ao c n fs lo2 hi2 bo d m xs k w hv hhi hs hx hhi2 hmd hm hq h).mono fun e w' ⟨he, hb⟩ => ?_
    subst he
    exact resO_no hb

end Go.Proofs.Ytplheohkecooeaa
