/-
  Contracts: spec.l1Same, spec.l2Same, spec.SameType and impl.SameType: whether two algebras have the same type. Conditions: the bounds that each theorem names.
-/
import Derived.Test.YtcmjkfcgekmomaaTypeI
import Derived.DeepKeys
import Derived.Deep.RegionWith
namespace Go.Proofs.Ytcmjkfcgekmomaa
open Go.RowKit
set_option linter.unusedVariables false
set_option linter.unusedSimpArgs false

def sameL (xs ys : List Int) : Bool := decide (xs = ys)
theorem sameL_len {xs ys : List Int} (h : ¬ xs.length = ys.length) : sameL xs ys = false := decide_eq_false fun e => h (by rw [e])
theorem sameL_no {xs ys : List Int} {k : Nat} {x y : Int} (hx : xs[k]? = some x) (hy : ys[k]? = some y) (h : ¬ x = y) : sameL xs ys = false := decide_eq_false fun e => by
  subst e
  rw [hx] at hy
  injection hy with hy
  exact h hy
theorem sameL_yes {xs ys : List Int} {n : Nat} (hx : xs.length = n) (hy : ys.length = n) (h : ∀ k, k < n → xs[k]? = ys[k]?) : sameL xs ys = true := decide_eq_true (by
  apply List.ext_getElem?
  intro i
  by_cases hi : i < n
  · exact h i hi
  · rw [List.getElem?_eq_none (by omega), List.getElem?_eq_none (by omega)])

set_option maxHeartbeats 1000000 in
theorem l1Same_any (lo hi lo2 hi2 : Nat) (ao bo : Option Addr) (c d n m : Nat) (xs ys : List Int) (w : World) (h : IView w lo hi ao n xs) (h2 : IView w lo2 hi2 bo m ys) (hn : n ≤ maxLen) (hm : m ≤ maxLen) :
    Calls Try.prog 100 #[.slice ao n c, .slice bo m d] w fun e w' => e = .returned (.bool (sameL xs ys)) ∧ ∃ q, w' = w.drewN q := by
  unfold maxLen at hn hm
  have HX := Lib.hid h
  have HY := Lib.hid h2
  have hl1 := h.1
  have hl2 := h2.1
  clear h h2
  by_cases hnm : n = m
  · subst hnm
    have HL1 := Lib.hid hl1
    have HL2 := Lib.hid hl2
    clear hl1 hl2
    go_enter Try.func100, Try.ntmps100
    go_wp2
    go_loopw [5] (fun i wr => ∃ k q : Nat, k ≤ n ∧ i = .int .i64 k ∧ Hid (∀ j, j < k → xs[j]? = ys[j]?) ∧ wr = w.drewN q) (fun i _ => n - (intOf i).toNat)
    case atStart => exact ⟨0, 0, Nat.zero_le _, rfl, fun j hj => by omega, rfl⟩
    case round =>
      obtain ⟨k, q, hk, rfl, HA, rfl⟩ := hrel
      by_cases hlt : k < n
      · obtain ⟨b, o, rfl, _, _, hc⟩ := HX.out.at_ (by omega)
        obtain ⟨b2, o2, rfl, _, _, hc2⟩ := HY.out.at_ (by omega)
        obtain ⟨x, hx⟩ := get_of_lt HX.out.1 hlt
        obtain ⟨y, hy⟩ := get_of_lt HY.out.1 hlt
        have h1 := hc k x hx
        have h2 := hc2 k y hy
        have H1 := Lib.hid hx
        have H2 := Lib.hid hy
        clear hc hc2 hx hy
        by_cases hxy : x = y
        · have e1 : (x != y) = false := by rw [hxy]; simp
          have e2 : (x == y) = true := by rw [hxy]; simp
          have HXY := Lib.hid hxy
          clear hxy
          go_wp2
          go_quiet (fail)
          go_wp2
          go_roundw
          case rel =>
            refine ⟨k + 1, _, by omega, by go_num, fun j hj => ?_, rfl⟩
            by_cases hjk : j = k
            · subst hjk; rw [H1.out, H2.out, HXY.out]
            · exact HA.out j (by omega)
          case measure => simp [intOf]; omega
        · have e1 : (x != y) = true := by rw [bne_iff_ne]; exact hxy
          have e2 : (x == y) = false := by rw [beq_eq_false_iff_ne]; exact hxy
          have HXY := Lib.hid hxy
          clear hxy
          go_wp2
          go_quiet (fail)
          go_wp2
          go_ret
          exact ⟨ret_bool (sameL_no H1.out H2.out HXY.out).symm, _, World.drewN_drewN _ _ _⟩
      · go_wp2
        go_ret
        exact ⟨ret_bool (sameL_yes HL1.out HL2.out fun j hj => HA.out j (by omega)).symm, q, rfl⟩
  · have hv : sameL xs ys = false := sameL_len (by omega)
    rw [hv]
    have he : ((n : Int) == (m : Int)) = false := by rw [beq_eq_false_iff_ne]; omega
    have he2 : ((n : Int) != (m : Int)) = true := by rw [bne_iff_ne]; omega
    clear hl1 hl2 hv
    go_enter Try.func100, Try.ntmps100
    go_wp2
    go_ret
    exact ⟨rfl, 0, rfl⟩

def valSameType (z : Int) (fs : List OpD) (z1 : Int) (fs1 : List OpD) : Bool × Bool := if algOkB z fs && algOkB z1 fs1 then (sameL (typeV fs) (typeV fs1), true) else (false, false)

set_option maxHeartbeats 1000000 in
theorem l2Same_any (lo hi lo2 hi2 : Nat) (z z1 : Int) (ao bo : Option Addr) (c n d m : Nat) (fs gs : List OpD) (w : World) (hv : OView w lo hi ao n fs) (hhi : hi ≤ w.heap.size) (hn : n ≤ 4) (hu : OView w lo2 hi2 bo m gs) (hhi2 : hi2 ≤ w.heap.size) (hm : m ≤ 4) :
    Calls Try.prog 90 #[.agg #[.int .i64 z, .slice ao n c], .agg #[.int .i64 z1, .slice bo m d]] w fun e w' => e = .returned (.bool (sameL (typeV fs) (typeV gs))) ∧ Below w.heap.size w w' := by
  have hB := below_then (below_alloc w (.cells #[.int .i64 z, .slice ao n c] 31)) (below_alloc _ (.cells #[.int .i64 z1, .slice bo m d] 31))
  have HB := Lib.hid hB
  have HT1 := Lib.hid (fun (W : World) (hW : Below w.heap.size w W) => type_spec lo hi z ao c n fs W (hv.kept (Kept.of_below hW hhi)) (Nat.le_trans hhi hW.size) hn)
  have HT2 := Lib.hid (fun (W : World) (hW : Below w.heap.size w W) => type_spec lo2 hi2 z1 bo d m gs W (hu.kept (Kept.of_below hW hhi2)) (Nat.le_trans hhi2 hW.size) hm)
  clear hv hu hB hhi hhi2
  go_enter Try.func90, Try.ntmps90
  go_wp2_with fail
  have c2 : ((w.alloc (.cells #[.int .i64 z, .slice ao n c] 31)).alloc (.cells #[.int .i64 z1, .slice bo m d] 31)).cell? ⟨w.heap.size + 1, 0, none⟩ = some (.int .i64 z1) := by simp
  have c3 : ((w.alloc (.cells #[.int .i64 z, .slice ao n c] 31)).alloc (.cells #[.int .i64 z1, .slice bo m d] 31)).cell? ⟨w.heap.size + 1, 1, none⟩ = some (.slice bo m d) := by simp
  have C2 := Lib.hid c2
  have C3 := Lib.hid c3
  clear c2 c3
  have tok1 : True := trivial
  go_region_with ((first | (go_at_call 127; have _t := tok1; clear tok1 _t; refine (HT1.out _ ?_).mono ?_; exact HB.out.drew; rintro e w1 ⟨ga, gd, rfl, o1, b1⟩; have B1 := Lib.hid (HB.out.drew.trans (b1.mono HB.out.drew.size)); have V1 := Lib.hid o1.view; have d2 : w1.cell? ⟨w.heap.size + 1, 0, none⟩ = some (.int .i64 z1) := cell_b b1 C2.out; have d3 : w1.cell? ⟨w.heap.size + 1, 1, none⟩ = some (.slice bo m d) := cell_b b1 C3.out; clear o1 b1) | (go_at_call 127; refine (HT2.out _ ?_).mono ?_; exact B1.out; rintro e w2 ⟨gb, ge, rfl, o2, b2⟩; have B2 := Lib.hid (B1.out.trans (b2.mono B1.out.size)); have V2 := Lib.hid o2.view; have V1' := Lib.hid (V1.out.kept (Kept.of_below b2 (Nat.le_refl _))); clear o2 b2 V1) | (go_at_call 100; refine (l1Same_any _ _ _ _ _ _ _ _ n m _ _ _ V1'.out V2.out (by unfold maxLen; omega) (by unfold maxLen; omega)).mono ?_; rintro e w3 ⟨rfl, hq⟩; have B3 := Lib.hid (below_drawn B2.out hq); clear hq)))
  all_goals
    go_wp2_with fail
    go_ret
    exact ⟨rfl, B3.out⟩

theorem same_no1 {z z1 : Int} {fs gs : List OpD} (h : algOkB z fs = false) : valSameType z fs z1 gs = (false, false) := by simp [valSameType, h]
theorem same_no2 {z z1 : Int} {fs gs : List OpD} (h : algOkB z1 gs = false) : valSameType z fs z1 gs = (false, false) := by simp [valSameType, h]
theorem same_yes {z z1 : Int} {fs gs : List OpD} (h : algOkB z fs = true) (h1 : algOkB z1 gs = true) : valSameType z fs z1 gs = (sameL (typeV fs) (typeV gs), true) := by simp [valSameType, h, h1]


theorem sig_lits {a0 a1 a2 a3 a4 : Int} (h0 : (Lit.int .i64 a0).wf = true) (h1 : (Lit.int .i64 a1).wf = true) (h2 : (Lit.int .i64 a2).wf = true) (h3 : (Lit.int .i64 a3).wf = true) (h4 : (Lit.int .i64 a4).wf = true) :
    Try.prog.keyLits 4 136 [.int .i64 a0, .int .i64 a1, .int .i64 a2, .int .i64 a3, .int .i64 a4] = some [.int .i64 a0, .int .i64 a1, .int .i64 a2, .int .i64 a3, .int .i64 a4] := by
  have u1 : Try.prog.underlying 136 = _ := Try.underlying136
  have u2 : Try.prog.underlying 134 = some (.array 4 3) := by kernel_rfl
  have u3 : Try.prog.underlying 3 = _ := Try.underlying3
  have c1 : Try.prog.cellsOf 136 = 5 := by kernel_rfl
  have c2 : Try.prog.cellsOf 134 = 4 := by kernel_rfl
  have c3 : Try.prog.cellsOf 3 = 1 := by kernel_rfl
  have hi : ∀ (a : Int) (d : Nat), (Lit.int .i64 a).wf = true → Try.prog.keyLits (d + 1) 3 [.int .i64 a] = some [.int .i64 a] := fun a d h => by simp [Program.keyLits, u3, h]
  have ha : Try.prog.keyLits 3 134 [.int .i64 a1, .int .i64 a2, .int .i64 a3, .int .i64 a4] = some [.int .i64 a1, .int .i64 a2, .int .i64 a3, .int .i64 a4] := by
    simp only [Program.keyLits, u2, c2, c3]
    simp [List.range, List.range.loop, u3, h1, h2, h3, h4]
  unfold Program.keyLits
  simp only [u1]
  simp [c1, c2, c3, hi _ 2 h0, ha]
theorem sig_formed (a0 a1 a2 a3 a4 : Int) : (Value.agg #[.int .i64 a0, .int .i64 a1, .int .i64 a2, .int .i64 a3, .int .i64 a4]).formed Try.prog 136 = true := by kernel_rfl
theorem sig_eql {a0 a1 a2 a3 a4 b0 b1 b2 b3 b4 : Int} (hA : ∀ x ∈ [a0, a1, a2, a3, a4], (Lit.int .i64 x).wf = true) (hB : ∀ x ∈ [b0, b1, b2, b3, b4], (Lit.int .i64 x).wf = true) (W : World) :
    (Op.equalIn 10000 136 (.agg #[.int .i64 a0, .int .i64 a1, .int .i64 a2, .int .i64 a3, .int .i64 a4]) (.agg #[.int .i64 b0, .int .i64 b1, .int .i64 b2, .int .i64 b3, .int .i64 b4])).run Try.prog W = .ok (sameL [a0, a1, a2, a3, a4] [b0, b1, b2, b3, b4]) W := by
  obtain ⟨r, hr, hi⟩ := run_equalIn_deep (P := Try.prog) 9997 3 136 (by kernel_rfl) W 4 4 _ _ _ _ (sig_formed a0 a1 a2 a3 a4) (sig_formed b0 b1 b2 b3 b4) (sig_lits (hA _ (by simp)) (hA _ (by simp)) (hA _ (by simp)) (hA _ (by simp)) (hA _ (by simp))) (sig_lits (hB _ (by simp)) (hB _ (by simp)) (hB _ (by simp)) (hB _ (by simp)) (hB _ (by simp)))
  have he : r = sameL [a0, a1, a2, a3, a4] [b0, b1, b2, b3, b4] := by
    rw [Bool.eq_iff_iff, hi]
    simp [sameL]
  rw [← he]
  exact hr

theorem sg_get (fs : List OpD) (j : Nat) : sg fs fs.length j = (typeV fs).getD j 0 := by
  unfold sg typeV
  by_cases h : j < fs.length
  · rw [if_pos h]
    simp [List.getD_eq_getElem?_getD, List.getElem?_eq_getElem h]
  · rw [if_neg h]
    simp [List.getD_eq_getElem?_getD, List.getElem?_eq_none (Nat.le_of_not_lt h)]
theorem sg_wf {z : Int} {fs : List OpD} {n : Nat} (hok : algOkB z fs = true) (hn : n ≤ 4) : ∀ x ∈ [(n : Int), sg fs n 0, sg fs n 1, sg fs n 2, sg fs n 3], (Lit.int .i64 x).wf = true := by
  have hj : ∀ j, (Lit.int .i64 (sg fs n j)).wf = true := fun j => by
    apply Go.WalkArith.wf_i64
    unfold sg
    split
    · rw [List.getD_eq_getElem?_getD]
      cases hf : fs[j]? with
      | none => simp
      | some f =>
        obtain ⟨⟨a, b⟩, _⟩ := opOkB_of ((algOkB_of hok).2.2 f (List.mem_of_getElem? hf))
        simp only [Option.getD_some]
        omega
    · omega
  intro x hx
  simp only [List.mem_cons, List.not_mem_nil, or_false] at hx
  rcases hx with rfl | rfl | rfl | rfl | rfl
  · exact Go.WalkArith.wf_i64 (by omega)
  all_goals exact hj _
theorem sg_same_list {fs gs : List OpD} {n m : Nat} (hn : fs.length = n) (hm : gs.length = m) (hn4 : n ≤ 4) (hm4 : m ≤ 4) :
    sameL [(n : Int), sg fs n 0, sg fs n 1, sg fs n 2, sg fs n 3] [(m : Int), sg gs m 0, sg gs m 1, sg gs m 2, sg gs m 3] = sameL (typeV fs) (typeV gs) := by
  have h1 := sg_list hn hn4
  have h2 := sg_list hm hm4
  rw [sameL, sameL, decide_eq_decide]
  constructor
  · intro h
    simp only [List.cons.injEq] at h
    obtain ⟨h0, ha, hb, hc, hd, _⟩ := h
    have : n = m := by omega
    subst this
    rw [← h1, ← h2, ha, hb, hc, hd]
  · intro h
    have hl : n = m := by
      have := congrArg List.length h
      simpa [typeV, hn, hm] using this
    subst hl
    have g : ∀ j, sg fs n j = sg gs n j := fun j => by
      have a := sg_get fs j
      have b := sg_get gs j
      rw [hn] at a
      rw [hm] at b
      rw [a, b, h]
    rw [g 0, g 1, g 2, g 3]

set_option maxRecDepth 100000 in
set_option maxHeartbeats 1000000 in
theorem implSameType (lo hi : Nat) (z : Int) (ao : Option Addr) (c n : Nat) (fs : List OpD) (lo2 hi2 : Nat) (z1 : Int) (bo : Option Addr) (d m : Nat) (gs : List OpD) (w : World) (hv : OView w lo hi ao n fs) (hhi : hi ≤ w.heap.size) (hs : ∀ (j : Nat) (f : OpD), fs[j]? = some f → f.2.length ≤ maxLen) (hu : OView w lo2 hi2 bo m gs) (hhi2 : hi2 ≤ w.heap.size) (hs2 : ∀ (j : Nat) (f : OpD), gs[j]? = some f → f.2.length ≤ maxLen) :
    Calls Try.prog 144 #[.agg #[.int .i64 z, .slice ao n c], .agg #[.int .i64 z1, .slice bo m d]] w fun e w' => e = .returned (.tuple #[.bool (valSameType z fs z1 gs).1, .bool (valSameType z fs z1 gs).2]) ∧ Below w.heap.size w w' := by
  have hB := below_then (below_alloc w (.cells #[.int .i64 z, .slice ao n c] 31)) (below_alloc _ (.cells #[.int .i64 z1, .slice bo m d] 31))
  have HB := Lib.hid hB
  have hG1 := fun (W : World) (hW : Below w.heap.size w W) => isAlg_any lo hi z ao c n fs W (hv.kept (Kept.of_below hW hhi)) (Nat.le_trans hhi hW.size) hs
  have hG2 := fun (W : World) (hW : Below w.heap.size w W) => isAlg_any lo2 hi2 z1 bo d m gs W (hu.kept (Kept.of_below hW hhi2)) (Nat.le_trans hhi2 hW.size) hs2
  obtain ⟨t, ht⟩ : ∃ t, algOkB z fs = t := ⟨_, rfl⟩
  obtain ⟨t2, ht2⟩ : ∃ t, algOkB z1 gs = t := ⟨_, rfl⟩
  rw [ht] at hG1
  rw [ht2] at hG2
  have HG1 := Lib.hid hG1
  have HG2 := Lib.hid hG2
  have cb : ∀ w1, Below ((w.alloc (.cells #[.int .i64 z, .slice ao n c] 31)).alloc (.cells #[.int .i64 z1, .slice bo m d] 31)).heap.size ((w.alloc (.cells #[.int .i64 z, .slice ao n c] 31)).alloc (.cells #[.int .i64 z1, .slice bo m d] 31)) w1 → (w1.cell? ⟨w.heap.size, 0, none⟩ = some (.int .i64 z) ∧ w1.cell? ⟨w.heap.size, 1, none⟩ = some (.slice ao n c)) ∧ (w1.cell? ⟨w.heap.size + 1, 0, none⟩ = some (.int .i64 z1) ∧ w1.cell? ⟨w.heap.size + 1, 1, none⟩ = some (.slice bo m d)) := fun w1 b1 =>
    ⟨⟨cell_b b1 (by go_simp), cell_b b1 (by go_simp)⟩, ⟨cell_b b1 (by simp), cell_b b1 (by simp)⟩⟩
  have CB := Lib.hid cb
  clear hG1 hG2 cb
  cases t with
  | false =>
    rw [same_no1 ht]
    clear hB hs hv ht hu hs2 ht2
    go_enter Try.func144, Try.ntmps144
    go_wp2_with fail
    refine (HG1.out _ HB.out).mono ?_
    rintro e w1 ⟨rfl, b1⟩
    have HB1 := Lib.hid (HB.out.trans (b1.mono HB.out.size))
    clear b1
    go_wp2_with fail
    go_ret2
    exact ⟨rfl, HB1.out⟩
  | true =>
    cases t2 with
    | false =>
      rw [same_no2 ht2]
      clear hB hs hv ht hu hs2 ht2
      go_enter Try.func144, Try.ntmps144
      go_wp2_with fail
      refine (HG1.out _ HB.out).mono ?_
      rintro e w1 ⟨rfl, b1⟩
      obtain ⟨_, cz, ca⟩ := CB.out w1 b1
      have HB1 := Lib.hid (HB.out.trans (b1.mono HB.out.size))
      clear b1
      go_wp2_with fail
      refine (HG2.out _ HB1.out).mono ?_
      rintro e w2 ⟨rfl, b2⟩
      have HB2 := Lib.hid (HB1.out.trans (b2.mono HB1.out.size))
      clear b2
      go_wp2_with fail
      go_ret2
      exact ⟨rfl, HB2.out⟩
    | true =>
      rw [same_yes ht ht2]
      have hn4 : n ≤ 4 := by have := (algOkB_of ht).2.1; have := hv.1; omega
      have hm4 : m ≤ 4 := by have := (algOkB_of ht2).2.1; have := hu.1; omega
      have HS1 := Lib.hid (fun (W : World) (hW : Below w.heap.size w W) => sig_any lo hi z ao c n fs W (hv.kept (Kept.of_below hW hhi)) (Nat.le_trans hhi hW.size) hn4)
      have HS2 := Lib.hid (fun (W : World) (hW : Below w.heap.size w W) => sig_any lo2 hi2 z1 bo d m gs W (hu.kept (Kept.of_below hW hhi2)) (Nat.le_trans hhi2 hW.size) hm4)
      have hE := sig_eql (sg_wf ht hn4) (sg_wf ht2 hm4)
      rw [sg_same_list hv.1 hu.1 hn4 hm4] at hE
      obtain ⟨r, hr⟩ : ∃ r, r = sameL (typeV fs) (typeV gs) := ⟨_, rfl⟩
      rw [← hr] at hE ⊢
      have hgd : Try.prog.eqGuardType Try.prog.depth 136 = false := by kernel_rfl
      clear hB hs hv ht hu hs2 ht2 hr
      go_enter Try.func144, Try.ntmps144
      go_wp2_with fail
      refine (HG1.out _ HB.out).mono ?_
      rintro e w1 ⟨rfl, b1⟩
      obtain ⟨⟨cz0, ca0⟩, cz, ca⟩ := CB.out w1 b1
      have HB1 := Lib.hid (HB.out.trans (b1.mono HB.out.size))
      clear b1
      go_wp2_with fail
      refine (HG2.out _ HB1.out).mono ?_
      rintro e w2 ⟨rfl, b2⟩
      have ez0 := cell_b b2 cz0
      have ea0 := cell_b b2 ca0
      have ez := cell_b b2 cz
      have ea := cell_b b2 ca
      have HB2 := Lib.hid (HB1.out.trans (b2.mono HB1.out.size))
      clear b2 cz0 ca0 cz ca
      go_wp2_with fail
      have tok1 : True := trivial
      go_region_with ((first | (go_at_call 151; have _t := tok1; clear tok1 _t; refine (HS1.out _ ?_).mono ?_; exact HB2.out.drew; rintro e w3 ⟨rfl, b3⟩; have fz : w3.cell? ⟨w.heap.size + 1, 0, none⟩ = some (.int .i64 z1) := cell_b b3 ez; have fa : w3.cell? ⟨w.heap.size + 1, 1, none⟩ = some (.slice bo m d) := cell_b b3 ea; have HB3 := Lib.hid (HB2.out.drew.trans (b3.mono HB2.out.drew.size)); clear b3) | (go_at_call 151; refine (HS2.out _ ?_).mono ?_; exact HB3.out; rintro e w4 ⟨rfl, b4⟩; have HB4 := Lib.hid (HB3.out.trans (b4.mono HB3.out.size)); clear b4)))
      all_goals
        go_wp2_with fail
        go_ret2
        exact ⟨rfl, HB4.out⟩

end Go.Proofs.Ytcmjkfcgekmomaa
