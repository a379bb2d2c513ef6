/-
  Contract: spec.FromBlocks. Conditions: the bounds that it names.
-/
import Derived.Test.YtgejpkpilnfddaaFbI
import Derived.Test.YtgejpkpilnfddaaPartO
import Derived.Test.YtgejpkpilnfddaaElems
import Derived.Test.YtgejpkpilnfddaaMake
namespace Go.Proofs.Ytgejpkpilnfddaa
open Go.RowKit
set_option linter.unusedVariables false
set_option linter.unusedSimpArgs false

theorem below_alloc2 {B : Nat} {w w1 : World} (h : Below B w w1) (hB : B ≤ w1.heap.size) (o : Obj) : Below B w (w1.alloc o) := h.alloc hB o
theorem make_ints0 (w : World) (n : Nat) (hn : n ≤ 1048576) : ∃ w', (Instr.makeSlice 22 (.int .i64 (n : Int)) (.int .i64 (n : Int))).run Try.prog w = .ok (.slice (some ⟨w.heap.size, 0, none⟩) n n) w' ∧
    w'.ownsRow w.heap.size 3 1 (.slice (some ⟨w.heap.size, 0, none⟩) n n) n ((lstP n fun _ => 0).map (Value.int .i64)) ∧ Below w.heap.size w w' := by
  obtain ⟨i0, hi0, hz0, hz1, hz2⟩ := info_parts Try.infoInt
  obtain ⟨w', hrun, r1, r2⟩ := run_make_full (P := Try.prog) w w.heap.size 22 3 i0 _ 1 Try.underlying22 hi0 hz0 hz1 .i64 .i64 n (by rw [hz2]; omega) (by unfold maxLen; omega) (Nat.le_refl _)
  refine ⟨w', hrun, ?_, (Below.refl _ _).grown r2 (Nat.le_refl _) (by intro k hk; cases hk)⟩
  rw [show (Value.int .i64 0).cells = #[Value.int .i64 0] from rfl, Nat.mul_one, toList_madeCells_one] at r1
  rw [show (lstP n fun _ => (0 : Int)).map (Value.int .i64) = List.replicate n (.int .i64 0) by
    unfold lstP
    rw [List.map_map]
    show (List.range n).map (fun _ => Value.int .i64 0) = _
    rw [List.map_const', List.length_range]]
  exact r1
theorem lstP_set (n : Nat) (f : Nat → Int) (k : Nat) (x : Int) : ((lstP n f).map (Value.int .i64)).set k (.int .i64 x) = (lstP n (put8 f k x)).map (Value.int .i64) := by
  apply List.ext_getElem?
  intro i
  by_cases hi : i < n
  · rw [List.getElem?_set]
    by_cases hk : k = i
    · subst hk
      rw [if_pos rfl, if_pos (by simp [lstP_len, hi]), List.getElem?_map, lstP_get _ hi, put8_same]; rfl
    · rw [if_neg hk, List.getElem?_map, List.getElem?_map, lstP_get _ hi, lstP_get _ hi, put8_other (fun e => hk e.symm)]
  · rw [List.getElem?_eq_none (by simp [lstP_len]; omega), List.getElem?_eq_none (by simp [lstP_len]; omega)]

theorem pL_at {ls : List (List Int)} : ∀ j, j ≤ ls.length → (∀ b, b ∈ ls.take j → b ≠ []) → (∀ x, x ∈ flatB ls j → 0 ≤ x) → ∀ z : Nat, 0 ≤ pL ls j z ↔ (z : Int) ∈ flatB ls j
  | 0, _, _, _, z => by
    constructor
    · intro h; exact absurd (show (0 : Int) ≤ -1 from h) (by omega)
    · intro h; simp [flatB] at h
  | j + 1, hj, hne, h0, z => by
    obtain ⟨b, hb⟩ := get_of_lt (xs := ls) rfl (show j < ls.length by omega)
    have hbe : b ≠ [] := hne b (by rw [List.take_add_one, hb]; simp)
    rw [flatB_succ hb] at h0 ⊢
    have hb0 : ∀ x ∈ b, 0 ≤ x := fun x hx => h0 x (List.mem_append_right _ hx)
    have ih := pL_at j (by omega) (fun d hd => hne d (by rw [List.take_add_one]; exact List.mem_append_left _ hd)) (fun x hx => h0 x (List.mem_append_left _ hx)) z
    have hmin := minK_mem (b := b) (k := b.length) (List.length_pos_iff.2 hbe) (Nat.le_refl _)
    rw [List.take_length] at hmin
    rw [pL_succ hb, pK_at hb0 (Nat.le_refl _), List.take_length]
    by_cases hz : (z : Int) ∈ b
    · rw [if_pos hz]
      exact ⟨fun _ => List.mem_append_right _ hz, fun _ => hb0 _ hmin⟩
    · rw [if_neg hz, ih, List.mem_append]
      exact ⟨.inl, fun h => h.resolve_right hz⟩

def neg1 (k j : Nat) : Int := if j < k then -1 else 0
theorem neg1_put {k : Nat} : put8 (neg1 k) k (-1) = neg1 (k + 1) := by
  funext j
  unfold put8 neg1
  by_cases h : j = k
  · subst h; simp
  · by_cases h2 : j < k
    · simp [h, h2, show j < k + 1 by omega]
    · simp [h, h2, show ¬ j < k + 1 by omega]

set_option maxRecDepth 100000 in
set_option maxHeartbeats 4000000 in
theorem specFromBlocks (n : Int) (lo hi : Nat) (ao : Option Addr) (c m : Nat) (ls : List (List Int)) (w : World) (hwn : (Lit.int .i64 n).wf = true) (hx : LView w lo hi ao m ls) (hhi : hi ≤ w.heap.size) (hmc : m ≤ c) (hm : c ≤ maxLen) (hq : ∀ xs, xs ∈ ls → ∀ x, x ∈ xs → (Lit.int .i64 x).wf = true) :
    Calls Try.prog 25 #[.int .i64 n, .slice ao m c] w fun e w' => ResL w w' (valFromBlocks n ls).1 (valFromBlocks n ls).2 e := by
  have HS := Lib.hid (fun w => size6_any n w)
  have HE0 : Hid (∀ W, Below w.heap.size w W → ResL w (W.alloc (.cells #[] 3)) [] false (.returned (.tuple #[.slice (some ⟨W.heap.size, 0, none⟩) 0 0, .bool false]))) := fun W hW =>
    ⟨_, _, _, rfl, rfl, OwnsInts.of_row (World.ownsRow_lit (base := w.heap.size) (e := 3) (size := 1) W #[] 0 hW.size (by decide) rfl), hW.alloc hW.size _⟩
  have hm2 : m ≤ 9223372036854775807 := by unfold maxLen at hm; omega
  cases hb : inB 1 8 n with
  | false =>
    simp only [hb] at HS
    rw [valFb_size hb]
    clear hx hhi hm hq hb hwn
    go_enter Try.func25, Try.ntmps25
    go_wp2_with fail
    refine (HS.out _).mono ?_
    rintro e w' ⟨rfl, rfl⟩
    go_wp2_with fail
    go_ret2
    exact HE0.out _ (Below.refl _ _)
  | true =>
    simp only [hb] at HS
    obtain ⟨h1, h8⟩ : 1 ≤ n ∧ n ≤ 8 := of_decide_eq_true hb
    have HV := Lib.hid hx
    have HLn := Lib.hid hx.1
    obtain ⟨rv, hrv⟩ : ∃ rv, valFromBlocks n ls = rv := ⟨_, rfl⟩
    have HNo : Hid (fbB n ls = false → rv = ([], false)) := fun h => by rw [← hrv, valFb_no h]
    have HYes : Hid (fbB n ls = true → rv = (lstP n.toNat (pL ls m), true)) := fun h => by rw [← hrv, valFb_yes hb h, hx.1]
    rw [hrv]
    clear hx hb hrv hm hq hwn hmc
    obtain ⟨z, rfl⟩ : ∃ z : Nat, n = (z : Int) := ⟨n.toNat, by omega⟩
    rw [Int.toNat_natCast] at HYes
    by_cases hmz : m ≤ z
    · have hgt : ¬ (z : Int) < (m : Int) := by omega
      obtain ⟨w1, hmk, ho1, hb1⟩ := make_ints0 w z (by omega)
      have HO1 := Lib.hid ho1
      have HB1 := Lib.hid hb1
      clear ho1 hb1
      go_enter Try.func25, Try.ntmps25
      go_wp2_with fail
      refine (HS.out _).mono ?_
      rintro e w' ⟨rfl, rfl⟩
      go_wp2_with fail
      clear hmk
      go_loopw [7] (fun i wr => ∃ k : Nat, k ≤ z ∧ i = .int .i64 (k : Int) ∧ Hid (wr.ownsRow w.heap.size 3 1 (.slice (some ⟨w.heap.size, 0, none⟩) z z) z ((lstP z (neg1 k)).map (Value.int .i64))) ∧ Hid (Below w.heap.size w wr)) (fun i _ => z - (intOf i).toNat)
      case atStart => exact ⟨0, Nat.zero_le _, rfl, by unfold neg1; exact HO1, HB1⟩
      case round =>
        clear HO1 HB1
        obtain ⟨k, hk, rfl, HR, HBr⟩ := hrel
        by_cases hlt : k < z
        · have hkz : (k : Int) < (z : Int) := by omega
          obtain ⟨u, hu⟩ : ∃ u, wr.cell? ⟨w.heap.size, k, none⟩ = some u := by
            rw [HR.out.cellAt k (by omega), List.getElem?_map, lstP_get _ hlt]; exact ⟨_, rfl⟩
          have hfr := HR.out.frozenAt k
          have hst := HR.out.stored k (.int .i64 (-1))
          rw [lstP_set, neg1_put] at hst
          have HST := Lib.hid hst
          clear hst
          go_wp2_with fail
          go_roundw
          case rel => exact ⟨k + 1, by omega, by go_num, HST.out.1, HBr.out.setCell (Nat.le_refl _) _⟩
          case measure => simp [intOf]; omega
        · have hkz : ¬ (k : Int) < (z : Int) := by omega
          have HR2 : Hid (wr.ownsRow w.heap.size 3 1 (.slice (some ⟨w.heap.size, 0, none⟩) z z) z ((lstP z (pL ls 0)).map (Value.int .i64))) := by
            unfold Hid
            rw [show lstP z (pL ls 0) = lstP z (neg1 k) from lstP_congr fun j hj => by unfold neg1; rw [if_pos (by omega)]; rfl]
            exact HR.out
          clear HR
          go_wp2_with fail
          go_loopw [8, 9, 10, 11, 12] (fun cn i _ _ _ wr => ∃ j : Nat, j ≤ m ∧ i = .int .i64 (j : Int) ∧ cn = .int .i64 ((flatB ls j).length : Int) ∧ Hid (MetOk (z : Int) (flatB ls j) ∧ ∀ b, b ∈ ls.take j → b ≠ []) ∧ Hid (wr.ownsRow w.heap.size 3 1 (.slice (some ⟨w.heap.size, 0, none⟩) z z) z ((lstP z (pL ls j)).map (Value.int .i64))) ∧ Hid (Below w.heap.size w wr)) (fun _ i _ _ _ _ => m - (intOf i).toNat)
          case atStart => exact ⟨0, Nat.zero_le _, rfl, rfl, ⟨⟨rfl, List.nodup_nil⟩, fun b hb => by simp at hb⟩, HR2, HBr⟩
          case round =>
            clear HR2 HBr hk hlt hkz
            obtain ⟨j, hj, rfl, rfl, HG, HR, HBr⟩ := hrel
            by_cases hlt : j < m
            · obtain ⟨bb, oo, rfl, _, hbh, hc⟩ := HV.out.at_ (by omega)
              obtain ⟨b, hbj⟩ := get_of_lt HLn.out hlt
              obtain ⟨a, t, cc, c0, htc, hcm, hvb⟩ := hc j b hbj
              have hbw : bb < w.heap.size := by omega
              have HC0 := Lib.hid c0
              have e0 : wr.cell? ⟨bb, oo + j, none⟩ = some (.slice a t cc) := (HBr.out.cell (p := ⟨bb, _, none⟩) hbw).trans c0
              have HVb := Lib.hid hvb
              have hbl := hvb.1
              have HBl := Lib.hid hbl
              have HBj := Lib.hid hbj
              have ht2 : t ≤ 9223372036854775807 := by unfold maxLen at hcm; omega
              have hjm : (j : Int) < (m : Int) := by omega
              clear hc c0 hvb hbj htc hcm
              by_cases ht0 : t = 0
              · subst ht0
                have hbe : b = [] := List.eq_nil_of_length_eq_zero hbl
                have hno := HNo.out (fbB_empty (j := j) (by rw [← hbe]; exact HBj.out))
                clear hbl hbe
                subst hno
                go_wp2_with fail
                go_ret2
                exact HE0.out _ HBr.out
              · have hte : ((t : Int) == 0) = false := by rw [beq_eq_false_iff_ne]; omega
                by_cases htz : t ≤ z
                · have hgt2 : ¬ (z : Int) < (t : Int) := by omega
                  have HEl := Lib.hid (elems_spec lo hi (z : Int) a cc t b wr (HVb.out.kept (Kept.of_below HBr.out hhi)) (by omega) (by omega) (by unfold maxLen; omega))
                  obtain ⟨u, hu⟩ : ∃ u, allIn (z : Int) b = u := ⟨_, rfl⟩
                  rw [hu] at HEl
                  have HU := Lib.hid hu
                  clear hu
                  cases u with
                  | false =>
                    have hno := HNo.out (fbB_out HBj.out HU.out)
                    clear hbl
                    subst hno
                    go_wp2_with fail
                    refine HEl.out.mono ?_
                    rintro e w' ⟨rfl, rfl⟩
                    go_wp2_with fail
                    go_ret2
                    exact HE0.out _ HBr.out
                  | true =>
                    obtain ⟨b2, o2, rfl, hb2l, hb2h, hcb⟩ := HVb.out.at_ (by omega)
                    have HCb : Hid (∀ k, k < t → w.cell? ⟨b2, o2 + k, none⟩ = some (.int .i64 (gI b k))) := fun k hk => hcb k _ (get_gI hbl hk)
                    have hb2w : b2 < w.heap.size := by omega
                    have e2 : wr.cell? ⟨b2, o2, none⟩ = some (.int .i64 (gI b 0)) := by
                      have h2 := (HBr.out.cell (p := ⟨b2, o2 + 0, none⟩) hb2w).trans (HCb.out 0 (by omega))
                      exact h2
                    have ht0' : 0 < t := by omega
                    clear hcb hbl
                    rename World => wo
                    go_wp2_with fail
                    refine HEl.out.mono ?_
                    rintro e w' ⟨rfl, rfl⟩
                    go_wp2_with fail
                    go_loop [10, 11] (fun v i => ∃ k : Nat, k ≤ t ∧ i = .int .i64 (k : Int) ∧ v = .int .i64 (minK b k)) (fun _ i => t - (intOf i).toNat)
                    case atStart => exact ⟨0, Nat.zero_le _, rfl, rfl⟩
                    case round =>
                      obtain ⟨k, hk, rfl, rfl⟩ := hrel
                      by_cases hkt : k < t
                      · have hkt' : (k : Int) < (t : Int) := by omega
                        have e3 := (HBr.out.cell (p := ⟨b2, o2 + k, none⟩) hb2w).trans (HCb.out k hkt)
                        have HLe := Lib.hid (fun W => least_any (minK b k) (gI b k) W)
                        obtain ⟨v1, hv1⟩ : ∃ v, minK b k = v := ⟨_, rfl⟩
                        obtain ⟨v2, hv2⟩ : ∃ v, gI b k = v := ⟨_, rfl⟩
                        have hmk : minK b (k + 1) = min v1 v2 := by rw [minK, hv1, hv2]
                        rw [hv1]
                        rw [hv2] at e3
                        simp only [hv1, hv2] at HLe
                        clear hv1 hv2
                        go_wp2_with fail
                        refine (HLe.out _).mono ?_
                        rintro e w' ⟨rfl, rfl⟩
                        go_wp2_with fail
                        go_round
                        case rel => exact ⟨k + 1, by omega, by go_num, by rw [hmk]⟩
                        case measure => simp [intOf]; omega
                      · obtain rfl : k = t := by omega
                        have hkt' : ¬ (k : Int) < (k : Int) := by omega
                        have hbk : b.take k = b := List.take_of_length_le (by have := HBl.out; omega)
                        obtain ⟨mv, hmv⟩ : ∃ mv, minK b k = mv := ⟨_, rfl⟩
                        have HMv := Lib.hid hmv
                        rw [hmv]
                        obtain ⟨F, hF⟩ : ∃ F, pL ls j = F := ⟨_, rfl⟩
                        have hb0 : ∀ x ∈ b, 0 ≤ x := fun x hx => (allIn_iff.1 HU.out x hx).1
                        have HMet : Hid (∀ q, q ≤ k → ∀ x : Nat, 0 ≤ pK F b mv q x ↔ (x : Int) ∈ flatB ls j ++ b.take q) := fun q hq x => by
                          have h1_ := pL_at (ls := ls) j (by have := HLn.out; omega) HG.out.2 (fun x hx => (allIn_iff.1 HG.out.1.1 x hx).1) x
                          have h2_ : 0 ≤ mv := by
                            have h3_ := minK_mem (b := b) (k := k) (by omega) (by have := HBl.out; omega)
                            rw [hmv] at h3_
                            exact hb0 _ (List.mem_of_mem_take h3_)
                          rw [pK_at hb0 (by have := HBl.out; omega)]
                          by_cases hz : (x : Int) ∈ b.take q
                          · rw [if_pos hz]
                            exact ⟨fun _ => List.mem_append_right _ hz, fun _ => h2_⟩
                          · rw [if_neg hz, ← hF, h1_, List.mem_append]
                            exact ⟨.inl, fun h => h.resolve_right hz⟩
                        have HPn : Hid (pL ls (j + 1) = pK F b mv k) := by unfold Hid; rw [pL_succ HBj.out, HBl.out, hmv, hF]
                        have HG0 : Hid (MetOk (z : Int) (flatB ls j ++ b.take 0)) := by unfold Hid; rw [List.take_zero, List.append_nil]; exact HG.out.1
                        have HTk := Lib.hid HG.out.2
                        rw [hF] at HR
                        clear HMv hmv hF hb0 HG
                        go_wp2_with fail
                        go_loopw [8, 12] (fun cn i wr => ∃ q : Nat, q ≤ k ∧ i = .int .i64 (q : Int) ∧ cn = .int .i64 (((flatB ls j).length + q : Nat) : Int) ∧ Hid (MetOk (z : Int) (flatB ls j ++ b.take q)) ∧ Hid (wr.ownsRow w.heap.size 3 1 (.slice (some ⟨w.heap.size, 0, none⟩) z z) z ((lstP z (pK F b mv q)).map (Value.int .i64))) ∧ Hid (Below w.heap.size w wr)) (fun _ i _ => k - (intOf i).toNat)
                        case atStart => exact ⟨0, Nat.zero_le _, rfl, rfl, HG0, HR, HBr⟩
                        case round =>
                          clear e0 e2 HEl HG0 HR HBr
                          obtain ⟨q, hq, rfl, rfl, HG, HR, HBr⟩ := hrel
                          have e0 : wr.cell? ⟨bb, oo + j, none⟩ = some (.slice (some ⟨b2, o2, none⟩) k cc) := (HBr.out.cell (p := ⟨bb, _, none⟩) hbw).trans HC0.out
                          by_cases hqk : q < k
                          · have hqk' : (q : Int) < (k : Int) := by omega
                            have e3 := (HBr.out.cell (p := ⟨b2, o2 + q, none⟩) hb2w).trans (HCb.out q hqk)
                            have hbq := get_gI HBl.out hqk
                            obtain ⟨x0, x1⟩ := allIn_get HU.out hbq
                            obtain ⟨x, hx⟩ : ∃ x : Nat, gI b q = (x : Int) := ⟨(gI b q).toNat, by omega⟩
                            rw [hx] at e3 hbq x1
                            have HBq := Lib.hid hbq
                            have hxz : x < z := by omega
                            have hmet := HMet.out q hq x
                            have e4 : wr.cell? ⟨w.heap.size, x, none⟩ = some (.int .i64 (pK F b mv q x)) := by
                              rw [HR.out.cellAt x (by omega), List.getElem?_map, lstP_get _ hxz]; rfl
                            obtain ⟨y, hy⟩ : ∃ y, pK F b mv q x = y := ⟨_, rfl⟩
                            rw [hy] at e4 hmet
                            have HPq : Hid (put8 (pK F b mv q) x mv = pK F b mv (q + 1)) := by unfold Hid; show _ = put8 (pK F b mv q) (gI b q).toNat mv; rw [hx, Int.toNat_natCast]
                            have hlen : (flatB ls j ++ b.take q).length ≤ z := nodup_len8 z _ HG.out.2 (fun v hv => allIn_iff.1 HG.out.1 v hv)
                            rw [List.length_append, List.length_take] at hlen
                            have hlen2 : (flatB ls j).length + q ≤ z := by have := HBl.out; omega
                            clear hx hy x0 hbq hlen
                            by_cases hy0 : 0 ≤ y
                            · have hno := HNo.out (fbB_dup HBj.out HBq.out (hmet.1 hy0))
                              subst hno
                              clear hmet
                              go_wp2_with fail
                              go_ret2
                              exact HE0.out _ HBr.out
                            · have hnew : ¬ (x : Int) ∈ flatB ls j ++ b.take q := fun h => hy0 (hmet.2 h)
                              have HG2 : Hid (MetOk (z : Int) (flatB ls j ++ b.take (q + 1))) := by
                                unfold Hid
                                rw [List.take_add_one, HBq.out, ← List.append_assoc]
                                exact HG.out.snoc (by omega) x1 hnew
                              have hfr := HR.out.frozenAt x
                              have hst := HR.out.stored x (.int .i64 mv)
                              rw [lstP_set, HPq.out] at hst
                              have HST := Lib.hid hst
                              have hcn : (((flatB ls j).length + (q + 1) : Nat) : Int) = (((flatB ls j).length + q : Nat) : Int) + 1 := by omega
                              obtain ⟨cn, hcn0⟩ : ∃ cn : Nat, (flatB ls j).length + q = cn := ⟨_, rfl⟩
                              rw [hcn0] at hcn ⊢
                              have HCn := Lib.hid hcn
                              clear hst hmet hnew hcn
                              have hcz : cn ≤ z := by omega
                              clear hcn0 hlen2
                              go_wp2_with fail
                              go_roundw
                              case rel => exact ⟨q + 1, by omega, by go_num, by rw [HCn.out], HG2, HST.out.1, HBr.out.setCell (Nat.le_refl _) _⟩
                              case measure => simp [intOf]; omega
                          · obtain rfl : q = k := by omega
                            have hqk' : ¬ (q : Int) < (q : Int) := by omega
                            have HGn : Hid (MetOk (z : Int) (flatB ls (j + 1)) ∧ ∀ d, d ∈ ls.take (j + 1) → d ≠ []) := by
                              unfold Hid
                              refine ⟨by rw [flatB_succ HBj.out]; have h_ := HG.out; rw [hbk] at h_; exact h_, fun d hd => ?_⟩
                              rw [List.take_add_one, HBj.out] at hd
                              rcases List.mem_append.1 hd with h | h
                              · exact HTk.out d h
                              · have : d = b := by simpa using h
                                subst this
                                intro e; have := HBl.out; rw [e] at this; simp at this; omega
                            have HRn : Hid (wr.ownsRow w.heap.size 3 1 (.slice (some ⟨w.heap.size, 0, none⟩) z z) z ((lstP z (pL ls (j + 1))).map (Value.int .i64))) := by unfold Hid; rw [HPn.out]; exact HR.out
                            have HFl : Hid ((flatB ls (j + 1)).length = (flatB ls j).length + q) := by unfold Hid; rw [flatB_succ HBj.out, List.length_append, HBl.out]
                            clear hbk
                            go_wp2_with fail
                            exact ⟨⟨j + 1, by omega, by go_num, by rw [HFl.out], HGn, HRn, HBr⟩, by simp [intOf]; omega⟩
                · have hgt2 : (z : Int) < (t : Int) := by omega
                  have hno := HNo.out (fbB_long HBj.out (by have := HBl.out; omega))
                  clear hbl
                  subst hno
                  go_wp2_with fail
                  go_ret2
                  exact HE0.out _ HBr.out
            · obtain rfl : j = m := by omega
              have hjm : ¬ (j : Int) < (j : Int) := by omega
              have hfl : flatB ls j = ls.flatten := flatB_all (by have := HLn.out; omega)
              by_cases hlen : (flatB ls j).length = z
              · have hne : (((flatB ls j).length : Int) != (z : Int)) = false := by rw [hlen]; simp
                have hyes := HYes.out (fbB_yes (fun b hb => HG.out.2 b (by rw [List.take_of_length_le (by have := HLn.out; omega)]; exact hb)) (by rw [← hfl]; exact HG.out.1.1) (by rw [← hfl]; exact HG.out.1.2) (by rw [← hfl]; omega))
                subst hyes
                clear hfl hlen
                go_wp2_with fail
                go_ret2
                exact ⟨_, _, _, rfl, (lstP_len _ _).symm, OwnsInts.of_row HR.out, HBr.out⟩
              · have hne : (((flatB ls j).length : Int) != (z : Int)) = true := by rw [bne_iff_ne]; omega
                have hno := HNo.out (fbB_count (by rw [← hfl]; omega))
                subst hno
                clear hfl hlen
                go_wp2_with fail
                go_ret2
                exact HE0.out _ HBr.out
    · have hgt : (z : Int) < (m : Int) := by omega
      have hno := HNo.out (fbB_many (by have := HLn.out; omega))
      subst hno
      go_enter Try.func25, Try.ntmps25
      go_wp2_with fail
      refine (HS.out _).mono ?_
      rintro e w' ⟨rfl, rfl⟩
      go_wp2_with fail
      go_ret2
      exact HE0.out _ (Below.refl _ _)

end Go.Proofs.Ytgejpkpilnfddaa
