/-
  Contracts: spec.l2Perm and impl.hasEachOnce: whether a list of names has each element once. Conditions: the bounds that each theorem names.
-/
import Derived.Test.YthgggoodceogkaaElems
import Derived.Test.YthgggoodceogkaaPerM
import Derived.Test.YthgggoodceogkaaStep
namespace Go.Proofs.Ythgggoodceogkaa
open Go.RowKit
set_option linter.unusedVariables false
set_option linter.unusedSimpArgs false

theorem Try.infoBool : (Try.prog.info? 4).map (fun i => (i.zero, i.size, i.bytes)) = some (some (.bool false), 1, 1) := by kernel_rfl
/-- What has been seen. -/
def seenL (xs : List Int) (n : Nat) : List Bool := (List.range n).map fun (v : Nat) => decide ((v : Int) ∈ xs)
theorem seenL_get {xs : List Int} {n v : Nat} (h : v < n) : (seenL xs n)[v]? = some (decide ((v : Int) ∈ xs)) := by simp [seenL, h]
theorem seenL_nil (n : Nat) : seenL [] n = List.replicate n false := by
  apply List.ext_getElem?
  intro j
  by_cases h : j < n
  · rw [seenL_get h, List.getElem?_replicate, if_pos h]; simp
  · rw [List.getElem?_eq_none (by simp [seenL]; omega), List.getElem?_eq_none (by simp; omega)]
theorem seenL_set {xs : List Int} {n v : Nat} (h : v < n) : ((seenL xs n).map Value.bool).set v (.bool true) = (seenL (xs ++ [(v : Int)]) n).map Value.bool := by
  apply List.ext_getElem?
  intro j
  rw [List.getElem?_set]
  by_cases hj : j < n
  · rw [List.getElem?_map, List.getElem?_map, seenL_get hj, seenL_get hj]
    by_cases hv : v = j
    · subst hv; simp [seenL, h]
    · rw [if_neg hv]
      have : ¬ (j : Int) = (v : Int) := by omega
      simp [this]
  · have h1 : ((seenL xs n).map Value.bool)[j]? = none := List.getElem?_eq_none (by simp [seenL]; omega)
    have h2 : ((seenL (xs ++ [(v : Int)]) n).map Value.bool)[j]? = none := List.getElem?_eq_none (by simp [seenL]; omega)
    rw [h1, h2]
    by_cases hv : v = j
    · omega
    · rw [if_neg hv]
theorem permB_len {z : Int} {xs : List Int} (h : ¬ (xs.length : Int) = z) : permB z xs = false := by simp [permB, h]
theorem permB_in {z : Int} {xs : List Int} (h : allIn z xs = false) : permB z xs = false := by simp [permB, h]
theorem permB_yes {z : Int} {xs : List Int} (hl : (xs.length : Int) = z) (h : allIn z xs = true) (hn : xs.Nodup) : permB z xs = true := by simp [permB, hl, h, hn]
theorem permB_no {z : Int} {xs : List Int} {k : Nat} {x : Int} (hx : xs[k]? = some x) (hm : x ∈ xs.take k) : permB z xs = false := by
  have : ¬ xs.Nodup := by
    intro hn
    rw [← List.take_append_drop k xs] at hn
    obtain ⟨hk, rfl⟩ := List.getElem?_eq_some_iff.1 hx
    have hd : xs[k] ∈ xs.drop k := by rw [List.drop_eq_getElem_cons hk]; exact List.mem_cons_self ..
    exact (List.nodup_append.1 hn).2.2 _ hm _ hd rfl
  simp [permB, this]
theorem nodup_snoc {xs : List Int} {k : Nat} {x : Int} (hx : xs[k]? = some x) (hn : (xs.take k).Nodup) (hm : ¬ x ∈ xs.take k) : (xs.take (k + 1)).Nodup := by
  rw [List.take_add_one, hx, Option.toList_some, List.nodup_append]
  exact ⟨hn, by simp, fun a ha b hb => by simp at hb; subst hb; exact fun e => hm (e ▸ ha)⟩

set_option maxHeartbeats 1000000 in
theorem perm_spec (lo hi zn : Nat) (ao : Option Addr) (c n : Nat) (xs : List Int) (w : World) (h : IView w lo hi ao n xs) (hhi : hi ≤ w.heap.size) (hz1 : 1 ≤ zn) (hz2 : zn ≤ 8) (hn : n ≤ maxLen) :
    Calls Try.prog 77 #[.slice ao n c, .int .i64 (zn : Int)] w fun e w' => e = .returned (.bool (permB (zn : Int) xs)) ∧ Below w.heap.size w w' := by
  unfold maxLen at hn
  have hl := h.1
  by_cases hnz : (n : Int) = (zn : Int)
  · obtain rfl : n = zn := by omega
    have he := elems_spec lo hi (n : Int) ao c n xs w h (by omega) (by omega) (by unfold maxLen; omega)
    obtain ⟨y, hy⟩ : ∃ y, allIn (n : Int) xs = y := ⟨_, rfl⟩
    rw [hy] at he
    have HE := Lib.hid he
    cases y with
    | false =>
      rw [permB_in hy]
      clear he hy h hl
      go_enter Try.func77, Try.ntmps77
      go_wp2_with fail
      refine HE.out.mono ?_
      rintro e w1 ⟨rfl, rfl⟩
      go_wp2_with fail
      go_ret
      exact ⟨rfl, Below.refl _ _⟩
    | true =>
      obtain ⟨i0, hi0, y0, y1, y2⟩ := info_parts Try.infoBool
      have HV := Lib.hid h
      have HY := Lib.hid hy
      have HL := Lib.hid hl
      clear he hy h hl
      go_enter Try.func77, Try.ntmps77
      go_wp2_with fail
      refine HE.out.mono ?_
      rintro e w1 ⟨rfl, rfl⟩
      go_wp2_with (at_make; refine wpList_make_full _ rfl _ _ 89 rfl w.heap.size 4 i0 _ 1 Try.underlying89 hi0 y0 y1 _ _ _ _ n rfl rfl rfl rfl (by rw [y2]; omega) (by unfold maxLen; omega) (Nat.le_refl _) ?_; intro w2 hown hgrow)
      have hB2 : Below w.heap.size w w2 := (Below.refl _ _).grown hgrow (Nat.le_refl _) (by intro k hk; cases hk)
      have hown2 : w2.ownsRow w.heap.size 4 1 (.slice (some ⟨w.heap.size, 0, none⟩) n n) n ((seenL (xs.take 0) n).map Value.bool) := by
        have h := hown
        rw [show (Value.bool false).cells = #[Value.bool false] from rfl, Nat.mul_one, toList_madeCells_one] at h
        rw [List.take_zero, seenL_nil, List.map_replicate]
        exact h
      have HO := Lib.hid hown2
      have HB := Lib.hid hB2
      clear hown hgrow hown2 hB2 hi0 y0 y1 y2
      go_loopw [6] (fun i wr => ∃ k : Nat, k ≤ n ∧ i = .int .i64 (k : Int) ∧ Hid ((xs.take k).Nodup) ∧ Hid (wr.ownsRow w.heap.size 4 1 (.slice (some ⟨w.heap.size, 0, none⟩) n n) n ((seenL (xs.take k) n).map Value.bool)) ∧ Hid (Below w.heap.size w wr)) (fun i _ => n - (intOf i).toNat)
      case atStart => exact ⟨0, Nat.zero_le _, rfl, by simp [Hid], HO, HB⟩
      case round =>
        obtain ⟨k, hk, rfl, HN, HR, HBr⟩ := hrel
        by_cases hlt : k < n
        · obtain ⟨b, o, rfl, _, hb, hc⟩ := HV.out.at_ (by omega)
          obtain ⟨x, hx⟩ := get_of_lt HV.out.1 hlt
          have ex : wr.cell? ⟨b, o + k, none⟩ = some (.int .i64 x) := cell_b HBr.out (hc k x hx)
          obtain ⟨x0, x1⟩ := allIn_get HY.out hx
          obtain ⟨v, rfl⟩ : ∃ v : Nat, x = (v : Int) := ⟨x.toNat, by omega⟩
          have hvn : v < n := by omega
          have hcs := HR.out.cellAt v (by omega)
          rw [List.getElem?_map, seenL_get hvn] at hcs
          have hfr := HR.out.frozenAt v
          have hst := HR.out.stored v (.bool true)
          rw [seenL_set hvn] at hst
          have HX := Lib.hid hx
          have HST := Lib.hid hst
          clear hc hx hst
          by_cases hm : (v : Int) ∈ xs.take k
          · have hcs2 : wr.cell? ⟨w.heap.size, v, none⟩ = some (.bool true) := by rw [hcs]; simp [hm]
            have HM := Lib.hid hm
            clear hcs hm
            go_wp2_with fail
            go_ret
            exact ⟨ret_bool (permB_no HX.out HM.out).symm, HBr.out⟩
          · have hcs2 : wr.cell? ⟨w.heap.size, v, none⟩ = some (.bool false) := by rw [hcs]; simp [hm]
            have HM := Lib.hid hm
            clear hcs hm
            go_wp2_with fail
            have HR2 : Hid ((wr.setCell ⟨w.heap.size, v, none⟩ (.bool true)).ownsRow w.heap.size 4 1 (.slice (some ⟨w.heap.size, 0, none⟩) n n) n ((seenL (xs.take (k + 1)) n).map Value.bool)) := by
              unfold Hid
              rw [List.take_add_one, HX.out]
              exact HST.out.1
            have HB2 := Lib.hid (HBr.out.grown HST.out.2 HBr.out.size (by intro j hj; cases hj; exact Nat.le_refl _))
            go_roundw
            case rel => exact ⟨k + 1, by omega, by go_num, nodup_snoc HX.out HN.out HM.out, HR2, HB2⟩
            case measure => simp [intOf]; omega
        · obtain rfl : k = n := by omega
          go_wp2_with fail
          go_ret
          have hnd := HN.out
          rw [List.take_of_length_le (by have := HL.out; omega)] at hnd
          exact ⟨ret_bool (permB_yes (by rw [HL.out]) HY.out hnd).symm, HBr.out⟩
  · rw [permB_len (by rw [hl]; exact hnz)]
    have he : ((n : Int) == (zn : Int)) = false := by rw [beq_eq_false_iff_ne]; exact hnz
    have he2 : ((n : Int) != (zn : Int)) = true := by rw [bne_iff_ne]; exact hnz
    clear h hl hnz
    go_enter Try.func77, Try.ntmps77
    go_wp2_with fail
    go_ret
    exact ⟨rfl, Below.refl _ _⟩

set_option maxHeartbeats 1000000 in
theorem perm_impl (lo hi zn : Nat) (ao : Option Addr) (c n : Nat) (xs : List Int) (w : World) (h : IView w lo hi ao n xs) (hhi : hi ≤ w.heap.size) (hz1 : 1 ≤ zn) (hz2 : zn ≤ 8) (hn : n ≤ maxLen) :
    Calls Try.prog 79 #[.int .i64 (zn : Int), .slice ao n c] w fun e w' => e = .returned (.bool (permB (zn : Int) xs)) ∧ Below w.heap.size w w' := by
  unfold maxLen at hn
  have hl := h.1
  by_cases hnz : (n : Int) = (zn : Int)
  · obtain rfl : n = zn := by omega
    have he := elems_impl lo hi (n : Int) ao c n xs w h (by unfold maxLen; omega)
    obtain ⟨y, hy⟩ : ∃ y, allIn (n : Int) xs = y := ⟨_, rfl⟩
    rw [hy] at he
    have HE := Lib.hid he
    cases y with
    | false =>
      rw [permB_in hy]
      clear he hy h hl
      go_enter Try.func79, Try.ntmps79
      go_wp2_with fail
      refine HE.out.mono ?_
      rintro e w1 ⟨rfl, rfl⟩
      go_wp2_with fail
      go_ret
      exact ⟨rfl, Below.refl _ _⟩
    | true =>
      obtain ⟨i0, hi0, y0, y1, y2⟩ := info_parts Try.infoBool
      have HV := Lib.hid h
      have HY := Lib.hid hy
      have HL := Lib.hid hl
      clear he hy h hl
      go_enter Try.func79, Try.ntmps79
      go_wp2_with fail
      refine HE.out.mono ?_
      rintro e w1 ⟨rfl, rfl⟩
      go_wp2_with (at_make; refine wpList_make_full _ rfl _ _ 89 rfl w.heap.size 4 i0 _ 1 Try.underlying89 hi0 y0 y1 _ _ _ _ n rfl rfl rfl rfl (by rw [y2]; omega) (by unfold maxLen; omega) (Nat.le_refl _) ?_; intro w2 hown hgrow)
      have hB2 : Below w.heap.size w w2 := (Below.refl _ _).grown hgrow (Nat.le_refl _) (by intro k hk; cases hk)
      have hown2 : w2.ownsRow w.heap.size 4 1 (.slice (some ⟨w.heap.size, 0, none⟩) n n) n ((seenL (xs.take 0) n).map Value.bool) := by
        have h := hown
        rw [show (Value.bool false).cells = #[Value.bool false] from rfl, Nat.mul_one, toList_madeCells_one] at h
        rw [List.take_zero, seenL_nil, List.map_replicate]
        exact h
      have HO := Lib.hid hown2
      have HB := Lib.hid hB2
      clear hown hgrow hown2 hB2 hi0 y0 y1 y2
      go_loopw [7, 22] (fun s7 i wr => ∃ k : Nat, k ≤ n ∧ i = .int .i64 (k : Int) ∧ Hid ((xs.take k).Nodup) ∧ Hid (wr.ownsRow w.heap.size 4 1 (.slice (some ⟨w.heap.size, 0, none⟩) n n) n ((seenL (xs.take k) n).map Value.bool)) ∧ Hid (Below w.heap.size w wr)) (fun _ i _ => n - (intOf i).toNat)
      case atStart => exact ⟨0, Nat.zero_le _, rfl, by simp [Hid], HO, HB⟩
      case round =>
        obtain ⟨k, hk, rfl, HN, HR, HBr⟩ := hrel
        by_cases hlt : k < n
        · obtain ⟨b, o, rfl, _, hb, hc⟩ := HV.out.at_ (by omega)
          obtain ⟨x, hx⟩ := get_of_lt HV.out.1 hlt
          have ex : wr.cell? ⟨b, o + k, none⟩ = some (.int .i64 x) := cell_b HBr.out (hc k x hx)
          obtain ⟨x0, x1⟩ := allIn_get HY.out hx
          obtain ⟨v, rfl⟩ : ∃ v : Nat, x = (v : Int) := ⟨x.toNat, by omega⟩
          have hvn : v < n := by omega
          have hcs := HR.out.cellAt v (by omega)
          rw [List.getElem?_map, seenL_get hvn] at hcs
          have hfr := HR.out.frozenAt v
          have hst := HR.out.stored v (.bool true)
          rw [seenL_set hvn] at hst
          have HX := Lib.hid hx
          have HST := Lib.hid hst
          clear hc hx hst
          by_cases hm : (v : Int) ∈ xs.take k
          · have hcs2 : wr.cell? ⟨w.heap.size, v, none⟩ = some (.bool true) := by rw [hcs]; simp [hm]
            have HM := Lib.hid hm
            clear hcs hm
            go_wp2_with fail
            go_ret
            exact ⟨ret_bool (permB_no HX.out HM.out).symm, HBr.out⟩
          · have hcs2 : wr.cell? ⟨w.heap.size, v, none⟩ = some (.bool false) := by rw [hcs]; simp [hm]
            have HM := Lib.hid hm
            clear hcs hm
            go_wp2_with fail
            have HR2 : Hid ((wr.setCell ⟨w.heap.size, v, none⟩ (.bool true)).ownsRow w.heap.size 4 1 (.slice (some ⟨w.heap.size, 0, none⟩) n n) n ((seenL (xs.take (k + 1)) n).map Value.bool)) := by
              unfold Hid
              rw [List.take_add_one, HX.out]
              exact HST.out.1
            have HB2 := Lib.hid (HBr.out.grown HST.out.2 HBr.out.size (by intro j hj; cases hj; exact Nat.le_refl _))
            go_roundw
            case rel => exact ⟨k + 1, by omega, by go_num, nodup_snoc HX.out HN.out HM.out, HR2, HB2⟩
            case measure => simp [intOf]; omega
        · obtain rfl : k = n := by omega
          go_wp2_with fail
          go_ret
          have hnd := HN.out
          rw [List.take_of_length_le (by have := HL.out; omega)] at hnd
          exact ⟨ret_bool (permB_yes (by rw [HL.out]) HY.out hnd).symm, HBr.out⟩
  · rw [permB_len (by rw [hl]; exact hnz)]
    have he : ((n : Int) == (zn : Int)) = false := by rw [beq_eq_false_iff_ne]; exact hnz
    have he2 : ((n : Int) != (zn : Int)) = true := by rw [bne_iff_ne]; exact hnz
    clear h hl hnz
    go_enter Try.func79, Try.ntmps79
    go_wp2_with fail
    go_ret
    exact ⟨rfl, Below.refl _ _⟩

end Go.Proofs.Ythgggoodceogkaa
