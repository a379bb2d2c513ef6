/-
  Contracts: impl.allOpen, impl.partialMapOf. Conditions: the bounds that each theorem names.
-/
import Derived.Test.YtcmjkfcgekmomaaArr7
import Derived.Test.YtcmjkfcgekmomaaPartM
import Derived.Test.YtcmjkfcgekmomaaHomM
import Derived.Test.YtcmjkfcgekmomaaBx2
import Derived.Laws.CopyOwn
namespace Go.Proofs.Ytcmjkfcgekmomaa
open Go.RowKit
set_option linter.unusedVariables false
set_option linter.unusedSimpArgs false

def upNeg (k j : Nat) : Int := if j < k then -1 else 0
theorem upNeg_put {k : Nat} : put8 (upNeg k) k (-1) = upNeg (k + 1) := by
  funext j
  unfold put8 upNeg
  by_cases h : j = k
  · subst h; simp
  · by_cases h2 : j < k
    · simp [h, h2, show j < k + 1 by omega]
    · simp [h, h2, show ¬ j < k + 1 by omega]

set_option maxHeartbeats 1000000 in
set_option maxRecDepth 100000 in
theorem allOpen_any (w : World) :
    Calls Try.prog 145 #[] w fun e w' => e = .returned (.agg (arrV fun _ => -1)) ∧ Below w.heap.size w w' := by
  obtain ⟨w1, hw1⟩ : ∃ w1, w1 = (w.alloc (.cells (arrV (upNeg 0)) 53)).alloc (.cells (arrV (upNeg 0)) 53) := ⟨_, rfl⟩
  have HA0 : Hid (ArrAt w1 w.heap.size (upNeg 0)) := by unfold Hid; rw [hw1]; exact (ArrAt.new _ _).alloc _
  have HA1 : Hid (ArrAt w1 (w.heap.size + 1) (upNeg 0)) := by
    unfold Hid; rw [hw1]
    have h := ArrAt.new (w.alloc (.cells (arrV (upNeg 0)) 53)) (upNeg 0)
    simp only [World.size_alloc] at h
    exact h
  have HB1 : Hid (Below w.heap.size w w1) := by unfold Hid; rw [hw1]; exact below_then (below_alloc _ _) (below_alloc _ _)
  have hz : w.heap.size + 1 < w1.heap.size := HA1.out.lt
  go_enter Try.func145, Try.ntmps145
  go_wp2
  rw [show ((w.alloc (.cells #[.int .i64 0, .int .i64 0, .int .i64 0, .int .i64 0, .int .i64 0, .int .i64 0, .int .i64 0, .int .i64 0] 53)).alloc (.cells #[.int .i64 0, .int .i64 0, .int .i64 0, .int .i64 0, .int .i64 0, .int .i64 0, .int .i64 0, .int .i64 0] 53)) = w1 from hw1.symm]
  clear hw1
  go_loopw [2, 3] (fun _ i wr => ∃ k : Nat, k ≤ 8 ∧ i = .int .i64 (k : Int) ∧ Hid (ArrAt wr w.heap.size (upNeg 0)) ∧ Hid (ArrAt wr (w.heap.size + 1) (upNeg k)) ∧ Hid (Below w.heap.size w wr)) (fun _ i _ => 8 - (intOf i).toNat)
  case atStart => exact ⟨0, by omega, rfl, HA0, HA1, HB1⟩
  case round =>
    obtain ⟨k, hk, rfl, HR, HA, HB⟩ := hrel
    by_cases hlt : k < 8
    · have e1 := HA.out.cell hlt
      have e2 := HA.out.frozen k
      have hkn : (k : Int) < 8 := by omega
      have HA2 := Lib.hid (HA.out.set hlt (-1))
      have HR2 := Lib.hid (HR.out.setOther (g' := w.heap.size + 1) (by omega) k (.int .i64 (-1)))
      have HB2 := Lib.hid (HB.out.setCell (p := ⟨w.heap.size + 1, k, none⟩) (by show w.heap.size ≤ w.heap.size + 1; omega) (.int .i64 (-1)))
      rw [upNeg_put] at HA2
      go_wp2_with fail
      go_roundw
      case rel => exact ⟨k + 1, by omega, by go_num, HR2, HA2, HB2⟩
      case measure => simp [intOf]; omega
    · have hkn : ¬ (k : Int) < 8 := by omega
      have HR2 := Lib.hid (HR.out.setRow (f' := upNeg k))
      have HB2 := Lib.hid (below_setRow HB.out (Nat.le_refl _) (arrV (upNeg k)))
      go_wp2_with (first | (refine ld8 HA.out rfl _ rfl rfl ?_) | (refine st8 HR.out rfl _ _ rfl rfl rfl ?_))
      refine bodyPost_ret (ret8 rfl _ _ _ _ rfl HR2.out) rfl ⟨?_, HB2.out⟩
      rw [arrV_congr (f := upNeg k) (g := fun _ => (-1 : Int)) (fun j hj => by unfold upNeg; rw [if_pos (by omega)])]

theorem infoIntSz : (Try.prog.info? 3).map (·.size) = some 1 := by kernel_rfl
theorem put_arrL {xs : List Int} (h : xs.length ≤ 8) : ((arrV fun _ => (-1 : Int)).toList.take 0 ++ xs.map (Value.int .i64) ++ (arrV fun _ => (-1 : Int)).toList.drop (0 + (xs.map (Value.int .i64)).length)).toArray = arrV (arrL xs) := by
  apply Array.ext_getElem?
  intro k
  rw [List.take_zero, List.nil_append, List.getElem?_toArray, Nat.zero_add, List.length_map]
  by_cases hk : k < xs.length
  · rw [List.getElem?_append_left (by rw [List.length_map]; exact hk), arrV_get _ (by omega), List.getElem?_map, List.getElem?_eq_getElem hk, arrL_get (List.getElem?_eq_getElem hk)]; rfl
  · rw [List.getElem?_append_right (by rw [List.length_map]; omega), List.length_map, List.getElem?_drop, show xs.length + (k - xs.length) = k by omega, Array.getElem?_toList]
    by_cases h8 : k < 8
    · rw [arrV_get _ h8, arrV_get _ h8, arrL_out (by omega)]
    · rw [Array.getElem?_eq_none (by show 8 ≤ k; omega), Array.getElem?_eq_none (by show 8 ≤ k; omega)]
theorem copy7 (w : World) (A b o m c : Nat) (xs : List Int) (hA : ArrAt w A fun _ => (-1 : Int)) (hl : xs.length = m) (hm : m ≤ 8) (hc : ∀ j x, xs[j]? = some x → w.cell? ⟨b, o + j, none⟩ = some (.int .i64 x)) :
    (Builtin.copy_ #[25, 25] 3 #[.slice (some ⟨A, 0, none⟩) 8 8, .slice (some ⟨b, o, none⟩) m c]).run Try.prog w = .ok (.int .i64 (m : Int)) (w.setRow A (arrV (arrL xs))) := by
  have hrun := run_copy_row (P := Try.prog) w 25 25 3 3 A 0 8 8 ⟨b, o, none⟩ m c (arrV fun _ => (-1 : Int)) 53 (xs.map (Value.int .i64)) Try.underlying25 infoIntSz hA (by rw [List.length_map, hl]; exact (Nat.min_eq_left hm).symm) (fun j v hj => by
    rw [List.getElem?_map] at hj
    obtain ⟨y, hy, rfl⟩ := Option.map_eq_some_iff.1 hj
    rw [show (⟨b, o, none⟩ : Addr).add j = ⟨b, o + j, none⟩ by unfold Addr.add; split <;> simp_all]
    exact hc j y hy) (by rw [List.length_map]; show 0 + xs.length ≤ 8; omega) (fun v hv => by
    obtain ⟨y, _, rfl⟩ := List.mem_map.1 hv; rfl)
  rw [put_arrL (by omega), List.length_map, hl] at hrun
  exact hrun

theorem ret8b {fn : Func} {p q : Tmp} (h : fn.results = #[.cell p 53, .tmp q]) (tmps : Array Value) (w : World) (g : Nat) (f : Nat → Int) (hp : tmps.getD p undef = .pointer (some ⟨g, 0, none⟩)) (hA : ArrAt w g f) :
    (results fn tmps).run Try.prog w = .ok (.tuple #[.agg (arrV f), tmps.getD q undef]) w := by
  have hp' : tmps[p]?.getD undef = .pointer (some ⟨g, 0, none⟩) := by simpa using hp
  simp [results, h, hp', asAddr, hA.loadV]

/-- All are open or elements. -/
def pinB (z1 : Int) (xs : List Int) : Bool := xs.all fun y => decide (y = -1 ∨ (0 ≤ y ∧ y < z1))
theorem pinB_succ {z1 : Int} {xs : List Int} {k : Nat} {x : Int} (hx : xs[k]? = some x) (h : pinB z1 (xs.take k) = true) (h0 : x = -1 ∨ (0 ≤ x ∧ x < z1)) : pinB z1 (xs.take (k + 1)) = true := by
  unfold pinB at h ⊢
  rw [List.take_add_one, hx, List.all_append, h]
  simp [h0]
theorem pinB_no {z1 : Int} {xs : List Int} {k : Nat} {x : Int} (hx : xs[k]? = some x) (h : ¬ (x = -1 ∨ (0 ≤ x ∧ x < z1))) : pinB z1 xs = false := by
  rw [← Bool.not_eq_true]
  intro ha
  exact h (of_decide_eq_true (List.all_eq_true.1 ha x (List.mem_of_getElem? hx)))
theorem pinB_get {z1 : Int} {xs : List Int} (h : pinB z1 xs = true) {x : Int} (hx : x ∈ xs) : x = -1 ∨ (0 ≤ x ∧ x < z1) := of_decide_eq_true (List.all_eq_true.1 h x hx)
theorem pinB_part {z z1 : Int} {xs : List Int} (h : pinB z1 xs = true) : Part z z1 (arrL xs) := fun k _ => by
  by_cases hk : k < xs.length
  · rw [arrL_get (List.getElem?_eq_getElem hk)]; exact pinB_get h (List.getElem_mem hk)
  · exact .inl (arrL_out (by omega))
/-- A list is a partial map. -/
def pmB (z z1 : Int) (fs gs : List OpD) (xs : List Int) : Bool := sameH z z1 fs gs && (decide ((xs.length : Int) = z) && pinB z1 xs)
def pmF (b : Bool) (xs : List Int) : Nat → Int := if b = true then arrL xs else fun _ => 0
theorem pmF_no (xs : List Int) : pmF false xs = fun _ => 0 := if_neg (by simp)
theorem pmF_yes (xs : List Int) : pmF true xs = arrL xs := if_pos rfl
def ResPm (w w' : World) (b : Bool) (xs : List Int) (e : Ending) : Prop := e = .returned (.tuple #[.agg (arrV (pmF b xs)), .bool b]) ∧ Below w.heap.size w w'

set_option maxHeartbeats 2000000 in
set_option maxRecDepth 100000 in
theorem pm_any (lo hi lo2 hi2 lo3 hi3 : Nat) (z z1 : Int) (ao bo co : Option Addr) (c n d m e l : Nat) (fs gs : List OpD) (xs : List Int) (w : World) (hv : OView w lo hi ao n fs) (hhi : hi ≤ w.heap.size) (hs : ∀ (j : Nat) (f : OpD), fs[j]? = some f → f.2.length ≤ maxLen)
    (hu : OView w lo2 hi2 bo m gs) (hhi2 : hi2 ≤ w.heap.size) (hs2 : ∀ (j : Nat) (f : OpD), gs[j]? = some f → f.2.length ≤ maxLen) (hx : IView w lo3 hi3 co l xs) (hhi3 : hi3 ≤ w.heap.size) (hl : l ≤ maxLen) :
    Calls Try.prog 130 #[.agg #[.int .i64 z, .slice ao n c], .agg #[.int .i64 z1, .slice bo m d], .slice co l e] w fun e w' => ResPm w w' (pmB z z1 fs gs xs) xs e := by
  unfold maxLen at hl
  obtain ⟨w1, hw1⟩ : ∃ w1, w1 = (((w.alloc (.cells #[.int .i64 z, .slice ao n c] 31)).alloc (.cells #[.int .i64 z1, .slice bo m d] 31)).alloc (.cells (arrV fun _ => 0) 53)) := ⟨_, rfl⟩
  have hB : Below w.heap.size w w1 := by rw [hw1]; exact below_then (below_then (below_alloc _ _) (below_alloc _ _)) (below_alloc _ _)
  have cz : w1.cell? ⟨w.heap.size, 0, none⟩ = some (.int .i64 z) := by rw [hw1]; exact cell_b (below_alloc _ _) (cell_b (below_alloc _ _) (by simp))
  have ca : w1.cell? ⟨w.heap.size, 1, none⟩ = some (.slice ao n c) := by rw [hw1]; exact cell_b (below_alloc _ _) (cell_b (below_alloc _ _) (by simp))
  have cz1 : w1.cell? ⟨w.heap.size + 1, 0, none⟩ = some (.int .i64 z1) := by rw [hw1]; exact cell_b (below_alloc _ _) (by simp)
  have ca1 : w1.cell? ⟨w.heap.size + 1, 1, none⟩ = some (.slice bo m d) := by rw [hw1]; exact cell_b (below_alloc _ _) (by simp)
  have hRt : w1.heap.size = w.heap.size + 1 + 1 + 1 := by rw [hw1]; simp
  have HR1 : Hid (ArrAt w1 (w.heap.size + 1 + 1) fun _ => 0) := by
    unfold Hid; rw [hw1]
    have h := ArrAt.new ((w.alloc (.cells #[.int .i64 z, .slice ao n c] 31)).alloc (.cells #[.int .i64 z1, .slice bo m d] 31)) fun _ => 0
    simp only [World.size_alloc] at h
    exact h
  have HS := Lib.hid (implSameType lo hi z ao c n fs lo2 hi2 z1 bo d m gs w1 (hv.kept (Kept.of_below hB hhi)) (Nat.le_trans hhi hB.size) hs (hu.kept (Kept.of_below hB hhi2)) (Nat.le_trans hhi2 hB.size) hs2)
  have HB := Lib.hid hB
  have HX := Lib.hid hx
  have hlx := hx.1
  have HLx := Lib.hid hlx
  obtain ⟨t, ht⟩ : ∃ t, sameH z z1 fs gs = t := ⟨_, rfl⟩
  obtain ⟨t2, ht2⟩ : ∃ t, (valSameType z fs z1 gs).2 = t := ⟨_, rfl⟩
  have ht1 : (valSameType z fs z1 gs).1 = t := ht
  rw [ht1, ht2] at HS
  obtain ⟨r, hr⟩ : ∃ r, pmB z z1 fs gs xs = r := ⟨_, rfl⟩
  rw [hr]
  have HRs := Lib.hid hr
  unfold ResPm
  cases t with
  | false =>
    have hrf : r = false := by rw [← hr]; unfold pmB; rw [ht]; rfl
    subst hrf
    clear hv hu hx hs hs2 ht ht1 ht2 hB hr
    rw [pmF_no]
    go_enter Try.func130, Try.ntmps130
    go_wp2_with fail
    rw [show (((w.alloc (.cells #[.int .i64 z, .slice ao n c] 31)).alloc (.cells #[.int .i64 z1, .slice bo m d] 31)).alloc (.cells #[.int .i64 0, .int .i64 0, .int .i64 0, .int .i64 0, .int .i64 0, .int .i64 0, .int .i64 0, .int .i64 0] 53)) = w1 from hw1.symm]
    clear hw1
    go_wp2_with fail
    refine HS.out.mono ?_
    rintro e w2 ⟨rfl, b2⟩
    have HR2 : Hid (ArrAt w2 (w.heap.size + 1 + 1) fun _ => 0) := HR1.out.below b2 (by omega)
    have HN := Lib.hid (HR2.out.setRow (f' := fun _ => 0))
    have HB2 := Lib.hid (below_setRow (HB.out.trans (b2.mono HB.out.size)) (show w.heap.size ≤ w.heap.size + 1 + 1 by omega) (arrV fun _ => 0))
    clear b2
    go_wp2_with (refine st8 (f' := fun _ => 0) HR2.out rfl _ _ rfl rfl rfl ?_)
    refine bodyPost_ret (ret8b rfl _ _ _ _ rfl HN.out) rfl ⟨rfl, HB2.out⟩
  | true =>
    obtain ⟨hok, hok2, hty⟩ := sameH_of ht
    obtain ⟨⟨h1, h2⟩, _⟩ := algOkB_of hok
    obtain ⟨⟨k1, k2⟩, _⟩ := algOkB_of hok2
    by_cases hlz : (l : Int) = z
    · have hne : ((l : Int) != z) = false := by simp [hlz]
      have hl8 : l ≤ 8 := by omega
      have hrp : r = pinB z1 xs := by rw [← hr]; unfold pmB; rw [ht, hlx, decide_eq_true hlz]; rfl
      have HRp := Lib.hid hrp
      obtain ⟨b, o, rfl, _, hbh, hc⟩ := hx.at_ (show 0 < l by omega)
      have HC := Lib.hid hc
      have hb : b < w.heap.size := by omega
      have HI := Lib.hid (fun w => allOpen_any w)
      clear hv hu hx hs hs2 ht ht1 ht2 hB hr hok hok2 hty hlz hrp hc hbh hlx
      go_enter Try.func130, Try.ntmps130
      go_wp2_with fail
      rw [show (((w.alloc (.cells #[.int .i64 z, .slice ao n c] 31)).alloc (.cells #[.int .i64 z1, .slice bo m d] 31)).alloc (.cells #[.int .i64 0, .int .i64 0, .int .i64 0, .int .i64 0, .int .i64 0, .int .i64 0, .int .i64 0, .int .i64 0] 53)) = w1 from hw1.symm]
      clear hw1
      go_wp2_with fail
      refine HS.out.mono ?_
      rintro e w2 ⟨rfl, b2⟩
      have HR2 : Hid (ArrAt w2 (w.heap.size + 1 + 1) fun _ => 0) := HR1.out.below b2 (by omega)
      have HB2 := Lib.hid (HB.out.trans (b2.mono HB.out.size))
      have dz := cell_b b2 cz
      have dz1 := cell_b b2 cz1
      clear b2 cz ca cz1 ca1 hRt HS HR1
      go_wp2_with fail
      go_loop [31] (fun i => ∃ k : Nat, k ≤ l ∧ i = .int .i64 (k : Int) ∧ Hid (pinB z1 (xs.take k) = true)) (fun i => l - (intOf i).toNat)
      case atStart => exact ⟨0, Nat.zero_le _, rfl, rfl⟩
      case round =>
        obtain ⟨k, hk, rfl, HK⟩ := hrel
        by_cases hlt : k < l
        · have hkl : (k : Int) < (l : Int) := by omega
          obtain ⟨x, hx⟩ := get_of_lt HLx.out hlt
          have e1 : w2.cell? ⟨b, o + k, none⟩ = some (.int .i64 x) := (HB2.out.cell (p := ⟨b, o + k, none⟩) hb).trans (HC.out k x hx)
          have HXk := Lib.hid hx
          clear hx
          by_cases hm1 : x = -1
          · have n1 : (x != -1) = false := by simp [hm1]
            have HK2 : Hid (pinB z1 (xs.take (k + 1)) = true) := pinB_succ HXk.out HK.out (.inl hm1)
            clear hm1
            go_wp2_with fail
            go_round
            case rel => exact ⟨k + 1, by omega, by go_num, HK2⟩
            case measure => simp [intOf]; omega
          · have n1 : (x != -1) = true := by simp [hm1]
            by_cases hin : 0 ≤ x ∧ x < z1
            · obtain ⟨x0, x1⟩ := hin
              have HK2 : Hid (pinB z1 (xs.take (k + 1)) = true) := pinB_succ HXk.out HK.out (.inr ⟨x0, x1⟩)
              clear hm1
              go_wp2_with fail
              go_round
              case rel => exact ⟨k + 1, by omega, by go_num, HK2⟩
              case measure => simp [intOf]; omega
            · have HF : Hid (r = false) := by unfold Hid; rw [HRp.out]; exact pinB_no HXk.out (fun h => h.elim hm1 hin)
              have HN := Lib.hid (HR2.out.setRow (f' := fun _ => 0))
              have HB3 := Lib.hid (below_setRow HB2.out (show w.heap.size ≤ w.heap.size + 1 + 1 by omega) (arrV fun _ => 0))
              clear hm1
              by_cases x0 : 0 ≤ x
              · have x1 : z1 ≤ x := by omega
                clear hin
                go_wp2_with (refine st8 (f' := fun _ => 0) HR2.out rfl _ _ rfl rfl rfl ?_)
                refine bodyPost_ret (ret8b rfl _ _ _ _ rfl HN.out) rfl ⟨?_, HB3.out⟩
                rw [HF.out, pmF_no]; rfl
              · clear hin
                go_wp2_with (refine st8 (f' := fun _ => 0) HR2.out rfl _ _ rfl rfl rfl ?_)
                refine bodyPost_ret (ret8b rfl _ _ _ _ rfl HN.out) rfl ⟨?_, HB3.out⟩
                rw [HF.out, pmF_no]; rfl
        · have hkl : ¬ (k : Int) < (l : Int) := by omega
          obtain rfl : k = l := by omega
          have HT : Hid (r = true) := by
            unfold Hid; rw [HRp.out]
            have h := HK.out
            rw [List.take_of_length_le (by have := HLx.out; omega)] at h
            exact h
          go_wp2_with fail
          refine (HI.out _).mono ?_
          rintro e w3 ⟨rfl, b3⟩
          have HR3 : Hid (ArrAt w3 (w.heap.size + 1 + 1) fun _ => 0) := HR2.out.below b3 HR2.out.lt
          have HB3 := Lib.hid (HB2.out.trans (b3.mono HB2.out.size))
          have hz3 : w.heap.size + 1 + 1 < w3.heap.size := HR3.out.lt
          clear b3 dz dz1
          have HA3 := Lib.hid (ArrAt.new w3 fun _ => 0)
          obtain ⟨w4, hw4⟩ : ∃ w4, w4 = (w3.alloc (.cells (arrV fun _ => 0) 53)).setRow w3.heap.size (arrV fun _ => (-1 : Int)) := ⟨_, rfl⟩
          have HA4 : Hid (ArrAt w4 w3.heap.size fun _ => (-1 : Int)) := by unfold Hid; rw [hw4]; exact HA3.out.setRow
          have HR4 : Hid (ArrAt w4 (w.heap.size + 1 + 1) fun _ => 0) := by unfold Hid; rw [hw4]; exact (HR3.out.alloc _).setRowOther (by omega) _
          have HB4 : Hid (Below w.heap.size w w4) := by unfold Hid; rw [hw4]; exact below_setRow (HB3.out.trans ((below_alloc w3 _).mono HB3.out.size)) HB3.out.size _
          have hcp := copy7 w4 w3.heap.size b o k e xs HA4.out HLx.out hl8 (fun j x hx => (HB4.out.cell (p := ⟨b, o + j, none⟩) hb).trans (HC.out j x hx))
          have HA5 := Lib.hid (HA4.out.setRow (f' := arrL xs))
          have HR5 := Lib.hid (HR4.out.setRowOther (g' := w3.heap.size) (by omega) (arrV (arrL xs)))
          have HB5 := Lib.hid (below_setRow HB4.out HB3.out.size (arrV (arrL xs)))
          obtain ⟨f, hf⟩ : ∃ f, arrL xs = f := ⟨_, rfl⟩
          have HFx := Lib.hid hf
          rw [hf] at HA5 HR5 HB5 hcp
          obtain ⟨w5, hw5⟩ : ∃ w5, w5 = w4.setRow w3.heap.size (arrV f) := ⟨_, rfl⟩
          rw [← hw5] at HA5 HR5 HB5 hcp
          have HN := Lib.hid (HR5.out.setRow (f' := f))
          have HN2 := Lib.hid (below_setRow HB5.out (show w.heap.size ≤ w.heap.size + 1 + 1 by omega) (arrV f))
          have HW4 := Lib.hid hw4
          clear hw5 hw4 hf
          go_wp2_with (first | (refine st8 (w := w3.alloc (.cells (arrV fun _ => 0) 53)) HA3.out rfl _ _ rfl rfl rfl ?_; rw [← HW4.out]) | (refine ld8 HA5.out rfl _ rfl rfl ?_) | (refine st8 HR5.out rfl _ _ rfl rfl rfl ?_))
          refine bodyPost_ret (ret8b rfl _ _ _ _ rfl HN.out) rfl ⟨?_, HN2.out⟩
          rw [HT.out, pmF_yes, HFx.out]; rfl
    · have hne : ((l : Int) != z) = true := by simp [hlz]
      have hrf : r = false := by rw [← hr]; unfold pmB; rw [hlx, decide_eq_false hlz]; simp
      subst hrf
      clear hv hu hx hs hs2 ht ht1 ht2 hB hr hok hok2 hty hlz hlx
      rw [pmF_no]
      go_enter Try.func130, Try.ntmps130
      go_wp2_with fail
      rw [show (((w.alloc (.cells #[.int .i64 z, .slice ao n c] 31)).alloc (.cells #[.int .i64 z1, .slice bo m d] 31)).alloc (.cells #[.int .i64 0, .int .i64 0, .int .i64 0, .int .i64 0, .int .i64 0, .int .i64 0, .int .i64 0, .int .i64 0] 53)) = w1 from hw1.symm]
      clear hw1
      go_wp2_with fail
      refine HS.out.mono ?_
      rintro e w2 ⟨rfl, b2⟩
      have HR2 : Hid (ArrAt w2 (w.heap.size + 1 + 1) fun _ => 0) := HR1.out.below b2 (by omega)
      have HN := Lib.hid (HR2.out.setRow (f' := fun _ => 0))
      have HB2 := Lib.hid (below_setRow (HB.out.trans (b2.mono HB.out.size)) (show w.heap.size ≤ w.heap.size + 1 + 1 by omega) (arrV fun _ => 0))
      have dz := cell_b b2 cz
      clear b2
      go_wp2_with (refine st8 (f' := fun _ => 0) HR2.out rfl _ _ rfl rfl rfl ?_)
      refine bodyPost_ret (ret8b rfl _ _ _ _ rfl HN.out) rfl ⟨rfl, HB2.out⟩

end Go.Proofs.Ytcmjkfcgekmomaa
