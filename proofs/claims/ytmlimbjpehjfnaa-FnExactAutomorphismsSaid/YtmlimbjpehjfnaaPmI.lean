/-
  Contracts: impl.allOpen, impl.partialMapOf. Conditions: the bounds that each theorem names.
-/
import Derived.Test.YtmlimbjpehjfnaaArr7
import Derived.Test.YtmlimbjpehjfnaaPartM
import Derived.Test.YtmlimbjpehjfnaaHomM
import Derived.Test.YtmlimbjpehjfnaaSame
import Derived.Laws.CopyOwn
namespace Go.Proofs.Ytmlimbjpehjfnaa
open Go.RowKit
set_option linter.unusedVariables false
set_option linter.unusedSimpArgs false

def upNeg (k j : Nat) : Int := if j < k then -1 else 0
theorem upNeg_put {k : Nat} : put8 (upNeg k) k (-1) = upNeg (k + 1) := by
  funext j
  unfold put8 upNeg
  by_cases h : j = k
  · subst h; simp
  · by_cases h2 : j < k
    · simp [h, h2, show j < k + 1 by omega]
    · simp [h, h2, show ¬ j < k + 1 by omega]

set_option maxHeartbeats 1000000 in
set_option maxRecDepth 100000 in
theorem allOpen_any (w : World) :
    Calls Try.prog 69 #[] w fun e w' => e = .returned (.agg (arrV fun _ => -1)) ∧ Below w.heap.size w w' := by
  obtain ⟨w1, hw1⟩ : ∃ w1, w1 = (w.alloc (.cells (arrV (upNeg 0)) 51)).alloc (.cells (arrV (upNeg 0)) 51) := ⟨_, rfl⟩
  have HA0 : Hid (ArrAt w1 w.heap.size (upNeg 0)) := by unfold Hid; rw [hw1]; exact (ArrAt.new _ _).alloc _
  have HA1 : Hid (ArrAt w1 (w.heap.size + 1) (upNeg 0)) := by
    unfold Hid; rw [hw1]
    have h := ArrAt.new (w.alloc (.cells (arrV (upNeg 0)) 51)) (upNeg 0)
    simp only [World.size_alloc] at h
    exact h
  have HB1 : Hid (Below w.heap.size w w1) := by unfold Hid; rw [hw1]; exact below_then (below_alloc _ _) (below_alloc _ _)
  have hz : w.heap.size + 1 < w1.heap.size := HA1.out.lt
  go_enter Try.func69, Try.ntmps69
  go_wp2
  rw [show ((w.alloc (.cells #[.int .i64 0, .int .i64 0, .int .i64 0, .int .i64 0, .int .i64 0, .int .i64 0, .int .i64 0, .int .i64 0] 51)).alloc (.cells #[.int .i64 0, .int .i64 0, .int .i64 0, .int .i64 0, .int .i64 0, .int .i64 0, .int .i64 0, .int .i64 0] 51)) = w1 from hw1.symm]
  clear hw1
  go_loopw [2, 3] (fun _ i wr => ∃ k : Nat, k ≤ 8 ∧ i = .int .i64 (k : Int) ∧ Hid (ArrAt wr w.heap.size (upNeg 0)) ∧ Hid (ArrAt wr (w.heap.size + 1) (upNeg k)) ∧ Hid (Below w.heap.size w wr)) (fun _ i _ => 8 - (intOf i).toNat)
  case atStart => exact ⟨0, by omega, rfl, HA0, HA1, HB1⟩
  case round =>
    obtain ⟨k, hk, rfl, HR, HA, HB⟩ := hrel
    by_cases hlt : k < 8
    · have e1 := HA.out.cell hlt
      have e2 := HA.out.frozen k
      have hkn : (k : Int) < 8 := by omega
      have HA2 := Lib.hid (HA.out.set hlt (-1))
      have HR2 := Lib.hid (HR.out.setOther (g' := w.heap.size + 1) (by omega) k (.int .i64 (-1)))
      have HB2 := Lib.hid (HB.out.setCell (p := ⟨w.heap.size + 1, k, none⟩) (by show w.heap.size ≤ w.heap.size + 1; omega) (.int .i64 (-1)))
      rw [upNeg_put] at HA2
      go_wp2_with fail
      go_roundw
      case rel => exact ⟨k + 1, by omega, by go_num, HR2, HA2, HB2⟩
      case measure => simp [intOf]; omega
    · have hkn : ¬ (k : Int) < 8 := by omega
      have HR2 := Lib.hid (HR.out.setRow (f' := upNeg k))
      have HB2 := Lib.hid (below_setRow HB.out (Nat.le_refl _) (arrV (upNeg k)))
      go_wp2_with (first | (refine ld8 HA.out rfl _ rfl rfl ?_) | (refine st8 HR.out rfl _ _ rfl rfl rfl ?_))
      refine bodyPost_ret (ret8 rfl _ _ _ _ rfl HR2.out) rfl ⟨?_, HB2.out⟩
      rw [arrV_congr (f := upNeg k) (g := fun _ => (-1 : Int)) (fun j hj => by unfold upNeg; rw [if_pos (by omega)])]

theorem infoIntSz : (Try.prog.info? 3).map (·.size) = some 1 := by kernel_rfl
theorem put_arrL {xs : List Int} (h : xs.length ≤ 8) : ((arrV fun _ => (-1 : Int)).toList.take 0 ++ xs.map (Value.int .i64) ++ (arrV fun _ => (-1 : Int)).toList.drop (0 + (xs.map (Value.int .i64)).length)).toArray = arrV (arrL xs) := by
  apply Array.ext_getElem?
  intro k
  rw [List.take_zero, List.nil_append, List.getElem?_toArray, Nat.zero_add, List.length_map]
  by_cases hk : k < xs.length
  · rw [List.getElem?_append_left (by rw [List.length_map]; exact hk), arrV_get _ (by omega), List.getElem?_map, List.getElem?_eq_getElem hk, arrL_get (List.getElem?_eq_getElem hk)]; rfl
  · rw [List.getElem?_append_right (by rw [List.length_map]; omega), List.length_map, List.getElem?_drop, show xs.length + (k - xs.length) = k by omega, Array.getElem?_toList]
    by_cases h8 : k < 8
    · rw [arrV_get _ h8, arrV_get _ h8, arrL_out (by omega)]
    · rw [Array.getElem?_eq_none (by show 8 ≤ k; omega), Array.getElem?_eq_none (by show 8 ≤ k; omega)]
theorem copy7 (w : World) (A b o m c : Nat) (xs : List Int) (hA : ArrAt w A fun _ => (-1 : Int)) (hl : xs.length = m) (hm : m ≤ 8) (hc : ∀ j x, xs[j]? = some x → w.cell? ⟨b, o + j, none⟩ = some (.int .i64 x)) :
    (Builtin.copy_ #[42, 42] 3 #[.slice (some ⟨A, 0, none⟩) 8 8, .slice (some ⟨b, o, none⟩) m c]).run Try.prog w = .ok (.int .i64 (m : Int)) (w.setRow A (arrV (arrL xs))) := by
  have hrun := run_copy_row (P := Try.prog) w 42 42 3 3 A 0 8 8 ⟨b, o, none⟩ m c (arrV fun _ => (-1 : Int)) 51 (xs.map (Value.int .i64)) Try.underlying42 infoIntSz hA (by rw [List.length_map, hl]; exact (Nat.min_eq_left hm).symm) (fun j v hj => by
    rw [List.getElem?_map] at hj
    obtain ⟨y, hy, rfl⟩ := Option.map_eq_some_iff.1 hj
    rw [show (⟨b, o, none⟩ : Addr).add j = ⟨b, o + j, none⟩ by unfold Addr.add; split <;> simp_all]
    exact hc j y hy) (by rw [List.length_map]; show 0 + xs.length ≤ 8; omega) (fun v hv => by
    obtain ⟨y, _, rfl⟩ := List.mem_map.1 hv; rfl)
  rw [put_arrL (by omega), List.length_map, hl] at hrun
  exact hrun

theorem ret8b {fn : Func} {p q : Tmp} (h : fn.results = #[.cell p 51, .tmp q]) (tmps : Array Value) (w : World) (g : Nat) (f : Nat → Int) (hp : tmps.getD p undef = .pointer (some ⟨g, 0, none⟩)) (hA : ArrAt w g f) :
    (results fn tmps).run Try.prog w = .ok (.tuple #[.agg (arrV f), tmps.getD q undef]) w := by
  have hp' : tmps[p]?.getD undef = .pointer (some ⟨g, 0, none⟩) := by simpa using hp
  simp [results, h, hp', asAddr, hA.loadV]

/-- Two valid algebras of the same type. -/
def sameH (z z1 : Int) (fs gs : List OpD) : Bool := (valSameType z fs z1 gs).1
theorem sameH_of {z z1 : Int} {fs gs : List OpD} (h : sameH z z1 fs gs = true) : algOkB z fs = true ∧ algOkB z1 gs = true ∧ typeV fs = typeV gs := by
  unfold sameH valSameType at h
  split at h
  · rename_i h1
    simp only [Bool.and_eq_true] at h1
    exact ⟨h1.1, h1.2, of_decide_eq_true h⟩
  · cases h
/-- All are open or elements. -/
def pinB (z1 : Int) (xs : List Int) : Bool := xs.all fun y => decide (y = -1 ∨ (0 ≤ y ∧ y < z1))
theorem pinB_succ {z1 : Int} {xs : List Int} {k : Nat} {x : Int} (hx : xs[k]? = some x) (h : pinB z1 (xs.take k) = true) (h0 : x = -1 ∨ (0 ≤ x ∧ x < z1)) : pinB z1 (xs.take (k + 1)) = true := by
  unfold pinB at h ⊢
  rw [List.take_add_one, hx, List.all_append, h]
  simp [h0]
theorem pinB_no {z1 : Int} {xs : List Int} {k : Nat} {x : Int} (hx : xs[k]? = some x) (h : ¬ (x = -1 ∨ (0 ≤ x ∧ x < z1))) : pinB z1 xs = false := by
  rw [← Bool.not_eq_true]
  intro ha
  exact h (of_decide_eq_true (List.all_eq_true.1 ha x (List.mem_of_getElem? hx)))
theorem pinB_get {z1 : Int} {xs : List Int} (h : pinB z1 xs = true) {x : Int} (hx : x ∈ xs) : x = -1 ∨ (0 ≤ x ∧ x < z1) := of_decide_eq_true (List.all_eq_true.1 h x hx)
theorem pinB_part {z z1 : Int} {xs : List Int} (h : pinB z1 xs = true) : Part z z1 (arrL xs) := fun k _ => by
  by_cases hk : k < xs.length
  · rw [arrL_get (List.getElem?_eq_getElem hk)]; exact pinB_get h (List.getElem_mem hk)
  · exact .inl (arrL_out (by omega))
/-- A list is a partial map. -/
def pmB (z z1 : Int) (fs gs : List OpD) (xs : List Int) : Bool := sameH z z1 fs gs && (decide ((xs.length : Int) = z) && pinB z1 xs)
def pmF (b : Bool) (xs : List Int) : Nat → Int := if b = true then arrL xs else fun _ => 0
theorem pmF_no (xs : List Int) : pmF false xs = fun _ => 0 := if_neg (by simp)
theorem pmF_yes (xs : List Int) : pmF true xs = arrL xs := if_pos rfl
def ResPm (w w' : World) (b : Bool) (xs : List Int) (e : Ending) : Prop := e = .returned (.tuple #[.agg (arrV (pmF b xs)), .bool b]) ∧ Below w.heap.size w w'


end Go.Proofs.Ytmlimbjpehjfnaa
