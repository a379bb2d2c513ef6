/-
  Contract: impl.identityPartition, the start of impl.partitionOf. Conditions: the bounds that each theorem names.
-/
import Derived.Test.YtcmjkfcgekmomaaArr8
import Derived.Test.YtcmjkfcgekmomaaPartM
import Derived.Test.YtcmjkfcgekmomaaStep
import Derived.Test.YtcmjkfcgekmomaaGood
import Derived.Test.YtcmjkfcgekmomaaIsSz
import Derived.Laws.CopyOwn
namespace Go.Proofs.Ytcmjkfcgekmomaa
open Go.RowKit
set_option linter.unusedVariables false
set_option linter.unusedSimpArgs false

def upTo (k j : Nat) : Int := if j < k then j else 0
theorem upTo_put {k : Nat} : put8 (upTo k) k (k : Int) = upTo (k + 1) := by
  funext j
  unfold put8 upTo
  by_cases h : j = k
  · subst h; simp
  · by_cases h2 : j < k
    · simp [h, h2, show j < k + 1 by omega]
    · simp [h, h2, show ¬ j < k + 1 by omega]

set_option maxHeartbeats 1000000 in
set_option maxRecDepth 100000 in
theorem identity_any (w : World) :
    Calls Try.prog 124 #[] w fun e w' => e = .returned (.agg (arrV fun k => k)) ∧ Below w.heap.size w w' := by
  obtain ⟨w1, hw1⟩ : ∃ w1, w1 = (w.alloc (.cells (arrV (upTo 0)) 70)).alloc (.cells (arrV (upTo 0)) 70) := ⟨_, rfl⟩
  have HA0 : Hid (ArrAt w1 w.heap.size (upTo 0)) := by unfold Hid; rw [hw1]; exact (ArrAt.new _ _).alloc _
  have HA1 : Hid (ArrAt w1 (w.heap.size + 1) (upTo 0)) := by
    unfold Hid; rw [hw1]
    have h := ArrAt.new (w.alloc (.cells (arrV (upTo 0)) 70)) (upTo 0)
    simp only [World.size_alloc] at h
    exact h
  have HB1 : Hid (Below w.heap.size w w1) := by unfold Hid; rw [hw1]; exact below_then (below_alloc _ _) (below_alloc _ _)
  have hz : w.heap.size + 1 < w1.heap.size := HA1.out.lt
  go_enter Try.func124, Try.ntmps124
  go_wp2
  rw [show ((w.alloc (.cells #[.int .i64 0, .int .i64 0, .int .i64 0, .int .i64 0, .int .i64 0, .int .i64 0, .int .i64 0, .int .i64 0] 70)).alloc (.cells #[.int .i64 0, .int .i64 0, .int .i64 0, .int .i64 0, .int .i64 0, .int .i64 0, .int .i64 0, .int .i64 0] 70)) = w1 from hw1.symm]
  clear hw1
  go_loopw [2, 3] (fun _ i wr => ∃ k : Nat, k ≤ 8 ∧ i = .int .i64 (k : Int) ∧ Hid (ArrAt wr w.heap.size (upTo 0)) ∧ Hid (ArrAt wr (w.heap.size + 1) (upTo k)) ∧ Hid (Below w.heap.size w wr)) (fun _ i _ => 8 - (intOf i).toNat)
  case atStart => exact ⟨0, by omega, rfl, HA0, HA1, HB1⟩
  case round =>
    obtain ⟨k, hk, rfl, HR, HA, HB⟩ := hrel
    by_cases hlt : k < 8
    · have e1 := HA.out.cell hlt
      have e2 := HA.out.frozen k
      have hkn : (k : Int) < 8 := by omega
      have HA2 := Lib.hid (HA.out.set hlt (k : Int))
      have HR2 := Lib.hid (HR.out.setOther (g' := w.heap.size + 1) (by omega) k (.int .i64 (k : Int)))
      have HB2 := Lib.hid (HB.out.setCell (p := ⟨w.heap.size + 1, k, none⟩) (by show w.heap.size ≤ w.heap.size + 1; omega) (.int .i64 (k : Int)))
      rw [upTo_put] at HA2
      go_wp2_with fail
      go_roundw
      case rel => exact ⟨k + 1, by omega, by go_num, HR2, HA2, HB2⟩
      case measure => simp [intOf]; omega
    · have hkn : ¬ (k : Int) < 8 := by omega
      have HR2 := Lib.hid (HR.out.setRow (f' := upTo k))
      have HB2 := Lib.hid (below_setRow HB.out (Nat.le_refl _) (arrV (upTo k)))
      go_wp2_with (first | (refine ld8 HA.out rfl _ rfl rfl ?_) | (refine st8 HR.out rfl _ _ rfl rfl rfl ?_))
      refine bodyPost_ret (ret8 rfl _ _ _ _ rfl HR2.out) rfl ⟨?_, HB2.out⟩
      rw [arrV_congr (f := upTo k) (g := fun k => (k : Int)) (fun j hj => by unfold upTo; rw [if_pos (by omega)])]

theorem infoIntSz : (Try.prog.info? 3).map (·.size) = some 1 := by kernel_rfl
theorem put_ext {xs : List Int} (h : xs.length ≤ 8) : ((arrV fun k => (k : Int)).toList.take 0 ++ xs.map (Value.int .i64) ++ (arrV fun k => (k : Int)).toList.drop (0 + (xs.map (Value.int .i64)).length)).toArray = arrV (extP xs) := by
  apply Array.ext_getElem?
  intro k
  rw [List.take_zero, List.nil_append, List.getElem?_toArray, Nat.zero_add, List.length_map]
  by_cases hk : k < xs.length
  · rw [List.getElem?_append_left (by rw [List.length_map]; exact hk), arrV_get _ (by omega), List.getElem?_map, get_gI rfl hk, extP_lt hk]; rfl
  · rw [List.getElem?_append_right (by rw [List.length_map]; omega), List.length_map, List.getElem?_drop, show xs.length + (k - xs.length) = k by omega, Array.getElem?_toList]
    by_cases h8 : k < 8
    · rw [arrV_get _ h8, arrV_get _ h8, extP_ge hk]
    · rw [Array.getElem?_eq_none (by show 8 ≤ k; omega), Array.getElem?_eq_none (by show 8 ≤ k; omega)]
theorem copy8 (w : World) (A b o m c : Nat) (xs : List Int) (hA : ArrAt w A fun k => (k : Int)) (hl : xs.length = m) (hm : m ≤ 8) (hc : ∀ j x, xs[j]? = some x → w.cell? ⟨b, o + j, none⟩ = some (.int .i64 x)) :
    (Builtin.copy_ #[25, 25] 3 #[.slice (some ⟨A, 0, none⟩) 8 8, .slice (some ⟨b, o, none⟩) m c]).run Try.prog w = .ok (.int .i64 (m : Int)) (w.setRow A (arrV (extP xs))) := by
  have hrun := run_copy_row (P := Try.prog) w 25 25 3 3 A 0 8 8 ⟨b, o, none⟩ m c (arrV fun k => (k : Int)) 70 (xs.map (Value.int .i64)) Try.underlying25 infoIntSz hA (by rw [List.length_map, hl]; exact (Nat.min_eq_left hm).symm) (fun j v hj => by
    rw [List.getElem?_map] at hj
    obtain ⟨y, hy, rfl⟩ := Option.map_eq_some_iff.1 hj
    rw [show (⟨b, o, none⟩ : Addr).add j = ⟨b, o + j, none⟩ by unfold Addr.add; split <;> simp_all]
    exact hc j y hy) (by rw [List.length_map]; show 0 + xs.length ≤ 8; omega) (fun v hv => by
    obtain ⟨y, _, rfl⟩ := List.mem_map.1 hv; rfl)
  rw [put_ext (by omega), List.length_map, hl] at hrun
  exact hrun

theorem ret8b {fn : Func} {p q : Tmp} (h : fn.results = #[.cell p 70, .tmp q]) (tmps : Array Value) (w : World) (g : Nat) (f : Nat → Int) (hp : tmps.getD p undef = .pointer (some ⟨g, 0, none⟩)) (hA : ArrAt w g f) :
    (results fn tmps).run Try.prog w = .ok (.tuple #[.agg (arrV f), tmps.getD q undef]) w := by
  have hp' : tmps[p]?.getD undef = .pointer (some ⟨g, 0, none⟩) := by simpa using hp
  simp [results, h, hp', asAddr, hA.loadV]

/-- The partition that a list is, or none. -/
def pOfB (n : Int) (xs : List Int) : Bool := inB 1 8 n && partB n xs
def parF (b : Bool) (xs : List Int) : Nat → Int := if b = true then extP xs else fun _ => 0
theorem parF_no (xs : List Int) : parF false xs = fun _ => 0 := if_neg (by simp)
theorem parF_yes (xs : List Int) : parF true xs = extP xs := if_pos rfl
def ResP (w w' : World) (b : Bool) (xs : List Int) (e : Ending) : Prop := e = .returned (.tuple #[.agg (arrV (parF b xs)), .bool b]) ∧ Below w.heap.size w w'

/-- Nothing is read where the list is not one. -/
theorem partOf_early (n : Int) (m c : Nat) (ao : Option Addr) (xs : List Int) (lo hi : Nat) (w : World) (hv : IView w lo hi ao m xs) (hhi : hi ≤ w.heap.size) (hm : m ≤ maxLen) (h : inB 1 8 n = false ∨ ¬ (m : Int) = n ∨ allIn n xs = false) :
    Calls Try.prog 116 #[.int .i64 n, .slice ao m c] w fun e w' => ResP w w' false xs e := by
  have hB0 := below_alloc w (.cells (arrV fun _ => 0) 70)
  have HR := Lib.hid (ArrAt.new w fun _ => 0)
  have HS := Lib.hid (fun w => isSize_any n w)
  have HE := Lib.hid (fun (W : World) (hW : Below w.heap.size w W) => elems_impl lo hi n ao c m xs W (hv.kept (Kept.of_below hW hhi)) hm)
  unfold maxLen at hm
  unfold ResP
  rw [parF_no]
  obtain ⟨b, hb⟩ : ∃ b, inB 1 8 n = b := ⟨_, rfl⟩
  obtain ⟨d, hd⟩ : ∃ d, allIn n xs = d := ⟨_, rfl⟩
  rw [hd] at h
  simp only [hd] at HE
  rw [hb] at h
  simp only [hb] at HS
  have hB0 := Lib.hid hB0
  clear hb hd hv
  go_enter Try.func116, Try.ntmps116
  cases b with
  | false =>
    clear h HE
    go_wp2_with (first | (go_at_call 67; refine (HS.out _).mono ?_; rintro e w' ⟨rfl, rfl⟩))
    refine bodyPost_ret (ret8b rfl _ _ _ _ rfl HR.out) rfl ⟨rfl, hB0.out⟩
  | true =>
    by_cases hmn : (m : Int) = n
    · obtain rfl : d = false := by
        rcases h with h | h | h
        · cases h
        · exact absurd hmn h
        · exact h
      clear h
      have hne : ((m : Int) != n) = false := by simp [hmn]
      clear hmn
      go_wp2_with (first | (go_at_call 67; refine (HS.out _).mono ?_; rintro e w' ⟨rfl, rfl⟩) | (go_at_call 136; refine (HE.out _ (by exact hB0.out)).mono ?_; rintro e w' ⟨rfl, rfl⟩))
      refine bodyPost_ret (ret8b rfl _ _ _ _ rfl HR.out) rfl ⟨rfl, hB0.out⟩
    · clear h HE
      have hne : ((m : Int) != n) = true := by simp [hmn]
      clear hmn
      go_wp2_with (first | (go_at_call 67; refine (HS.out _).mono ?_; rintro e w' ⟨rfl, rfl⟩))
      refine bodyPost_ret (ret8b rfl _ _ _ _ rfl HR.out) rfl ⟨rfl, hB0.out⟩

end Go.Proofs.Ytcmjkfcgekmomaa
