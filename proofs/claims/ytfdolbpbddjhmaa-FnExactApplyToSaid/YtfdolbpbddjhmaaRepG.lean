/-
  Contract: slices.Repeat at one number, at most 64 times. Conditions: the bounds that each theorem names.
-/
import Derived.Test.YtfdolbpbddjhmaaStep
import Derived.Test.YtfdolbpbddjhmaaShelfB
import Derived.Laws.CopyOwn
import Derived.Deep.RegionLaw
import Derived.Lib.Hide
namespace Go.Proofs.Ytfdolbpbddjhmaa
open Go.RowKit
set_option linter.unusedVariables false
set_option linter.unusedSimpArgs false

theorem own_rowL {w : World} {B g n : Nat} {e : TypeId} {xs : List Value} (h : w.ownsRow B e 1 (.slice (some ⟨g, 0, none⟩) n n) n xs) : ∃ Z : List Value, Hid (Z.length = n) ∧ Hid (w.heap[g]? = some (.cells Z.toArray e (0, 0))) := by
  refine ⟨xs, by have := h.1; simpa [Hid] using this, ?_⟩
  obtain ⟨hl, ⟨h, _⟩ | ⟨g', cap, cur, hv, _, hg, _, _, hs, ht⟩⟩ := h
  · cases h
  · injection hv with h1 _ h3
    injection h1 with h1
    injection h1 with h1
    subst h1 h3
    rw [List.take_of_length_le (by simp; omega)] at ht
    unfold Hid
    rw [hg, ← ht]

/-- The first n of a row are the number. -/
def FstN (x : Int) (k n : Nat) (Z : List Value) : Prop := Z.length = k ∧ ∀ j, j < n → Z[j]? = some (.int .i64 x)
theorem FstN.all {x : Int} {k : Nat} {Z : List Value} (h : FstN x k k Z) : Z = List.replicate k (.int .i64 x) := by
  apply List.ext_getElem?
  intro j
  rw [List.getElem?_replicate]
  by_cases hj : j < k
  · rw [if_pos hj]; exact h.2 j hj
  · rw [if_neg hj, List.getElem?_eq_none (by rw [h.1]; omega)]
theorem FstN.splice {x : Int} {k n c : Nat} {Z : List Value} (h : FstN x k n Z) (hc : n + c ≤ k) : FstN x k (n + c) (splice Z n (List.replicate c (.int .i64 x))) := by
  refine ⟨?_, fun j hj => ?_⟩
  · rw [length_splice _ _ _ (by rw [List.length_replicate, h.1]; exact hc), h.1]
  · unfold Go.splice
    by_cases h1 : j < n
    · rw [List.getElem?_append_left (by rw [List.length_take, h.1]; omega), List.getElem?_take, if_pos h1]
      exact h.2 j h1
    · rw [List.getElem?_append_right (by rw [List.length_take]; omega), List.length_take, h.1, Nat.min_eq_left (by omega), List.getElem?_append_left (by rw [List.length_replicate]; omega), List.getElem?_replicate, if_pos (by omega)]

theorem fst_at {w : World} {g k n : Nat} {e : TypeId} {Z : List Value} {x : Int} {c : Nat} (h : w.heap[g]? = some (.cells Z.toArray e (0, 0))) (hZ : FstN x k n Z) (hc : c ≤ n) : ∀ (j : Nat) (v : Value), (List.replicate c (Value.int .i64 x))[j]? = some v → w.cell? ((⟨g, 0, none⟩ : Addr).add j) = some v := by
  intro j v hj
  rw [List.getElem?_replicate] at hj
  split at hj
  · injection hj with hj
    have hadd : (⟨g, 0, none⟩ : Addr).add j = ⟨g, j, none⟩ := by unfold Addr.add; split <;> simp_all
    rw [hadd, cell_of_row w g j _ e (0, 0) h, ← hj]
    have := hZ.2 j (by omega)
    simpa using this
  · cases hj
theorem rep_cells {c : Nat} {x : Int} : ∀ v ∈ List.replicate c (Value.int .i64 x), v.oneCell' = true := by
  intro v hv
  rw [(List.mem_replicate.1 hv).2]
  rfl

theorem rep1_at {w : World} {g : Nat} {x : Int} (h : w.cell? ⟨g, 0, none⟩ = some (.int .i64 x)) : ∀ (j : Nat) (v : Value), (List.replicate 1 (Value.int .i64 x))[j]? = some v → w.cell? ((⟨g, 0, none⟩ : Addr).add j) = some v := by
  intro j v hj
  rw [List.getElem?_replicate] at hj
  split at hj
  · injection hj with hj
    obtain rfl : j = 0 := by omega
    rw [← hj]
    exact h
  · cases hj

set_option maxRecDepth 100000 in
set_option maxHeartbeats 2000000 in
theorem repeatN_any (g c k : Nat) (x : Int) (w : World) (hx : w.cell? ⟨g, 0, none⟩ = some (.int .i64 x)) (h1 : 1 ≤ k) (h64 : k ≤ 64) :
    Calls Try.prog 70 #[.slice (some ⟨g, 0, none⟩) 1 c, .int .i64 (k : Int)] w fun e w' => e = .returned (.slice (some ⟨w.heap.size, 0, none⟩) k k) ∧ w'.heap[w.heap.size]? = some (.cells (List.replicate k (.int .i64 x)).toArray 3 (0, 0)) ∧ Below w.heap.size w w' := by
  have hM : Calls Try.prog 118 #[.int .u64 1, .int .u64 (k : Int)] w fun e w' => e = .returned (.tuple #[.int .u64 0, .int .u64 (k : Int)]) ∧ w' = w := by
    have h := Try.bits_Mul 1 k (by decide) (by omega) w
    rw [show 1 * k / 18446744073709551616 = 0 by omega, show 1 * k % 18446744073709551616 = k by omega] at h
    simpa using h
  have HM := Lib.hid hM
  have hgl := World.block_lt_of_cell? w _ hx
  clear hM
  obtain ⟨i0, hi, hz0, hz1, hz2⟩ := info_parts Try.infoInt
  obtain ⟨X1, hX1⟩ : ∃ X1 : List Value, X1 = List.replicate 1 (.int .i64 x) := ⟨_, rfl⟩
  have HX1 := Lib.hid hX1
  have HSz : Hid ((Try.prog.info? 3).map (·.size) = some 1) := by unfold Hid; rw [hi]; simp [hz1]
  have hk64 : (k : Int) ≤ 64 := by omega
  have hk1 : 1 ≤ (k : Int) := by omega
  clear hX1
  go_enter Try.func70, Try.ntmps70
  go_wp2_with fail
  refine HM.out.mono ?_
  rintro e w1 ⟨rfl, rfl⟩
  go_wp2_with (first | (at_make; refine wpList_make_full _ rfl _ _ 37 rfl w1.heap.size 3 i0 _ 1 Try.underlying37 hi hz0 hz1 _ _ _ _ k rfl rfl rfl rfl (by rw [hz2]; omega) (by unfold maxLen; omega) (Nat.le_refl _) ?_; intro w2 hown hgrow; obtain ⟨Z1, HZ1, hR2⟩ := own_rowL hown; have hB2 : Below w1.heap.size w1 w2 := (Below.refl _ _).grown hgrow (Nat.le_refl _) (by intro k hk; cases hk); clear hown hgrow) | (refine wpList_copy_splice (o := ⟨some 33, _, _, _, _, _⟩) rfl (.tmp 31) (.tmp 32) 37 37 rfl 3 Try.underlying37 HSz.out (some ⟨w1.heap.size, 0, none⟩) (some ⟨g, 0, none⟩) k k 1 c rfl rfl w1.heap.size 0 Z1 3 hR2.out X1 (by rw [HX1.out, List.length_replicate]; show 1 = min 1 k; omega) (fun _ => ⟨rfl, _, rfl, fun j v hj => rep1_at ((hB2.cell (p := ⟨g, 0, none⟩) hgl).trans hx) j v (by rw [← HX1.out]; exact hj)⟩) (by rw [HX1.out, HZ1.out, List.length_replicate]; omega) (by rw [HX1.out]; exact rep_cells) w1.heap.size w1 hB2 (Nat.le_refl _) ?_; rw [show X1.length = 1 by rw [HX1.out]; rfl]; intro w3 hR3 hB3))
  have HF1 : Hid (FstN x k 1 (splice Z1 0 X1)) := by
    have h := FstN.splice (x := x) (k := k) (n := 0) (c := 1) (Z := Z1) ⟨HZ1.out, fun j hj => by omega⟩ (by omega)
    rw [HX1.out]; exact h
  have HB3 := Lib.hid hB3
  clear hB3 hB2 hR2 hx hgl
  go_loopw [8] (fun v wr => ∃ (n : Nat) (Z : List Value), 1 ≤ n ∧ n ≤ k ∧ v = .int .i64 (n : Int) ∧ Hid (FstN x k n Z) ∧ Hid (wr.heap[w1.heap.size]? = some (.cells Z.toArray 3 (0, 0))) ∧ Hid (Below w1.heap.size w1 wr)) (fun v _ => k - (intOf v).toNat)
  case atStart => exact ⟨1, _, Nat.le_refl _, h1, rfl, HF1, hR3, HB3⟩
  case round =>
    obtain ⟨n, Z, hn1, hnk, rfl, HF, HR, HB⟩ := hrel
    clear hR3 HB3 HF1
    by_cases hlt : n < k
    · have hlt' : (n : Int) < (k : Int) := by omega
      obtain ⟨cc, hcc⟩ : ∃ cc, cc = min n (k - n) := ⟨_, rfl⟩
      have hcn : cc ≤ n := by omega
      have hck : n + cc ≤ k := by omega
      have hc1 : 1 ≤ cc := by omega
      have hD : (World.drew wr).heap[w1.heap.size]? = some (.cells Z.toArray 3 (0, 0)) := HR.out
      have hcells := fst_at hD HF.out hcn
      have hE := HB.out.drew
      have HFn := Lib.hid (HF.out.splice hck)
      have hfit : n + (List.replicate cc (Value.int .i64 x)).length ≤ Z.length := by rw [List.length_replicate, HF.out.1]; exact hck
      have HCC : Hid ((List.replicate cc (Value.int .i64 x)).length = Nat.min n (k - n)) := by unfold Hid; rw [List.length_replicate, hcc]
      have hn64 : (n : Int) ≤ 64 := by omega
      have hcc64 : (cc : Int) ≤ 64 := by omega
      have hne : ¬ k = n := by omega
      have hwr : IntKind.i64.wrap ((n : Int) + (cc : Int)) = (n : Int) + (cc : Int) := IntWalk.i64_in _ ⟨by omega, by omega⟩
      clear hcc
      go_wp2_with fail
      go_region_law (refine step_copy_splice rfl (.tmp 41) (.tmp 44) 37 37 rfl 3 Try.underlying37 HSz.out (some ⟨w1.heap.size, n, none⟩) (some ⟨w1.heap.size, 0, none⟩) (k - n) (k - n) n k (by go_simp) (by go_simp) w1.heap.size n Z 3 hD (List.replicate cc (Value.int .i64 x)) HCC.out (fun _ => ⟨rfl, _, rfl, hcells⟩) hfit rep_cells w1.heap.size w1 hE (Nat.le_refl _) ?_; rw [List.length_replicate]; intro w4 hR4 hB4)
      all_goals
        have HB4 := Lib.hid hB4
        clear hB4 hE hD hcells
        go_simp
        go_wp2_with fail
        go_roundw
        case rel => exact ⟨n + cc, _, by omega, hck, by first | go_num | (congr 1; push_cast; omega) | rfl, HFn, hR4, HB4⟩
        case measure => simp [intOf]; omega
    · obtain rfl : n = k := by omega
      have hlt' : ¬ (n : Int) < (n : Int) := by omega
      go_wp2_with fail
      go_ret
      exact ⟨rfl, by have h := HR.out; rw [HF.out.all] at h; simpa using h, HB.out⟩

end Go.Proofs.Ytfdolbpbddjhmaa
