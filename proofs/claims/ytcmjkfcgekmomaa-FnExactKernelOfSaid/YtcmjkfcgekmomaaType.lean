/-
  Contracts: spec.l2Type, spec.TypeOf, impl.signatureOf, impl.TypeOf: the type of an algebra. Conditions: the bounds that each theorem names.
-/
import Derived.Test.YtcmjkfcgekmomaaIsAlg
import Derived.Test.YtcmjkfcgekmomaaStep
import Derived.Lib.Hide
namespace Go.Proofs.Ytcmjkfcgekmomaa
open Go.RowKit
set_option linter.unusedVariables false
set_option linter.unusedSimpArgs false

def typeV (fs : List OpD) : List Int := fs.map (·.1)
def valTypeOf (z : Int) (fs : List OpD) : List Int × Bool := if algOkB z fs then (typeV fs, true) else ([], false)
theorem smallTypeOf (z : Int) (fs : List OpD) : (valTypeOf z fs).1.length ≤ 4194304 := by
  unfold valTypeOf
  split
  · rename_i h
    have := (algOkB_of h).2.1
    simp [typeV]; omega
  · simp

theorem ownsRow_succ {w : World} {B e s : Nat} {v : Value} {k : Nat} {xs : List Value} (h : w.ownsRow B e s v (k + 1) xs) : ∃ g cap, v = .slice (some ⟨g, 0, none⟩) (k + 1) cap := by
  rcases h.2 with ⟨_, h0⟩ | ⟨g, cap, _, hv, _⟩
  · omega
  · exact ⟨g, cap, hv⟩

set_option maxHeartbeats 1000000 in
theorem type_spec (lo hi : Nat) (z : Int) (ao : Option Addr) (c n : Nat) (fs : List OpD) (w : World) (hv : OView w lo hi ao n fs) (hhi : hi ≤ w.heap.size) (hn : n ≤ 4) :
    Calls Try.prog 127 #[.agg #[.int .i64 z, .slice ao n c]] w fun e w' => ∃ bo d, e = .returned (.slice bo n d) ∧ OwnsInts w' w.heap.size w'.heap.size bo n d (typeV fs) ∧ Below w.heap.size w w' := by
  obtain ⟨i0, hi0, hz0, hz1, hz2⟩ := info_parts Try.infoInt
  have HV := Lib.hid hv
  have hB := (Below.refl w.heap.size w).alloc (Nat.le_refl _) (.cells #[.int .i64 z, .slice ao n c] 31)
  have HB := Lib.hid hB
  clear hv hB
  go_enter Try.func127, Try.ntmps127
  go_wp2_with fail
  have hown0 : ((w.alloc (.cells #[.int .i64 z, .slice ao n c] 31)).alloc (.cells #[] 3)).ownsRow (w.heap.size + 1) 3 1 (.slice (some ⟨w.heap.size + 1, 0, none⟩) 0 0) 0 [] := by
    have h := World.ownsRow_lit (base := w.heap.size + 1) (e := 3) (size := 1) (w.alloc (.cells #[.int .i64 z, .slice ao n c] 31)) #[] 0 (by simp) (by decide) rfl
    rw [World.size_alloc] at h
    exact h
  have HO := Lib.hid hown0
  have HB1 := Lib.hid (HB.out.alloc HB.out.size (.cells #[] 3))
  clear hown0
  go_loopw [3, 4] (fun v i wr => ∃ (k bo d : Nat), k ≤ n ∧ i = .int .i64 (k : Int) ∧ v = .slice (some ⟨bo, 0, none⟩) k d ∧ Hid (wr.ownsRow (w.heap.size + 1) 3 1 (.slice (some ⟨bo, 0, none⟩) k d) k ((typeV (fs.take k)).map (Value.int .i64))) ∧ Hid (Below w.heap.size w wr) ∧ wr.cell? ⟨w.heap.size, 1, none⟩ = some (.slice ao n c) ∧ w.heap.size < wr.heap.size) (fun _ i _ => n - (intOf i).toNat)
  case atStart => exact ⟨0, w.heap.size + 1, 0, Nat.zero_le _, rfl, rfl, by simpa [typeV] using HO, HB1, by simp, by simp; omega⟩
  case round =>
    obtain ⟨k, bo, d, hk, rfl, rfl, HR, HBr, ha, hs⟩ := hrel
    by_cases hlt : k < n
    · obtain ⟨b, o, rfl, _, hb, hc⟩ := HV.out.at_ (by omega)
      obtain ⟨f, hf⟩ := get_of_lt HV.out.1 hlt
      obtain ⟨a, m, c', c0, c1, _, _, _⟩ := hc k f hf
      have e0 : wr.cell? ⟨b, o + k * 2, none⟩ = some (.int .i64 f.1) := (HBr.out.cell (p := ⟨b, _, none⟩) (by show b < _; omega)).trans c0
      have HF := Lib.hid hf
      clear hc c0 c1 hf
      go_wp2_with (at_builtin; refine wpList_append_own _ rfl _ _ 25 rfl (w.heap.size + 1) 3 i0 (.int .i64 0) 1 8 Try.underlying25 hi0 hz0 hz1 hz2 rfl (by decide) (.slice (some ⟨bo, 0, none⟩) k d) k ((typeV (fs.take k)).map (Value.int .i64)) rfl (HR.out.alloc _) ⟨wr.heap.size, 0, none⟩ 1 1 [.int .i64 f.1] rfl rfl (cell_one_new _ _ _) (fun x hx => by simp at hx; subst hx; rfl) (by unfold maxLen; omega) (by omega) (by simp; omega) ?_; intro v' w3 hown' hgrow' hnil')
      obtain ⟨g, cap, rfl⟩ := ownsRow_succ hown'
      have hbo := (HR.out.lt bo rfl).1
      have ha' : w3.cell? ⟨w.heap.size, 1, none⟩ = some (.slice (some ⟨b, o, none⟩) n c) := hgrow'.cell ((World.cell?_alloc_lt wr _ ⟨w.heap.size, 1, none⟩ hs).trans ha) (fun e => by have h_ : w.heap.size = bo := (by simpa [Value.ownBlock] using e); omega)
      have hs' : w.heap.size < w3.heap.size := by have := hgrow'.size; simp at this; omega
      have HB3 := Lib.hid ((HBr.out.alloc HBr.out.size (.cells #[.int .i64 f.1] 3)).grown hgrow' (by have := HBr.out.size; simp; omega) (fun q hq => by have h_ : bo = q := (by simpa [Value.ownBlock] using hq); omega))
      have HO3 : Hid (w3.ownsRow (w.heap.size + 1) 3 1 (.slice (some ⟨g, 0, none⟩) (k + 1) cap) (k + 1) ((typeV (fs.take (k + 1))).map (Value.int .i64))) := by
        have e : (typeV (fs.take (k + 1))).map (Value.int .i64) = (typeV (fs.take k)).map (Value.int .i64) ++ [.int .i64 f.1] := by
          rw [List.take_add_one, HF.out]; simp [typeV]
        unfold Hid
        rw [e]; exact hown'
      clear hown' hgrow' hnil' ha hs
      go_wp2
      go_roundw
      case rel => exact ⟨k + 1, g, cap, by omega, by go_num, rfl, HO3, HB3, ha', hs'⟩
      case measure => simp [intOf]; omega
    · go_wp2
      go_ret
      obtain rfl : k = n := by omega
      have h := HR.out
      rw [List.take_of_length_le (by have := HV.out.1; omega)] at h
      exact ⟨_, _, rfl, OwnsInts.of_row (ownsRow_base h (by omega)), HBr.out⟩


end Go.Proofs.Ytcmjkfcgekmomaa
