/-
  Contract: impl.listsOf. Conditions: the bounds that it names.
-/
import Derived.Test.YtmhlkopkcgmpjaaPushN
import Derived.Test.YtmhlkopkcgmpjaaSetQ
namespace Go.Proofs.Ytmhlkopkcgmpjaa
open Go.RowKit
set_option linter.unusedVariables false
set_option linter.unusedSimpArgs false

set_option maxHeartbeats 1000000 in
theorem listsOf_any (B g n d : Nat) (ss : List Nat) (w : World) (h : w.ownsRow B 58 1 (.slice (some ⟨g, 0, none⟩) n d) n (ss.map setV)) (hn : n ≤ 1048576) (hs : ∀ s, s ∈ ss → s < 2 ^ 8) :
    Calls Try.prog 61 #[.slice (some ⟨g, 0, none⟩) n d] w fun e w' => ∃ a c, e = .returned (.slice a n c) ∧ BuiltL w' w.heap.size (.slice a n c) n (fun j => (ss.map fun s => listK s 8).getD j []) ∧ Below w.heap.size w w' := by
  obtain ⟨i0, hi0, hz0, hz1, hz2⟩ := info_parts Try.infoInts
  have hlen : ss.length = n := by have := h.1; simpa using this
  obtain ⟨F, hF⟩ : ∃ F : Nat → List Int, F = fun j => (ss.map fun s => listK s 8).getD j [] := ⟨_, rfl⟩
  have hFx : ∀ k x, ss[k]? = some x → F k = listK x 8 := fun k x hx => by
    rw [hF]
    simp only [List.getD_eq_getElem?_getD, List.getElem?_map, hx]; rfl
  have hgs := (h.lt g rfl).2
  rw [← hF]
  have HRow := Lib.hid h
  have HLen := Lib.hid hlen
  have HS := Lib.hid hs
  have HFx := Lib.hid hFx
  clear h hlen hs hF hFx
  go_enter Try.func61, Try.ntmps61
  go_wp2_with fail
  go_loopw [3, 8] (fun v i wr => ∃ (k c : Nat) (a : Option Addr), k ≤ n ∧ i = .int .i64 (k : Int) ∧ v = .slice a k c ∧ Hid (BuiltL wr w.heap.size (.slice a k c) k F) ∧ Hid (Below w.heap.size w wr)) (fun _ i _ => n - (intOf i).toNat)
  case atStart => exact ⟨0, 0, none, Nat.zero_le _, rfl, rfl, BuiltL.nil _ _ _, Below.refl _ _⟩
  case round =>
    obtain ⟨k, c, a, hk, rfl, rfl, HBu, HBr⟩ := hrel
    by_cases hkn : k < n
    · obtain ⟨x, hx⟩ := get_of_lt HLen.out hkn
      have hcell : wr.cell? ⟨g, k, none⟩ = some (.int .u64 (x : Int)) := by
        refine cell_b HBr.out ?_
        rw [HRow.out.cellAt k (by omega), List.getElem?_map, hx]; rfl
      have HLi := Lib.hid (list_any x wr (HS.out x (List.mem_of_getElem? hx)))
      have HF := Lib.hid (HFx.out k x hx)
      have hkn' : (k : Int) < (n : Int) := by omega
      clear hx
      go_wp2_with fail
      refine HLi.out.mono ?_
      rintro e w2 ⟨a2, m2, d2, rfl, hm2, ho2, b2⟩
      obtain ⟨g2, rfl⟩ := own_addr ho2
      obtain ⟨G, C, hL⟩ := HBu.out
      have HL := Lib.hid hL
      have HB2 := Lib.hid (HBr.out.trans (b2.mono HBr.out.size))
      have Hb2 := Lib.hid b2
      have HO2 := Lib.hid ho2
      have HM2 := Lib.hid hm2
      have HR2 := Lib.hid (hL.row.kept (grown_of_below b2 none) (own_em _))
      clear b2 ho2 hm2 hL
      go_wp2_with (at_builtin; refine wpList_append_own _ rfl _ _ 41 rfl w.heap.size 25 i0 (.slice none 0 0) 1 24 Try.underlying41 hi0 hz0 hz1 hz2 rfl (by decide) (.slice a k c) k (flatL k G C F) rfl (HR2.out.alloc _) ⟨w2.heap.size, 0, none⟩ 1 1 [.slice (addrO g2) m2 d2] rfl rfl (cell_one_new _ _ _) (fun x hx => by simp at hx; subst hx; rfl) (by unfold maxLen; omega) (by omega) (by have := HB2.out.size; simp; omega) ?_; intro v' w3 hown' hgrow' hnil')
      obtain ⟨g3, cap, rfl⟩ := ownsRow_succ hown'
      have HB3 := Lib.hid ((HB2.out.alloc HB2.out.size (.cells #[.slice (addrO g2) m2 d2] 25)).grown hgrow' (by have := HB2.out.size; simp; omega) (fun q hq => (HR2.out.lt q hq).1))
      have HBu3 : Hid (BuiltL w3 w.heap.size (.slice (some ⟨g3, 0, none⟩) (k + 1) cap) (k + 1) F) :=
        HL.out.push Hb2.out HBr.out.size (by rw [HF.out]; exact HM2.out.symm) (by rw [HF.out]; exact HO2.out) hown' hgrow'
      clear hown' hgrow' hnil'
      go_wp2_with fail
      go_roundw
      case rel => exact ⟨k + 1, cap, _, by omega, by go_num, rfl, HBu3, HB3⟩
      case measure => simp [intOf]; omega
    · have hkn' : ¬ (k : Int) < (n : Int) := by omega
      obtain rfl : k = n := by omega
      go_wp2_with fail
      go_ret
      exact ⟨a, c, rfl, HBu.out, HBr.out⟩

end Go.Proofs.Ytmhlkopkcgmpjaa
