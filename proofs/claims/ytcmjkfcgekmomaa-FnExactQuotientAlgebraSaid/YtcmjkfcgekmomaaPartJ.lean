/-
  Contract: impl.partitionOf: the partition that a list is, as an array of eight. Conditions: the bounds that it names.
-/
import Derived.Test.YtcmjkfcgekmomaaPartI
namespace Go.Proofs.Ytcmjkfcgekmomaa
open Go.RowKit
set_option linter.unusedVariables false
set_option linter.unusedSimpArgs false

set_option maxHeartbeats 2000000 in
set_option maxRecDepth 100000 in
theorem partOf_walk (n : Int) (m c : Nat) (ao : Option Addr) (xs : List Int) (lo hi : Nat) (w : World) (hv : IView w lo hi ao m xs) (hhi : hi ≤ w.heap.size) (h1 : 1 ≤ n) (h8 : n ≤ 8) (hmn : (m : Int) = n) (ha : allIn n xs = true) :
    Calls Try.prog 116 #[.int .i64 n, .slice ao m c] w fun e w' => ResP w w' (okAll (extP xs) 8) xs e := by
  obtain ⟨b, o, rfl, _, hbh, hc⟩ := hv.at_ (show 0 < m by omega)
  have hl := hv.1
  have hB0 := below_alloc w (.cells (arrV fun _ => 0) 70)
  have HR := Lib.hid (ArrAt.new w fun _ => 0)
  have HB0 := Lib.hid hB0
  have HS := Lib.hid (fun w => isSize_any n w)
  simp only [inB_yes h1 h8] at HS
  have HE := Lib.hid (fun (W : World) (hW : Below w.heap.size w W) => elems_impl lo hi n (some ⟨b, o, none⟩) c m xs W (hv.kept (Kept.of_below hW hhi)) (by unfold maxLen; omega))
  simp only [ha] at HE
  have HI := Lib.hid (fun w => identity_any w)
  have HC := Lib.hid hc
  have hb : b < w.heap.size := by omega
  have hne : ((m : Int) != n) = false := by simp [hmn]
  obtain ⟨f, hf⟩ : ∃ f, extP xs = f := ⟨_, rfl⟩
  have hbd : ∀ k, k < 8 → 0 ≤ f k ∧ f k < 8 := fun k hk => by
    subst hf
    by_cases hkl : k < xs.length
    · rw [extP_lt hkl]
      have := allIn_get ha (get_gI rfl hkl)
      omega
    · rw [extP_ge hkl]; omega
  have HBd := Lib.hid hbd
  have HL := Lib.hid hl
  have HFx := Lib.hid hf
  have hm8 : m ≤ 8 := by omega
  rw [hf]
  obtain ⟨u, hu⟩ : ∃ u, okAll f 8 = u := ⟨_, rfl⟩
  have HU := Lib.hid hu
  rw [hu]
  unfold ResP
  clear hv hhi hc hB0 hmn ha hbd hl hf hu hbh
  go_enter Try.func116, Try.ntmps116
  go_wp2_with (first | (go_at_call 67; refine (HS.out _).mono ?_; rintro e w' ⟨rfl, rfl⟩) | (go_at_call 136; refine (HE.out _ (by exact HB0.out)).mono ?_; rintro e w' ⟨rfl, rfl⟩) | fail)
  refine (HI.out _).mono ?_
  rintro e w2 ⟨rfl, b2⟩
  have HB2 : Hid (Below w.heap.size w w2) := below_then HB0.out b2
  have HR2 : Hid (ArrAt w2 w.heap.size (fun _ => 0)) := HR.out.below b2 (by show w.heap.size < (w.alloc _).heap.size; simp)
  have hz2 : w.heap.size < w2.heap.size := HR2.out.lt
  clear b2
  have HA3 := Lib.hid (ArrAt.new w2 fun _ => 0)
  obtain ⟨w3, hw3⟩ : ∃ w3, w3 = (w2.alloc (.cells (arrV fun _ => 0) 70)).setRow w2.heap.size (arrV fun k => (k : Int)) := ⟨_, rfl⟩
  have HA4 : Hid (ArrAt w3 w2.heap.size fun k => (k : Int)) := by unfold Hid; rw [hw3]; exact HA3.out.setRow
  have HR4 : Hid (ArrAt w3 w.heap.size fun _ => 0) := by unfold Hid; rw [hw3]; exact (HR2.out.alloc _).setRowOther (by omega) _
  have HB4 : Hid (Below w.heap.size w w3) := by unfold Hid; rw [hw3]; exact below_setRow (below_then HB2.out (below_alloc w2 _)) (by omega) _
  have hcp := copy8 w3 w2.heap.size b o m c xs HA4.out HL.out hm8 (fun j x hx => (HB4.out.cell (p := ⟨b, o + j, none⟩) hb).trans (HC.out j x hx))
  have HA5 := Lib.hid (HA4.out.setRow (f' := extP xs))
  have HR5 := Lib.hid (HR4.out.setRowOther (g' := w2.heap.size) (by omega) (arrV (extP xs)))
  have HB5 := Lib.hid (below_setRow HB4.out (show w.heap.size ≤ w2.heap.size by omega) (arrV (extP xs)))
  rw [HFx.out] at HA5 HR5 HB5 hcp
  obtain ⟨w5, hw5⟩ : ∃ w5, w5 = w3.setRow w2.heap.size (arrV f) := ⟨_, rfl⟩
  rw [← hw5] at HA5 HR5 HB5 hcp
  clear hw5
  have HW3 := Lib.hid hw3
  clear hw3
  go_wp2_with (first | (refine st8 (w := w2.alloc (.cells (arrV fun _ => 0) 70)) HA3.out rfl _ _ rfl rfl rfl ?_; rw [← HW3.out]) | (refine ld8 HA5.out rfl _ rfl rfl ?_))
  clear hcp HA3 HR2 HB2 HA4 HR4 HB4 HW3 HI HE HS HC hne
  have hz5 : w2.heap.size < w5.heap.size := HA5.out.lt
  go_loop [7, 8, 30] (fun _ _ i => ∃ k : Nat, k ≤ 8 ∧ i = .int .i64 (k : Int) ∧ Hid (okAll f k = true)) (fun _ _ i => 8 - (intOf i).toNat)
  case atStart => exact ⟨0, by omega, rfl, okAll_zero f⟩
  case round =>
    obtain ⟨k, hk, rfl, HK⟩ := hrel
    by_cases hlt : k < 8
    · have hkn : (k : Int) < 8 := by omega
      have hix := fun W => run_index8 f hlt W
      obtain ⟨hb1, hb2⟩ := HBd.out k hlt
      obtain ⟨v, hv⟩ : ∃ v : Nat, f k = (v : Int) := ⟨(f k).toNat, by omega⟩
      have HV := Lib.hid hv
      simp only [hv] at hix
      have hv8 : v < 8 := by omega
      have e1 := HA5.out.cell hv8
      have hvn : (v : Int) < 8 := by omega
      clear hv hb1 hb2
      by_cases hvk : v ≤ k
      · have hvk' : ¬ (k : Int) < (v : Int) := by omega
        by_cases hfv : f v = (v : Int)
        · have hne : (f v != (v : Int)) = false := by simp [hfv]
          have HO : Hid (okP f k = true) := okP_yes (by rw [HV.out]; exact inB_yes (by omega) (by omega)) (by rw [HV.out, Int.toNat_natCast]; exact hfv)
          clear hfv
          go_wp2_with fail
          go_round
          case rel => exact ⟨k + 1, by omega, by go_num, okAll_succ HK.out HO.out⟩
          case measure => simp [intOf]; omega
        · have hne : (f v != (v : Int)) = true := by simp [hfv]
          have HO : Hid (okAll f 8 = false) := okAll_no hlt (okP_ne (by rw [HV.out, Int.toNat_natCast]; exact hfv))
          have HN := Lib.hid (HR5.out.setRow (f' := fun _ => 0))
          have HN2 := Lib.hid (below_setRow HB5.out (Nat.le_refl _) (arrV fun _ => 0))
          clear hfv
          go_wp2_with (refine st8 (f' := fun _ => 0) HR5.out rfl _ _ rfl rfl rfl ?_)
          refine bodyPost_ret (ret8b rfl _ _ _ _ rfl HN.out) rfl ⟨?_, HN2.out⟩
          rw [show u = false from HU.out.symm.trans HO.out, parF_no]; rfl
      · have hvk' : (k : Int) < (v : Int) := by omega
        have HO : Hid (okAll f 8 = false) := okAll_no hlt (okP_out (by rw [HV.out]; exact inB_no (by omega)))
        have HN := Lib.hid (HR5.out.setRow (f' := fun _ => 0))
        have HN2 := Lib.hid (below_setRow HB5.out (Nat.le_refl _) (arrV fun _ => 0))
        go_wp2_with (refine st8 (f' := fun _ => 0) HR5.out rfl _ _ rfl rfl rfl ?_)
        refine bodyPost_ret (ret8b rfl _ _ _ _ rfl HN.out) rfl ⟨?_, HN2.out⟩
        rw [show u = false from HU.out.symm.trans HO.out, parF_no]; rfl
    · have hkn : ¬ (k : Int) < 8 := by omega
      obtain rfl : k = 8 := by omega
      have HN := Lib.hid (HR5.out.setRow (f' := f))
      have HN2 := Lib.hid (below_setRow HB5.out (Nat.le_refl _) (arrV f))
      go_wp2_with (first | (refine ld8 HA5.out rfl _ rfl rfl ?_) | (refine st8 HR5.out rfl _ _ rfl rfl rfl ?_))
      refine bodyPost_ret (ret8b rfl _ _ _ _ rfl HN.out) rfl ⟨?_, HN2.out⟩
      rw [show u = true from HU.out.symm.trans HK.out, parF_yes, HFx.out]; rfl

theorem partOf_any (n : Int) (m c : Nat) (ao : Option Addr) (xs : List Int) (lo hi : Nat) (w : World) (hv : IView w lo hi ao m xs) (hhi : hi ≤ w.heap.size) (hm : m ≤ maxLen) :
    Calls Try.prog 116 #[.int .i64 n, .slice ao m c] w fun e w' => ResP w w' (pOfB n xs) xs e := by
  unfold pOfB
  have hl := hv.1
  cases hb : inB 1 8 n with
  | false => exact partOf_early n m c ao xs lo hi w hv hhi hm (.inl hb)
  | true =>
    obtain ⟨h1, h8⟩ : 1 ≤ n ∧ n ≤ 8 := of_decide_eq_true hb
    rw [Bool.true_and]
    by_cases hmn : (m : Int) = n
    · cases ha : allIn n xs with
      | false => rw [part_in ha]; exact partOf_early n m c ao xs lo hi w hv hhi hm (.inr (.inr ha))
      | true => rw [part_ext (by rw [hl]; exact hmn) ha h8]; exact partOf_walk n m c ao xs lo hi w hv hhi h1 h8 hmn ha
    · rw [partB_len (by rw [hl]; exact hmn)]
      exact partOf_early n m c ao xs lo hi w hv hhi hm (.inr (.inl hmn))

end Go.Proofs.Ytcmjkfcgekmomaa
