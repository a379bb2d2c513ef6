/-
  Contracts: spec.l7Find, l7One, FirstEmbedding, FirstOnto, FirstIso, AreIsomorphic. Conditions: the bounds that each theorem names.
-/
import Derived.Test.YtmlimbjpehjfnaaWlk
namespace Go.Proofs.Ytmlimbjpehjfnaa
open Go.RowKit Go.Shelf
set_option linter.unusedVariables false
set_option linter.unusedSimpArgs false

/-- What a search has found, as the model tells it. -/
def FindRes (w w' : World) (l : Nat) (rs : St) (e : Ending) : Prop :=
  ∃ fa fc vals, e = .returned (.tuple #[.slice fa rs.2.length fc, .bool (decide (rs.1 ≤ 5000))]) ∧ w'.ownsRow w.heap.size 42 1 (.slice fa rs.2.length fc) rs.2.length vals ∧ FndV w.heap.size l w' rs.2 vals ∧ Below w.heap.size w w'
def tI (T : Nat) : Bool := T == 3
def BxH (w wr : World) (l : Nat) (ao : Option Addr) (n c zb : Nat) (bo : Option Addr) (m d : Nat) : Prop :=
  wr.heap[w.heap.size]? = some (.cells #[.int .i64 (l : Int), .slice ao n c] 31 (0, 0)) ∧ wr.heap[w.heap.size + 1]? = some (.cells #[.int .i64 (zb : Int), .slice bo m d] 31 (0, 0)) ∧ Below w.heap.size w wr
theorem BxH.bx {w wr : World} {l n c zb m d : Nat} {ao bo : Option Addr} (h : BxH w wr l ao n c zb bo m d) : Bx2 w wr (l : Int) ao n c (zb : Int) bo m d :=
  ⟨cell_of_row wr _ 0 _ _ _ h.1, cell_of_row wr _ 1 _ _ _ h.1, cell_of_row wr _ 0 _ _ _ h.2.1, cell_of_row wr _ 1 _ _ _ h.2.1, h.2.2⟩
theorem BxH.turn {w wr w3 : World} {l n c zb m d : Nat} {ao bo : Option Addr} (h : BxH w wr l ao n c zb bo m d) (t : Turn w.heap.size tI wr w3) : BxH w w3 l ao n c zb bo m d :=
  ⟨t.keep h.1 rfl, t.keep h.2.1 rfl, h.2.2.trans (t.below h.2.2.size)⟩
theorem lst_open (l : Nat) : List.replicate l (-1 : Int) = lstP l (fun _ => -1) := by
  unfold lstP
  rw [List.map_const', List.length_range]

set_option maxHeartbeats 8000000 in
set_option maxRecDepth 100000 in
theorem find_spec (lo hi lo2 hi2 : Nat) (l zb : Nat) (ao bo : Option Addr) (c n d m : Nat) (fs gs : List OpD) (into onto : Bool) (most : Nat) (w : World) (hv : OView w lo hi ao n fs) (hhi : hi ≤ w.heap.size) (hu : OView w lo2 hi2 bo m gs) (hhi2 : hi2 ≤ w.heap.size) (hok : algOkB (l : Int) fs = true) (hok2 : algOkB (zb : Int) gs = true) (hty : typeV fs = typeV gs) (hm0 : 0 < most) (hm1 : most ≤ 1000) :
    Calls Try.prog 46 #[.agg #[.int .i64 (l : Int), .slice ao n c], .agg #[.int .i64 (zb : Int), .slice bo m d], .bool into, .bool onto, .int .i64 (most : Int)] w fun en w' => FindRes w w' l (srchS l zb fs gs (leadB into) (wantB l zb onto) most) en := by
  obtain ⟨i0, hi0, hz0, hz1, hz2⟩ := info_parts Try.infoInt
  obtain ⟨⟨h1, h2⟩, _⟩ := algOkB_of hok
  obtain ⟨⟨k1, k2⟩, _⟩ := algOkB_of hok2
  have hl8 : l ≤ 8 := by omega
  obtain ⟨wb, hwb, hbx, hsz⟩ := bx2_new w (l : Int) ao n c (zb : Int) bo m d 31
  obtain ⟨P, hPe⟩ : ∃ P, P = w.heap.size + 1 + 1 + 1 := ⟨_, rfl⟩
  obtain ⟨w1, hw1⟩ : ∃ w1, w1 = (((w.alloc (.cells #[.int .i64 (l : Int), .slice ao n c] 31)).alloc (.cells #[.int .i64 (zb : Int), .slice bo m d] 31)).alloc (.cells #[] 42)).alloc (.cells #[.int .i64 (l : Int), .slice ao n c, .int .i64 (zb : Int), .slice bo m d, .bool into, .bool onto, .int .i64 (most : Int), .int .i64 0, .slice (some ⟨w.heap.size + 1 + 1, 0, none⟩) 0 0] 80) := ⟨_, rfl⟩
  have hbx1 : Bx2 w w1 (l : Int) ao n c (zb : Int) bo m d := by rw [hw1, ← hwb]; exact (hbx.below (below_alloc _ _)).below (below_alloc _ _)
  have hA : w1.heap[w.heap.size]? = some (.cells #[.int .i64 (l : Int), .slice ao n c] 31 (0, 0)) := by
    rw [hw1, Below.heap_alloc _ _ _ (by first | (simp; done) | (simp; omega)), Below.heap_alloc _ _ _ (by first | (simp; done) | (simp; omega)), Below.heap_alloc _ _ _ (by simp)]
    exact heap_alloc_new _ _
  have hB : w1.heap[w.heap.size + 1]? = some (.cells #[.int .i64 (zb : Int), .slice bo m d] 31 (0, 0)) := by
    rw [hw1, Below.heap_alloc _ _ _ (by first | (simp; done) | (simp; omega)), Below.heap_alloc _ _ _ (by simp)]
    have h := heap_alloc_new (w.alloc (.cells #[.int .i64 (l : Int), .slice ao n c] 31)) (.cells #[.int .i64 (zb : Int), .slice bo m d] 31)
    rw [World.size_alloc] at h
    exact h
  have HSz1 : Hid (w1.heap.size = P + 1) := by unfold Hid; rw [hw1, hPe]; simp
  have hbh1 : BxH w w1 l ao n c zb bo m d := ⟨hA, hB, hbx1.bel⟩
  have HBh := Lib.hid hbh1
  have hS1 : SpW l zb ao bo c n d m w w.heap.size P into onto most w1 (0, []) := by
    refine ⟨some ⟨w.heap.size + 1 + 1, 0, none⟩, 0, [], ?_, ?_, fun j xs hj => by simp at hj, hbx1.bel, hbx1.bel.size⟩
    · rw [hw1, ← hwb, hPe]
      have h := heap_alloc_new (wb.alloc (.cells #[] 42)) (.cells #[.int .i64 (l : Int), .slice ao n c, .int .i64 (zb : Int), .slice bo m d, .bool into, .bool onto, .int .i64 (most : Int), .int .i64 0, .slice (some ⟨w.heap.size + 1 + 1, 0, none⟩) 0 0] 80)
      rw [World.size_alloc, hsz] at h
      exact h
    · rw [hw1, ← hwb]
      have h := (World.ownsRow_lit (base := w.heap.size) (e := 42) (size := 1) wb #[] 0 (by omega) (by decide) rfl).alloc (.cells #[.int .i64 (l : Int), .slice ao n c, .int .i64 (zb : Int), .slice bo m d, .bool into, .bool onto, .int .i64 (most : Int), .int .i64 0, .slice (some ⟨w.heap.size + 1 + 1, 0, none⟩) 0 0] 80)
      rw [hsz] at h
      exact h
  have HS1 := Lib.hid hS1
  have HBx := Lib.hid hbx1
  have hPw : w.heap.size ≤ P := by omega
  have HCl := Lib.hid (fun (V : World) (ga : Option Addr) (gd : Nat) (hV : Bx2 w V (l : Int) ao n c (zb : Int) bo m d) (hI : IView V w.heap.size V.heap.size ga l (lstP l (fun _ => -1))) => close_spec lo hi lo2 hi2 w.heap.size V.heap.size (l : Int) (zb : Int) ao bo ga c n d m gd l fs gs (lstP l (fun _ => -1)) V (hv.kept (Kept.of_below hV.bel hhi)) (Nat.le_trans hhi hV.bel.size) (hu.kept (Kept.of_below hV.bel hhi2)) (Nat.le_trans hhi2 hV.bel.size) hI (Nat.le_refl _) hok hok2 hty rfl (lst_pin (fun _ _ => .inl rfl)))
  rw [arrL_lst (l := l) (f := fun _ => -1) (fun _ _ => rfl)] at HCl
  obtain ⟨cv, hcv⟩ : ∃ cv, closV (l : Int) (zb : Int) fs gs (fun _ => -1) = cv := ⟨_, rfl⟩
  rw [hcv] at HCl
  unfold ResL at HCl
  have HCv := Lib.hid hcv
  have HKp := Lib.hid (fun c2 e => closV_keep (f := fun _ => -1) (g := c2) hok hok2 hty (fun _ _ => .inl rfl) (fun _ _ => rfl) e)
  have HWk := Lib.hid (walk_any (lo := lo) (hi := hi) (lo2 := lo2) (hi2 := hi2) (into := into) (onto := onto) (c := c) (d := d) hv hhi hu hhi2 hok hok2 hty hPw hm1)
  obtain ⟨rs, hrs⟩ : ∃ rs, srchS l zb fs gs (leadB into) (wantB l zb onto) most = rs := ⟨_, rfl⟩
  have HRs : Hid (tryS l zb fs gs (leadB into) (walkS l zb fs gs (leadB into) (wantB l zb onto) most 9) (fun _ => -1) (0, []) = rs) := hrs
  have hal : alive most (0, []) = true := by unfold alive; simp; exact hm0
  have HAl := Lib.hid hal
  rw [hrs]
  obtain ⟨cz, ca, cz1, ca1, cB⟩ := hbx1
  have HPe := Lib.hid hPe
  clear hv hu hok hok2 hty hcv hrs hal hbx hsz hwb hS1 cB hPe hA hB hbh1
  go_enter Try.func46, Try.ntmps46
  go_wp2_with fail
  rw [← hw1, ← HPe.out]
  clear hw1
  have HO1 : Hid ((w1.alloc (.cells #[] 3)).ownsRow w.heap.size 3 1 (.slice (some ⟨P + 1, 0, none⟩) 0 0) 0 ((List.replicate 0 (-1 : Int)).map (Value.int .i64))) := by
    unfold Hid; rw [← HSz1.out]; exact World.ownsRow_lit (base := w.heap.size) (e := 3) (size := 1) w1 #[] 0 HBx.out.bel.size (by decide) rfl
  have HS1b : Hid (SpW l zb ao bo c n d m w w.heap.size P into onto most (w1.alloc (.cells #[] 3)) (0, [])) := HS1.out.below (below_alloc _ _)
  have HBx1b : Hid (BxH w (w1.alloc (.cells #[] 3)) l ao n c zb bo m d) := HBh.out.turn (.of_below (below_alloc _ _))
  have cz2 : (w1.alloc (.cells #[] 3)).cell? ⟨w.heap.size, 0, none⟩ = some (.int .i64 (l : Int)) := HBx1b.out.bx.z0
  go_wp2_with fail
  go_loopw [13, 14] (fun v i wr => ∃ (j vc g : Nat), j ≤ l ∧ i = .int .i64 (j : Int) ∧ v = .slice (some ⟨g, 0, none⟩) j vc ∧ Hid (wr.ownsRow w.heap.size 3 1 (.slice (some ⟨g, 0, none⟩) j vc) j ((List.replicate j (-1 : Int)).map (Value.int .i64))) ∧ Hid (SpW l zb ao bo c n d m w w.heap.size P into onto most wr (0, [])) ∧ Hid (BxH w wr l ao n c zb bo m d)) (fun _ i _ => l - (intOf i).toNat)
  case atStart => exact ⟨0, 0, P + 1, Nat.zero_le _, rfl, rfl, HO1, HS1b, HBx1b⟩
  case round =>
    obtain ⟨j, vc, g, hj, rfl, rfl, HR, HSr, HBr⟩ := hrel
    clear HO1 HS1b HBx1b cz ca cz1 ca1 cz2
    obtain ⟨cz, ca, cz1, ca1, cB⟩ := HBr.out.bx
    clear cB
    by_cases hjl : j < l
    · have hjn : (j : Int) < (l : Int) := by omega
      go_wp2_with (at_builtin; refine wpList_append_own _ rfl _ _ 42 rfl w.heap.size 3 i0 (.int .i64 0) 1 8 Try.underlying42 hi0 hz0 hz1 hz2 rfl (by decide) (.slice (some ⟨g, 0, none⟩) j vc) j ((List.replicate j (-1 : Int)).map (Value.int .i64)) rfl (HR.out.alloc _) ⟨wr.heap.size, 0, none⟩ 1 1 [.int .i64 (-1)] rfl rfl (cell_one_new _ _ _) (fun x hx => by simp at hx; subst hx; rfl) (by unfold maxLen; omega) (by omega) (by have := HBr.out.2.2.size; simp; omega) ?_; intro v' w3 hown' hgrow' hnil')
      obtain ⟨g2, cap, rfl⟩ := ownsRow_succ hown'
      have t3 : Turn w.heap.size tI wr w3 := (Turn.of_below (below_alloc wr _)).trans (Turn.grown (HR.out.alloc _) hgrow' (Nat.le_refl _) rfl)
      have HS3 : Hid (SpW l zb ao bo c n d m w w.heap.size P into onto most w3 (0, [])) := by
        obtain ⟨fa, fc, vals, a1, a2, a3, a4, a5⟩ := HSr.out
        exact ⟨fa, fc, vals, t3.keep a1 rfl, t3.row a2 rfl, fun j xs hj => by simp at hj, a4.trans (t3.below a5), Nat.le_trans a5 t3.size⟩
      have HB3 : Hid (BxH w w3 l ao n c zb bo m d) := HBr.out.turn t3
      have HO3 : Hid (w3.ownsRow w.heap.size 3 1 (.slice (some ⟨g2, 0, none⟩) (j + 1) cap) (j + 1) ((List.replicate (j + 1) (-1 : Int)).map (Value.int .i64))) := by
        unfold Hid
        rw [List.replicate_succ', List.map_append]
        exact hown'
      clear hown' hgrow' hnil' t3
      go_wp2_with fail
      go_roundw
      case rel => exact ⟨j + 1, cap, g2, by omega, by go_num, rfl, HO3, HS3, HB3⟩
      case measure => simp [intOf]; omega
    · have hjn : ¬ (j : Int) < (l : Int) := by omega
      obtain rfl : l = j := by omega
      have HVw : Hid (IView wr w.heap.size wr.heap.size (some ⟨g, 0, none⟩) l (lstP l fun _ => -1)) := by
        unfold Hid; rw [← lst_open]; exact (OwnsInts.of_row HR.out).view
      go_wp2_with fail
      refine (HCl.out _ _ _ HBr.out.bx HVw.out).mono ?_
      rintro e w7 ⟨ha, hn, hd, rfl, hn7, ho7, b7⟩
      have HN7 := Lib.hid hn7
      have HS7 : Hid (SpW l zb ao bo c n d m w w.heap.size P into onto most w7 (0, [])) := HSr.out.below b7
      have HO7 : Hid (w7.ownsRow w.heap.size 3 1 (.slice ha hn hd) hn ((cloL l cv).map (Value.int .i64))) := ownsRow_base ho7.row HBr.out.2.2.size
      clear ho7 b7 hn7 HR HSr HBr cz ca cz1 ca1 HVw
      cases cv with
      | none =>
        obtain ⟨zt, zm⟩ := rs
        have HE : Hid (((0, []) : St) = (zt, zm)) := by unfold Hid; rw [← HRs.out, tryS_none HCv.out]
        have HS8 : Hid (SpW l zb ao bo c n d m w w.heap.size P into onto most w7 (zt, zm)) := by unfold Hid; rw [← HE.out]; exact HS7.out
        clear HRs HE
        obtain ⟨fa, fc, vals, a1, a2, a3, a4, a5⟩ := HS8.out
        obtain ⟨zk, hzk⟩ : ∃ zk, zm.length = zk := ⟨_, rfl⟩
        have p7 : w7.drew.cell? ⟨P, 7, none⟩ = some (.int .i64 (zt : Int)) := cell_of_row w7 P 7 _ _ _ a1
        have p8 : w7.drew.cell? ⟨P, 8, none⟩ = some (.slice fa zk fc) := by rw [← hzk]; exact cell_of_row w7 P 8 _ _ _ a1
        have hdec : decide ((zt : Int) ≤ 5000) = decide (zt ≤ 5000) := decide_eq_decide.2 (by omega)
        have HF : Hid (w7.drew.ownsRow w.heap.size 42 1 (.slice fa zm.length fc) zm.length vals ∧ FndV w.heap.size l w7.drew zm vals ∧ Below w.heap.size w w7.drew) := ⟨a2, a3, a4.drew⟩
        have HZk := Lib.hid hzk
        clear a1 a2 a3 a4 a5 hzk
        go_wp2_with fail
        go_region
        go_wp2_with fail
        go_ret2
        exact ⟨fa, fc, vals, by show _ = Ending.returned (.tuple #[.slice fa zm.length fc, .bool (decide (zt ≤ 5000))]); rw [HZk.out, ← hdec]; rfl, HF.out.1, HF.out.2.1, HF.out.2.2⟩
      | some c2 =>
        obtain ⟨⟨r1, r2⟩, r3⟩ := HKp.out c2 HCv.out
        have hnl : hn = l := by rw [HN7.out]; exact lstP_len l c2
        subst hnl
        have HO8 : Hid (w7.ownsRow w.heap.size 3 1 (.slice ha hn hd) hn ((lstP hn c2).map (Value.int .i64))) := HO7.out
        obtain ⟨hg, hcap, hsl⟩ : ∃ hg cap, Value.slice ha hn hd = .slice (some ⟨hg, 0, none⟩) hn cap := by
          obtain ⟨l1, hl1⟩ : ∃ l1, hn = l1 + 1 := ⟨hn - 1, by omega⟩
          have h := HO8.out
          rw [hl1] at h ⊢
          exact ownsRow_succ h
        injection hsl with e1 e2 e3
        subst e1 e3
        clear e2
        have HIn := Lib.hid (intoG_any w.heap.size hg hd hn (zb : Int) c2 w7 HO8.out hl8 r1 r2)
        have hop : opens c2 8 < 9 := by have := opens_max c2 8; omega
        have HIH := Lib.hid (fun (V : World) (hV : Below w7.heap.size w7 V) => HWk.out 9 c2 (0, []) V hg hd hop r1 r2 HAl.out (HS7.out.below hV) (HO8.out.kept (grown_of_below hV none) (own_em _)))
        unfold WkRes at HIH
        obtain ⟨ob, hob⟩ : ∃ ob, oneB c2 8 = ob := ⟨_, rfl⟩
        rw [hob] at HIn
        have HOb := Lib.hid hob
        clear r1 r2 r3 hop hob HN7 HO7
        cases into with
        | false =>
          have HE : Hid (walkS hn zb fs gs (leadB false) (wantB hn zb onto) most 9 c2 (0, []) = rs) := by
            unfold Hid; rw [← HRs.out, tryS_yes HCv.out (by simp [leadB])]
          rw [HE.out] at HIH
          obtain ⟨zt, zm⟩ := rs
          clear HRs HE
          go_wp2_with fail
          refine (HIH.out _ (Below.refl _ _)).mono ?_
          rintro e w9 ⟨rfl, r9, t9⟩
          have HS9 := Lib.hid r9
          clear r9 t9
          obtain ⟨fa, fc, vals, a1, a2, a3, a4, a5⟩ := HS9.out
          obtain ⟨zk, hzk⟩ : ∃ zk, zm.length = zk := ⟨_, rfl⟩
          have p7 : w9.drew.cell? ⟨P, 7, none⟩ = some (.int .i64 (zt : Int)) := cell_of_row w9 P 7 _ _ _ a1
          have p8 : w9.drew.cell? ⟨P, 8, none⟩ = some (.slice fa zk fc) := by rw [← hzk]; exact cell_of_row w9 P 8 _ _ _ a1
          have hdec : decide ((zt : Int) ≤ 5000) = decide (zt ≤ 5000) := decide_eq_decide.2 (by omega)
          have HF : Hid (w9.drew.ownsRow w.heap.size 42 1 (.slice fa zm.length fc) zm.length vals ∧ FndV w.heap.size hn w9.drew zm vals ∧ Below w.heap.size w w9.drew) := ⟨a2, a3, a4.drew⟩
          have HZk := Lib.hid hzk
          clear a1 a2 a3 a4 a5 hzk
          go_wp2_with fail
          go_region
          go_wp2_with fail
          go_ret2
          exact ⟨fa, fc, vals, by show _ = Ending.returned (.tuple #[.slice fa zm.length fc, .bool (decide (zt ≤ 5000))]); rw [HZk.out, ← hdec]; rfl, HF.out.1, HF.out.2.1, HF.out.2.2⟩
        | true =>
          cases ob with
          | true =>
            have HE : Hid (walkS hn zb fs gs (leadB true) (wantB hn zb onto) most 9 c2 (0, []) = rs) := by
              unfold Hid; rw [← HRs.out, tryS_yes HCv.out (by simp [leadB, HOb.out])]
            rw [HE.out] at HIH
            obtain ⟨zt, zm⟩ := rs
            clear HRs HE
            go_wp2_with fail
            refine HIn.out.mono ?_
            rintro e w8 ⟨rfl, b8⟩
            have HB8 := Lib.hid b8
            clear b8
            go_wp2_with fail
            refine (HIH.out _ HB8.out).mono ?_
            rintro e w9 ⟨rfl, r9, t9⟩
            have HS9 := Lib.hid r9
            clear r9 t9
            obtain ⟨fa, fc, vals, a1, a2, a3, a4, a5⟩ := HS9.out
            obtain ⟨zk, hzk⟩ : ∃ zk, zm.length = zk := ⟨_, rfl⟩
            have p7 : w9.drew.cell? ⟨P, 7, none⟩ = some (.int .i64 (zt : Int)) := cell_of_row w9 P 7 _ _ _ a1
            have p8 : w9.drew.cell? ⟨P, 8, none⟩ = some (.slice fa zk fc) := by rw [← hzk]; exact cell_of_row w9 P 8 _ _ _ a1
            have hdec : decide ((zt : Int) ≤ 5000) = decide (zt ≤ 5000) := decide_eq_decide.2 (by omega)
            have HF : Hid (w9.drew.ownsRow w.heap.size 42 1 (.slice fa zm.length fc) zm.length vals ∧ FndV w.heap.size hn w9.drew zm vals ∧ Below w.heap.size w w9.drew) := ⟨a2, a3, a4.drew⟩
            have HZk := Lib.hid hzk
            clear a1 a2 a3 a4 a5 hzk
            go_wp2_with fail
            go_region
            go_wp2_with fail
            go_ret2
            exact ⟨fa, fc, vals, by show _ = Ending.returned (.tuple #[.slice fa zm.length fc, .bool (decide (zt ≤ 5000))]); rw [HZk.out, ← hdec]; rfl, HF.out.1, HF.out.2.1, HF.out.2.2⟩
          | false =>
            obtain ⟨zt, zm⟩ := rs
            have HE : Hid (((0, []) : St) = (zt, zm)) := by unfold Hid; rw [← HRs.out, tryS_no HCv.out (by simp [leadB, HOb.out])]
            clear HRs
            go_wp2_with fail
            refine HIn.out.mono ?_
            rintro e w8 ⟨rfl, b8⟩
            have HS8 : Hid (SpW hn zb ao bo c n d m w w.heap.size P true onto most w8 (zt, zm)) := by unfold Hid; rw [← HE.out]; exact HS7.out.below b8
            clear b8 HE
            obtain ⟨fa, fc, vals, a1, a2, a3, a4, a5⟩ := HS8.out
            obtain ⟨zk, hzk⟩ : ∃ zk, zm.length = zk := ⟨_, rfl⟩
            have p7 : w8.drew.cell? ⟨P, 7, none⟩ = some (.int .i64 (zt : Int)) := cell_of_row w8 P 7 _ _ _ a1
            have p8 : w8.drew.cell? ⟨P, 8, none⟩ = some (.slice fa zk fc) := by rw [← hzk]; exact cell_of_row w8 P 8 _ _ _ a1
            have hdec : decide ((zt : Int) ≤ 5000) = decide (zt ≤ 5000) := decide_eq_decide.2 (by omega)
            have HF : Hid (w8.drew.ownsRow w.heap.size 42 1 (.slice fa zm.length fc) zm.length vals ∧ FndV w.heap.size hn w8.drew zm vals ∧ Below w.heap.size w w8.drew) := ⟨a2, a3, a4.drew⟩
            have HZk := Lib.hid hzk
            clear a1 a2 a3 a4 a5 hzk
            go_wp2_with fail
            go_region
            go_wp2_with fail
            go_ret2
            exact ⟨fa, fc, vals, by show _ = Ending.returned (.tuple #[.slice fa zm.length fc, .bool (decide (zt ≤ 5000))]); rw [HZk.out, ← hdec]; rfl, HF.out.1, HF.out.2.1, HF.out.2.2⟩

end Go.Proofs.Ytmlimbjpehjfnaa
