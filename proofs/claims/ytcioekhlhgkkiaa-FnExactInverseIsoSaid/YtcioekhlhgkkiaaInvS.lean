/-
  Contracts: spec.InverseIso and impl.InverseIso. Conditions: the bounds that each theorem names.
-/
import Derived.Test.YtcioekhlhgkkiaaKerS
import Derived.Test.YtcioekhlhgkkiaaKerI
namespace Go.Proofs.Ytcioekhlhgkkiaa
open Go.RowKit
set_option linter.unusedVariables false
set_option linter.unusedSimpArgs false

theorem make_zeros (w : World) (n : Nat) (hn : n ≤ 1048576) : ∃ w', (Instr.makeSlice 25 (.int .i64 (n : Int)) (.int .i64 (n : Int))).run Try.prog w = .ok (.slice (some ⟨w.heap.size, 0, none⟩) n n) w' ∧
    w'.ownsRow w.heap.size 3 1 (.slice (some ⟨w.heap.size, 0, none⟩) n n) n ((List.replicate n (0 : Int)).map (Value.int .i64)) ∧ Below w.heap.size w w' := by
  obtain ⟨i0, hi0, hz0, hz1, hz2⟩ := info_parts Try.infoInt
  obtain ⟨w', hrun, r1, r2⟩ := run_make_full (P := Try.prog) w w.heap.size 25 3 i0 _ 1 Try.underlying25 hi0 hz0 hz1 .i64 .i64 n (by rw [hz2]; omega) (by unfold maxLen; omega) (Nat.le_refl _)
  refine ⟨w', hrun, ?_, (Below.refl _ _).grown r2 (Nat.le_refl _) (by intro k hk; cases hk)⟩
  rw [show (Value.int .i64 0).cells = #[Value.int .i64 0] from rfl, Nat.mul_one, toList_madeCells_one] at r1
  rw [List.map_replicate]
  exact r1
theorem invB_no1 {z z1 : Int} {fs gs : List OpD} (xs : List Int) (h : sameH z z1 fs gs = false) : invB z z1 fs gs xs = false := by rw [invB, homB_no (mapB_no xs h)]; rfl
theorem invB_no2 {z z1 : Int} {fs gs : List OpD} {xs : List Int} (h : ¬ z = z1) : invB z z1 fs gs xs = false := by
  unfold invB
  cases hb : homB z z1 fs gs xs with
  | false => rfl
  | true =>
    obtain ⟨_, h2, _⟩ := mapB_of (homB_of hb).1
    have : ¬ (xs.length : Int) = z1 := by omega
    rw [permB_len this]; rfl
theorem invB_no3 {z z1 : Int} {fs gs : List OpD} {xs : List Int} (h : homB z z1 fs gs xs = false) : invB z z1 fs gs xs = false := by rw [invB, h]; rfl
theorem invB_yes {z : Int} {fs gs : List OpD} {xs : List Int} (h : homB z z fs gs xs = true) : invB z z fs gs xs = decide xs.Nodup := by
  obtain ⟨_, h2, h3⟩ := mapB_of (homB_of h).1
  rw [invB, h, permB, decide_eq_true h2, h3]; rfl

theorem implInverseIsoW (lo hi : Nat) (z : Int) (ao : Option Addr) (c n : Nat) (fs : List OpD) (lo2 hi2 : Nat) (z1 : Int) (bo : Option Addr) (d m : Nat) (gs : List OpD) (lo3 hi3 : Nat) (co : Option Addr) (e_ l : Nat) (xs : List Int) (w : World) (hv : OView w lo hi ao n fs) (hhi : hi ≤ w.heap.size) (hs : ∀ (j : Nat) (f : OpD), fs[j]? = some f → f.2.length ≤ maxLen) (hu : OView w lo2 hi2 bo m gs) (hhi2 : hi2 ≤ w.heap.size) (hs2 : ∀ (j : Nat) (f : OpD), gs[j]? = some f → f.2.length ≤ maxLen) (hx : IView w lo3 hi3 co l xs) (hhi3 : hi3 ≤ w.heap.size) (hle : l ≤ e_) (hm_ : e_ ≤ maxLen) (hq_ : ∀ x, x ∈ xs → (Lit.int .i64 x).wf = true) :
    Calls Try.prog 32 #[.agg #[.int .i64 z, .slice ao n c], .agg #[.int .i64 z1, .slice bo m d], .slice co l e_] w fun en w' => ResL w w' (valInverseIso z fs z1 gs xs).1 (valInverseIso z fs z1 gs xs).2 en :=
  implInverseIso lo hi z ao c n fs lo2 hi2 z1 bo d m gs lo3 hi3 co e_ l xs w hv hhi hs hu hhi2 hs2 hx hhi3 (Nat.le_trans hle hm_)

set_option maxHeartbeats 2000000 in
theorem specInverseIsoW (lo hi : Nat) (z : Int) (ao : Option Addr) (c n : Nat) (fs : List OpD) (lo2 hi2 : Nat) (z1 : Int) (bo : Option Addr) (d m : Nat) (gs : List OpD) (lo3 hi3 : Nat) (co : Option Addr) (e_ l : Nat) (xs : List Int) (w : World) (hv : OView w lo hi ao n fs) (hhi : hi ≤ w.heap.size) (hs : ∀ (j : Nat) (f : OpD), fs[j]? = some f → f.2.length ≤ maxLen) (hu : OView w lo2 hi2 bo m gs) (hhi2 : hi2 ≤ w.heap.size) (hs2 : ∀ (j : Nat) (f : OpD), gs[j]? = some f → f.2.length ≤ maxLen) (hx : IView w lo3 hi3 co l xs) (hhi3 : hi3 ≤ w.heap.size) (hle : l ≤ e_) (hm_ : e_ ≤ maxLen) (hq_ : ∀ x, x ∈ xs → (Lit.int .i64 x).wf = true) :
    Calls Try.prog 31 #[.agg #[.int .i64 z, .slice ao n c], .agg #[.int .i64 z1, .slice bo m d], .slice co l e_] w fun en w' => ResL w w' (valInverseIso z fs z1 gs xs).1 (valInverseIso z fs z1 gs xs).2 en := by
  have hl : l ≤ maxLen := Nat.le_trans hle hm_
  unfold valInverseIso
  obtain ⟨w1, hw1, hbx, hsz⟩ := bx2_new w z ao n c z1 bo m d 31
  have HBx := Lib.hid hbx
  have hT := fun (W : World) (hW : Bx2 w W z ao n c z1 bo m d) => two_spec lo hi lo2 hi2 z z1 ao bo c n d m fs gs W (hv.kept (Kept.of_below hW.bel hhi)) (Nat.le_trans hhi hW.bel.size) hs (hu.kept (Kept.of_below hW.bel hhi2)) (Nat.le_trans hhi2 hW.bel.size) hs2
  have hlx := hx.1
  obtain ⟨cz, ca, cz1, ca1, cB⟩ := hbx
  obtain ⟨t, ht⟩ : ∃ t, sameH z z1 fs gs = t := ⟨_, rfl⟩
  rw [ht] at hT
  have HT := Lib.hid hT
  clear hT cB
  cases t with
  | false =>
    rw [if_neg (by rw [invB_no1 xs ht]; simp)]
    clear hv hu hx hs hs2 ht hlx
    unfold ResL
    go_enter Try.func31, Try.ntmps31
    go_wp2_with fail
    rw [← hw1]
    clear hw1
    go_wp2_with fail
    refine (HT.out _ HBx.out).mono ?_
    rintro e w2 ⟨rfl, b2⟩
    have HBx2 := Lib.hid (HBx.out.below b2)
    clear b2 cz ca cz1 ca1
    have HOn : Hid ((w2.alloc (.cells #[] 3)).ownsRow w.heap.size 3 1 (.slice (some ⟨w2.heap.size, 0, none⟩) 0 0) 0 (([] : List Int).map (Value.int .i64))) := World.ownsRow_lit (base := w.heap.size) (e := 3) (size := 1) w2 #[] 0 HBx2.out.bel.size (by decide) rfl
    go_wp2_with fail
    go_ret2
    exact ⟨_, _, _, rfl, rfl, OwnsInts.of_row HOn.out, HBx2.out.bel.trans ((below_alloc w2 _).mono HBx2.out.bel.size)⟩
  | true =>
    have hI := fun (W : World) (hW : Bx2 w W z ao n c z1 bo m d) => is_spec lo hi z ao c n fs lo2 hi2 z1 bo d m gs lo3 hi3 co e_ l xs W (hv.kept (Kept.of_below hW.bel hhi)) (Nat.le_trans hhi hW.bel.size) hs (hu.kept (Kept.of_below hW.bel hhi2)) (Nat.le_trans hhi2 hW.bel.size) hs2 (hx.kept (Kept.of_below hW.bel hhi3)) (Nat.le_trans hhi3 hW.bel.size) hl ht
    by_cases hzz : z = z1
    · subst hzz
      have hne : (z != z) = false := by simp
      obtain ⟨r, hr⟩ : ∃ r, homB z z fs gs xs = r := ⟨_, rfl⟩
      rw [hr] at hI
      have HI := Lib.hid hI
      clear hI
      cases r with
      | false =>
        rw [if_neg (by rw [invB_no3 hr]; simp)]
        clear hv hu hx hs hs2 ht hlx hr
        unfold ResL
        go_enter Try.func31, Try.ntmps31
        go_wp2_with fail
        rw [← hw1]
        clear hw1
        go_wp2_with fail
        refine (HT.out _ HBx.out).mono ?_
        rintro e w2 ⟨rfl, b2⟩
        have HBx2 := Lib.hid (HBx.out.below b2)
        clear cz ca cz1 ca1
        obtain ⟨cz, ca, cz1, ca1, cB⟩ := HBx2.out
        clear b2 cB
        go_wp2_with fail
        refine (HI.out _ HBx2.out).mono ?_
        rintro e w3 ⟨rfl, b3⟩
        have HBx3 := Lib.hid (HBx2.out.below b3)
        clear b3 cz ca cz1 ca1
        have HOn : Hid ((w3.alloc (.cells #[] 3)).ownsRow w.heap.size 3 1 (.slice (some ⟨w3.heap.size, 0, none⟩) 0 0) 0 (([] : List Int).map (Value.int .i64))) := World.ownsRow_lit (base := w.heap.size) (e := 3) (size := 1) w3 #[] 0 HBx3.out.bel.size (by decide) rfl
        go_wp2_with fail
        go_ret2
        exact ⟨_, _, _, rfl, rfl, OwnsInts.of_row HOn.out, HBx3.out.bel.trans ((below_alloc w3 _).mono HBx3.out.bel.size)⟩
      | true =>
        obtain ⟨q0, _⟩ := homB_of hr
        obtain ⟨q1, q2, q3⟩ := mapB_of q0
        obtain ⟨⟨h1, h2⟩, _⟩ := algOkB_of (sameH_of q1).1
        have hN := fun (W : World) (hW : Bx2 w W z ao n c z bo m d) => into_spec lo3 hi3 z co e_ l xs W (hx.kept (Kept.of_below hW.bel hhi3)) (Nat.le_trans hhi3 hW.bel.size) hle hm_ q3
        rw [invB_yes hr]
        obtain ⟨u, hu_⟩ : ∃ u, decide xs.Nodup = u := ⟨_, rfl⟩
        rw [hu_] at hN ⊢
        have HN := Lib.hid hN
        clear hN
        cases u with
        | false =>
          rw [if_neg (by simp)]
          clear hv hu hx hs hs2 ht hlx hr q0 q1 q2 q3 hu_
          unfold ResL
          go_enter Try.func31, Try.ntmps31
          go_wp2_with fail
          rw [← hw1]
          clear hw1
          go_wp2_with fail
          refine (HT.out _ HBx.out).mono ?_
          rintro e w2 ⟨rfl, b2⟩
          have HBx2 := Lib.hid (HBx.out.below b2)
          clear cz ca cz1 ca1
          obtain ⟨cz, ca, cz1, ca1, cB⟩ := HBx2.out
          clear b2 cB
          go_wp2_with fail
          refine (HI.out _ HBx2.out).mono ?_
          rintro e w3 ⟨rfl, b3⟩
          have HBx3 := Lib.hid (HBx2.out.below b3)
          clear cz ca cz1 ca1
          obtain ⟨cz, ca, cz1, ca1, cB⟩ := HBx3.out
          clear b3 cB
          go_wp2_with fail
          refine (HN.out _ HBx3.out).mono ?_
          rintro e w4 ⟨rfl, b4⟩
          have HBx4 := Lib.hid (HBx3.out.below b4)
          clear b4 cz ca cz1 ca1
          have HOn : Hid ((w4.alloc (.cells #[] 3)).ownsRow w.heap.size 3 1 (.slice (some ⟨w4.heap.size, 0, none⟩) 0 0) 0 (([] : List Int).map (Value.int .i64))) := World.ownsRow_lit (base := w.heap.size) (e := 3) (size := 1) w4 #[] 0 HBx4.out.bel.size (by decide) rfl
          go_wp2_with fail
          go_ret2
          exact ⟨_, _, _, rfl, rfl, OwnsInts.of_row HOn.out, HBx4.out.bel.trans ((below_alloc w4 _).mono HBx4.out.bel.size)⟩
        | true =>
          rw [if_pos rfl]
          obtain rfl : z = (l : Int) := by omega
          obtain ⟨b, o, rfl, _, hbh, hc⟩ := hx.at_ (show 0 < l by omega)
          have HC := Lib.hid hc
          have hbw : b < w.heap.size := by omega
          have HIn := Lib.hid q3
          have HLx := Lib.hid hlx
          have HPm : Hid (permB (xs.length : Int) xs = true) := permB_yes rfl (by rw [hlx]; exact q3) (of_decide_eq_true hu_)
          clear hv hu hx hs hs2 ht hlx hr q0 q1 q2 q3 hu_ hc
          unfold ResL
          go_enter Try.func31, Try.ntmps31
          go_wp2_with fail
          rw [← hw1]
          clear hw1
          go_wp2_with fail
          refine (HT.out _ HBx.out).mono ?_
          rintro e w2 ⟨rfl, b2⟩
          have HBx2 := Lib.hid (HBx.out.below b2)
          clear cz ca cz1 ca1
          obtain ⟨cz, ca, cz1, ca1, cB⟩ := HBx2.out
          clear b2 cB
          go_wp2_with fail
          refine (HI.out _ HBx2.out).mono ?_
          rintro e w3 ⟨rfl, b3⟩
          have HBx3 := Lib.hid (HBx2.out.below b3)
          clear cz ca cz1 ca1
          obtain ⟨cz, ca, cz1, ca1, cB⟩ := HBx3.out
          clear b3 cB
          go_wp2_with fail
          refine (HN.out _ HBx3.out).mono ?_
          rintro e w4 ⟨rfl, b4⟩
          have HBx4 := Lib.hid (HBx3.out.below b4)
          clear b4 cz ca cz1 ca1
          obtain ⟨w5, hmk, ho5, hb5⟩ := make_zeros w4 l (by omega)
          obtain ⟨g, hg⟩ : ∃ g, g = w4.heap.size := ⟨_, rfl⟩
          have hgw : w.heap.size ≤ g := by rw [hg]; exact HBx4.out.bel.size
          have HB5 := Lib.hid (HBx4.out.bel.trans (hb5.mono HBx4.out.bel.size))
          rw [← hg] at hmk ho5
          have HO5 : Hid (w5.ownsRow w.heap.size 3 1 (.slice (some ⟨g, 0, none⟩) l l) l ((invK xs (List.replicate l 0) 0).map (Value.int .i64))) := ownsRow_base ho5 hgw
          clear ho5 hb5 hg
          go_wp2_with fail
          go_loopw [9] (fun i wr => ∃ k : Nat, k ≤ l ∧ i = .int .i64 (k : Int) ∧ Hid (wr.ownsRow w.heap.size 3 1 (.slice (some ⟨g, 0, none⟩) l l) l ((invK xs (List.replicate l 0) k).map (Value.int .i64))) ∧ Hid (Below w.heap.size w wr)) (fun i _ => l - (intOf i).toNat)
          case atStart => exact ⟨0, Nat.zero_le _, rfl, HO5, HB5⟩
          case round =>
            obtain ⟨k, hk, rfl, HR, HB⟩ := hrel
            by_cases hlt : k < l
            · have hkl : (k : Int) < (l : Int) := by omega
              obtain ⟨y, hy⟩ := get_of_lt HLx.out hlt
              obtain ⟨y0, y1⟩ := allIn_get HIn.out hy
              obtain ⟨yn, rfl⟩ : ∃ yn : Nat, y = (yn : Int) := ⟨y.toNat, by omega⟩
              have e1 : wr.cell? ⟨b, o + k, none⟩ = some (.int .i64 (yn : Int)) := (HB.out.cell (p := ⟨b, o + k, none⟩) hbw).trans (HC.out k _ hy)
              have hyl : yn < l := by omega
              have hyl' : (yn : Int) < (l : Int) := by omega
              obtain ⟨u, hu⟩ : ∃ u, wr.cell? ⟨g, yn, none⟩ = some u := by
                have h_ := HR.out.cellAt yn (by omega)
                rw [h_]
                exact ⟨_, List.getElem?_eq_getElem (by rw [List.length_map, invK_len, List.length_replicate]; omega)⟩
              have hfr : wr.frozen? ⟨g, yn, none⟩ = false := HR.out.frozenAt yn
              have hst := (HR.out.stored yn (.int .i64 (k : Int))).1
              rw [invK_set hy] at hst
              have HST := Lib.hid hst
              have HBn := Lib.hid (HB.out.setCell (p := ⟨g, yn, none⟩) (by show w.heap.size ≤ g; exact hgw) (.int .i64 (k : Int)))
              clear hy hst y0 y1
              go_wp2_with fail
              go_roundw
              case rel => exact ⟨k + 1, by omega, by go_num, HST, HBn⟩
              case measure => simp [intOf]; omega
            · have hkl : ¬ (k : Int) < (l : Int) := by omega
              obtain rfl : k = l := by omega
              have HE : Hid (invK xs (List.replicate k 0) k = invK xs xs xs.length) := by
                unfold Hid
                have h := invK_all (l := List.replicate k 0) (l' := xs) HPm.out (by rw [List.length_replicate]; exact HLx.out.symm) rfl
                rw [← h, HLx.out]
              have HR2 : Hid (wr.ownsRow w.heap.size 3 1 (.slice (some ⟨g, 0, none⟩) k k) k ((invK xs xs xs.length).map (Value.int .i64))) := by have h := HR.out; rw [HE.out] at h; exact h
              go_wp2_with fail
              go_ret2
              exact ⟨some ⟨g, 0, none⟩, k, k, rfl, by rw [invK_len]; exact HLx.out.symm, OwnsInts.of_row HR2.out, HB.out⟩
    · have hne : (z != z1) = true := by simp [hzz]
      rw [if_neg (by rw [invB_no2 hzz]; simp)]
      clear hv hu hx hs hs2 ht hlx hI hzz
      unfold ResL
      go_enter Try.func31, Try.ntmps31
      go_wp2_with fail
      rw [← hw1]
      clear hw1
      go_wp2_with fail
      refine (HT.out _ HBx.out).mono ?_
      rintro e w2 ⟨rfl, b2⟩
      have HBx2 := Lib.hid (HBx.out.below b2)
      clear cz ca cz1 ca1
      obtain ⟨cz, ca, cz1, ca1, cB⟩ := HBx2.out
      clear b2 cB
      have HOn : Hid ((w2.alloc (.cells #[] 3)).ownsRow w.heap.size 3 1 (.slice (some ⟨w2.heap.size, 0, none⟩) 0 0) 0 (([] : List Int).map (Value.int .i64))) := World.ownsRow_lit (base := w.heap.size) (e := 3) (size := 1) w2 #[] 0 HBx2.out.bel.size (by decide) rfl
      go_wp2_with fail
      go_ret2
      exact ⟨_, _, _, rfl, rfl, OwnsInts.of_row HOn.out, HBx2.out.bel.trans ((below_alloc w2 _).mono HBx2.out.bel.size)⟩

end Go.Proofs.Ytcioekhlhgkkiaa
