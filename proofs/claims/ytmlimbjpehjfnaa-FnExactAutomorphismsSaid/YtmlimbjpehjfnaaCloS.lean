/-
  Contract: spec.l7Close. Conditions: the bounds that it names.
-/
import Derived.Test.YtmlimbjpehjfnaaCloI
import Derived.Test.YtmlimbjpehjfnaaHmS
import Derived.Test.YtmlimbjpehjfnaaHasL
import Derived.Test.YtmlimbjpehjfnaaClone
import Derived.Deep.RegionHeld3
namespace Go.Proofs.Ytmlimbjpehjfnaa
open Go.RowKit
set_option linter.unusedVariables false
set_option linter.unusedSimpArgs false

theorem lstP_set {l x : Nat} (hx : x < l) (f : Nat → Int) (y : Int) : ((lstP l f).map (Value.int .i64)).set x (.int .i64 y) = (lstP l (put8 f x y)).map (Value.int .i64) := by
  rw [← List.map_set]
  congr 1
  apply List.ext_getElem?
  intro i
  rw [List.getElem?_set]
  by_cases hi : i < l
  · rw [lstP_get _ hi, lstP_get _ hi]
    by_cases h : x = i
    · subst h; rw [if_pos rfl, if_pos (by rw [lstP_len]; exact hx), put8_same]
    · rw [if_neg h, put8_other (fun e => h e.symm)]
  · rw [if_neg (by omega), List.getElem?_eq_none (by rw [lstP_len]; omega), List.getElem?_eq_none (by rw [lstP_len]; omega)]
theorem img_lst {l : Nat} {f : Nat → Int} {args : List Int} (ha : allIn (l : Int) args = true) : imgF (arrL (lstP l f)) args = imgF f args := by
  unfold imgF
  refine List.map_congr_left fun x hx => ?_
  have h1 : 0 ≤ x ∧ x < (l : Int) := of_decide_eq_true (List.all_eq_true.1 ha x hx)
  exact arrL_get (lstP_get f (by omega))
theorem open_mem (ys : List Int) : decide ((-1 : Int) ∈ ys) = openB ys := by
  unfold openB
  rw [Bool.eq_iff_iff, decide_eq_true_eq, List.any_eq_true]
  exact ⟨fun h => ⟨-1, h, by simp⟩, fun ⟨x, hx, h⟩ => by have := of_decide_eq_true h; subst this; exact hx⟩
theorem eqA_refl (f : Nat → Int) : eqA f f = true := eqA_iff.2 fun _ _ => rfl
theorem eqA_no {f g : Nat → Int} {k : Nat} (hk : k < 8) (h : ¬ f k = g k) : eqA f g = false := by
  rw [← Bool.not_eq_true]; exact fun e => h (eqA_iff.1 e k hk)
/-- The closed list. -/
def cloL (l : Nat) (o : Option (Nat → Int)) : List Int := match o with
  | some g => lstP l g
  | none => []
/-- What a round hands on: either all is closed, or more rounds tell. -/
def Closing (z z1 : Int) (fs gs : List OpD) (rs : Option (Nat → Int)) (g : Nat) (cur : Nat → Int) (ch : Bool) : Prop :=
  (ch = true → closF z z1 fs gs g cur = rs ∧ opens cur 8 < g) ∧ (ch = false → rs = some cur)

set_option maxRecDepth 100000 in
set_option maxHeartbeats 8000000 in
theorem close_spec (lo hi lo2 hi2 lo3 hi3 : Nat) (z z1 : Int) (ao bo co : Option Addr) (c n d m e_ l : Nat) (fs gs : List OpD) (xs : List Int) (w : World) (hv : OView w lo hi ao n fs) (hhi : hi ≤ w.heap.size) (hu : OView w lo2 hi2 bo m gs) (hhi2 : hi2 ≤ w.heap.size) (hx : IView w lo3 hi3 co l xs) (hhi3 : hi3 ≤ w.heap.size)
    (hok : algOkB z fs = true) (hok2 : algOkB z1 gs = true) (ht : typeV fs = typeV gs) (hlz : (l : Int) = z) (hpin : pinB z1 xs = true) :
    Calls Try.prog 62 #[.agg #[.int .i64 z, .slice ao n c], .agg #[.int .i64 z1, .slice bo m d], .slice co l e_] w fun en w' => ResL w w' (cloL l (closV z z1 fs gs (arrL xs))) (closV z z1 fs gs (arrL xs)).isSome en := by
  obtain ⟨⟨h1, h2⟩, hn4, hall⟩ := algOkB_of hok
  obtain ⟨⟨k1, k2⟩, hm4, hall2⟩ := algOkB_of hok2
  obtain ⟨w1, hw1, hbx, hsz⟩ := bx2_new w z ao n c z1 bo m d 31
  have hxl := hx.1
  have hl8 : l ≤ 8 := by omega
  have HOw := Lib.hid (own_ints lo3 hi3 co l e_ xs w1 (hx.kept (Kept.of_below hbx.bel hhi3)) (by omega) (by omega))
  have HLs : Hid (lstP l (arrL xs) = xs) := by
    unfold Hid; subst hxl
    apply List.ext_getElem?
    intro k
    by_cases h : k < xs.length
    · rw [lstP_get _ h, arrL_get (List.getElem?_eq_getElem h), List.getElem?_eq_getElem h]
    · rw [List.getElem?_eq_none (by rw [lstP_len]; omega), List.getElem?_eq_none (by omega)]
  have HP0 : Hid (Part z z1 (arrL xs) ∧ ∀ k : Nat, z ≤ (k : Int) → arrL xs k = -1) := ⟨pinB_part hpin, fun k hk => arrL_out (by omega)⟩
  have HBx := Lib.hid hbx
  obtain ⟨cz, ca, cz1, ca1, cB⟩ := hbx
  have HV := Lib.hid hv
  have HU := Lib.hid hu
  have HAll := Lib.hid hall
  have HAll2 := Lib.hid hall2
  have HOk2 := Lib.hid hok2
  have HTy := Lib.hid ht
  have hl := hv.1
  rw [hl] at hn4
  have HL := Lib.hid hl
  have HLz := Lib.hid hlz
  obtain ⟨rs, hrs⟩ : ∃ rs, closV z z1 fs gs (arrL xs) = rs := ⟨_, rfl⟩
  have HV0 : Hid (Closing z z1 fs gs rs 9 (arrL xs) true) := ⟨fun _ => ⟨hrs, by have := opens_max (arrL xs) 8; omega⟩, fun h => by cases h⟩
  rw [hrs]
  have HSz := Lib.hid hsz
  clear hv hu hx hok hok2 ht hpin hall hall2 hl hxl cB hlz hrs
  unfold NewInts at HOw
  unfold ResL
  go_enter Try.func62, Try.ntmps62
  go_wp2_with fail
  rw [← hw1]
  clear hw1 hsz
  go_wp2_with fail
  refine HOw.out.mono ?_
  rintro e w2 ⟨g, dd, rfl, ho, b2⟩
  have HBx2 := Lib.hid (HBx.out.below b2)
  have hgw : w.heap.size + 2 ≤ g := by have := (ho.lt g rfl).1; have := HSz.out; omega
  have HR2 : Hid (w2.ownsRow (w.heap.size + 2) 3 1 (.slice (some ⟨g, 0, none⟩) l dd) l ((lstP l (arrL xs)).map (Value.int .i64))) := by unfold Hid; rw [HLs.out]; exact ownsRow_base ho (by have := HSz.out; omega)
  clear b2 ho cz ca cz1 ca1 HOw
  go_wp2_with fail
  go_loopg [9] 9 (fun gh v wr => ∃ (cur : Nat → Int) (ch : Bool), v = .bool ch ∧ Hid (Closing z z1 fs gs rs gh cur ch) ∧ Hid (Bx2 w wr z ao n c z1 bo m d) ∧ Hid (wr.ownsRow (w.heap.size + 2) 3 1 (.slice (some ⟨g, 0, none⟩) l dd) l ((lstP l cur).map (Value.int .i64))) ∧ Hid (Part z z1 cur ∧ ∀ k : Nat, z ≤ (k : Int) → cur k = -1))
  case atStart => exact ⟨arrL xs, true, rfl, HV0, HBx2, HR2, HP0⟩
  case round =>
    obtain ⟨cur, ch, rfl, HG, HBr, HRr, HP⟩ := hrel
    cases ch with
    | false =>
      have HF : Hid (rs = some cur) := HG.out.2 rfl
      go_wp2_with fail
      go_ret2
      refine ⟨some ⟨g, 0, none⟩, l, dd, by rw [HF.out]; rfl, by rw [HF.out]; exact (lstP_len l cur).symm, ?_, HBr.out.bel⟩
      rw [HF.out]; exact OwnsInts.of_row (ownsRow_base HRr.out (by omega))
    | true =>
      obtain ⟨gj, rfl⟩ : ∃ gj, gk = gj + 1 := ⟨gk - 1, by have := (HG.out.1 rfl).2; omega⟩
      have HE0 : Hid (false = !eqA cur cur) := by unfold Hid; rw [eqA_refl]; rfl
      go_wp2_with fail
      go_loopw [9, 10] (fun v i wk => ∃ (k : Nat) (ck : Nat → Int) (ch : Bool), k ≤ n ∧ i = .int .i64 (k : Int) ∧ v = .bool ch ∧ Hid (ch = !eqA ck cur) ∧ Hid (stO z z1 fs gs k cur = some ck) ∧ Hid (Bx2 w wk z ao n c z1 bo m d) ∧ Hid (wk.ownsRow (w.heap.size + 2) 3 1 (.slice (some ⟨g, 0, none⟩) l dd) l ((lstP l ck).map (Value.int .i64))) ∧ Hid (Part z z1 ck ∧ ∀ k : Nat, z ≤ (k : Int) → ck k = -1)) (fun _ i _ => n - (intOf i).toNat)
      case atStart => exact ⟨0, cur, false, Nat.zero_le _, rfl, rfl, HE0, rfl, HBr, HRr, HP⟩
      case round =>
        rename World => wk
        obtain ⟨k, ck, ch, hk, rfl, rfl, HCh, HS, HBk, HRk, HPk⟩ := hrel
        obtain ⟨cz, ca, cz1, ca1, cB⟩ := HBk.out
        clear cB
        by_cases hlt : k < n
        · have hkn : (k : Int) < (n : Int) := by omega
          obtain ⟨F, hF⟩ := get_of_lt HL.out hlt
          obtain ⟨G, hG, hGF⟩ := same_op HTy.out hF
          obtain ⟨hm5, hf1, hf3⟩ := place_bd h1 h2 (HAll.out F (List.mem_of_getElem? hF))
          obtain ⟨r, hr⟩ : ∃ r, F.1.toNat = r := ⟨_, rfl⟩
          rw [hr] at hf1 hf3
          obtain ⟨b, o, rfl, _, hbh, hc⟩ := HV.out.at_ (by omega)
          obtain ⟨a, q, c1, c0, c01, _, _, hvt⟩ := hc k F hF
          have hml : F.2.length = q := hvt.1
          rw [hml] at hm5
          rw [hf1] at c0
          have HC0 := Lib.hid c0
          have HC1 := Lib.hid c01
          have HT := Lib.hid hvt
          have HFk := Lib.hid hF
          have HGk := Lib.hid hG
          have HGF := Lib.hid hGF
          have HR := Lib.hid hr
          have HML := Lib.hid hml
          have HEo : Hid (opAt fs k = F ∧ opAt gs k = G) := ⟨opAt_get hF, opAt_get hG⟩
          have hbw : b < w.heap.size := by omega
          clear hc c0 c01 hvt hF hG hGF hr hml hf1
          obtain ⟨wo, hwo⟩ : ∃ wo : World, wo = wk := ⟨_, rfl⟩
          rw [← hwo]
          rw [← hwo] at HBk HRk cz ca cz1 ca1
          clear hwo
          go_wp2_with fail
          go_loopw [9, 11] (fun v i wi => ∃ (j : Nat) (cj : Nat → Int) (ch : Bool), j ≤ q ∧ i = .int .i64 (j : Int) ∧ v = .bool ch ∧ Hid (ch = !eqA cj cur) ∧ Hid (stN z z1 F G j ck = some cj) ∧ Hid (Bx2 w wi z (some ⟨b, o, none⟩) n c z1 bo m d) ∧ Hid (wi.ownsRow (w.heap.size + 2) 3 1 (.slice (some ⟨g, 0, none⟩) l dd) l ((lstP l cj).map (Value.int .i64))) ∧ Hid (Part z z1 cj ∧ ∀ k : Nat, z ≤ (k : Int) → cj k = -1)) (fun _ i _ => q - (intOf i).toNat)
          case atStart => exact ⟨0, ck, ch, Nat.zero_le _, rfl, rfl, HCh, rfl, HBk, HRk, HPk⟩
          case round =>
            rename World => wi
            obtain ⟨j, cj, ch, hj, rfl, rfl, HCh, HSj, HBi, HRi, HPj⟩ := hrel
            clear cz ca cz1 ca1
            obtain ⟨y0, y1, y2, y3, yB⟩ := HBi.out
            clear yB
            have e0 : wi.cell? ⟨b, o + k * 2, none⟩ = some (.int .i64 (r : Int)) := (HBi.out.bel.cell (p := ⟨b, o + k * 2, none⟩) hbw).trans HC0.out
            have e1 : wi.cell? ⟨b, o + k * 2 + 1, none⟩ = some (.slice a q c1) := (HBi.out.bel.cell (p := ⟨b, o + k * 2 + 1, none⟩) hbw).trans HC1.out
            by_cases hjq : j < q
            · have hjq' : (j : Int) < (q : Int) := by omega
              obtain ⟨bt, ot, rfl, _, hbth, hct⟩ := HT.out.at_ (by omega)
              obtain ⟨x, hx⟩ := get_of_lt HT.out.1 hjq
              obtain ⟨x0, x1⟩ := allIn_get (opOkB_of (HAll.out F (List.mem_of_getElem? HFk.out))).2.2 hx
              obtain ⟨xn, rfl⟩ : ∃ xn : Nat, x = (xn : Int) := ⟨x.toNat, by omega⟩
              have hxl : xn < l := by have := HLz.out; omega
              have hxl' : (xn : Int) < (l : Int) := by omega
              have hbtw : bt < w.heap.size := by omega
              have HT0 := Lib.hid (hct j _ hx)
              have hdin := digs_in h1 r (j : Int)
              have hdl : allIn (l : Int) (digs z r (j : Int)) = true := by rw [HLz.out]; exact hdin
              have hG1 : (r : Int) = G.1 := by rw [HGF.out]; have := (place_bd h1 h2 (HAll.out F (List.mem_of_getElem? HFk.out))).2.1; rw [HR.out] at this; exact this.symm
              have HAr := Lib.hid (fun w => argsSpec_any z (j : Int) r hf3 w h1 h2 (by omega) (by omega))
              have HIm := Lib.hid (fun (W : World) (hW : Bx2 w W z (some ⟨b, o, none⟩) n c z1 bo m d) (hR : W.ownsRow (w.heap.size + 2) 3 1 (.slice (some ⟨g, 0, none⟩) l dd) l ((lstP l cj).map (Value.int .i64))) (hD : OwnsInts W w.heap.size W.heap.size (some ⟨wi.heap.size, 0, none⟩) r r (digs z r (j : Int))) => images_spec (w.heap.size + 2) W.heap.size w.heap.size W.heap.size (some ⟨g, 0, none⟩) (some ⟨wi.heap.size, 0, none⟩) dd l r r (lstP l cj) (digs z r (j : Int)) W (OwnsInts.of_row hR).view (Nat.le_refl _) hD.view (Nat.le_refl _) hdl (by omega))
              rw [img_lst hdl] at HIm
              obtain ⟨ys, hys⟩ : ∃ ys, imgF cj (digs z r (j : Int)) = ys := ⟨_, rfl⟩
              rw [hys] at HIm
              have hyl : ys.length = r := by rw [← hys, imgF_len, digs_len]
              have HHs := Lib.hid (fun (W : World) (ga : Option Addr) (gm gd : Nat) (lo4 hi4 : Nat) (hI : IView W lo4 hi4 ga gm ys) => l1Has_any lo4 hi4 ga gd gm ys (-1) W hI (by have := hI.1; unfold maxLen; omega))
              simp only [open_mem] at HHs
              have hval : F.2.getD j 0 = (xn : Int) := by rw [List.getD_eq_getElem?_getD, hx]; rfl
              obtain ⟨op, hop⟩ : ∃ op, openB ys = op := ⟨_, rfl⟩
              rw [hop] at HHs
              cases op with
              | true =>
                have HN : Hid (stN z z1 F G (j + 1) ck = some cj) := by unfold Hid; rw [stN, HSj.out, Option.bind_some, stF_open (by rw [HR.out, hys]; exact hop)]
                clear hct hx hdin hdl hG1 hys hyl hval hop x0 x1
                go_wp2_with fail
                refine wp_region_noPanic ?_
                refine wp_region_held_drew (S := fun W => W.cell? ⟨w.heap.size, 0, none⟩ = some (.int .i64 z) ∧ W.cell? ⟨w.heap.size, 1, none⟩ = some (.slice (some ⟨b, o, none⟩) n c) ∧ W.cell? ⟨b, o + k * 2, none⟩ = some (.int .i64 (r : Int))) (by kernel_rfl) ?_ (fun hHeld => ?_)
                · exact ⟨y0, y1, e0⟩
                refine wpAnyH_take (i := 0) (oi := ⟨_, _, _, _, _, _⟩) (v := ?_) rfl (by kernel_rfl) (by kernel_rfl) (by kernel_rfl) (fun _ _ _ h => h) (Or.inl ⟨rfl, ?_⟩) (by assumption) ?_
                rotate_left 1
                · intro w_ hSw; (try dsimp only at hSw); go_simp; (try with_reducible rfl)
                (try simp only [Act.put, List.setIfInBounds_toArray, List.set_cons_zero, List.set_cons_succ])
                refine wpAnyH_take (i := 1) (oi := ⟨_, _, _, _, _, _⟩) (v := ?_) rfl (by kernel_rfl) (by kernel_rfl) (by kernel_rfl) (fun _ _ _ h => h) (Or.inl ⟨rfl, ?_⟩) (by assumption) ?_
                rotate_left 1
                · intro w_ hSw; (try dsimp only at hSw); go_simp; (try with_reducible rfl)
                (try simp only [Act.put, List.setIfInBounds_toArray, List.set_cons_zero, List.set_cons_succ])
                refine wpAnyH_take (i := 2) (oi := ⟨_, _, _, _, _, _⟩) (v := ?_) rfl (by kernel_rfl) (by kernel_rfl) (by kernel_rfl) (fun _ _ _ h => h) (Or.inl ⟨rfl, ?_⟩) (by assumption) ?_
                rotate_left 1
                · intro w_ hSw; (try dsimp only at hSw); go_simp; (try with_reducible rfl)
                (try simp only [Act.put, List.setIfInBounds_toArray, List.set_cons_zero, List.set_cons_succ])
                refine wpAnyH_take (i := 3) (oi := ⟨_, _, _, _, _, _⟩) (v := ?_) rfl (by kernel_rfl) (by kernel_rfl) (by kernel_rfl) (fun _ _ _ h => h) (Or.inl ⟨rfl, ?_⟩) (by assumption) ?_
                rotate_left 1
                · intro w_ hSw; (try dsimp only at hSw); go_simp; (try with_reducible rfl)
                (try simp only [Act.put, List.setIfInBounds_toArray, List.set_cons_zero, List.set_cons_succ])
                refine wpAnyH_take (i := 4) (oi := ⟨_, _, _, _, _, _⟩) (v := ?_) rfl (by kernel_rfl) (by kernel_rfl) (by kernel_rfl) (fun _ _ _ h => h) (Or.inl ⟨rfl, ?_⟩) (by assumption) ?_
                rotate_left 1
                · intro w_ hSw; (try dsimp only at hSw); go_simp; (try with_reducible rfl)
                (try simp only [Act.put, List.setIfInBounds_toArray, List.set_cons_zero, List.set_cons_succ])
                refine wpAnyH_take (i := 5) (oi := ⟨_, _, _, _, _, _⟩) (v := ?_) rfl (by kernel_rfl) (by kernel_rfl) (by kernel_rfl) (fun _ _ _ h => h) (Or.inl ⟨rfl, ?_⟩) (by assumption) ?_
                rotate_left 1
                · intro w_ hSw; (try dsimp only at hSw); go_simp; (try with_reducible rfl)
                (try simp only [Act.put, List.setIfInBounds_toArray, List.set_cons_zero, List.set_cons_succ])
                refine wpAnyH_take (i := 6) (oi := ⟨_, _, _, _, _, _⟩) (v := ?_) rfl (by kernel_rfl) (by kernel_rfl) (by kernel_rfl) (fun _ _ _ h => h) (Or.inl ⟨rfl, ?_⟩) (by assumption) ?_
                rotate_left 1
                · intro w_ hSw; (try dsimp only at hSw); go_simp; (try with_reducible rfl)
                (try simp only [Act.put, List.setIfInBounds_toArray, List.set_cons_zero, List.set_cons_succ])
                refine wpAnyH_take (i := 7) (oi := ⟨_, _, _, _, _, _⟩) (v := ?_) rfl (by kernel_rfl) (by kernel_rfl) (by kernel_rfl) (fun _ _ _ h => h) (Or.inl ⟨rfl, ?_⟩) (by assumption) ?_
                rotate_left 1
                · intro w_ hSw; (try dsimp only at hSw); go_simp; (try with_reducible rfl)
                (try simp only [Act.put, List.setIfInBounds_toArray, List.set_cons_zero, List.set_cons_succ])
                refine wpAnyH_take (i := 8) (oi := ⟨_, _, _, _, _, _⟩) (v := ?_) rfl (by kernel_rfl) (by kernel_rfl) (by kernel_rfl) (fun _ _ _ h => h) (Or.inl ⟨rfl, ?_⟩) (by assumption) ?_
                rotate_left 1
                · intro w_ hSw; (try dsimp only at hSw); go_simp; (try with_reducible rfl)
                (try simp only [Act.put, List.setIfInBounds_toArray, List.set_cons_zero, List.set_cons_succ])
                refine wpAnyH_take (i := 9) (oi := ⟨_, _, _, _, _, _⟩) (v := ?_) rfl (by kernel_rfl) (by kernel_rfl) (by kernel_rfl) (fun _ _ _ h => h) (Or.inl ⟨rfl, ?_⟩) (by assumption) ?_
                rotate_left 1
                · intro w_ hSw; (try dsimp only at hSw); go_simp; (try with_reducible rfl)
                (try simp only [Act.put, List.setIfInBounds_toArray, List.set_cons_zero, List.set_cons_succ])
                refine wpAnyH_ready (rs := [10]) (by kernel_rfl) (by simp) ?_
                refine AllReadyH.cons (o := ⟨_, _, _, _, _, _⟩) rfl (fun K hK => ?_) AllReadyH.nil
                go_simp
                go_at_call 73
                refine (HAr.out _).mono ?_
                rintro e wA ⟨rfl, hwA⟩
                have bA : Below wi.heap.size wi wA := by rw [hwA]; exact below_then (below_drew wi) (below_alloc _ _)
                have HDo : Hid (OwnsInts wA w.heap.size wA.heap.size (some ⟨wi.heap.size, 0, none⟩) r r (digs z r (j : Int))) := by
                  unfold Hid; rw [hwA]
                  exact OwnsInts.of_row (ownsRow_base (digs_own _ z r (j : Int) hf3) HBi.out.bel.size)
                have HBA := Lib.hid (HBi.out.below bA)
                have HRA := Lib.hid (HRi.out.kept (grown_of_below bA none) (own_em _))
                have zA := HBA.out.z0
                have aA := HBA.out.a0
                have eA := cell_b bA e0
                clear hwA bA y0 y1 y2 y3 e0 e1
                go_wp2_with fail
                refine hK.out _ _ ?_ (fun hHeld => ?_)
                · exact ⟨zA, aA, eA⟩
                clear hK K
                (try simp only [Act.put, List.setIfInBounds_toArray, List.set_cons_zero, List.set_cons_succ])
                refine wpAnyH_ready (rs := [11]) (by kernel_rfl) (by simp) ?_
                refine AllReadyH.cons (o := ⟨_, _, _, _, _, _⟩) rfl (fun K hK => ?_) AllReadyH.nil
                go_simp
                go_at_call 39
                refine (HIm.out _ (by exact HBA.out) (by exact HRA.out) (by exact HDo.out)).mono ?_
                rintro e wB ⟨ga, gm, gd, rfl, hgm, hgo, b2⟩
                have HBB := Lib.hid (HBA.out.below b2)
                have HRB := Lib.hid (HRA.out.kept (grown_of_below b2 none) (own_em _))
                have HGo := Lib.hid (OwnsInts.of_row hgo)
                have HGm := Lib.hid hgm
                have HszB : Hid (wA.heap.size ≤ wB.heap.size) := b2.size
                have zB := HBB.out.z0
                have aB := HBB.out.a0
                have eB := cell_b b2 eA
                clear b2 hgo hgm zA aA eA
                go_wp2_with fail
                refine hK.out _ _ ?_ (fun hHeld => ?_)
                · exact ⟨zB, aB, eB⟩
                clear hK K
                (try simp only [Act.put, List.setIfInBounds_toArray, List.set_cons_zero, List.set_cons_succ])
                refine wpAnyH_take (i := 12) (oi := ⟨_, _, _, _, _, _⟩) (v := ?_) rfl (by kernel_rfl) (by kernel_rfl) (by kernel_rfl) (fun _ _ _ h => h) (Or.inl ⟨rfl, ?_⟩) (by assumption) ?_
                rotate_left 1
                · intro w_ hSw; (try dsimp only at hSw); go_simp; (try with_reducible rfl)
                (try simp only [Act.put, List.setIfInBounds_toArray, List.set_cons_zero, List.set_cons_succ])
                refine wpAnyH_done (by kernel_rfl) ?_ _
                refine NoPanic.normal ?_
                go_wp2_with fail
                refine (HHs.out _ ga gm gd _ _ HGo.out.view).mono ?_
                rintro e w6 ⟨rfl, rfl⟩
                clear zB aB eB
                go_wp2_with fail
                go_roundw
                case rel => exact ⟨j + 1, cj, ch, by omega, by go_num, rfl, HCh, HN, HBB, HRB, HPj⟩
                case measure => simp [intOf]; omega
              | false =>
                have hig : allIn z1 ys = true := by rw [← hys]; exact img_part HPj.out.1 hdin (by rw [hys]; exact hop)
                obtain ⟨y, hy⟩ : ∃ y, atA z1 G ys = y := ⟨_, rfl⟩
                have hyv : 0 ≤ y ∧ y < z1 := by
                  have h := at_get k1 (HAll2.out G (List.mem_of_getElem? HGk.out)) (by rw [hyl]; exact hG1) hig
                  rw [hy] at h
                  exact allIn_get (opOkB_of (HAll2.out G (List.mem_of_getElem? HGk.out))).2.2 h.2.2
                obtain ⟨v0, v1⟩ := hyv
                have HVl := Lib.hid (fun (W : World) (hW : Bx2 w W z (some ⟨b, o, none⟩) n c z1 bo m d) (ga : Option Addr) (gm gd : Nat) (lo4 hi4 : Nat) (hI : IView W lo4 hi4 ga gm ys) (hhi4 : hi4 ≤ W.heap.size) (hgm : gm = ys.length) => value_spec lo2 hi2 lo4 hi4 z1 bo ga d m gd gm k gs G ys W (HU.out.kept (Kept.of_below hW.bel hhi2)) (Nat.le_trans hhi2 hW.bel.size) HOk2.out HGk.out hI hhi4 hig (by rw [hgm, hyl]; exact hG1))
                rw [hy] at HVl
                obtain ⟨u, hu⟩ : ∃ u, cj xn = u := ⟨_, rfl⟩
                have hub : u = -1 ∨ (0 ≤ u ∧ u < z1) := by rw [← hu]; exact HPj.out.1 xn x1
                have HSt : Hid (stN z z1 F G (j + 1) ck = stF z z1 F G j cj) := by unfold Hid; rw [stN, HSj.out, Option.bind_some]
                have HOp : Hid (openB (imgF cj (digs z F.1.toNat (j : Int))) = false) := by unfold Hid; rw [HR.out, hys]; exact hop
                have HXn : Hid ((F.2.getD j 0).toNat = xn) := by unfold Hid; rw [hval, Int.toNat_natCast]
                have HYn : Hid (atA z1 G (imgF cj (digs z F.1.toNat (j : Int))) = y) := by unfold Hid; rw [HR.out, hys]; exact hy
                have HUn := Lib.hid hu
                have hxz : (xn : Int) < z := x1
                have HUg : Hid ((lstP l cj)[xn]? = some u) := by unfold Hid; rw [lstP_get _ hxl, hu]
                clear hct hx hdin hdl hG1 hys hyl hval hop hig hy hu x0 x1
                go_wp2_with fail
                refine wp_region_noPanic ?_
                refine wp_region_held_drew (S := fun W => W.cell? ⟨w.heap.size, 0, none⟩ = some (.int .i64 z) ∧ W.cell? ⟨w.heap.size, 1, none⟩ = some (.slice (some ⟨b, o, none⟩) n c) ∧ W.cell? ⟨b, o + k * 2, none⟩ = some (.int .i64 (r : Int))) (by kernel_rfl) ?_ (fun hHeld => ?_)
                · exact ⟨y0, y1, e0⟩
                refine wpAnyH_take (i := 0) (oi := ⟨_, _, _, _, _, _⟩) (v := ?_) rfl (by kernel_rfl) (by kernel_rfl) (by kernel_rfl) (fun _ _ _ h => h) (Or.inl ⟨rfl, ?_⟩) (by assumption) ?_
                rotate_left 1
                · intro w_ hSw; (try dsimp only at hSw); go_simp; (try with_reducible rfl)
                (try simp only [Act.put, List.setIfInBounds_toArray, List.set_cons_zero, List.set_cons_succ])
                refine wpAnyH_take (i := 1) (oi := ⟨_, _, _, _, _, _⟩) (v := ?_) rfl (by kernel_rfl) (by kernel_rfl) (by kernel_rfl) (fun _ _ _ h => h) (Or.inl ⟨rfl, ?_⟩) (by assumption) ?_
                rotate_left 1
                · intro w_ hSw; (try dsimp only at hSw); go_simp; (try with_reducible rfl)
                (try simp only [Act.put, List.setIfInBounds_toArray, List.set_cons_zero, List.set_cons_succ])
                refine wpAnyH_take (i := 2) (oi := ⟨_, _, _, _, _, _⟩) (v := ?_) rfl (by kernel_rfl) (by kernel_rfl) (by kernel_rfl) (fun _ _ _ h => h) (Or.inl ⟨rfl, ?_⟩) (by assumption) ?_
                rotate_left 1
                · intro w_ hSw; (try dsimp only at hSw); go_simp; (try with_reducible rfl)
                (try simp only [Act.put, List.setIfInBounds_toArray, List.set_cons_zero, List.set_cons_succ])
                refine wpAnyH_take (i := 3) (oi := ⟨_, _, _, _, _, _⟩) (v := ?_) rfl (by kernel_rfl) (by kernel_rfl) (by kernel_rfl) (fun _ _ _ h => h) (Or.inl ⟨rfl, ?_⟩) (by assumption) ?_
                rotate_left 1
                · intro w_ hSw; (try dsimp only at hSw); go_simp; (try with_reducible rfl)
                (try simp only [Act.put, List.setIfInBounds_toArray, List.set_cons_zero, List.set_cons_succ])
                refine wpAnyH_take (i := 4) (oi := ⟨_, _, _, _, _, _⟩) (v := ?_) rfl (by kernel_rfl) (by kernel_rfl) (by kernel_rfl) (fun _ _ _ h => h) (Or.inl ⟨rfl, ?_⟩) (by assumption) ?_
                rotate_left 1
                · intro w_ hSw; (try dsimp only at hSw); go_simp; (try with_reducible rfl)
                (try simp only [Act.put, List.setIfInBounds_toArray, List.set_cons_zero, List.set_cons_succ])
                refine wpAnyH_take (i := 5) (oi := ⟨_, _, _, _, _, _⟩) (v := ?_) rfl (by kernel_rfl) (by kernel_rfl) (by kernel_rfl) (fun _ _ _ h => h) (Or.inl ⟨rfl, ?_⟩) (by assumption) ?_
                rotate_left 1
                · intro w_ hSw; (try dsimp only at hSw); go_simp; (try with_reducible rfl)
                (try simp only [Act.put, List.setIfInBounds_toArray, List.set_cons_zero, List.set_cons_succ])
                refine wpAnyH_take (i := 6) (oi := ⟨_, _, _, _, _, _⟩) (v := ?_) rfl (by kernel_rfl) (by kernel_rfl) (by kernel_rfl) (fun _ _ _ h => h) (Or.inl ⟨rfl, ?_⟩) (by assumption) ?_
                rotate_left 1
                · intro w_ hSw; (try dsimp only at hSw); go_simp; (try with_reducible rfl)
                (try simp only [Act.put, List.setIfInBounds_toArray, List.set_cons_zero, List.set_cons_succ])
                refine wpAnyH_take (i := 7) (oi := ⟨_, _, _, _, _, _⟩) (v := ?_) rfl (by kernel_rfl) (by kernel_rfl) (by kernel_rfl) (fun _ _ _ h => h) (Or.inl ⟨rfl, ?_⟩) (by assumption) ?_
                rotate_left 1
                · intro w_ hSw; (try dsimp only at hSw); go_simp; (try with_reducible rfl)
                (try simp only [Act.put, List.setIfInBounds_toArray, List.set_cons_zero, List.set_cons_succ])
                refine wpAnyH_take (i := 8) (oi := ⟨_, _, _, _, _, _⟩) (v := ?_) rfl (by kernel_rfl) (by kernel_rfl) (by kernel_rfl) (fun _ _ _ h => h) (Or.inl ⟨rfl, ?_⟩) (by assumption) ?_
                rotate_left 1
                · intro w_ hSw; (try dsimp only at hSw); go_simp; (try with_reducible rfl)
                (try simp only [Act.put, List.setIfInBounds_toArray, List.set_cons_zero, List.set_cons_succ])
                refine wpAnyH_take (i := 9) (oi := ⟨_, _, _, _, _, _⟩) (v := ?_) rfl (by kernel_rfl) (by kernel_rfl) (by kernel_rfl) (fun _ _ _ h => h) (Or.inl ⟨rfl, ?_⟩) (by assumption) ?_
                rotate_left 1
                · intro w_ hSw; (try dsimp only at hSw); go_simp; (try with_reducible rfl)
                (try simp only [Act.put, List.setIfInBounds_toArray, List.set_cons_zero, List.set_cons_succ])
                refine wpAnyH_ready (rs := [10]) (by kernel_rfl) (by simp) ?_
                refine AllReadyH.cons (o := ⟨_, _, _, _, _, _⟩) rfl (fun K hK => ?_) AllReadyH.nil
                go_simp
                go_at_call 73
                refine (HAr.out _).mono ?_
                rintro e wA ⟨rfl, hwA⟩
                have bA : Below wi.heap.size wi wA := by rw [hwA]; exact below_then (below_drew wi) (below_alloc _ _)
                have HDo : Hid (OwnsInts wA w.heap.size wA.heap.size (some ⟨wi.heap.size, 0, none⟩) r r (digs z r (j : Int))) := by
                  unfold Hid; rw [hwA]
                  exact OwnsInts.of_row (ownsRow_base (digs_own _ z r (j : Int) hf3) HBi.out.bel.size)
                have HBA := Lib.hid (HBi.out.below bA)
                have HRA := Lib.hid (HRi.out.kept (grown_of_below bA none) (own_em _))
                have zA := HBA.out.z0
                have aA := HBA.out.a0
                have eA := cell_b bA e0
                clear hwA bA y0 y1 y2 y3 e0 e1
                go_wp2_with fail
                refine hK.out _ _ ?_ (fun hHeld => ?_)
                · exact ⟨zA, aA, eA⟩
                clear hK K
                (try simp only [Act.put, List.setIfInBounds_toArray, List.set_cons_zero, List.set_cons_succ])
                refine wpAnyH_ready (rs := [11]) (by kernel_rfl) (by simp) ?_
                refine AllReadyH.cons (o := ⟨_, _, _, _, _, _⟩) rfl (fun K hK => ?_) AllReadyH.nil
                go_simp
                go_at_call 39
                refine (HIm.out _ (by exact HBA.out) (by exact HRA.out) (by exact HDo.out)).mono ?_
                rintro e wB ⟨ga, gm, gd, rfl, hgm, hgo, b2⟩
                have HBB := Lib.hid (HBA.out.below b2)
                have HRB := Lib.hid (HRA.out.kept (grown_of_below b2 none) (own_em _))
                have HGo := Lib.hid (OwnsInts.of_row hgo)
                have HGm := Lib.hid hgm
                have HszB : Hid (wA.heap.size ≤ wB.heap.size) := b2.size
                have zB := HBB.out.z0
                have aB := HBB.out.a0
                have eB := cell_b b2 eA
                clear b2 hgo hgm zA aA eA
                go_wp2_with fail
                refine hK.out _ _ ?_ (fun hHeld => ?_)
                · exact ⟨zB, aB, eB⟩
                clear hK K
                (try simp only [Act.put, List.setIfInBounds_toArray, List.set_cons_zero, List.set_cons_succ])
                refine wpAnyH_take (i := 12) (oi := ⟨_, _, _, _, _, _⟩) (v := ?_) rfl (by kernel_rfl) (by kernel_rfl) (by kernel_rfl) (fun _ _ _ h => h) (Or.inl ⟨rfl, ?_⟩) (by assumption) ?_
                rotate_left 1
                · intro w_ hSw; (try dsimp only at hSw); go_simp; (try with_reducible rfl)
                (try simp only [Act.put, List.setIfInBounds_toArray, List.set_cons_zero, List.set_cons_succ])
                refine wpAnyH_done (by kernel_rfl) ?_ _
                refine NoPanic.normal ?_
                go_wp2_with fail
                refine (HHs.out _ ga gm gd _ _ HGo.out.view).mono ?_
                rintro e w6 ⟨rfl, rfl⟩
                have eB1 : wB.cell? ⟨b, o + k * 2 + 1, none⟩ = some (.slice (some ⟨bt, ot, none⟩) q c1) := (HBB.out.bel.cell (p := ⟨b, o + k * 2 + 1, none⟩) hbw).trans HC1.out
                have eB2 : wB.cell? ⟨bt, ot + j, none⟩ = some (.int .i64 (xn : Int)) := (HBB.out.bel.cell (p := ⟨bt, ot + j, none⟩) hbtw).trans HT0.out
                have zB1 := HBB.out.z1
                have aB1 := HBB.out.a1
                clear zB eB
                go_wp2_with fail
                refine wp_region_noPanic ?_
                refine wp_region_held_drew (S := fun W => (W.cell? ⟨w.heap.size, 1, none⟩ = some (.slice (some ⟨b, o, none⟩) n c) ∧ W.cell? ⟨b, o + k * 2 + 1, none⟩ = some (.slice (some ⟨bt, ot, none⟩) q c1)) ∧ W.cell? ⟨bt, ot + j, none⟩ = some (.int .i64 (xn : Int)) ∧ (W.cell? ⟨w.heap.size + 1, 0, none⟩ = some (.int .i64 z1) ∧ W.cell? ⟨w.heap.size + 1, 1, none⟩ = some (.slice bo m d))) (by kernel_rfl) ?_ (fun hHeld => ?_)
                · exact ⟨⟨aB, eB1⟩, eB2, zB1, aB1⟩
                refine wpAnyH_take (i := 0) (oi := ⟨_, _, _, _, _, _⟩) (v := ?_) rfl (by kernel_rfl) (by kernel_rfl) (by kernel_rfl) (fun _ _ _ h => h) (Or.inl ⟨rfl, ?_⟩) (by assumption) ?_
                rotate_left 1
                · intro w_ hSw; (try dsimp only at hSw); go_simp; (try with_reducible rfl)
                (try simp only [Act.put, List.setIfInBounds_toArray, List.set_cons_zero, List.set_cons_succ])
                refine wpAnyH_take (i := 1) (oi := ⟨_, _, _, _, _, _⟩) (v := ?_) rfl (by kernel_rfl) (by kernel_rfl) (by kernel_rfl) (fun _ _ _ h => h) (Or.inl ⟨rfl, ?_⟩) (by assumption) ?_
                rotate_left 1
                · intro w_ hSw; (try dsimp only at hSw); go_simp; (try with_reducible rfl)
                (try simp only [Act.put, List.setIfInBounds_toArray, List.set_cons_zero, List.set_cons_succ])
                refine wpAnyH_take (i := 2) (oi := ⟨_, _, _, _, _, _⟩) (v := ?_) rfl (by kernel_rfl) (by kernel_rfl) (by kernel_rfl) (fun _ _ _ h => h) (Or.inl ⟨rfl, ?_⟩) (by assumption) ?_
                rotate_left 1
                · intro w_ hSw; (try dsimp only at hSw); go_simp; (try with_reducible rfl)
                (try simp only [Act.put, List.setIfInBounds_toArray, List.set_cons_zero, List.set_cons_succ])
                refine wpAnyH_take (i := 3) (oi := ⟨_, _, _, _, _, _⟩) (v := ?_) rfl (by kernel_rfl) (by kernel_rfl) (by kernel_rfl) (fun _ _ _ h => h) (Or.inl ⟨rfl, ?_⟩) (by assumption) ?_
                rotate_left 1
                · intro w_ hSw; (try dsimp only at hSw); go_simp; (try with_reducible rfl)
                (try simp only [Act.put, List.setIfInBounds_toArray, List.set_cons_zero, List.set_cons_succ])
                refine wpAnyH_take (i := 4) (oi := ⟨_, _, _, _, _, _⟩) (v := ?_) rfl (by kernel_rfl) (by kernel_rfl) (by kernel_rfl) (fun _ _ _ h => h) (Or.inl ⟨rfl, ?_⟩) (by assumption) ?_
                rotate_left 1
                · intro w_ hSw; (try dsimp only at hSw); go_simp; (try with_reducible rfl)
                (try simp only [Act.put, List.setIfInBounds_toArray, List.set_cons_zero, List.set_cons_succ])
                refine wpAnyH_take (i := 5) (oi := ⟨_, _, _, _, _, _⟩) (v := ?_) rfl (by kernel_rfl) (by kernel_rfl) (by kernel_rfl) (fun _ _ _ h => h) (Or.inl ⟨rfl, ?_⟩) (by assumption) ?_
                rotate_left 1
                · intro w_ hSw; (try dsimp only at hSw); go_simp; (try with_reducible rfl)
                (try simp only [Act.put, List.setIfInBounds_toArray, List.set_cons_zero, List.set_cons_succ])
                refine wpAnyH_take (i := 6) (oi := ⟨_, _, _, _, _, _⟩) (v := ?_) rfl (by kernel_rfl) (by kernel_rfl) (by kernel_rfl) (fun _ _ _ h => h) (Or.inl ⟨rfl, ?_⟩) (by assumption) ?_
                rotate_left 1
                · intro w_ hSw; (try dsimp only at hSw); go_simp; (try with_reducible rfl)
                (try simp only [Act.put, List.setIfInBounds_toArray, List.set_cons_zero, List.set_cons_succ])
                refine wpAnyH_take (i := 7) (oi := ⟨_, _, _, _, _, _⟩) (v := ?_) rfl (by kernel_rfl) (by kernel_rfl) (by kernel_rfl) (fun _ _ _ h => h) (Or.inl ⟨rfl, ?_⟩) (by assumption) ?_
                rotate_left 1
                · intro w_ hSw; (try dsimp only at hSw); go_simp; (try with_reducible rfl)
                (try simp only [Act.put, List.setIfInBounds_toArray, List.set_cons_zero, List.set_cons_succ])
                refine wpAnyH_take (i := 8) (oi := ⟨_, _, _, _, _, _⟩) (v := ?_) rfl (by kernel_rfl) (by kernel_rfl) (by kernel_rfl) (fun _ _ _ h => h) (Or.inl ⟨rfl, ?_⟩) (by assumption) ?_
                rotate_left 1
                · intro w_ hSw; (try dsimp only at hSw); go_simp; (try with_reducible rfl)
                (try simp only [Act.put, List.setIfInBounds_toArray, List.set_cons_zero, List.set_cons_succ])
                refine wpAnyH_take (i := 9) (oi := ⟨_, _, _, _, _, _⟩) (v := ?_) rfl (by kernel_rfl) (by kernel_rfl) (by kernel_rfl) (fun _ _ _ h => h) (Or.inl ⟨rfl, ?_⟩) (by assumption) ?_
                rotate_left 1
                · intro w_ hSw; (try dsimp only at hSw); go_simp; (try with_reducible rfl)
                (try simp only [Act.put, List.setIfInBounds_toArray, List.set_cons_zero, List.set_cons_succ])
                refine wpAnyH_take (i := 10) (oi := ⟨_, _, _, _, _, _⟩) (v := ?_) rfl (by kernel_rfl) (by kernel_rfl) (by kernel_rfl) (fun _ _ _ h => h) (Or.inl ⟨rfl, ?_⟩) (by assumption) ?_
                rotate_left 1
                · intro w_ hSw; (try dsimp only at hSw); go_simp; (try with_reducible rfl)
                (try simp only [Act.put, List.setIfInBounds_toArray, List.set_cons_zero, List.set_cons_succ])
                refine wpAnyH_take (i := 11) (oi := ⟨_, _, _, _, _, _⟩) (v := ?_) rfl (by kernel_rfl) (by kernel_rfl) (by kernel_rfl) (fun _ _ _ h => h) (Or.inl ⟨rfl, ?_⟩) (by assumption) ?_
                rotate_left 1
                · intro w_ hSw; (try dsimp only at hSw); go_simp; (try with_reducible rfl)
                (try simp only [Act.put, List.setIfInBounds_toArray, List.set_cons_zero, List.set_cons_succ])
                refine wpAnyH_ready (rs := [12]) (by kernel_rfl) (by simp) ?_
                refine AllReadyH.cons (o := ⟨_, _, _, _, _, _⟩) rfl (fun K hK => ?_) AllReadyH.nil
                go_simp
                go_at_call 75
                refine (HVl.out _ (by exact HBB.out.far ((Below.refl _ _).drew)) ga gm gd _ _ (by exact HGo.out.view.kept (Kept.drewN wB 1)) (Nat.le_refl _) HGm.out).mono ?_
                rintro e wC ⟨rfl, b3⟩
                have b3' : Below wB.heap.size wB wC := (below_drew wB).trans b3
                have HBC := Lib.hid (HBB.out.below b3')
                have HRC := Lib.hid (HRB.out.kept (grown_of_below b3' none) (own_em _))
                have hC1 := HBC.out.a0
                have hC2 : wC.cell? ⟨b, o + k * 2 + 1, none⟩ = some (.slice (some ⟨bt, ot, none⟩) q c1) := (HBC.out.bel.cell (p := ⟨b, o + k * 2 + 1, none⟩) hbw).trans HC1.out
                have hC3 : wC.cell? ⟨bt, ot + j, none⟩ = some (.int .i64 (xn : Int)) := (HBC.out.bel.cell (p := ⟨bt, ot + j, none⟩) hbtw).trans HT0.out
                have hC5 := HBC.out.z1
                have hC6 := HBC.out.a1
                clear b3 b3'
                go_wp2_with fail
                refine hK.out _ _ ?_ (fun hHeld => ?_)
                · exact ⟨⟨hC1, hC2⟩, hC3, hC5, hC6⟩
                clear hK K
                (try simp only [Act.put, List.setIfInBounds_toArray, List.set_cons_zero, List.set_cons_succ])
                refine wpAnyH_take (i := 13) (oi := ⟨_, _, _, _, _, _⟩) (v := ?_) rfl (by kernel_rfl) (by kernel_rfl) (by kernel_rfl) (fun _ _ _ h => h) (Or.inl ⟨rfl, ?_⟩) (by assumption) ?_
                rotate_left 1
                · intro w_ hSw; (try dsimp only at hSw); go_simp; (try with_reducible rfl)
                (try simp only [Act.put, List.setIfInBounds_toArray, List.set_cons_zero, List.set_cons_succ])
                refine wpAnyH_take (i := 14) (oi := ⟨_, _, _, _, _, _⟩) (v := ?_) rfl (by kernel_rfl) (by kernel_rfl) (by kernel_rfl) (fun _ _ _ h => h) (Or.inl ⟨rfl, ?_⟩) (by assumption) ?_
                rotate_left 1
                · intro w_ hSw; (try dsimp only at hSw); go_simp; (try with_reducible rfl)
                (try simp only [Act.put, List.setIfInBounds_toArray, List.set_cons_zero, List.set_cons_succ])
                refine wpAnyH_done (by kernel_rfl) ?_ _
                refine NoPanic.normal ?_
                have f1 : wC.cell? ⟨g, xn, none⟩ = some (.int .i64 u) := by rw [HRC.out.cellAt xn (by omega), List.getElem?_map, HUg.out]; rfl
                have f1f : wC.frozen? ⟨g, xn, none⟩ = false := HRC.out.frozenAt xn
                clear hC1 hC2 hC3 hC5 hC6 aB eB1 eB2 zB1 aB1
                rcases hub with rfl | ⟨u0, u1⟩
                · have HN : Hid (stN z z1 F G (j + 1) ck = some (put8 cj xn y)) := by
                    unfold Hid
                    rw [HSt.out, stF_new HOp.out (by rw [HXn.out]; exact HUn.out), HXn.out, HYn.out]
                  have HCh2 : Hid (true = !eqA (put8 cj xn y) cur) := by
                    unfold Hid
                    rw [eqA_no (k := xn) (by omega) ?_]; rfl
                    rw [put8_same]
                    rcases ((stO_more HS.out).trans (stN_more HSj.out)) xn with h | h
                    · omega
                    · have := HUn.out; omega
                  have HR6 : Hid ((wC.setCell ⟨g, xn, none⟩ (.int .i64 y)).ownsRow (w.heap.size + 2) 3 1 (.slice (some ⟨g, 0, none⟩) l dd) l ((lstP l (put8 cj xn y)).map (Value.int .i64))) := by
                    have h := (HRC.out.stored xn (.int .i64 y)).1
                    rw [lstP_set hxl] at h
                    exact h
                  have HB6 : Hid (Bx2 w (wC.setCell ⟨g, xn, none⟩ (.int .i64 y)) z (some ⟨b, o, none⟩) n c z1 bo m d) := HBC.out.far ((Below.refl _ _).setCell (p := ⟨g, xn, none⟩) hgw _)
                  have HP6 : Hid (Part z z1 (put8 cj xn y) ∧ ∀ k : Nat, z ≤ (k : Int) → put8 cj xn y k = -1) := ⟨HPj.out.1.put v0 v1, out_put HPj.out.2 hxz⟩
                  go_wp2_with fail
                  go_roundw
                  case rel => exact ⟨j + 1, put8 cj xn y, true, by omega, by go_num, rfl, HCh2, HN, HB6, HR6, HP6⟩
                  case measure => simp [intOf]; omega
                · by_cases huy : u = y
                  · have n2 : (u != y) = false := by simp [huy]
                    have HN : Hid (stN z z1 F G (j + 1) ck = some cj) := by
                      unfold Hid
                      rw [HSt.out, stF_same HOp.out (by rw [HXn.out, HUn.out]; omega) (by rw [HXn.out, HUn.out, HYn.out]; exact huy)]
                    clear huy
                    go_wp2_with fail
                    go_roundw
                    case rel => exact ⟨j + 1, cj, ch, by omega, by go_num, rfl, HCh, HN, HBC, HRC, HPj⟩
                    case measure => simp [intOf]; omega
                  · have n2 : (u != y) = true := by simp [huy]
                    have HF : Hid (rs = none) := by
                      unfold Hid
                      have h : stN z z1 F G (j + 1) ck = none := by rw [HSt.out, stF_none HOp.out (by rw [HXn.out, HUn.out]; omega) (by rw [HXn.out, HUn.out, HYn.out]; exact huy)]
                      have h2 : stO z z1 fs gs (k + 1) cur = none := by rw [stO, HS.out, Option.bind_some, HEo.out.1, HEo.out.2]; exact stN_none h _ (by have := HML.out; omega)
                      have h3 : passF z z1 fs gs cur = none := stO_none h2 _ (by have := HL.out; omega)
                      rw [← (HG.out.1 rfl).1]; exact closF_none h3
                    have HOn : Hid ((wC.alloc (.cells #[] 3)).ownsRow w.heap.size 3 1 (.slice (some ⟨wC.heap.size, 0, none⟩) 0 0) 0 (([] : List Int).map (Value.int .i64))) := World.ownsRow_lit (base := w.heap.size) (e := 3) (size := 1) wC #[] 0 HBC.out.bel.size (by decide) rfl
                    clear huy
                    go_wp2_with fail
                    go_ret2
                    rw [HF.out]
                    exact ⟨_, _, _, rfl, rfl, OwnsInts.of_row HOn.out, HBC.out.bel.trans ((below_alloc wC _).mono HBC.out.bel.size)⟩
            · have hjq' : ¬ (j : Int) < (q : Int) := by omega
              obtain rfl : j = q := by omega
              have HN : Hid (stO z z1 fs gs (k + 1) cur = some cj) := by unfold Hid; rw [stO, HS.out, Option.bind_some, HEo.out.1, HEo.out.2, HML.out]; exact HSj.out
              go_wp2_with fail
              go_roundw
              case rel => exact ⟨k + 1, cj, ch, by omega, by go_num, rfl, HCh, HN, HBi, HRi, HPj⟩
              case measure => simp [intOf]; omega
        · have hkn : ¬ (k : Int) < (n : Int) := by omega
          obtain rfl : k = n := by omega
          have HPs : Hid (passF z z1 fs gs cur = some ck) := by unfold Hid passF; rw [HL.out]; exact HS.out
          have HF : Hid (Closing z z1 fs gs rs gj ck ch) := by
            cases he : eqA ck cur with
            | true =>
              have hc : ch = false := by rw [HCh.out, he]; rfl
              refine ⟨fun h => ?_, fun _ => ?_⟩
              · rw [hc] at h; cases h
              · rw [← (HG.out.1 rfl).1]; exact closF_end HPs.out he
            | false =>
              have hc : ch = true := by rw [HCh.out, he]; rfl
              refine ⟨fun _ => ?_, fun h => ?_⟩
              · refine ⟨by rw [← (HG.out.1 rfl).1]; exact (closF_on HPs.out he).symm, ?_⟩
                have hm : More cur ck := stO_more HS.out
                have hd : ∃ k, k < 8 ∧ cur k ≠ ck k := by
                  refine Classical.byContradiction fun hn => ?_
                  have : eqA ck cur = true := eqA_iff.2 fun k hk => Classical.byContradiction fun hne => hn ⟨k, hk, fun e => hne e.symm⟩
                  rw [he] at this; cases this
                have := opens_lt hm 8 hd
                have := (HG.out.1 rfl).2
                omega
              · rw [hc] at h; cases h
          go_wp2_with fail
          go_roundg gj
          case measure => omega
          case rel => exact ⟨ck, ch, rfl, HF, HBk, HRk, HPk⟩

end Go.Proofs.Ytmlimbjpehjfnaa
