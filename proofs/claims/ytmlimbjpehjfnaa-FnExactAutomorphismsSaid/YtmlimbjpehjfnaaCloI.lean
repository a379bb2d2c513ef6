/-
  Contract: the method closed of impl.partialMap. Conditions: the bounds that it names.
-/
import Derived.Test.YtmlimbjpehjfnaaClosM
import Derived.Test.YtmlimbjpehjfnaaHmI
import Derived.DeepKeys
namespace Go.Proofs.Ytmlimbjpehjfnaa
open Go.RowKit
set_option linter.unusedVariables false
set_option linter.unusedSimpArgs false

theorem arr_lits {f : Nat → Int} (h : ∀ k, k < 8 → (Lit.int .i64 (f k)).wf = true) :
    Try.prog.keyLits 3 51 [.int .i64 (f 0), .int .i64 (f 1), .int .i64 (f 2), .int .i64 (f 3), .int .i64 (f 4), .int .i64 (f 5), .int .i64 (f 6), .int .i64 (f 7)] = some [.int .i64 (f 0), .int .i64 (f 1), .int .i64 (f 2), .int .i64 (f 3), .int .i64 (f 4), .int .i64 (f 5), .int .i64 (f 6), .int .i64 (f 7)] := by
  have u2 : Try.prog.underlying 51 = some (.array 8 3) := by kernel_rfl
  have u3 : Try.prog.underlying 3 = _ := Try.underlying3
  have c2 : Try.prog.cellsOf 51 = 8 := by kernel_rfl
  have c3 : Try.prog.cellsOf 3 = 1 := by kernel_rfl
  simp only [Program.keyLits, u2, c2, c3]
  simp [List.range, List.range.loop, u3, h 0 (by omega), h 1 (by omega), h 2 (by omega), h 3 (by omega), h 4 (by omega), h 5 (by omega), h 6 (by omega), h 7 (by omega)]
theorem arr_formed (f : Nat → Int) : (Value.agg (arrV f)).formed Try.prog 51 = true := by kernel_rfl
theorem arr_eql {f g : Nat → Int} (hf : ∀ k, k < 8 → (Lit.int .i64 (f k)).wf = true) (hg : ∀ k, k < 8 → (Lit.int .i64 (g k)).wf = true) (W : World) :
    (Op.equalIn 10000 51 (.agg (arrV f)) (.agg (arrV g))).run Try.prog W = .ok (eqA f g) W := by
  obtain ⟨r, hr, hi⟩ := run_equalIn_deep (P := Try.prog) 9998 2 51 (by kernel_rfl) W 3 3 _ _ _ _ (arr_formed f) (arr_formed g) (arr_lits hf) (arr_lits hg)
  have he : r = eqA f g := by
    rw [Bool.eq_iff_iff, hi, eqA_iff]
    constructor
    · intro h k hk
      simp only [List.cons.injEq, Lit.int.injEq, true_and] at h
      rcases below8 hk with rfl | rfl | rfl | rfl | rfl | rfl | rfl | rfl
      all_goals (first | exact h.1 | exact h.2.1 | exact h.2.2.1 | exact h.2.2.2.1 | exact h.2.2.2.2.1 | exact h.2.2.2.2.2.1 | exact h.2.2.2.2.2.2.1 | exact h.2.2.2.2.2.2.2.1)
    · intro h
      rw [h 0 (by omega), h 1 (by omega), h 2 (by omega), h 3 (by omega), h 4 (by omega), h 5 (by omega), h 6 (by omega), h 7 (by omega)]
  rw [← he]
  exact hr
theorem wf_of {z z1 : Int} {f : Nat → Int} (h1 : z1 ≤ 8) (hp : Part z z1 f) (ho : ∀ k : Nat, z ≤ (k : Int) → f k = -1) : ∀ k, k < 8 → (Lit.int .i64 (f k)).wf = true := fun k hk => by
  apply Go.WalkArith.wf_i64
  by_cases h : (k : Int) < z
  · rcases hp k h with h | h <;> omega
  · have := ho k (by omega); omega
theorem Part.put {z z1 : Int} {f : Nat → Int} (h : Part z z1 f) {x : Nat} {y : Int} (h0 : 0 ≤ y) (h1 : y < z1) : Part z z1 (put8 f x y) := fun k hk => by
  by_cases e : k = x
  · subst e; rw [put8_same]; exact .inr ⟨h0, h1⟩
  · rw [put8_other e]; exact h k hk
theorem out_put {z : Int} {f : Nat → Int} (h : ∀ k : Nat, z ≤ (k : Int) → f k = -1) {x : Nat} {y : Int} (hx : (x : Int) < z) : ∀ k : Nat, z ≤ (k : Int) → put8 f x y k = -1 := fun k hk => by
  rw [put8_other (by omega)]; exact h k hk

/-- The world of closing: the map, the two algebras, the result. -/
structure CloW (w W : World) (z : Int) (ao : Option Addr) (n c : Nat) (z1 : Int) (bo : Option Addr) (m d : Nat) (f : Nat → Int) : Prop where
  arr : ArrAt W w.heap.size f
  z0 : W.cell? ⟨w.heap.size + 1, 0, none⟩ = some (.int .i64 z)
  a0 : W.cell? ⟨w.heap.size + 1, 1, none⟩ = some (.slice ao n c)
  z1 : W.cell? ⟨w.heap.size + 1 + 1, 0, none⟩ = some (.int .i64 z1)
  a1 : W.cell? ⟨w.heap.size + 1 + 1, 1, none⟩ = some (.slice bo m d)
  res : ArrAt W (w.heap.size + 1 + 1 + 1) fun _ => 0
  bel : Below w.heap.size w W
theorem CloW.below {w W W' : World} {z z1 : Int} {ao bo : Option Addr} {n c m d : Nat} {f : Nat → Int} (h : CloW w W z ao n c z1 bo m d f) (b : Below W.heap.size W W') : CloW w W' z ao n c z1 bo m d f :=
  ⟨h.arr.below b h.arr.lt, cell_b b h.z0, cell_b b h.a0, cell_b b h.z1, cell_b b h.a1, h.res.below b h.res.lt, h.bel.trans (b.mono h.bel.size)⟩
theorem keepC {w : World} {a b : Addr} {u v : Value} (h : w.cell? b = some v) (hne : a.block ≠ b.block) : (w.setCell a u).cell? b = some v :=
  (World.cell?_setCell_other _ _ _ _ (fun e => hne (by rw [e]))).trans h
theorem CloW.set {w W : World} {z z1 : Int} {ao bo : Option Addr} {n c m d : Nat} {f : Nat → Int} (h : CloW w W z ao n c z1 bo m d f) {k : Nat} (hk : k < 8) (x : Int) : CloW w (W.setCell ⟨w.heap.size, k, none⟩ (.int .i64 x)) z ao n c z1 bo m d (put8 f k x) :=
  ⟨h.arr.set hk x, keepC h.z0 (by show w.heap.size ≠ w.heap.size + 1; omega), keepC h.a0 (by show w.heap.size ≠ w.heap.size + 1; omega), keepC h.z1 (by show w.heap.size ≠ w.heap.size + 1 + 1; omega), keepC h.a1 (by show w.heap.size ≠ w.heap.size + 1 + 1; omega),
   h.res.setOther (by omega) k _, h.bel.setCell (p := ⟨w.heap.size, k, none⟩) (Nat.le_refl _) _⟩

/-- The closed map as an array. -/
def cloA (o : Option (Nat → Int)) : Nat → Int := o.getD fun _ => 0

set_option maxHeartbeats 8000000 in
set_option maxRecDepth 100000 in
theorem closed_any (lo hi lo2 hi2 : Nat) (z z1 : Int) (ao bo : Option Addr) (c n d m : Nat) (fs gs : List OpD) (f : Nat → Int) (w : World) (hv : OView w lo hi ao n fs) (hhi : hi ≤ w.heap.size) (hok : algOkB z fs = true)
    (hu : OView w lo2 hi2 bo m gs) (hhi2 : hi2 ≤ w.heap.size) (hok2 : algOkB z1 gs = true) (ht : typeV fs = typeV gs) (hp : Part z z1 f) (ho : ∀ k : Nat, z ≤ (k : Int) → f k = -1) :
    Calls Try.prog 79 #[.agg (arrV f), .agg #[.int .i64 z, .slice ao n c], .agg #[.int .i64 z1, .slice bo m d]] w fun e w' => e = .returned (.tuple #[.agg (arrV (cloA (closV z z1 fs gs f))), .bool (closV z z1 fs gs f).isSome]) ∧ Below w.heap.size w w' := by
  obtain ⟨⟨h1, h2⟩, hn4, hall⟩ := algOkB_of hok
  obtain ⟨⟨k1, k2⟩, hm4, hall2⟩ := algOkB_of hok2
  obtain ⟨w1, hw1⟩ : ∃ w1, w1 = ((((w.alloc (.cells (arrV f) 51)).alloc (.cells #[.int .i64 z, .slice ao n c] 31)).alloc (.cells #[.int .i64 z1, .slice bo m d] 31)).alloc (.cells (arrV fun _ => 0) 51)) := ⟨_, rfl⟩
  have HC0 : Hid (CloW w w1 z ao n c z1 bo m d f) := by
    unfold Hid; rw [hw1]
    have hR := ArrAt.new (((w.alloc (.cells (arrV f) 51)).alloc (.cells #[.int .i64 z, .slice ao n c] 31)).alloc (.cells #[.int .i64 z1, .slice bo m d] 31)) fun _ => 0
    simp only [World.size_alloc] at hR
    exact ⟨(((ArrAt.new _ _).alloc _).alloc _).alloc _, cell_b (below_alloc _ _) (cell_b (below_alloc _ _) (by simp)), cell_b (below_alloc _ _) (cell_b (below_alloc _ _) (by simp)), cell_b (below_alloc _ _) (cell_top _ _ (by simp) _ _ 0), cell_b (below_alloc _ _) (cell_top _ _ (by simp) _ _ 1), hR, below_then (below_then (below_then (below_alloc _ _) (below_alloc _ _)) (below_alloc _ _)) (below_alloc _ _)⟩
  have HV := Lib.hid hv
  have HU := Lib.hid hu
  have HAll := Lib.hid hall
  have HAll2 := Lib.hid hall2
  have HTy := Lib.hid ht
  have HP0 : Hid (Part z z1 f ∧ ∀ k : Nat, z ≤ (k : Int) → f k = -1) := ⟨hp, ho⟩
  have hl := hv.1
  rw [hl] at hn4
  have HL := Lib.hid hl
  obtain ⟨rs, hrs⟩ : ∃ rs, closV z z1 fs gs f = rs := ⟨_, rfl⟩
  have HV0 : Hid (closF z z1 fs gs 9 f = rs ∧ opens f 8 < 9) := ⟨hrs, by have := opens_max f 8; omega⟩
  have hgd : Try.prog.eqGuardType Try.prog.depth 51 = false := by kernel_rfl
  rw [hrs]
  clear hv hu hok hok2 ht hp ho hall hall2 hl hrs
  go_enter Try.func79, Try.ntmps79
  go_wp2
  rw [show ((((w.alloc (.cells (arrV f) 51)).alloc (.cells #[.int .i64 z, .slice ao n c] 31)).alloc (.cells #[.int .i64 z1, .slice bo m d] 31)).alloc (.cells #[.int .i64 0, .int .i64 0, .int .i64 0, .int .i64 0, .int .i64 0, .int .i64 0, .int .i64 0, .int .i64 0] 51)) = w1 from hw1.symm]
  clear hw1
  go_loopg [] 9 (fun g wr => ∃ cur : Nat → Int, Hid (closF z z1 fs gs g cur = rs ∧ opens cur 8 < g) ∧ Hid (CloW w wr z ao n c z1 bo m d cur) ∧ Hid (Part z z1 cur ∧ ∀ k : Nat, z ≤ (k : Int) → cur k = -1))
  case atStart => exact ⟨f, HV0, HC0, HP0⟩
  case round =>
    obtain ⟨cur, HG, HC, HP⟩ := hrel
    obtain ⟨gj, rfl⟩ : ∃ gj, gk = gj + 1 := ⟨gk - 1, by have := HG.out.2; omega⟩
    have HA3 := Lib.hid (ArrAt.new wr fun _ => 0)
    obtain ⟨w3, hw3⟩ : ∃ w3, w3 = (wr.alloc (.cells (arrV fun _ => 0) 51)).setRow wr.heap.size (arrV cur) := ⟨_, rfl⟩
    have HA4 : Hid (ArrAt w3 wr.heap.size cur) := by unfold Hid; rw [hw3]; exact (new_row wr cur).1
    have HC4 : Hid (CloW w w3 z ao n c z1 bo m d cur) := by unfold Hid; rw [hw3]; exact HC.out.below (new_row wr cur).2
    have HW3 := Lib.hid hw3
    have ca := HC4.out.a0
    clear hw3
    go_wp2_with (first | (refine ld8 HC.out.arr rfl _ rfl rfl ?_) | (refine st8 (w := wr.alloc (.cells (arrV fun _ => 0) 51)) HA3.out rfl _ _ rfl rfl rfl ?_; rw [← HW3.out]))
    obtain ⟨X0, hX0⟩ : ∃ X0, X0 = wr.heap.size := ⟨_, rfl⟩
    have hX0g : w.heap.size + 1 + 1 + 1 < X0 := by rw [hX0]; exact HC.out.res.lt
    rw [← hX0] at HA4 ⊢
    clear hX0 HA3 HW3
    go_loopw [20] (fun i wk => ∃ (k : Nat) (ck : Nat → Int), k ≤ n ∧ i = .int .i64 (k : Int) ∧ Hid (stO z z1 fs gs k cur = some ck) ∧ Hid (CloW w wk z ao n c z1 bo m d ck) ∧ Hid (Part z z1 ck ∧ ∀ k : Nat, z ≤ (k : Int) → ck k = -1) ∧ Hid (ArrAt wk X0 cur)) (fun i _ => n - (intOf i).toNat)
    case atStart => exact ⟨0, cur, Nat.zero_le _, rfl, rfl, HC4, HP, HA4⟩
    case round =>
      rename World => wk
      obtain ⟨k, ck, hk, rfl, HS, HCk, HPk, HAk⟩ := hrel
      clear ca HC4 HA4
      by_cases hlt : k < n
      · have hkn : (k : Int) < (n : Int) := by omega
        obtain ⟨F, hF⟩ := get_of_lt HL.out hlt
        obtain ⟨G, hG, hGF⟩ := same_op HTy.out hF
        obtain ⟨hm5, hf1, hf3⟩ := place_bd h1 h2 (HAll.out F (List.mem_of_getElem? hF))
        obtain ⟨r, hr⟩ : ∃ r, F.1.toNat = r := ⟨_, rfl⟩
        rw [hr] at hf1 hf3
        obtain ⟨b, o, rfl, _, hbh, hc⟩ := HV.out.at_ (by omega)
        obtain ⟨a, q, c', c0, c1, _, _, hvt⟩ := hc k F hF
        have hml : F.2.length = q := hvt.1
        rw [hml] at hm5
        have hk2 : k < m := by have := HU.out.1; have := (List.getElem?_eq_some_iff.1 hG).1; omega
        obtain ⟨b2, o2, rfl, _, hbh2, hc2⟩ := HU.out.at_ (by omega)
        obtain ⟨a2, q2, c2', d0, d1, _, _, hvt2⟩ := hc2 k G hG
        rw [hf1] at c0
        have e0 : wk.cell? ⟨b, o + k * 2, none⟩ = some (.int .i64 (r : Int)) := (HCk.out.bel.cell (p := ⟨b, o + k * 2, none⟩) (by show b < _; omega)).trans c0
        have e1 : wk.cell? ⟨b, o + k * 2 + 1, none⟩ = some (.slice a q c') := (HCk.out.bel.cell (p := ⟨b, o + k * 2 + 1, none⟩) (by show b < _; omega)).trans c1
        have ca := HCk.out.a0
        obtain ⟨w2, hw2⟩ : ∃ w2, w2 = wk.alloc (.cells #[.int .i64 (r : Int), .slice a q c'] 67) := ⟨_, rfl⟩
        have x0 : w2.cell? ⟨wk.heap.size, 0, none⟩ = some (.int .i64 (r : Int)) := by rw [hw2]; simp
        have x1 : w2.cell? ⟨wk.heap.size, 1, none⟩ = some (.slice a q c') := by rw [hw2]; simp
        have HC2 : Hid (CloW w w2 z (some ⟨b, o, none⟩) n c z1 (some ⟨b2, o2, none⟩) m d ck) := by unfold Hid; rw [hw2]; exact HCk.out.below (below_alloc wk _)
        have HA2 : Hid (ArrAt w2 X0 cur) := by unfold Hid; rw [hw2]; exact HAk.out.alloc _
        have hXg : w.heap.size + 1 + 1 + 1 < wk.heap.size := HCk.out.res.lt
        have HT1 := Lib.hid hvt
        have HT2 := Lib.hid hvt2
        have HD1 := Lib.hid d1
        have HFk := Lib.hid hF
        have HGk := Lib.hid hG
        have HGF := Lib.hid hGF
        have HR := Lib.hid hr
        have HML := Lib.hid hml
        have HEo : Hid (opAt fs k = F ∧ opAt gs k = G) := ⟨opAt_get hF, opAt_get hG⟩
        have hb2w : b2 < w.heap.size := by omega
        clear hc hc2 c0 c1 d0 d1 hvt hvt2 hF hG hGF hr hml hf1
        go_wp2_with fail
        rw [← hw2]
        clear hw2 e0 e1 ca
        obtain ⟨X, hX⟩ : ∃ X, X = wk.heap.size := ⟨_, rfl⟩
        rw [← hX] at x0 x1 hXg ⊢
        clear hX
        go_wp2_with fail
        go_loopw [28] (fun i wi => ∃ (j : Nat) (cj : Nat → Int), j ≤ q ∧ i = .int .i64 (j : Int) ∧ Hid (stN z z1 F G j ck = some cj) ∧ Hid (CloW w wi z (some ⟨b, o, none⟩) n c z1 (some ⟨b2, o2, none⟩) m d cj) ∧ Hid (Part z z1 cj ∧ ∀ k : Nat, z ≤ (k : Int) → cj k = -1) ∧ Hid (ArrAt wi X0 cur) ∧ wi.cell? ⟨X, 0, none⟩ = some (.int .i64 (r : Int)) ∧ wi.cell? ⟨X, 1, none⟩ = some (.slice a q c')) (fun i _ => q - (intOf i).toNat)
        case atStart => exact ⟨0, ck, Nat.zero_le _, rfl, rfl, HC2, HPk, HA2, x0, x1⟩
        case round =>
          rename World => wi
          obtain ⟨j, cj, hj, rfl, HSj, HCj, HPj, HAj, y0, y1⟩ := hrel
          clear x0 x1 HC2 HA2
          by_cases hjq : j < q
          · have hjq' : (j : Int) < (q : Int) := by omega
            obtain ⟨bt, ot, rfl, _, hbth, hct⟩ := HT1.out.at_ (by omega)
            obtain ⟨x, hx⟩ := get_of_lt HT1.out.1 hjq
            obtain ⟨x0, x1⟩ := allIn_get (opOkB_of (HAll.out F (List.mem_of_getElem? HFk.out))).2.2 hx
            obtain ⟨xn, rfl⟩ : ∃ xn : Nat, x = (xn : Int) := ⟨x.toNat, by omega⟩
            have hdin := digs_in h1 r (j : Int)
            have HPl := fun W => place_any z z1 (some ⟨b, o, none⟩) (some ⟨b2, o2, none⟩) c n d m cj r (j : Int) W h1 h2 k1 k2 hf3 (by omega) (by omega) HPj.out.1
            have hval : F.2.getD j 0 = (xn : Int) := by rw [List.getD_eq_getElem?_getD, hx]; rfl
            have e1 : wi.cell? ⟨bt, ot + j, none⟩ = some (.int .i64 (xn : Int)) := (HCj.out.bel.cell (p := ⟨bt, ot + j, none⟩) (by show bt < _; omega)).trans (hct j _ hx)
            have cz := HCj.out.z0
            have ca := HCj.out.a0
            have cz1 := HCj.out.z1
            have ca1 := HCj.out.a1
            have hx8 : (xn : Int) < 8 := by omega
            obtain ⟨op, hop⟩ : ∃ op, openB (imgF cj (digs z r (j : Int))) = op := ⟨_, rfl⟩
            obtain ⟨pv, hpv⟩ : ∃ pv, plcV z z1 cj r (j : Int) = pv := ⟨_, rfl⟩
            simp only [hop, hpv] at HPl
            have HPl := Lib.hid HPl
            cases op with
            | true =>
              have HN : Hid (stN z z1 F G (j + 1) ck = some cj) := by unfold Hid; rw [stN, HSj.out, Option.bind_some, stF_open (by rw [HR.out]; exact hop)]
              clear hct hx hdin hval hop hpv x0
              go_wp2_with (first | (refine ld8 HCj.out.arr rfl _ rfl rfl ?_))
              refine (HPl.out wi).mono ?_
              rintro e w4 ⟨rfl, b4⟩
              have HC5 := Lib.hid (HCj.out.below b4)
              have HA5 := Lib.hid (HAj.out.below b4 HAj.out.lt)
              have z0 := cell_b b4 y0
              have z2 := cell_b b4 y1
              clear b4 e1 y0 y1 cz ca cz1 ca1
              go_wp2_with fail
              go_roundw
              case rel => exact ⟨j + 1, cj, by omega, by go_num, HN, HC5, HPj, HA5, z0, z2⟩
              case measure => simp [intOf]; omega
            | false =>
              have hig := img_part HPj.out.1 hdin hop
              have hG1 : ((imgF cj (digs z r (j : Int))).length : Int) = G.1 := by rw [imgF_len, digs_len, HGF.out]; have := (place_bd h1 h2 (HAll.out F (List.mem_of_getElem? HFk.out))).2.1; rw [HR.out] at this; exact this.symm
              obtain ⟨p0, p1, p2⟩ := at_get k1 (HAll2.out G (List.mem_of_getElem? HGk.out)) hG1 hig
              obtain ⟨pn, hpn⟩ : ∃ pn : Nat, idxA z1 (imgF cj (digs z r (j : Int))) = (pn : Int) := ⟨(idxA z1 (imgF cj (digs z r (j : Int)))).toNat, by omega⟩
              rw [hpn] at p1 p2
              rw [Int.toNat_natCast] at p2
              have hq2 : G.2.length = q2 := HT2.out.1
              rw [hq2] at p1
              obtain ⟨bt2, ot2, rfl, _, hbth2, hct2⟩ := HT2.out.at_ (by omega)
              obtain rfl : pv = (pn : Int) := by rw [← hpv, plcV, hop, if_neg (by simp), hpn]
              obtain ⟨y, hy⟩ : ∃ y, atA z1 G (imgF cj (digs z r (j : Int))) = y := ⟨_, rfl⟩
              rw [hy] at p2
              obtain ⟨u0, u1⟩ := allIn_get (opOkB_of (HAll2.out G (List.mem_of_getElem? HGk.out))).2.2 p2
              have HTT := Lib.hid (hct2 pn _ p2)
              obtain ⟨u, hu⟩ : ∃ u, cj xn = u := ⟨_, rfl⟩
              have HSt : Hid (stN z z1 F G (j + 1) ck = stF z z1 F G j cj) := by unfold Hid; rw [stN, HSj.out, Option.bind_some]
              have HOp : Hid (openB (imgF cj (digs z F.1.toNat (j : Int))) = false) := by unfold Hid; rw [HR.out]; exact hop
              have HXn : Hid ((F.2.getD j 0).toNat = xn) := by unfold Hid; rw [hval, Int.toNat_natCast]
              have HYn : Hid (atA z1 G (imgF cj (digs z F.1.toNat (j : Int))) = y) := by unfold Hid; rw [HR.out]; exact hy
              have HUn := Lib.hid hu
              have hpq : (pn : Int) < (q2 : Int) := by omega
              have hkm : (k : Int) < (m : Int) := by omega
              have hxz : (xn : Int) < z := x1
              clear hct hct2 hx hdin hval hop hpv hig hG1 p0 p1 p2 hpn hq2 hy hu x0 x1
              go_wp2_with (first | (refine ld8 HCj.out.arr rfl _ rfl rfl ?_))
              refine (HPl.out wi).mono ?_
              rintro e w4 ⟨rfl, b4⟩
              have HC5 := Lib.hid (HCj.out.below b4)
              have HA5 := Lib.hid (HAj.out.below b4 HAj.out.lt)
              have z0 := cell_b b4 y0
              have z2 := cell_b b4 y1
              have f1 : w4.cell? ⟨w.heap.size, xn, none⟩ = some (.int .i64 u) := by rw [← HUn.out]; exact HC5.out.arr.cell (by omega)
              have f1f : w4.frozen? ⟨w.heap.size, xn, none⟩ = false := HC5.out.arr.frozen xn
              have f2 := HC5.out.a1
              have f3 : w4.cell? ⟨b2, o2 + k * 2 + 1, none⟩ = some (.slice (some ⟨bt2, ot2, none⟩) q2 c2') := (HC5.out.bel.cell (p := ⟨b2, o2 + k * 2 + 1, none⟩) hb2w).trans HD1.out
              have f4 : w4.cell? ⟨bt2, ot2 + pn, none⟩ = some (.int .i64 y) := (HC5.out.bel.cell (p := ⟨bt2, ot2 + pn, none⟩) (by show bt2 < _; omega)).trans HTT.out
              clear b4 e1 y0 y1 cz ca cz1 ca1
              by_cases hm1 : u = -1
              · have n1 : (u == -1) = true := by simp [hm1]
                have HN : Hid (stN z z1 F G (j + 1) ck = some (put8 cj xn y)) := by
                  unfold Hid
                  rw [HSt.out, stF_new HOp.out (by rw [HXn.out, HUn.out]; exact hm1), HXn.out, HYn.out]
                have HC6 := Lib.hid (HC5.out.set (k := xn) (by omega) y)
                have HA6 : Hid (ArrAt (w4.setCell ⟨w.heap.size, xn, none⟩ (.int .i64 y)) X0 cur) := HA5.out.setOther (by omega) xn _
                have z3 : Hid ((w4.setCell ⟨w.heap.size, xn, none⟩ (.int .i64 y)).cell? ⟨X, 0, none⟩ = some (.int .i64 (r : Int))) := keepC z0 (by show w.heap.size ≠ X; omega)
                have z4 : Hid ((w4.setCell ⟨w.heap.size, xn, none⟩ (.int .i64 y)).cell? ⟨X, 1, none⟩ = some (.slice (some ⟨bt, ot, none⟩) q c')) := keepC z2 (by show w.heap.size ≠ X; omega)
                have HP6 : Hid (Part z z1 (put8 cj xn y) ∧ ∀ k : Nat, z ≤ (k : Int) → put8 cj xn y k = -1) := ⟨HPj.out.1.put u0 u1, out_put HPj.out.2 hxz⟩
                clear hm1 z0 z2
                go_wp2_with fail
                go_roundw
                case rel => exact ⟨j + 1, put8 cj xn y, by omega, by go_num, HN, HC6, HP6, HA6, z3.out, z4.out⟩
                case measure => simp [intOf]; omega
              · have n1 : (u == -1) = false := by simp [hm1]
                by_cases huy : u = y
                · have n2 : (u != y) = false := by simp [huy]
                  have HN : Hid (stN z z1 F G (j + 1) ck = some cj) := by
                    unfold Hid
                    rw [HSt.out, stF_same HOp.out (by rw [HXn.out, HUn.out]; exact hm1) (by rw [HXn.out, HUn.out, HYn.out]; exact huy)]
                  clear huy hm1
                  go_wp2_with fail
                  go_roundw
                  case rel => exact ⟨j + 1, cj, by omega, by go_num, HN, HC5, HPj, HA5, z0, z2⟩
                  case measure => simp [intOf]; omega
                · have n2 : (u != y) = true := by simp [huy]
                  have HF : Hid (rs = none) := by
                    unfold Hid
                    have h : stN z z1 F G (j + 1) ck = none := by rw [HSt.out, stF_none HOp.out (by rw [HXn.out, HUn.out]; exact hm1) (by rw [HXn.out, HUn.out, HYn.out]; exact huy)]
                    have h2 : stO z z1 fs gs (k + 1) cur = none := by rw [stO, HS.out, Option.bind_some, HEo.out.1, HEo.out.2]; exact stN_none h _ (by have := HML.out; omega)
                    have h3 : passF z z1 fs gs cur = none := stO_none h2 _ (by have := HL.out; omega)
                    rw [← HG.out.1]; exact closF_none h3
                  have HN := Lib.hid (HC5.out.res.setRow (f' := fun _ => 0))
                  have HN2 := Lib.hid (below_setRow HC5.out.bel (show w.heap.size ≤ w.heap.size + 1 + 1 + 1 by omega) (arrV fun _ => 0))
                  clear huy hm1
                  go_wp2_with (refine st8 (f' := fun _ => 0) HC5.out.res rfl _ _ rfl rfl rfl ?_)
                  refine bodyPost_ret (ret8b rfl _ _ _ _ rfl HN.out) rfl ⟨?_, HN2.out⟩
                  rw [HF.out]; rfl
          · have hjq' : ¬ (j : Int) < (q : Int) := by omega
            obtain rfl : j = q := by omega
            have HN : Hid (stO z z1 fs gs (k + 1) cur = some cj) := by unfold Hid; rw [stO, HS.out, Option.bind_some, HEo.out.1, HEo.out.2, HML.out]; exact HSj.out
            go_wp2_with fail
            go_roundw
            case rel => exact ⟨k + 1, cj, by omega, by go_num, HN, HCj, HPj, HAj⟩
            case measure => simp [intOf]; omega
      · have hkn : ¬ (k : Int) < (n : Int) := by omega
        obtain rfl : k = n := by omega
        have HPs : Hid (passF z z1 fs gs cur = some ck) := by unfold Hid passF; rw [HL.out]; exact HS.out
        have hE := arr_eql (wf_of k2 HPk.out.1 HPk.out.2) (wf_of k2 HP.out.1 HP.out.2)
        obtain ⟨eq, heq⟩ : ∃ eq, eqA ck cur = eq := ⟨_, rfl⟩
        rw [heq] at hE
        have HEq := Lib.hid heq
        clear heq
        cases eq with
        | true =>
          have HF : Hid (rs = some ck) := by unfold Hid; rw [← HG.out.1]; exact closF_end HPs.out HEq.out
          have HN := Lib.hid (HCk.out.res.setRow (f' := ck))
          have HN2 := Lib.hid (below_setRow HCk.out.bel (show w.heap.size ≤ w.heap.size + 1 + 1 + 1 by omega) (arrV ck))
          go_wp2_with (first | (refine ld8 HCk.out.arr rfl _ rfl rfl ?_) | (refine ld8 HAk.out rfl _ rfl rfl ?_) | (refine st8 HCk.out.res rfl _ _ rfl rfl rfl ?_))
          refine bodyPost_ret (ret8b rfl _ _ _ _ rfl HN.out) rfl ⟨?_, HN2.out⟩
          rw [HF.out]; rfl
        | false =>
          have HF : Hid (closF z z1 fs gs gj ck = rs ∧ opens ck 8 < gj) := by
            refine ⟨by rw [← HG.out.1]; exact (closF_on HPs.out HEq.out).symm, ?_⟩
            have hm : More cur ck := stO_more HS.out
            have hd : ∃ k, k < 8 ∧ cur k ≠ ck k := by
              refine Classical.byContradiction fun hn => ?_
              have : eqA ck cur = true := eqA_iff.2 fun k hk => Classical.byContradiction fun hne => hn ⟨k, hk, fun e => hne e.symm⟩
              rw [HEq.out] at this; cases this
            have := opens_lt hm 8 hd
            have := HG.out.2
            omega
          go_wp2_with (first | (refine ld8 HCk.out.arr rfl _ rfl rfl ?_) | (refine ld8 HAk.out rfl _ rfl rfl ?_))
          go_roundg gj
          case measure => omega
          case rel => exact ⟨ck, HF, HCk, HPk⟩

end Go.Proofs.Ytmlimbjpehjfnaa
