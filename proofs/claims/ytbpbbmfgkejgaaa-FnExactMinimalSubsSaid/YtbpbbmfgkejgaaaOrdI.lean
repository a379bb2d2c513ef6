/-
  Contracts: elementSet.list (what was drawn does not fall), slices.Compare, cmp.Or, impl.orderOfLists, impl.orderOfSets. Conditions: the bounds that each theorem names.
-/
import Derived.Test.YtbpbbmfgkejgaaaSetQ
import Derived.Test.YtbpbbmfgkejgaaaOrdM
import Derived.Test.YtbpbbmfgkejgaaaDrawn
import Derived.Test.YtbpbbmfgkejgaaaShelf
import Derived.Deep.DrawnRows
namespace Go.Proofs.Ytbpbbmfgkejgaaa
open Go.RowKit
set_option linter.unusedVariables false
set_option linter.unusedSimpArgs false

theorem wpList_append_ownD {P : Program} (w : World) {ops : Array Oper} {rest : List Oper} {o : Oper} {a : Act} {Q : Exit → Act → World → Prop} (hgd : o.guard = none) (s x : Operand) (t : TypeId)
    (ho : o.op = .call { callee := .builtin .append, args := #[s, x], argTypes := #[t, t] })
    (base : Nat) (e : TypeId) (i : TypeInfo) (z : Value) (size bytes : Nat) (ht : P.underlying t = some (.slice e)) (hi : P.info? e = some i) (hz : i.zero = some z)
    (hsize : i.size = size) (hby : i.bytes = bytes) (hzs : z.cells.size = size) (hsz : 0 < size)
    (v : Value) (n : Nat) (xs : List Value) (hs : a.eval s = v) (hown : w.ownsRow base e size v n xs)
    (ad : Addr) (m c : Nat) (news : List Value) (hx : a.eval x = .slice (some ad) m c) (hl : news.length = m * size) (hnews : ∀ j u, news[j]? = some u → w.cell? (ad.add j) = some u) (h1 : ∀ u ∈ news, u.oneCell' = true)
    (h63 : n + m ≤ maxLen) (hbytes : (n + m) * bytes ≤ 140737488355328) (hbase : base ≤ w.heap.size)
    (h : ∀ v' w', w'.ownsRow base e size v' (n + m) (xs ++ news) → w.grownBy w' v.ownBlock → (v' = .slice none 0 0 ↔ v = .slice none 0 0 ∧ m = 0) → w.drawn ≤ w'.drawn → wpList P ops Q rest (a.put o.dst v') w') : wpList P ops Q (o :: rest) a w :=
  wpList_plain hgd fun _ hK => by
    obtain ⟨v', w', hr, h2, h3, h4⟩ := run_append_own (P := P) w base t o.type e i z size bytes ht hi hz hsize hby hzs hsz v n xs hown ad m c news hl hnews h1 h63 hbytes hbase
    unfold Oper.wp execOp
    simp only [ho, resolve, invoke, builtin, Sem.run_bind, Sem.run_pure, Result.andThen_ok, List.map_toArray, List.map_cons, List.map_nil, hs, hx, hr]
    exact hK _ _ (h v' w' h2 h3 h4 (ok_drawn hr))

set_option maxHeartbeats 1000000 in
set_option maxRecDepth 100000 in
theorem listD_any (s : Nat) (w : World) (hs : s < 2 ^ 8) :
    Calls Try.prog 59 #[.int .u64 (s : Int)] w fun e w' => ListAt w w' (listK s 8) e ∧ w.drawn ≤ w'.drawn := by
  obtain ⟨i0, hi0, hz0, hz1, hz2⟩ := info_parts Try.infoInt
  have HS := Lib.hid hs
  clear hs
  unfold ListAt
  go_enter Try.func59, Try.ntmps59
  go_wp2
  go_loopw [3, 5] (fun v i wr => ∃ (j t vc : Nat) (va : Option Addr), j ≤ 8 ∧ i = .int .i64 (j : Int) ∧ v = .slice va t vc ∧ t ≤ j ∧ Hid (wr.ownsRow w.heap.size 3 1 (.slice va t vc) t ((listK s j).map (Value.int .i64))) ∧ Hid (Below w.heap.size w wr) ∧ Hid (w.drawn ≤ wr.drawn)) (fun _ i _ => 8 - (intOf i).toNat)
  case atStart => exact ⟨0, 0, 0, none, Nat.zero_le _, rfl, rfl, Nat.le_refl _, World.ownsRow_nil _ _ _ _, Below.refl _ _, Nat.le_refl _⟩
  case round =>
    obtain ⟨j, t, vc, va, hj, rfl, rfl, htj, HR, HBr, HD⟩ := hrel
    by_cases hj8 : j < 8
    · have hjn : (j : Int) < 8 := by omega
      have HC := fun w => has_any s (j : Int) w HS.out (by omega) hjn
      simp only [Int.toNat_natCast] at HC
      obtain ⟨u, hu⟩ : ∃ u, s.testBit j = u := ⟨_, rfl⟩
      simp only [hu] at HC
      have HC := Lib.hid HC
      have HU := Lib.hid hu
      clear hu
      cases u with
      | true =>
        go_wp2_with fail
        refine (HC.out _).mono ?_
        rintro e w' ⟨rfl, rfl⟩
        go_wp2_with (at_builtin; refine wpList_append_ownD _ rfl _ _ 40 rfl w.heap.size 3 i0 (.int .i64 0) 1 8 Try.underlying40 hi0 hz0 hz1 hz2 rfl (by decide) (.slice va t vc) t ((listK s j).map (Value.int .i64)) rfl (HR.out.alloc _) ⟨wr.heap.size, 0, none⟩ 1 1 [.int .i64 (j : Int)] rfl rfl (cell_one_new _ _ _) (fun x hx => by simp at hx; subst hx; rfl) (by unfold maxLen; omega) (by omega) (by have := HBr.out.size; simp; omega) ?_; intro v' w3 hown' hgrow' hnil' hd')
        obtain ⟨g, cap, rfl⟩ := ownsRow_succ hown'
        have HB3 := Lib.hid ((HBr.out.alloc HBr.out.size (.cells #[.int .i64 (j : Int)] 3)).grown hgrow' (by have := HBr.out.size; simp; omega) (fun q hq => (HR.out.lt q hq).1))
        have HO3 : Hid (w3.ownsRow w.heap.size 3 1 (.slice (some ⟨g, 0, none⟩) (t + 1) cap) (t + 1) ((listK s (j + 1)).map (Value.int .i64))) := by
          unfold Hid
          rw [listK_yes HU.out, List.map_append]
          exact hown'
        have HD3 : Hid (w.drawn ≤ w3.drawn) := Nat.le_trans HD.out hd'
        clear hown' hgrow' hnil' hd'
        go_wp2_with fail
        go_roundw
        case rel => exact ⟨j + 1, t + 1, cap, _, by omega, by go_num, rfl, by omega, HO3, HB3, HD3⟩
        case measure => simp [intOf]; omega
      | false =>
        have HO2 : Hid (wr.ownsRow w.heap.size 3 1 (.slice va t vc) t ((listK s (j + 1)).map (Value.int .i64))) := by
          unfold Hid; rw [listK_no HU.out]; exact HR.out
        go_wp2_with fail
        refine (HC.out _).mono ?_
        rintro e w' ⟨rfl, rfl⟩
        go_wp2_with fail
        go_roundw
        case rel => exact ⟨j + 1, t, vc, va, by omega, by go_num, rfl, by omega, HO2, HBr, HD⟩
        case measure => simp [intOf]; omega
    · obtain rfl : j = 8 := by omega
      go_wp2
      go_ret
      exact ⟨⟨va, t, vc, rfl, by have h_ := HR.out.1; simp at h_; exact h_.symm, HR.out, HBr.out⟩, HD.out⟩

attribute [local go_sem ↓] Go.wp_at_zero Go.wp_at_succ
/-! slices.Compare, cmp.Or, impl.orderOfLists -/
theorem compareInt_eq (x y : Int) : Lib.compareInt x y = (if x < y then -1 else if y < x then 1 else 0) := by
  unfold Lib.compareInt
  by_cases h1 : x < y
  · simp [h1]
  · by_cases h2 : y < x
    · simp [h1, h2]
    · have : x = y := by omega
      subst this
      simp

set_option maxHeartbeats 1000000 in
theorem compare_any (lo hi lo2 hi2 : Nat) (ao bo : Option Addr) (c m d m2 : Nat) (s t : List Int) (w : World) (hs : IView w lo hi ao m s) (ht : IView w lo2 hi2 bo m2 t) (hm : m ≤ 1048576) (hm2 : m2 ≤ 1048576) :
    Calls Try.prog 117 #[.slice ao m c, .slice bo m2 d] w fun e w' => e = .returned (.int .i64 (cmpL s t)) ∧ w = w' := by
  have HS := Lib.hid hs
  have HT := Lib.hid ht
  obtain ⟨r, hr⟩ : ∃ r, cmpL s t = r := ⟨_, rfl⟩
  have HR := Lib.hid hr
  rw [hr]
  clear hs ht hr
  go_enter Try.func117, Try.ntmps117
  go_wp2
  go_loop [5, 6, 7, 8, 11] (fun _ _ _ _ i => ∃ k : Nat, k ≤ m ∧ k ≤ m2 ∧ i = .int .i64 (k : Int) ∧ Hid (cmpL (s.drop k) (t.drop k) = r)) (fun _ _ _ _ i => m - (intOf i).toNat)
  case atStart => exact ⟨0, Nat.zero_le _, Nat.zero_le _, rfl, HR⟩
  case round =>
    obtain ⟨k, hk, hk2, rfl, HE⟩ := hrel
    by_cases hlt : k < m
    · have hkm : (k : Int) < (m : Int) := by omega
      obtain ⟨b, o, rfl, _, _, hc⟩ := HS.out.at_ (by omega)
      obtain ⟨x, hx⟩ := get_of_lt HS.out.1 hlt
      have c0 := hc k x hx
      by_cases hlt2 : k < m2
      · have hkm2 : (k : Int) < (m2 : Int) := by omega
        obtain ⟨b2, o2, rfl, _, _, hc2⟩ := HT.out.at_ (by omega)
        obtain ⟨y, hy⟩ := get_of_lt HT.out.1 hlt2
        have c1 := hc2 k y hy
        have hcall := Try.cmp_Compare_int x y w
        rw [compareInt_eq] at hcall
        have HX := Lib.hid hx
        have HY := Lib.hid hy
        clear hc hc2 hx hy
        by_cases h1 : x < y
        · rw [if_pos h1] at hcall
          have HC := Lib.hid hcall
          have HN : Hid (-1 = r) := by unfold Hid; rw [← HE.out, cmpL_lt HX.out HY.out h1]
          clear hcall
          go_wp2_with fail
          refine HC.out.mono ?_
          rintro e w1 ⟨rfl, rfl⟩
          go_wp2_with fail
          go_ret
          exact ⟨ret_int HN.out, rfl⟩
        · by_cases h2 : y < x
          · rw [if_neg h1, if_pos h2] at hcall
            have HC := Lib.hid hcall
            have HN : Hid (1 = r) := by unfold Hid; rw [← HE.out, cmpL_gt HX.out HY.out h2]
            clear hcall
            go_wp2_with fail
            refine HC.out.mono ?_
            rintro e w1 ⟨rfl, rfl⟩
            go_wp2_with fail
            go_ret
            exact ⟨ret_int HN.out, rfl⟩
          · rw [if_neg h1, if_neg h2] at hcall
            have HC := Lib.hid hcall
            obtain rfl : x = y := by omega
            have HN : Hid (cmpL (s.drop (k + 1)) (t.drop (k + 1)) = r) := by unfold Hid; rw [← HE.out, cmpL_eq HX.out HY.out]
            clear hcall
            go_wp2_with fail
            refine HC.out.mono ?_
            rintro e w1 ⟨rfl, rfl⟩
            go_wp2_with fail
            go_round
            case rel => exact ⟨k + 1, by omega, by omega, by go_num, HN⟩
            case measure => simp [intOf]; omega
      · have hkm2 : (m2 : Int) ≤ (k : Int) := by omega
        have HN : Hid (1 = r) := by unfold Hid; rw [← HE.out, cmpL_right (by have := HS.out.1; omega) (by have := HT.out.1; omega)]
        clear hc hx
        go_wp2
        go_ret
        exact ⟨ret_int HN.out, rfl⟩
    · have hkm : ¬ (k : Int) < (m : Int) := by omega
      by_cases hlt2 : m < m2
      · have hlt2' : (m : Int) < (m2 : Int) := by omega
        have HN : Hid (-1 = r) := by unfold Hid; rw [← HE.out, cmpL_left (by have := HS.out.1; omega) (by have := HT.out.1; omega)]
        go_wp2
        go_ret
        exact ⟨ret_int HN.out, rfl⟩
      · have hlt2' : ¬ (m : Int) < (m2 : Int) := by omega
        have HN : Hid (0 = r) := by unfold Hid; rw [← HE.out, cmpL_both (by have := HS.out.1; omega) (by have := HT.out.1; omega)]
        go_wp2
        go_ret
        exact ⟨ret_int HN.out, rfl⟩

theorem or_any (lo hi : Nat) (ao : Option Addr) (c : Nat) (x y : Int) (w : World) (h : IView w lo hi ao 2 [x, y]) :
    Calls Try.prog 115 #[.slice ao 2 c] w fun e w' => e = .returned (.int .i64 (if x = 0 then y else x)) ∧ w = w' := by
  obtain ⟨b, o, rfl, _, _, hc⟩ := h.at_ (by omega)
  have c0 : w.cell? ⟨b, o, none⟩ = some (.int .i64 x) := by simpa using hc 0 x rfl
  have c1 : w.cell? ⟨b, o + 1, none⟩ = some (.int .i64 y) := hc 1 y rfl
  clear hc h
  by_cases hx : x = 0
  · subst hx
    rw [if_pos rfl]
    by_cases hy : y = 0
    · subst hy
      go_enter Try.func115, Try.ntmps115
      go_wp2
      refine wp_loop_rounds 3 ?_
      rw [rounds_succ]
      go_wp2
      rw [rounds_succ]
      go_wp2
      rw [rounds_succ]
      go_wp2
      go_ret
      exact ⟨rfl, rfl⟩
    · have hne : (y != 0) = true := by rw [bne_iff_ne]; exact hy
      go_enter Try.func115, Try.ntmps115
      go_wp2
      refine wp_loop_rounds 2 ?_
      rw [rounds_succ]
      go_wp2
      rw [rounds_succ]
      go_wp2
      go_ret
      exact ⟨rfl, rfl⟩
  · rw [if_neg hx]
    have hne : (x != 0) = true := by rw [bne_iff_ne]; exact hx
    go_enter Try.func115, Try.ntmps115
    go_wp2
    refine wp_loop_rounds 1 ?_
    rw [rounds_succ]
    go_wp2
    go_ret
    exact ⟨rfl, rfl⟩

set_option maxHeartbeats 400000 in
theorem order_any (lo hi lo2 hi2 : Nat) (ao bo : Option Addr) (c m d m2 : Nat) (s t : List Int) (w : World) (hs : IView w lo hi ao m s) (ht : IView w lo2 hi2 bo m2 t) (hm : m ≤ 1048576) (hm2 : m2 ≤ 1048576) :
    Calls Try.prog 103 #[.slice ao m c, .slice bo m2 d] w fun e w' => e = .returned (.int .i64 (ordL s t)) ∧ ∃ o, w' = w.alloc o := by
  have hl := hs.1
  have hl2 := ht.1
  have hL : Lib.compareInt (m : Int) (m2 : Int) = lenC s t := by
    rw [compareInt_eq]
    unfold lenC
    rw [hl, hl2]
    by_cases h1 : m < m2
    · have h1' : (m : Int) < (m2 : Int) := by omega
      simp [h1]
    · by_cases h2 : m2 < m
      · simp [h1, h2]
      · simp [h1, h2]
  have hc1 := Try.cmp_Compare_int (m : Int) (m2 : Int) w
  rw [hL] at hc1
  have HC1 := Lib.hid hc1
  have HC2 := Lib.hid (compare_any lo hi lo2 hi2 ao bo c m d m2 s t w hs ht hm hm2)
  obtain ⟨x, hx⟩ : ∃ x, lenC s t = x := ⟨_, rfl⟩
  obtain ⟨y, hy⟩ : ∃ y, cmpL s t = y := ⟨_, rfl⟩
  have hO : ordL s t = (if x = 0 then y else x) := by unfold ordL; rw [hx, hy]
  rw [hO]
  rw [hx] at HC1
  rw [hy] at HC2
  have HC3 := Lib.hid (fun cc => or_any w.heap.size (w.heap.size + 1) (some ⟨w.heap.size, 0, none⟩) cc x y (w.alloc (.cells #[.int .i64 x, .int .i64 y] 3)) ⟨rfl, .inr ⟨w.heap.size, 0, rfl, Nat.le_refl _, by omega, fun j v hj => by
    match j, hj with
    | 0, hj => simp at hj; subst hj; simp
    | 1, hj => simp at hj; subst hj; simp⟩⟩)
  obtain ⟨v, hv⟩ : ∃ v, (if x = 0 then y else x) = v := ⟨_, rfl⟩
  rw [hv] at HC3 ⊢
  clear hs ht hl hl2 hL hc1 hx hy hO hv
  go_enter Try.func103, Try.ntmps103
  go_wp2_with fail
  refine HC1.out.mono ?_
  rintro e w1 ⟨rfl, rfl⟩
  go_wp2_with fail
  refine HC2.out.mono ?_
  rintro e w1 ⟨rfl, rfl⟩
  go_wp2_with fail
  refine (HC3.out _).mono ?_
  rintro e w1 ⟨rfl, rfl⟩
  go_wp2_with fail
  go_ret
  exact ⟨rfl, _, rfl⟩

theorem view_own {w : World} {B n c : Nat} {a : Option Addr} {xs : List Int} (h : w.ownsRow B 3 1 (.slice a n c) n (xs.map (Value.int .i64))) : IView w B w.heap.size a n xs := by
  rcases h.2 with ⟨h0, _⟩ | ⟨g, cap, _, h0, _⟩
  · cases h0
    exact ⟨by have := h.1; simpa using this, .inl rfl⟩
  · cases h0
    exact IView.of_owns h (Nat.le_refl _)

set_option maxHeartbeats 400000 in
theorem orderOfSets_any (s t : Nat) (w : World) (hs : s < 2 ^ 8) (ht : t < 2 ^ 8) :
    Calls Try.prog 97 #[.int .u64 (s : Int), .int .u64 (t : Int)] w fun e w' => e = .returned (.int .i64 (ordL (listK s 8) (listK t 8))) ∧ ∃ q os, w' = Go.Sort.grow (w.drewN q) os := by
  have HL1 := Lib.hid (listD_any s w hs)
  have HL2 := Lib.hid (fun W => listD_any t W ht)
  have h1 := listK_le s 8
  have h2 := listK_le t 8
  obtain ⟨xs, hxs⟩ : ∃ xs, listK s 8 = xs := ⟨_, rfl⟩
  obtain ⟨ys, hys⟩ : ∃ ys, listK t 8 = ys := ⟨_, rfl⟩
  rw [hxs] at HL1 h1 ⊢
  rw [hys] at HL2 h2 ⊢
  have H1 := Lib.hid h1
  have H2 := Lib.hid h2
  clear h1 h2 hxs hys hs ht
  go_enter Try.func97, Try.ntmps97
  go_wp2_with fail
  refine HL1.out.mono ?_
  rintro e w1 ⟨⟨a1, m1, d1, rfl, hm1, ho1, b1⟩, hd1⟩
  have HB1 := Lib.hid b1
  have HD1 := Lib.hid hd1
  have HM1 := Lib.hid hm1
  have hv1 := view_own ho1
  have HV1 := Lib.hid hv1
  clear b1 hd1 hm1 ho1 hv1
  go_wp2_with fail
  refine (HL2.out _).mono ?_
  rintro e w2 ⟨⟨a2, m2, d2, rfl, hm2, ho2, b2⟩, hd2⟩
  have hB2 := HB1.out.trans (b2.mono HB1.out.size)
  have HB2 := Lib.hid hB2
  have HD2 : Hid (w.drawn ≤ w2.drawn) := Nat.le_trans HD1.out hd2
  have hx := HV1.out.kept (Kept.of_below b2 (Nat.le_refl _))
  have hy := view_own ho2
  have HO := Lib.hid (order_any _ _ _ _ a1 a2 d1 m1 d2 m2 xs ys w2 hx hy (by have := HM1.out; have := H1.out; omega) (by have := H2.out; omega))
  clear b2 hd2 hm2 ho2 hx hy hB2
  go_wp2_with fail
  refine HO.out.mono ?_
  rintro e w3 ⟨rfl, o, rfl⟩
  go_wp2_with fail
  go_ret
  exact ⟨rfl, grow_of (below_then HB2.out (below_alloc _ _)) HD2.out⟩

theorem allEl_any (n : Int) (w : World) (h1 : 1 ≤ n) (h8 : n ≤ 8) :
    Calls Try.prog 47 #[.int .i64 n] w fun e w' => e = .returned (.int .u64 ((2 ^ n.toNat - 1 : Nat) : Int)) ∧ w = w' := by
  have h : n = 1 ∨ n = 2 ∨ n = 3 ∨ n = 4 ∨ n = 5 ∨ n = 6 ∨ n = 7 ∨ n = 8 := by omega
  rcases h with rfl | rfl | rfl | rfl | rfl | rfl | rfl | rfl
  · go_enter Try.func47, Try.ntmps47
    go_wp2
    go_ret
    exact ⟨rfl, rfl⟩
  · go_enter Try.func47, Try.ntmps47
    go_wp2
    go_ret
    exact ⟨rfl, rfl⟩
  · go_enter Try.func47, Try.ntmps47
    go_wp2
    go_ret
    exact ⟨rfl, rfl⟩
  · go_enter Try.func47, Try.ntmps47
    go_wp2
    go_ret
    exact ⟨rfl, rfl⟩
  · go_enter Try.func47, Try.ntmps47
    go_wp2
    go_ret
    exact ⟨rfl, rfl⟩
  · go_enter Try.func47, Try.ntmps47
    go_wp2
    go_ret
    exact ⟨rfl, rfl⟩
  · go_enter Try.func47, Try.ntmps47
    go_wp2
    go_ret
    exact ⟨rfl, rfl⟩
  · go_enter Try.func47, Try.ntmps47
    go_wp2
    go_ret
    exact ⟨rfl, rfl⟩

end Go.Proofs.Ytbpbbmfgkejgaaa
