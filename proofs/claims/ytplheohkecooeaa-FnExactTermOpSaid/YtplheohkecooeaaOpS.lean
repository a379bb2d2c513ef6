/-
  Contract: spec.l3Op. Conditions: the bounds that it names.
-/
import Derived.Test.YtplheohkecooeaaOpI
import Derived.Test.YtplheohkecooeaaEvalV
import Derived.Deep.RegionLaw
namespace Go.Proofs.Ytplheohkecooeaa
open Go.RowKit
set_option linter.unusedVariables false
set_option linter.unusedSimpArgs false
attribute [local go_sem ↓] Go.wp_at_zero Go.wp_at_succ

theorem boxS1 {w : World} {B : Nat} {a b v : Value} {ty : TypeId} (h : w.heap[B]? = some (.cells #[a, b] ty (0, 0))) : (w.setCell ⟨B, 1, none⟩ v).heap[B]? = some (.cells #[a, v] ty (0, 0)) := by
  simp [World.setCell, Array.getElem?_modify, h]

set_option maxRecDepth 100000 in
set_option maxHeartbeats 4000000 in
theorem l3Op_any (lo hi : Nat) (z : Int) (ao : Option Addr) (c n : Nat) (fs : List OpD) (lo2 hi2 : Nat) (bo : Option Addr) (d m : Nat) (xs : List Int) (kn n0 : Nat) (w : World) (hv : OView w lo hi ao n fs) (hhi : hi ≤ w.heap.size)
    (hx : IView w lo2 hi2 bo m xs) (hhi2 : hi2 ≤ w.heap.size) (hr : isTermB z fs xs = true) (hk3 : kn ≤ 3) (hf : fitsB xs kn = true) (hn0 : powI z kn = (n0 : Int)) :
    Calls Try.prog 87 #[.agg #[.int .i64 z, .slice ao n c], .slice bo m d, .int .i64 (kn : Int)] w fun e w' => ∃ g c', e = .returned (.agg #[.int .i64 (kn : Int), .slice (some ⟨g, 0, none⟩) n0 c']) ∧ w'.ownsRow w.heap.size 3 1 (.slice (some ⟨g, 0, none⟩) n0 c') n0 ((opT z fs xs kn n0).map (Value.int .i64)) ∧ Below w.heap.size w w' := by
  obtain ⟨hok, h60, hend⟩ := isTermB_of hr
  obtain ⟨hz1, hz2⟩ := (algOkB_of hok).1
  have HP := Lib.hid (fun (W : World) => pow_any z kn W hz1 hz2 hk3)
  rw [hn0] at HP
  have hnb := powI_bd hz1 hz2 hk3
  rw [hn0] at hnb
  obtain ⟨hn1, hn2⟩ : 1 ≤ n0 ∧ n0 ≤ 512 := ⟨by omega, by omega⟩
  have hfit : ∀ x, x ∈ xs → x < (kn : Int) := fun x hxx => by
    have := List.all_eq_true.1 hf x hxx
    simpa using this
  have HV := Lib.hid (fun (j g : Nat) (W : World) (hb : Below w.heap.size w W) (hd : IView W g W.heap.size (some ⟨g, 0, none⟩) kn (digs z kn (j : Int))) => l3Value_any lo hi lo2 hi2 g W.heap.size z ao bo (some ⟨g, 0, none⟩) n c m d kn kn fs xs (digs z kn (j : Int)) W (hv.kept (Kept.of_below hb hhi)) (Nat.le_trans hhi hb.size) hok (hx.kept (Kept.of_below hb hhi2)) (Nat.le_trans hhi2 hb.size) hd (Nat.le_refl _) h60 hend (digs_in hz1 kn j) hfit)
  have HA := Lib.hid (fun (j : Nat) (hj : j < n0) (W : World) => argsSpec_any z (j : Int) kn hk3 W hz1 hz2 (by omega) (by omega))
  have hB2 := below_then (below_alloc w (.cells #[.int .i64 z, .slice ao n c] 30)) (below_alloc _ (.cells #[.int .i64 0, .slice none 0 0] 54))
  have hB3 := below_then hB2 (below_alloc _ (.cells #[] 3))
  have HB := Lib.hid (below_then hB3 (below_alloc _ (.cells #[.int .i64 (kn : Int), .slice (some ⟨w.heap.size + 1 + 1, 0, none⟩) 0 0] 54)))
  have hR0 : Hid (((((w.alloc (.cells #[.int .i64 z, .slice ao n c] 30)).alloc (.cells #[.int .i64 0, .slice none 0 0] 54)).alloc (.cells #[] 3)).alloc (.cells #[.int .i64 (kn : Int), .slice (some ⟨w.heap.size + 1 + 1, 0, none⟩) 0 0] 54)).heap[w.heap.size + 1]? = some (.cells #[.int .i64 0, .slice none 0 0] 54 (0, 0))) := by
    unfold Hid
    rw [Below.heap_alloc _ _ _ (by simp), Below.heap_alloc _ _ _ (by simp)]
    have h := heap_alloc_new (w.alloc (.cells #[.int .i64 z, .slice ao n c] 30)) (.cells #[.int .i64 0, .slice none 0 0] 54)
    rw [World.size_alloc] at h
    exact h
  have hX0 : Hid (((((w.alloc (.cells #[.int .i64 z, .slice ao n c] 30)).alloc (.cells #[.int .i64 0, .slice none 0 0] 54)).alloc (.cells #[] 3)).alloc (.cells #[.int .i64 (kn : Int), .slice (some ⟨w.heap.size + 1 + 1, 0, none⟩) 0 0] 54)).heap[w.heap.size + 1 + 1 + 1]? = some (.cells #[.int .i64 (kn : Int), .slice (some ⟨w.heap.size + 1 + 1, 0, none⟩) 0 0] 54 (0, 0))) := by
    have h := heap_alloc_new (((w.alloc (.cells #[.int .i64 z, .slice ao n c] 30)).alloc (.cells #[.int .i64 0, .slice none 0 0] 54)).alloc (.cells #[] 3)) (.cells #[.int .i64 (kn : Int), .slice (some ⟨w.heap.size + 1 + 1, 0, none⟩) 0 0] 54)
    rw [World.size_alloc, World.size_alloc, World.size_alloc] at h
    exact h
  have hO0 : Hid (((((w.alloc (.cells #[.int .i64 z, .slice ao n c] 30)).alloc (.cells #[.int .i64 0, .slice none 0 0] 54)).alloc (.cells #[] 3)).alloc (.cells #[.int .i64 (kn : Int), .slice (some ⟨w.heap.size + 1 + 1, 0, none⟩) 0 0] 54)).ownsRow w.heap.size 3 1 (.slice (some ⟨w.heap.size + 1 + 1, 0, none⟩) 0 0) 0 ((opT z fs xs kn 0).map (Value.int .i64))) := by
    have h := own_nil_lit ((w.alloc (.cells #[.int .i64 z, .slice ao n c] 30)).alloc (.cells #[.int .i64 0, .slice none 0 0] 54)) (base := w.heap.size) (by simp; omega)
    rw [World.size_alloc, World.size_alloc] at h
    exact h.alloc _
  have cz0 : ((((w.alloc (.cells #[.int .i64 z, .slice ao n c] 30)).alloc (.cells #[.int .i64 0, .slice none 0 0] 54)).alloc (.cells #[] 3)).alloc (.cells #[.int .i64 (kn : Int), .slice (some ⟨w.heap.size + 1 + 1, 0, none⟩) 0 0] 54)).cell? ⟨w.heap.size, 0, none⟩ = some (.int .i64 z) := by go_simp
  have ca0 : ((((w.alloc (.cells #[.int .i64 z, .slice ao n c] 30)).alloc (.cells #[.int .i64 0, .slice none 0 0] 54)).alloc (.cells #[] 3)).alloc (.cells #[.int .i64 (kn : Int), .slice (some ⟨w.heap.size + 1 + 1, 0, none⟩) 0 0] 54)).cell? ⟨w.heap.size, 1, none⟩ = some (.slice ao n c) := by go_simp
  clear hv hx hr hok hend hn0 hnb hfit hf hB2 hB3
  go_enter Try.func87, Try.ntmps87
  go_wp2_with fail
  obtain ⟨w3, hw3⟩ : ∃ w3 : World, w3 = (((w.alloc (.cells #[.int .i64 z, .slice ao n c] 30)).alloc (.cells #[.int .i64 0, .slice none 0 0] 54)).alloc (.cells #[] 3)).alloc (.cells #[.int .i64 (kn : Int), .slice (some ⟨w.heap.size + 1 + 1, 0, none⟩) 0 0] 54) := ⟨_, rfl⟩
  have hs3 : w.heap.size + 1 + 1 + 1 < w3.heap.size := by rw [hw3]; simp
  rw [← hw3] at HB hR0 hX0 hO0 cz0 ca0 ⊢
  clear hw3
  go_loopw [8] (fun i wr => ∃ j g c0 : Nat, j ≤ n0 ∧ i = .int .i64 (j : Int) ∧ Hid (wr.ownsRow w.heap.size 3 1 (.slice (some ⟨g, 0, none⟩) j c0) j ((opT z fs xs kn j).map (Value.int .i64))) ∧ Hid (wr.heap[w.heap.size + 1 + 1 + 1]? = some (.cells #[.int .i64 (kn : Int), .slice (some ⟨g, 0, none⟩) j c0] 54 (0, 0))) ∧ Hid (wr.heap[w.heap.size + 1]? = some (.cells #[.int .i64 0, .slice none 0 0] 54 (0, 0))) ∧ wr.cell? ⟨w.heap.size, 0, none⟩ = some (.int .i64 z) ∧ wr.cell? ⟨w.heap.size, 1, none⟩ = some (.slice ao n c) ∧ Hid (Below w.heap.size w wr) ∧ w.heap.size + 1 + 1 + 1 < wr.heap.size ∧ Hid (g = w.heap.size + 1 + 1 ∨ w.heap.size + 1 + 1 + 1 < g)) (fun i _ => n0 - (intOf i).toNat)
  case atStart => exact ⟨0, w.heap.size + 1 + 1, 0, Nat.zero_le _, rfl, hO0, hX0, hR0, cz0, ca0, HB, hs3, .inl rfl⟩
  case round =>
    obtain ⟨j, g, c0, hj, rfl, HO, HX, HR, dz, da, HBr, hsr, HG⟩ := hrel
    clear hO0 hX0 hR0 cz0 ca0 HB hs3
    by_cases hlt : j < n0
    · obtain ⟨wi, hwi⟩ : ∃ wi : World, wi = wr := ⟨_, rfl⟩
      rw [← hwi]
      rw [← hwi] at HO HX HR dz da HBr hsr
      clear hwi
      obtain ⟨x0, x1, xf⟩ := boxC HX.out
      obtain ⟨y, hy⟩ : ∃ y, evT z fs (digs z kn (j : Int)) xs = y := ⟨_, rfl⟩
      have HVj := Lib.hid (HV.out j)
      rw [hy] at HVj
      have HAj := Lib.hid (HA.out j hlt)
      have HTs := Lib.hid (opT_succ z fs xs kn j)
      rw [hy] at HTs
      have hjn : (j : Int) < (n0 : Int) := by omega
      have tokC : True := trivial
      clear hy xf x0
      go_wp2_with fail
      refine (HP.out _).mono ?_
      rintro e w' ⟨rfl, rfl⟩
      go_wp2_with fail
      go_region_law ((first
        | (go_simp
           go_at_call 112
           refine (HAj.out _).mono ?_
           rintro e wA ⟨rfl, hwA⟩
           have bA : Below wi.heap.size wi wA := by rw [hwA]; exact below_then (below_drew wi) (below_alloc _ _)
           have DA : Hid (IView wA wi.heap.size wA.heap.size (some ⟨wi.heap.size, 0, none⟩) kn (digs z kn (j : Int))) := digs_view (W := wA) (g := wi.heap.size) (z := z) (at_ := (j : Int)) (m := kn) (ty := 3) (by rw [hwA]; exact heap_alloc_new _ _)
           have x1A := cell_b bA x1
           have dzA := cell_b bA dz
           have daA := cell_b bA da
           have HBA := Lib.hid bA
           clear hwA bA)
        | (go_simp
           go_at_call 84
           refine (HVj.out _ _ (HBr.out.trans (HBA.out.mono HBr.out.size)) DA.out).mono ?_
           rintro e wV ⟨rfl, bV⟩
           have BV := below_then HBA.out bV
           have x1V := cell_b BV x1
           have x1P := cell_b (below_alloc wV (.cells #[.int .i64 y] 3)) x1V
           have HOV := Lib.hid (HO.out.kept (grown_of_below BV none) (own_em _))
           have HBV := Lib.hid BV
           clear bV BV)
        | (have _t := HOV
           clear _t
           have _t := tokC
           refine step_append_ints ?_ _ _ rfl w.heap.size g j c0 (opT z fs xs kn j) ?_ ?_ ⟨wV.heap.size, 0, none⟩ 1 1 [y] ?_ rfl ?_ ?_ ?_ ?_
           (focus (rfl; done))
           (focus (rfl; done))
           (focus (exact HOV.out.alloc _))
           (focus (rfl; done))
           (focus (refine one_at ?_; (first | (go_simp; done) | (simp; done))))
           (focus (omega; done))
           (focus (have h1_ := HBr.out.size; have h2_ := HBV.out.size; simp; omega))
           intro gC cC wC hC hgC hatC
           have hXC : wC.heap[w.heap.size + 1 + 1 + 1]? = some (.cells #[.int .i64 (kn : Int), .slice (some ⟨g, 0, none⟩) j c0] 54 (0, 0)) := by
             have h2_ := HBV.out.size
             rw [hgC.block _ (by simp; omega) (by intro h_; injection h_ with h_; have := HG.out; omega), Below.heap_alloc _ _ _ (by omega), HBV.out.block _ hsr]
             exact HX.out
           obtain ⟨_, x1C, xfC⟩ := boxC hXC
           have HXC := Lib.hid hXC
           have HOC := Lib.hid hC
           have HGC := Lib.hid hgC
           have HAC := Lib.hid hatC
           clear hC hgC hatC hXC tokC _t)))
      all_goals
        have hbs := HBr.out.size
        have hvs := HBV.out.size
        have hcs := HGC.out.size
        have hGl := (HO.out.lt g rfl)
        rw [World.size_alloc] at hcs
        have hgC2 : gC = w.heap.size + 1 + 1 ∨ w.heap.size + 1 + 1 + 1 < gC := by
          have h1_ := HG.out
          rcases HAC.out with h_ | h_
          · omega
          · rw [World.size_alloc] at h_; omega
        have hB5 : Below w.heap.size w wC := ((HBr.out.trans (HBV.out.mono hbs)).alloc (by omega) (.cells #[.int .i64 y] 3)).grown HGC.out (by simp; omega) (by intro b hb; cases hb; omega)
        have hfar : ∀ b, b ≠ g → b ≠ w.heap.size + 1 + 1 + 1 → b < wi.heap.size → (wC.setCell ⟨w.heap.size + 1 + 1 + 1, 1, none⟩ (.slice (some ⟨gC, 0, none⟩) (j + 1) cC)).heap[b]? = wi.heap[b]? := fun b hb0 hb1 hb2 => by
          rw [Below.heap_setCell _ _ _ _ (by show b ≠ w.heap.size + 1 + 1 + 1; omega), HGC.out.block _ (by simp; omega) (by intro h_; injection h_ with h_; omega), Below.heap_alloc _ _ _ (by omega), HBV.out.block b hb2]
        have HX6 := Lib.hid (boxS1 (v := .slice (some ⟨gC, 0, none⟩) (j + 1) cC) HXC.out)
        have hg3 := HG.out
        have HR6 : Hid ((wC.setCell ⟨w.heap.size + 1 + 1 + 1, 1, none⟩ (.slice (some ⟨gC, 0, none⟩) (j + 1) cC)).heap[w.heap.size + 1]? = some (.cells #[.int .i64 0, .slice none 0 0] 54 (0, 0))) := (hfar _ (by omega) (by omega) (by omega)).trans HR.out
        have HB6 : Hid (Below w.heap.size w (wC.setCell ⟨w.heap.size + 1 + 1 + 1, 1, none⟩ (.slice (some ⟨gC, 0, none⟩) (j + 1) cC))) := hB5.setCell (by show w.heap.size ≤ w.heap.size + 1 + 1 + 1; omega) _
        have hs6 : w.heap.size + 1 + 1 + 1 < (wC.setCell ⟨w.heap.size + 1 + 1 + 1, 1, none⟩ (.slice (some ⟨gC, 0, none⟩) (j + 1) cC)).heap.size := by
          simp [World.setCell]; omega
        have hcell : ∀ o, (wC.setCell ⟨w.heap.size + 1 + 1 + 1, 1, none⟩ (.slice (some ⟨gC, 0, none⟩) (j + 1) cC)).cell? ⟨w.heap.size, o, none⟩ = wi.cell? ⟨w.heap.size, o, none⟩ := fun o => by
          have h_ := hfar w.heap.size (by omega) (by omega) (by omega)
          simp only [World.cell?, h_]
        have z6 := (hcell 0).trans dz
        have a6 := (hcell 1).trans da
        have HO6 : Hid ((wC.setCell ⟨w.heap.size + 1 + 1 + 1, 1, none⟩ (.slice (some ⟨gC, 0, none⟩) (j + 1) cC)).ownsRow w.heap.size 3 1 (.slice (some ⟨gC, 0, none⟩) (j + 1) cC) (j + 1) ((opT z fs xs kn (j + 1)).map (Value.int .i64))) := by
          unfold Hid
          rw [HTs.out]
          refine ownsRow_block HOC.out fun b hb => ?_
          obtain rfl : gC = b := by injection hb
          exact Below.heap_setCell _ _ _ _ (by show gC ≠ w.heap.size + 1 + 1 + 1; omega)
        have HG6 := Lib.hid hgC2
        clear hfar hcell x1 x1A x1V x1P x1C xfC dz da dzA daA
        go_wp2_with fail
        go_roundw
        case rel => exact ⟨j + 1, gC, cC, by omega, by go_num, HO6, HX6, HR6, z6, a6, HB6, hs6, HG6⟩
        case measure => simp [intOf]; omega
    · obtain rfl : j = n0 := by omega
      obtain ⟨x0, x1, _⟩ := boxC HX.out
      obtain ⟨r0, r1, rf⟩ := boxC HR.out
      have hg3 := HG.out
      go_wp2_with fail
      refine (HP.out _).mono ?_
      rintro e w' ⟨rfl, rfl⟩
      go_wp2_with fail
      refine bodyPost_ret (v := .agg #[.int .i64 (kn : Int), .slice (some ⟨g, 0, none⟩) j c0]) (by simp [results, Try.results87, go_sem, r0, r1]) rfl ⟨g, c0, rfl, ?_, (HBr.out.setCell (by show _ ≤ _; simp) _).setCell (by show _ ≤ _; simp) _⟩
      refine ownsRow_block HO.out fun b hb => ?_
      obtain rfl : g = b := by injection hb
      rw [Below.heap_setCell _ _ _ _ (by show g ≠ w.heap.size + 1; omega), Below.heap_setCell _ _ _ _ (by show g ≠ w.heap.size + 1; omega)]

end Go.Proofs.Ytplheohkecooeaa
