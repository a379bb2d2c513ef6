/-
  Contract: impl.IsIdempotent. Conditions: the bounds that each theorem names.
-/
import Derived.Test.YthgggoodceogkaaIdx
import Derived.Test.YthgggoodceogkaaRepeat
import Derived.Test.YthgggoodceogkaaStep
namespace Go.Proofs.Ythgggoodceogkaa
open Go.RowKit
set_option linter.unusedVariables false
set_option linter.unusedSimpArgs false

/-- What stands in a table where all arguments are x. -/
def diag (zn m x : Nat) (f : OpD) : Int := atA (zn : Int) f (List.replicate m (x : Int))
def idemB (zn : Nat) (f : OpD) : Bool := (List.range zn).all fun x => decide (diag zn f.1.toNat x f = (x : Int))
theorem idemB_yes {zn m : Nat} {f : OpD} (hm : f.1 = (m : Int)) (h : ∀ x, x < zn → diag zn m x f = (x : Int)) : idemB zn f = true := by
  simp only [idemB, List.all_eq_true, List.mem_range, decide_eq_true_eq, hm, Int.toNat_natCast]
  exact h
theorem idemB_no {zn m x : Nat} {f : OpD} (hm : f.1 = (m : Int)) (hx : x < zn) (h : ¬ diag zn m x f = (x : Int)) : idemB zn f = false := by
  rw [← Bool.not_eq_true]
  intro hc
  simp only [idemB, List.all_eq_true, List.mem_range, decide_eq_true_eq, hm, Int.toNat_natCast] at hc
  exact h (hc x hx)
def valIsIdempotent (z : Int) (fs : List OpD) (op : Int) : Bool × Bool := if takesB z fs op then (idemB z.toNat (opD fs op), true) else (false, false)

theorem rep_in {zn m x : Nat} (hx : x < zn) : allIn (zn : Int) (List.replicate m (x : Int)) = true := by
  simp only [allIn, List.all_eq_true]
  intro v hv
  obtain rfl := List.eq_of_mem_replicate hv
  simp; omega

/-- What is known of a valid table, at one argument taken throughout. -/
theorem rep_table {z : Int} {f : OpD} (h1 : 1 ≤ z) (h2 : z ≤ 8) (hok : opOkB z f = true) : ∃ zn m : Nat, z = (zn : Int) ∧ f.1 = (m : Int) ∧ 1 ≤ zn ∧ zn ≤ 8 ∧ m ≤ 3 ∧
    (∀ x, x < zn → ∃ i : Nat, idxA (zn : Int) (List.replicate m (x : Int)) = (i : Int) ∧ i < f.2.length ∧ f.2[i]? = some (diag zn m x f)) ∧ (m = 0 → idemB zn f = (decide (zn = 1))) := by
  obtain ⟨zn, rfl⟩ : ∃ zn : Nat, z = (zn : Int) := ⟨z.toNat, by omega⟩
  obtain ⟨⟨a0, a1⟩, hlen, hall⟩ := opOkB_of hok
  obtain ⟨m, hm⟩ : ∃ m : Nat, f.1 = (m : Int) := ⟨f.1.toNat, by omega⟩
  have hT : ∀ x, x < zn → ∃ i : Nat, idxA (zn : Int) (List.replicate m (x : Int)) = (i : Int) ∧ i < f.2.length ∧ f.2[i]? = some (diag zn m x f) := by
    intro x hx
    obtain ⟨i0, i1, i2⟩ := at_get (xs := List.replicate m (x : Int)) (by omega) hok (by rw [hm]; simp) (rep_in hx)
    exact ⟨(idxA (zn : Int) (List.replicate m (x : Int))).toNat, by omega, by omega, i2⟩
  refine ⟨zn, m, rfl, hm, by omega, by omega, by omega, hT, fun h0 => ?_⟩
  subst h0
  have hd : ∀ x, diag zn 0 x f = diag zn 0 0 f := fun x => rfl
  obtain ⟨i, _, _, hi⟩ := hT 0 (by omega)
  have hin := allIn_get hall hi
  by_cases hz : zn = 1
  · subst hz
    rw [idemB_yes hm fun x hx => by rw [hd x]; omega]
    rfl
  · rw [decide_eq_false hz]
    by_cases h0 : diag zn 0 0 f = 0
    · exact idemB_no hm (x := 1) (by omega) (by rw [hd 1, h0]; decide)
    · exact idemB_no hm (x := 0) (by omega) (by simpa using h0)

theorem repeat_any (g c m : Nat) (x : Int) (w : World) (hx : w.cell? ⟨g, 0, none⟩ = some (.int .i64 x)) (hm : m ≤ 3) :
    Calls Try.prog 66 #[.slice (some ⟨g, 0, none⟩) 1 c, .int .i64 (m : Int)] w fun e w' => e = .returned (.slice (some ⟨w.heap.size, 0, none⟩) m m) ∧ IView w' w.heap.size w'.heap.size (some ⟨w.heap.size, 0, none⟩) m (List.replicate m x) ∧ Below w.heap.size w w' := by
  match m, hm with
  | 0, _ => exact (repeat_0 g c x w hx).mono fun e w' ⟨a, b, d⟩ => ⟨a, rep_view (Nat.le_refl _) b, d⟩
  | 1, _ => exact (repeat_1 g c x w hx).mono fun e w' ⟨a, b, d⟩ => ⟨a, rep_view (Nat.le_refl _) b, d⟩
  | 2, _ => exact (repeat_2 g c x w hx).mono fun e w' ⟨a, b, d⟩ => ⟨a, rep_view (Nat.le_refl _) b, d⟩
  | 3, _ => exact (repeat_3 g c x w hx).mono fun e w' ⟨a, b, d⟩ => ⟨a, rep_view (Nat.le_refl _) b, d⟩
  | m + 4, h => omega

set_option maxHeartbeats 2000000 in
theorem implIsIdempotent (lo hi : Nat) (z : Int) (ao : Option Addr) (c n : Nat) (fs : List OpD) (op : Int) (w : World) (hv : OView w lo hi ao n fs) (hhi : hi ≤ w.heap.size) (hs : ∀ (j : Nat) (f : OpD), fs[j]? = some f → f.2.length ≤ maxLen) (wz : (Lit.int .i64 op).wf = true) :
    Calls Try.prog 33 #[.agg #[.int .i64 z, .slice ao n c], .int .i64 op] w fun e w' => e = .returned (.tuple #[.bool (valIsIdempotent z fs op).1, .bool (valIsIdempotent z fs op).2]) ∧ Below w.heap.size w w' := by
  have hB := (Below.refl w.heap.size w).alloc (Nat.le_refl _) (.cells #[.int .i64 z, .slice ao n c] 29)
  have HB := Lib.hid hB
  have hv1 := hv.kept (Kept.of_below hB hhi)
  have hhi' := Nat.le_trans hhi hB.size
  obtain ⟨t, ht⟩ : ∃ t, takesB z fs op = t := ⟨_, rfl⟩
  cases t with
  | false =>
    have HC := Lib.hid (opOf_no lo hi z ao c n fs op _ hv1 hhi' hs ht)
    rw [show valIsIdempotent z fs op = (false, false) by simp [valIsIdempotent, ht]]
    clear hB hs hv hv1 hhi' ht
    go_enter Try.func33, Try.ntmps33
    go_wp2_with fail
    refine HC.out.mono ?_
    rintro e w1 ⟨rfl, b1⟩
    have HB1 := Lib.hid ((HB.out.trans (b1.mono HB.out.size)).alloc (Nat.le_trans HB.out.size b1.size) (.cells #[.int .i64 0, .slice none 0 0] 56))
    clear b1
    go_wp2_with fail
    go_ret2
    exact ⟨rfl, HB1.out⟩
  | true =>
    obtain ⟨k, f, rfl, hkl, hf, hfo⟩ := takes_get ht
    have hok := (takes_of ht).1
    have hfl := opD_get hf
    obtain ⟨⟨h1, h2⟩, hn4, _⟩ := algOkB_of hok
    have HC := Lib.hid (opOf_yes lo hi z ao c n fs k f _ hv1 hhi' hs hok hf)
    obtain ⟨zn, m, rfl, har, hz1, hz2, hm3, hT, _⟩ := rep_table h1 h2 hfo
    have hval : valIsIdempotent (zn : Int) fs (k : Int) = (idemB zn f, true) := by simp [valIsIdempotent, ht, hfl]
    have HVal := Lib.hid hval
    have HT := Lib.hid hT
    have HAr := Lib.hid har
    clear hB hs hv hv1 hhi' ht hok hf hfo hfl hT har hval h1 h2
    go_enter Try.func33, Try.ntmps33
    go_wp2_with fail
    refine HC.out.mono ?_
    rintro e w1 ⟨ta, tm, tc, rfl, hm1, hm2, hm3', hvt, b1⟩
    rw [HAr.out]
    have hsz : w.heap.size < w1.heap.size := by have := b1.size; simp at this; omega
    have HB1 := Lib.hid (HB.out.trans (b1.mono HB.out.size))
    have cz : w1.cell? ⟨w.heap.size, 0, none⟩ = some (.int .i64 (zn : Int)) := (b1.cell (p := ⟨w.heap.size, 0, none⟩) (by simp)).trans (by simp)
    have htm : 1 ≤ tm := by obtain ⟨i, _, h, _⟩ := HT.out 0 (by omega); omega
    obtain ⟨bt, ot, rfl, _, _, hct⟩ := hvt.at_ (by omega)
    have HCt := Lib.hid hct
    have HM1 := Lib.hid hm1
    have hm2' : (tm : Int) ≤ 9223372036854775807 := by unfold maxLen at hm3'; omega
    clear b1 hvt hct hm1
    go_wp2_with fail
    go_loopw [8, 9, 20] (fun s8 s9 i wr => ∃ x : Nat, x ≤ zn ∧ i = .int .i64 (x : Int) ∧ Hid (∀ x', x' < x → diag zn m x' f = (x' : Int)) ∧ wr.cell? ⟨w.heap.size, 0, none⟩ = some (.int .i64 (zn : Int)) ∧ wr.cell? ⟨w1.heap.size, 0, none⟩ = some (.int .i64 (m : Int)) ∧ wr.cell? ⟨w1.heap.size, 1, none⟩ = some (.slice (some ⟨bt, ot, none⟩) tm tc) ∧ w1.heap.size < wr.heap.size ∧ Hid (Below w1.heap.size w1 wr)) (fun _ _ i _ => zn - (intOf i).toNat)
    case atStart => exact ⟨0, Nat.zero_le _, rfl, fun x' h => by omega, by rw [World.cell?_alloc_lt w1 _ ⟨w.heap.size, 0, none⟩ hsz]; exact cz, by simp, by simp, by simp, below_alloc _ _⟩
    case round =>
      obtain ⟨x, hx, rfl, HA, dz, da, db, hws, HBr⟩ := hrel
      clear cz
      by_cases hlt : x < zn
      · obtain ⟨wi, hwi⟩ : ∃ wi : World, wi = wr := ⟨_, rfl⟩
        rw [← hwi]
        rw [← hwi] at dz da db hws HBr
        clear hwi
        go_wp2_with fail
        refine (repeat_any wi.heap.size _ m (x : Int) _ (by simp) hm3).mono ?_
        rintro e w2 ⟨rfl, hvw, b2⟩
        have hb2 := below_then (below_alloc wi _) b2
        have ez : w2.cell? ⟨w.heap.size, 0, none⟩ = some (.int .i64 (zn : Int)) := cell_b hb2 dz
        have ea : w2.cell? ⟨w1.heap.size, 0, none⟩ = some (.int .i64 (m : Int)) := cell_b hb2 da
        have eb : w2.cell? ⟨w1.heap.size, 1, none⟩ = some (.slice (some ⟨bt, ot, none⟩) tm tc) := cell_b hb2 db
        have hws2 : w1.heap.size < w2.heap.size := by have := hb2.size; omega
        have HB2 := Lib.hid (below_then HBr.out (hb2.mono (Nat.le_refl _)))
        obtain ⟨i, hi, hil, hiv⟩ := HT.out x hlt
        have ct := HCt.out i _ hiv
        obtain ⟨v, hv⟩ : ∃ v, diag zn m x f = v := ⟨_, rfl⟩
        rw [hv] at ct
        have ct2 : w2.cell? ⟨bt, ot + i, none⟩ = some (.int .i64 v) := cell_b HB2.out ct
        have hI := fun (q : Nat) => idx_impl _ _ (zn : Int) _ m m _ (w2.drewN q) (hvw.kept (Kept.drewN w2 q)) (by omega) (by omega) (rep_in hlt) hm3
        simp only [hi, World.size_alloc] at hI
        have HI := Lib.hid hI
        have hitm : (i : Int) < (tm : Int) := by have := HM1.out; omega
        have HV := Lib.hid hv
        clear hI ct hi hil hiv hv hvw b2 hb2 dz da db
        by_cases hvx : v = (x : Int)
        · have e1 : (v != (x : Int)) = false := by rw [hvx]; simp
          have e2 : (v == (x : Int)) = true := by rw [hvx]; simp
          have HEq := Lib.hid hvx
          clear hvx
          go_wp2_with fail
          go_quiet ((go_at_call 61; exact quiet_left (HI.out _)))
          go_wp2_with fail
          go_roundw
          case rel =>
            refine ⟨x + 1, by omega, by go_num, fun x' h' => ?_, ez, ea, eb, hws2, below_drewN HB2.out _⟩
            by_cases hxx : x' = x
            · subst hxx; rw [HV.out, HEq.out]
            · exact HA.out x' (by omega)
          case measure => simp [intOf]; omega
        · have e1 : (v != (x : Int)) = true := by rw [bne_iff_ne]; exact hvx
          have e2 : (v == (x : Int)) = false := by rw [beq_eq_false_iff_ne]; exact hvx
          have HNe := Lib.hid hvx
          clear hvx
          go_wp2_with fail
          go_quiet ((go_at_call 61; exact quiet_left (HI.out _)))
          go_wp2_with fail
          go_ret2
          refine ⟨two_bool ?_, below_drewN (HB1.out.trans (HB2.out.mono (by omega))) _⟩
          rw [HVal.out, idemB_no HAr.out hlt (by rw [HV.out]; exact HNe.out)]
      · go_wp2_with fail
        go_ret2
        refine ⟨two_bool ?_, HB1.out.trans (HBr.out.mono (by omega))⟩
        rw [HVal.out, idemB_yes HAr.out fun x' h => HA.out x' (by omega)]

end Go.Proofs.Ythgggoodceogkaa
