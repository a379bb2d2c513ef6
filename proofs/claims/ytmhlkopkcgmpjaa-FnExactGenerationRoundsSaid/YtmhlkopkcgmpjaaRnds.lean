/-
  Contracts: both GenerationRounds. Conditions: the bounds that each theorem names.
-/
import Derived.Test.YtmhlkopkcgmpjaaPushL
import Derived.Test.YtmhlkopkcgmpjaaGenS
namespace Go.Proofs.Ytmhlkopkcgmpjaa
open Go.RowKit
set_option linter.unusedVariables false
set_option linter.unusedSimpArgs false

/-- The first round behind which nothing is added. -/
def lastF (z : Int) (fs : List OpD) (s : Nat) : Nat → Nat → Nat
  | 0, k => k
  | f + 1, k => if stepN z fs (stepK z fs s k) = stepK z fs s k then k else lastF z fs s f (k + 1)
theorem lastF_eq {z : Int} {fs : List OpD} {s K : Nat} (h : LastR z fs s K) : ∀ f k, k ≤ K → K ≤ k + f → lastF z fs s f k = K := by
  intro f
  induction f with
  | zero => intro k h1 h2; show k = K; omega
  | succ f ih =>
    intro k h1 h2
    rw [lastF]
    by_cases hk : stepN z fs (stepK z fs s k) = stepK z fs s k
    · rw [if_pos hk]
      rcases Nat.lt_or_ge k K with h3 | h3
      · exact absurd hk (h.2 k h3)
      · omega
    · rw [if_neg hk]
      have : k ≠ K := fun e => hk (by rw [e]; exact h.1)
      exact ih (k + 1) (by omega) (by omega)
def lastK (z : Int) (fs : List OpD) (s : Nat) : Nat := lastF z fs s 8 0
theorem lastK_eq {z : Int} {fs : List OpD} {s K : Nat} (h : LastR z fs s K) (h8 : K ≤ 8) : lastK z fs s = K := lastF_eq h 8 0 (by omega) (by omega)

def valGenerationRounds (z : Int) (fs : List OpD) (xs : List Int) : List (List Int) × Bool := if someB z fs xs then ((rndL z fs (setN xs) (lastK z fs (setN xs))).map (fun s => listK s 8), true) else ([], false)
theorem val_rnd_no {z : Int} {fs : List OpD} {xs : List Int} (h : someB z fs xs = false) : valGenerationRounds z fs xs = ([], false) := by simp [valGenerationRounds, h]
theorem val_rnd_yes {z : Int} {fs : List OpD} {xs : List Int} {K : Nat} (h : someB z fs xs = true) (hK : LastR z fs (setN xs) K) (h8 : K ≤ 8) : valGenerationRounds z fs xs = ((rndL z fs (setN xs) K).map (fun s => listK s 8), true) := by simp [valGenerationRounds, h, lastK_eq hK h8]
theorem lastF_le (z : Int) (fs : List OpD) (s : Nat) : ∀ f k, lastF z fs s f k ≤ k + f := by
  intro f
  induction f with
  | zero => intro k; exact Nat.le_refl _
  | succ f ih =>
    intro k
    rw [lastF]
    split
    · omega
    · have := ih (k + 1); omega
theorem lsum_rnd (z : Int) (fs : List OpD) (s : Nat) : ∀ k, lsum ((rndL z fs s k).map fun s => listK s 8) ≤ 8 * (k + 1) := by
  intro k
  induction k with
  | zero => have := listK_le s 8; simp [rndL, lsum]; omega
  | succ k ih =>
    have h2 := listK_le (diffN (valO (stepK z fs s k) z fs fs.length) (stepK z fs s k)) 8
    simp only [rndL, List.map_append, lsum, List.sum_append, List.map_cons, List.map_nil, List.sum_cons, List.sum_nil] at ih ⊢
    omega
theorem smallGenerationRounds (z : Int) (fs : List OpD) (xs : List Int) : (valGenerationRounds z fs xs).1.length + lsum (valGenerationRounds z fs xs).1 ≤ 4194304 := by
  unfold valGenerationRounds
  split
  · have h1 := lastF_le z fs (setN xs) 8 0
    have h2 := lsum_rnd z fs (setN xs) (lastK z fs (setN xs))
    have h3 := rndL_len z fs (setN xs) (lastK z fs (setN xs))
    simp only [List.length_map]
    unfold lastK at *
    omega
  · simp [lsum]

set_option maxHeartbeats 1000000 in
theorem implGenerationRounds (lo hi : Nat) (z : Int) (ao : Option Addr) (c n : Nat) (fs : List OpD) (lo2 hi2 : Nat) (bo : Option Addr) (d m : Nat) (xs : List Int) (w : World) (hv : OView w lo hi ao n fs) (hhi : hi ≤ w.heap.size) (hs : ∀ (j : Nat) (f : OpD), fs[j]? = some f → f.2.length ≤ maxLen)
    (hx : IView w lo2 hi2 bo m xs) (hhi2 : hi2 ≤ w.heap.size) (hm : m ≤ maxLen) :
    Calls Try.prog 26 #[.agg #[.int .i64 z, .slice ao n c], .slice bo m d] w fun e w' => ResS w w' (valGenerationRounds z fs xs).1 (valGenerationRounds z fs xs).2 e := by
  have hB := below_alloc w (.cells #[.int .i64 z, .slice ao n c] 31)
  have HB := Lib.hid hB
  have HX := Lib.hid hx
  have HV := Lib.hid hv
  have hC := someEl_any lo hi lo2 hi2 z ao bo c n d m fs xs _ (hv.kept (Kept.of_below hB hhi)) (Nat.le_trans hhi hB.size) hs (hx.kept (Kept.of_below hB hhi2)) (Nat.le_trans hhi2 hB.size) hm
  obtain ⟨r, hr⟩ : ∃ r, someB z fs xs = r := ⟨_, rfl⟩
  rw [hr] at hC
  have HC := Lib.hid hC
  have cz : (w.alloc (.cells #[.int .i64 z, .slice ao n c] 31)).cell? ⟨w.heap.size, 0, none⟩ = some (.int .i64 z) := by simp
  have ca : (w.alloc (.cells #[.int .i64 z, .slice ao n c] 31)).cell? ⟨w.heap.size, 1, none⟩ = some (.slice ao n c) := by simp
  unfold ResS
  cases r with
  | false =>
    rw [val_rnd_no hr]
    go_enter Try.func26, Try.ntmps26
    go_wp2_with fail
    refine HC.out.mono ?_
    rintro e w1 ⟨rfl, b1⟩
    have HB1 := Lib.hid (below_then HB.out b1)
    have cz1 := cell_b b1 cz
    have ca1 := cell_b b1 ca
    have HV1 := Lib.hid (HV.out.kept (Kept.of_below HB1.out hhi))
    have HX1 := Lib.hid (HX.out.kept (Kept.of_below HB1.out hhi2))
    have hs1 := HB1.out.size
    clear hv hs hx hB hC hr b1 cz ca
    go_wp2_with fail
    go_ret2
    obtain ⟨G, C, hN⟩ := BuiltL.nil w1 w.heap.size (fun j => ([] : List (List Int)).getD j [])
    exact ⟨none, 0, 0, G, C, rfl, rfl, hN, HB1.out⟩
  | true =>
    obtain ⟨hok, hl20, ha⟩ := someB_of hr
    obtain ⟨hz1, hz2⟩ := alg_dom hok
    have HOk := Lib.hid hok
    have hs8 : setN xs < 2 ^ 8 := setN_lt ha hz2
    have HS8 := Lib.hid hs8
    have HV2 := Lib.hid (fun K (hK : LastR z fs (setN xs) K) (h8 : K ≤ 8) => val_rnd_yes hr hK h8)
    obtain ⟨⟨ls, ok⟩, hvv⟩ : ∃ vv, valGenerationRounds z fs xs = vv := ⟨_, rfl⟩
    rw [hvv]
    have HVv := Lib.hid hvv
    go_enter Try.func26, Try.ntmps26
    go_wp2_with fail
    refine HC.out.mono ?_
    rintro e w1 ⟨rfl, b1⟩
    have HB1 := Lib.hid (below_then HB.out b1)
    have cz1 := cell_b b1 cz
    have ca1 := cell_b b1 ca
    have HV1 := Lib.hid (HV.out.kept (Kept.of_below HB1.out hhi))
    have HX1 := Lib.hid (HX.out.kept (Kept.of_below HB1.out hhi2))
    have hs1 := HB1.out.size
    have HG := Lib.hid (rounds_any lo hi z ao c n fs (setN xs) w1 HV1.out (Nat.le_trans hhi hs1) HOk.out HS8.out)
    simp only [if_true]
    clear hvv hs8 hok ha hl20
    clear hv hs hx hB hC hr b1 cz ca
    go_wp2_with fail
    refine HG.out.mono ?_
    rintro e w2 ⟨K, g, d2, rfl, hlast, hK8, ho2, b2⟩
    have HB2 := Lib.hid (HB1.out.trans (b2.mono HB1.out.size))
    have HLi := Lib.hid (listsOf_any w1.heap.size g (K + 1) d2 (rndL z fs (setN xs) K) w2 ho2 (by omega) (rnd_lt HOk.out hz2 (Nat.le_refl 8) HS8.out K))
    have HEq : Hid ((ls, ok) = ((rndL z fs (setN xs) K).map (fun s => listK s 8), true)) := HVv.out.symm.trans (HV2.out K hlast hK8)
    clear b2 ho2 hlast
    go_wp2_with fail
    refine HLi.out.mono ?_
    rintro e w3 ⟨a3, c3, rfl, hbu3, b3⟩
    have HB3 := Lib.hid (HB2.out.trans (b3.mono HB2.out.size))
    obtain ⟨G, C, hL⟩ := hbu3
    have HL := Lib.hid (hL.lo_mono HB2.out.size)
    clear b3 hL
    go_wp2_with fail
    go_ret2
    obtain ⟨rfl, rfl⟩ : ls = (rndL z fs (setN xs) K).map (fun s => listK s 8) ∧ ok = true := by
      have h_ := HEq.out
      injection h_ with h1_ h2_
      exact ⟨h1_, h2_⟩
    exact ⟨a3, K + 1, c3, G, C, rfl, by rw [List.length_map, rndL_len], HL.out, HB3.out⟩

/-- What round k adds. -/
def rndF (z : Int) (fs : List OpD) (s : Nat) : Nat → Nat
  | 0 => s
  | k + 1 => diffN (valO (stepK z fs s k) z fs fs.length) (stepK z fs s k)
theorem rndL_get (z : Int) (fs : List OpD) (s : Nat) : ∀ k j, j ≤ k → (rndL z fs s k)[j]? = some (rndF z fs s j) := by
  intro k
  induction k with
  | zero => intro j hj; obtain rfl : j = 0 := by omega
            rfl
  | succ k ih =>
    intro j hj
    have hl := rndL_len z fs s k
    rw [rndL]
    by_cases hjk : j ≤ k
    · rw [List.getElem?_append_left (by omega)]; exact ih j hjk
    · obtain rfl : j = k + 1 := by omega
      rw [List.getElem?_append_right (by omega), hl, Nat.sub_self]; rfl
theorem step_diff {z : Int} {fs : List OpD} {s : Nat} (hok : algOkB z fs = true) (hs : s < 2 ^ 8) : diffN (stepN z fs s) s = diffN (valO s z fs fs.length) s := by
  apply Nat.eq_of_testBit_eq
  intro k
  have h2 := (algOkB_of hok).1.2
  rw [diffN_bit (stepN_lt (n := 8) hok h2 hs), diffN_bit (valO_lt (n := 8) hok h2 _ (Nat.le_refl _))]
  unfold stepN
  rw [Nat.testBit_or]
  cases s.testBit k <;> simp
theorem listK_nil_iff {s n : Nat} (hs : s < 2 ^ n) : (listK s n).length = 0 ↔ s = 0 := by
  constructor
  · intro h
    have h1 : listK s n = [] := List.eq_nil_of_length_eq_zero h
    rw [← set_list hs, h1]; rfl
  · rintro rfl
    have h : ∀ n : Nat, listK 0 n = [] := fun n => by
      induction n with
      | zero => rfl
      | succ n ih => rw [listK_no (Nat.zero_testBit n), ih]
    rw [h]; rfl

theorem ownsLL_lit (w : World) (B : Nat) (hB : B ≤ w.heap.size) : OwnsLL (w.alloc (.cells #[] 25)) B (w.alloc (.cells #[] 25)).heap.size (.slice (some ⟨w.heap.size, 0, none⟩) 0 0) 0 (fun _ => none) (fun _ => 0) (fun j => ([] : List (List Int)).getD j []) := by
  refine ⟨World.ownsRow_lit (base := B) (e := 25) (size := 1) w #[] 0 hB (by decide) rfl, fun k hk => ?_, fun j hj => by omega, fun j g hj => by omega, fun i j g hi => by omega⟩
  have : w.heap.size = k := by simpa [Value.ownBlock] using hk
  simp; omega

set_option maxHeartbeats 4000000 in
theorem specGenerationRounds (lo hi : Nat) (z : Int) (ao : Option Addr) (c n : Nat) (fs : List OpD) (lo2 hi2 : Nat) (bo : Option Addr) (d m : Nat) (xs : List Int) (w : World) (hv : OView w lo hi ao n fs) (hhi : hi ≤ w.heap.size) (hs : ∀ (j : Nat) (f : OpD), fs[j]? = some f → f.2.length ≤ maxLen)
    (hx : IView w lo2 hi2 bo m xs) (hhi2 : hi2 ≤ w.heap.size) (hm : m ≤ maxLen) :
    Calls Try.prog 25 #[.agg #[.int .i64 z, .slice ao n c], .slice bo m d] w fun e w' => ResS w w' (valGenerationRounds z fs xs).1 (valGenerationRounds z fs xs).2 e := by
  have hB := below_alloc w (.cells #[.int .i64 z, .slice ao n c] 31)
  have HB := Lib.hid hB
  have HX := Lib.hid hx
  have HV := Lib.hid hv
  have hC := l5Some_any lo hi lo2 hi2 z ao bo c n d m fs xs _ (hv.kept (Kept.of_below hB hhi)) (Nat.le_trans hhi hB.size) hs (hx.kept (Kept.of_below hB hhi2)) (Nat.le_trans hhi2 hB.size) hm
  obtain ⟨r, hr⟩ : ∃ r, someB z fs xs = r := ⟨_, rfl⟩
  rw [hr] at hC
  have HC := Lib.hid hC
  have cz : (w.alloc (.cells #[.int .i64 z, .slice ao n c] 31)).cell? ⟨w.heap.size, 0, none⟩ = some (.int .i64 z) := by simp
  have ca : (w.alloc (.cells #[.int .i64 z, .slice ao n c] 31)).cell? ⟨w.heap.size, 1, none⟩ = some (.slice ao n c) := by simp
  cases r with
  | false =>
    rw [val_rnd_no hr]
    go_enter Try.func25, Try.ntmps25
    go_wp2_with fail
    refine HC.out.mono ?_
    rintro e w1 ⟨rfl, b1⟩
    have HB1 := Lib.hid (below_then HB.out b1)
    have cz1 := cell_b b1 cz
    have ca1 := cell_b b1 ca
    have HV1 := Lib.hid (HV.out.kept (Kept.of_below HB1.out hhi))
    have HX1 := Lib.hid (HX.out.kept (Kept.of_below HB1.out hhi2))
    have hs1 := HB1.out.size
    have HE := Lib.hid (ownsLL_lit w1 w.heap.size hs1)
    clear hv hs hx hB hC hr b1 cz ca
    go_wp2_with fail
    go_ret2
    unfold ResS
    exact ⟨_, 0, 0, _, _, rfl, rfl, HE.out, HB1.out.alloc HB1.out.size _⟩
  | true =>
    obtain ⟨hok, hl20, ha⟩ := someB_of hr
    obtain ⟨hz1, hz2⟩ := alg_dom hok
    obtain ⟨zn, rfl⟩ : ∃ zn : Nat, z = (zn : Int) := ⟨z.toNat, by omega⟩
    have hz8 : zn ≤ 8 := by omega
    have HOk := Lib.hid hok
    have HA := Lib.hid ha
    have hsz : setN xs < 2 ^ zn := setN_lt ha (Int.le_refl _)
    have HSz := Lib.hid hsz
    have HS8 : Hid (setN xs < 2 ^ 8) := lt_mono hsz hz8
    have HVy := Lib.hid (fun K (hK : LastR (zn : Int) fs (setN xs) K) (h8 : K ≤ 8) => val_rnd_yes hr hK h8)
    obtain ⟨⟨ls, ok⟩, hvv⟩ : ∃ vv, valGenerationRounds (zn : Int) fs xs = vv := ⟨_, rfl⟩
    rw [hvv]
    have HVv := Lib.hid hvv
    go_enter Try.func25, Try.ntmps25
    go_wp2_with fail
    refine HC.out.mono ?_
    rintro e w1 ⟨rfl, b1⟩
    have HB1 := Lib.hid (below_then HB.out b1)
    have cz1 := cell_b b1 cz
    have ca1 := cell_b b1 ca
    have HV1 := Lib.hid (HV.out.kept (Kept.of_below HB1.out hhi))
    have HX1 := Lib.hid (HX.out.kept (Kept.of_below HB1.out hhi2))
    have hs1 := HB1.out.size
    have HIn := Lib.hid (l5In_any lo2 hi2 zn bo d m xs w1 HX1.out (Nat.le_trans hhi2 hs1) hm HA.out hz8)
    obtain ⟨S, hS⟩ : ∃ S, setN xs = S := ⟨_, rfl⟩
    rw [hS] at HIn HSz HS8 HVy
    have HLt := Lib.hid (fun k => stepK_lt (fs := fs) (n := zn) HOk.out (Int.le_refl _) HSz.out k)
    obtain ⟨F, hF⟩ : ∃ F : Nat → List Int, F = fun j => listK (rndF (zn : Int) fs S j) 8 := ⟨_, rfl⟩
    have HF := Lib.hid hF
    clear hvv hok ha hl20 hsz hS hF
    clear hv hs hx hB hC hr b1 cz ca
    go_wp2_with fail
    refine HIn.out.mono ?_
    rintro e w2 ⟨gi, di, rfl, ho2, b2⟩
    have HB2 := Lib.hid (HB1.out.trans (b2.mono HB1.out.size))
    have cz2 := cell_b b2 cz1
    have ca2 := cell_b b2 ca1
    have HI2 := Lib.hid (BoolsIn.of_row ho2)
    have HLi := Lib.hid (l5List_any w2.heap.size gi zn di S w2 (BoolsIn.of_row ho2) hz8)
    obtain ⟨hdi1, hdi2⟩ := row_cap ho2
    clear b2 ho2 cz1 ca1
    go_wp2_with fail
    refine HLi.out.mono ?_
    rintro e w3 ⟨a3, m3, d3, rfl, hm3, ho3, b3⟩
    obtain ⟨g3, rfl⟩ := own_addr ho3
    have HB3 := Lib.hid (HB2.out.trans (b3.mono HB2.out.size))
    have cz3 := cell_b b3 cz2
    have ca3 := cell_b b3 ca2
    have HI3 : Hid (BoolsIn w3 w3.heap.size gi zn (stepK (zn : Int) fs S 0)) := ⟨Nat.lt_of_lt_of_le HI2.out.1 b3.size, (HI2.out.below b3 (Nat.le_refl _)).2⟩
    have hF0 : F 0 = listK S zn := by rw [HF.out]; exact listK_more HSz.out hz8
    have HBu := Lib.hid (BuiltL.one (w := w3) (lo := w.heap.size + 1) (m := m3) (d := d3) (g := g3) (F := F) (by rw [hF0]; exact hm3.symm) (by rw [hF0]; exact ownsRow_base ho3 (World.block_lt_of_cell? w2 _ cz2)) (World.block_lt_of_cell? w3 _ cz3))
    have HB4 := Lib.hid (HB3.out.alloc HB3.out.size (.cells #[.slice (addrO g3) m3 d3] 25))
    have cz4 := cell_b (below_alloc w3 (.cells #[.slice (addrO g3) m3 d3] 25)) cz3
    have ca4 := cell_b (below_alloc w3 (.cells #[.slice (addrO g3) m3 d3] 25)) ca3
    have HI4 : Hid (BoolsIn (w3.alloc (.cells #[.slice (addrO g3) m3 d3] 25)) (w3.alloc (.cells #[.slice (addrO g3) m3 d3] 25)).heap.size gi zn (stepK (zn : Int) fs S 0)) := ⟨Nat.lt_of_lt_of_le HI3.out.1 (by simp), (HI3.out.below (below_alloc w3 _) (Nat.le_refl _)).2⟩
    clear b3 ho3 hm3 hF0 HI2 HI3 cz2 ca2 cz3 ca3
    obtain ⟨i0, hi0, hz0_, hz1_, hz2_⟩ := info_parts Try.infoInt
    obtain ⟨j0, hj0, hy0_, hy1_, hy2_⟩ := info_parts Try.infoInts
    go_wp2_with fail
    go_loopw [6, 7, 8] (fun vi v i wr => ∃ (k gi di ca : Nat) (ga : Option Addr), k ≤ zn ∧ i = .int .i64 (k : Int) ∧ vi = .slice (some ⟨gi, 0, none⟩) zn di ∧ zn ≤ di ∧ di ≤ maxLen ∧ v = .slice ga (k + 1) ca ∧ wr.cell? ⟨w.heap.size, 0, none⟩ = some (.int .i64 (zn : Int)) ∧ wr.cell? ⟨w.heap.size, 1, none⟩ = some (.slice ao n c) ∧ Hid (BoolsIn wr wr.heap.size gi zn (stepK (zn : Int) fs S k)) ∧ Hid (∀ j, j < k → stepN (zn : Int) fs (stepK (zn : Int) fs S j) ≠ stepK (zn : Int) fs S j) ∧ Hid (BuiltL wr (w.heap.size + 1) (.slice ga (k + 1) ca) (k + 1) F) ∧ Hid (Below w.heap.size w wr)) (fun _ _ i _ => zn + 1 - (intOf i).toNat)
    case atStart => exact ⟨0, gi, di, 1, _, Nat.zero_le _, rfl, rfl, hdi1, hdi2, rfl, cz4, ca4, HI4, fun j hj => absurd hj (by omega), HBu, HB4⟩
    case round =>
      obtain ⟨k, gi, di, cap, ga, hk, rfl, rfl, hdi1, hdi2, rfl, cz, ca, HI, HNot, HBu, HBo⟩ := hrel
      clear cz4 ca4
      rename World => wo
      have hkz : (k : Int) ≤ (zn : Int) := by omega
      have HC := Lib.hid (l5Step_any lo hi zn ao c n fs wo.heap.size gi di (stepK (zn : Int) fs S k) wo (HV.out.kept (Kept.of_below HBo.out hhi)) (Nat.le_trans hhi HBo.out.size) HOk.out HI.out (Nat.le_refl _) (HLt.out k) hdi1 hdi2)
      go_wp2_with fail
      refine HC.out.mono ?_
      rintro e w5 ⟨gn, dn, rfl, ho5, b5⟩
      obtain ⟨hdn1, hdn2⟩ := row_cap ho5
      have hgn := (ho5.lt gn rfl).1
      have hlo : w.heap.size + 1 ≤ wo.heap.size := World.block_lt_of_cell? wo _ cz
      have HB5 := Lib.hid (HBo.out.trans (b5.mono HBo.out.size))
      have cz5 := cell_b b5 cz
      have ca5 := cell_b b5 ca
      have HN5 : Hid (BoolsIn w5 w5.heap.size gn zn (stepK (zn : Int) fs S (k + 1))) := BoolsIn.of_row ho5
      have HI5 := Lib.hid (HI.out.below b5 (Nat.le_refl _))
      have Hb5 := Lib.hid b5
      have HO5 := Lib.hid (World.ownsRow_lit (base := w5.heap.size) (e := 3) (size := 1) w5 #[] 0 (Nat.le_refl _) (by decide) rfl)
      have HB6 := Lib.hid (below_alloc w5 (.cells #[] 3))
      obtain ⟨D, hD⟩ : ∃ D, diffN (stepK (zn : Int) fs S (k + 1)) (stepK (zn : Int) fs S k) = D := ⟨_, rfl⟩
      have hDF : rndF (zn : Int) fs S (k + 1) = D := by rw [← hD]; exact (step_diff HOk.out (lt_mono (HLt.out k) hz8)).symm
      have hDl : D < 2 ^ zn := by rw [← hD]; exact diffN_lt (HLt.out (k + 1)) hz8
      have HDb : Hid (∀ x, D.testBit x = ((stepK (zn : Int) fs S (k + 1)).testBit x && !(stepK (zn : Int) fs S k).testBit x)) := fun x => by
        rw [← hD]; exact diffN_bit (lt_mono (HLt.out (k + 1)) hz8)
      have HDz : Hid (D = 0 ↔ stepN (zn : Int) fs (stepK (zn : Int) fs S k) = stepK (zn : Int) fs S k) := by
        unfold Hid
        rw [← hDF]
        exact isIn_step (n := 8) HOk.out hz2 (Nat.le_refl _)
      have HDF := Lib.hid hDF
      have HDl := Lib.hid hDl
      clear b5 ho5 cz ca hD hDF hDl
      go_wp2_with fail
      go_loopw [10, 11] (fun v i wr => ∃ (x t vc g2 : Nat), x ≤ zn ∧ i = .int .i64 (x : Int) ∧ v = .slice (some ⟨g2, 0, none⟩) t vc ∧ t ≤ x ∧ Hid (wr.ownsRow w5.heap.size 3 1 (.slice (some ⟨g2, 0, none⟩) t vc) t ((listK D x).map (Value.int .i64))) ∧ Hid (Below w5.heap.size w5 wr)) (fun _ i _ => zn - (intOf i).toNat)
      case atStart => exact ⟨0, 0, 0, _, Nat.zero_le _, rfl, rfl, Nat.le_refl _, HO5, HB6⟩
      case round =>
        obtain ⟨x, t, vc, g2, hx, rfl, rfl, htx, HR, HBx⟩ := hrel
        have czx := cell_b HBx.out cz5
        by_cases hxz : x < zn
        · have hcN := cell_b HBx.out (HN5.out.2 x hxz)
          have hcS := cell_b HBx.out (HI5.out.2 x hxz)
          have hDx := HDb.out x
          obtain ⟨u1, hu1⟩ : ∃ u, (stepK (zn : Int) fs S (k + 1)).testBit x = u := ⟨_, rfl⟩
          obtain ⟨u2, hu2⟩ : ∃ u, (stepK (zn : Int) fs S k).testBit x = u := ⟨_, rfl⟩
          rw [hu1] at hcN hDx
          rw [hu2] at hcS hDx
          have HDx := Lib.hid hDx
          have hxz' : (x : Int) < (zn : Int) := by omega
          clear hu1 hu2 hDx
          cases u1 with
          | false =>
            have HO7 : Hid (wr.ownsRow w5.heap.size 3 1 (.slice (some ⟨g2, 0, none⟩) t vc) t ((listK D (x + 1)).map (Value.int .i64))) := by
              unfold Hid; rw [listK_no (by rw [HDx.out]; rfl)]; exact HR.out
            go_wp2_with fail
            go_roundw
            case rel => exact ⟨x + 1, t, vc, g2, by omega, by go_num, rfl, by omega, HO7, HBx⟩
            case measure => simp [intOf]; omega
          | true =>
            cases u2 with
            | true =>
              have HO7 : Hid (wr.ownsRow w5.heap.size 3 1 (.slice (some ⟨g2, 0, none⟩) t vc) t ((listK D (x + 1)).map (Value.int .i64))) := by
                unfold Hid; rw [listK_no (by rw [HDx.out]; rfl)]; exact HR.out
              go_wp2_with fail
              go_roundw
              case rel => exact ⟨x + 1, t, vc, g2, by omega, by go_num, rfl, by omega, HO7, HBx⟩
              case measure => simp [intOf]; omega
            | false =>
              go_wp2_with (at_builtin; refine wpList_append_own _ rfl _ _ 25 rfl w5.heap.size 3 i0 (.int .i64 0) 1 8 Try.underlying25 hi0 hz0_ hz1_ hz2_ rfl (by decide) (.slice (some ⟨g2, 0, none⟩) t vc) t ((listK D x).map (Value.int .i64)) rfl (HR.out.alloc _) ⟨wr.heap.size, 0, none⟩ 1 1 [.int .i64 (x : Int)] rfl rfl (cell_one_new _ _ _) (fun x hx => by simp at hx; subst hx; rfl) (by unfold maxLen; omega) (by omega) (by have h1_ := HBx.out.size; simp; omega) ?_; intro v' w7 hown' hgrow' hnil')
              obtain ⟨g7, cap7, rfl⟩ := ownsRow_succ hown'
              have HB7 : Hid (Below w5.heap.size w5 w7) := (HBx.out.alloc HBx.out.size (.cells #[.int .i64 (x : Int)] 3)).grown hgrow' (by have h1_ := HBx.out.size; simp; omega) (fun q hq => (HR.out.lt q hq).1)
              have HO7 : Hid (w7.ownsRow w5.heap.size 3 1 (.slice (some ⟨g7, 0, none⟩) (t + 1) cap7) (t + 1) ((listK D (x + 1)).map (Value.int .i64))) := by
                unfold Hid
                rw [listK_yes (by rw [HDx.out]; rfl), List.map_append]
                exact hown'
              clear hown' hgrow' hnil'
              go_wp2_with fail
              go_roundw
              case rel => exact ⟨x + 1, t + 1, cap7, g7, by omega, by go_num, rfl, by omega, HO7, HB7⟩
              case measure => simp [intOf]; omega
        · have hxz' : ¬ (x : Int) < (zn : Int) := by omega
          obtain rfl : zn = x := by omega
          have htl : t = (listK D zn).length := by have h_ := HR.out.1; simp at h_; exact h_.symm
          have HTz : Hid (t = 0 ↔ D = 0) := by unfold Hid; rw [htl]; exact listK_nil_iff HDl.out
          have HTl := Lib.hid htl
          clear htl
          by_cases ht0 : t = 0
          · subst ht0
            have HLast : Hid (LastR (zn : Int) fs S k) := ⟨HDz.out.1 (HTz.out.1 rfl), HNot.out⟩
            have hB8 := HB5.out.trans (HBx.out.mono HB5.out.size)
            obtain ⟨G, C, hL⟩ := (HBu.out.below Hb5.out).below HBx.out
            have HL := Lib.hid hL
            have HB8 := Lib.hid hB8
            have HEq : Hid ((ls, ok) = ((rndL (zn : Int) fs S k).map (fun s => listK s 8), true)) := HVv.out.symm.trans (HVy.out k HLast.out (by omega))
            clear hL hB8
            go_wp2_with fail
            go_ret2
            obtain ⟨rfl, rfl⟩ : ls = (rndL (zn : Int) fs S k).map (fun s => listK s 8) ∧ ok = true := by
              have h_ := HEq.out
              injection h_ with h1_ h2_
              exact ⟨h1_, h2_⟩
            unfold ResS
            refine ⟨ga, k + 1, cap, G, C, rfl, by rw [List.length_map, rndL_len], (HL.out.lo_mono (Nat.le_succ _)).congrF fun j hj => ?_, HB8.out⟩
            rw [List.getD_eq_getElem?_getD, List.getElem?_map, rndL_get _ _ _ k j (by omega), HF.out]; rfl
          · have ht0' : ((t : Int) == 0) = false := by simp [ht0]
            have hnD : D ≠ 0 := fun h_ => ht0 (HTz.out.2 h_)
            have hne : stepN (zn : Int) fs (stepK (zn : Int) fs S k) ≠ stepK (zn : Int) fs S k := fun h_ => hnD (HDz.out.2 h_)
            have hkz1 : k < zn := stepK_bound (n := zn) HOk.out (Int.le_refl _) HSz.out hne
            have HNot2 : Hid (∀ j, j < k + 1 → stepN (zn : Int) fs (stepK (zn : Int) fs S j) ≠ stepK (zn : Int) fs S j) := fun j hj => by
              by_cases hjk : j = k
              · rw [hjk]; exact hne
              · exact HNot.out j (by omega)
            have hFk : F (k + 1) = listK D zn := by rw [HF.out]; show listK (rndF (zn : Int) fs S (k + 1)) 8 = _; rw [HDF.out]; exact listK_more HDl.out hz8
            obtain ⟨G, C, hL⟩ := HBu.out
            have hbx := below_then Hb5.out HBx.out
            have HRw := Lib.hid (hL.row.kept (grown_of_below hbx none) (own_em _))
            have HL := Lib.hid hL
            have Hbx := Lib.hid hbx
            have HB8 := Lib.hid (HBo.out.trans (hbx.mono HBo.out.size))
            have HFk := Lib.hid hFk
            have cz8 := cell_b HBx.out cz5
            have ca8 := cell_b HBx.out ca5
            have HN8 := Lib.hid (HN5.out.below HBx.out (Nat.le_refl _))
            have hs5 := Hb5.out.size
            clear hL hbx hFk hnD hne ht0
            go_wp2_with (at_builtin; refine wpList_append_own _ rfl _ _ 41 rfl (w.heap.size + 1) 25 j0 (.slice none 0 0) 1 24 Try.underlying41 hj0 hy0_ hy1_ hy2_ rfl (by decide) (.slice ga (k + 1) cap) (k + 1) (flatL (k + 1) G C F) rfl (HRw.out.alloc _) ⟨wr.heap.size, 0, none⟩ 1 1 [.slice (some ⟨g2, 0, none⟩) t vc] rfl rfl (cell_one_new _ _ _) (fun x hx => by simp at hx; subst hx; rfl) (by unfold maxLen; omega) (by omega) (by have := Hbx.out.size; simp; omega) ?_; intro v' w9 hown' hgrow' hnil')
            obtain ⟨g9, cap9, rfl⟩ := ownsRow_succ hown'
            have HB9 := Lib.hid ((HB8.out.alloc HB8.out.size (.cells #[.slice (some ⟨g2, 0, none⟩) t vc] 25)).grown hgrow' (by have := HB8.out.size; simp; omega) (fun q hq => Nat.le_of_lt (HRw.out.lt q hq).1))
            have HBu9 : Hid (BuiltL w9 (w.heap.size + 1) (.slice (some ⟨g9, 0, none⟩) (k + 1 + 1) cap9) (k + 1 + 1) F) :=
              HL.out.push (g := some g2) Hbx.out hlo (by rw [HFk.out]; exact HTl.out.symm) (by rw [HFk.out]; exact ownsRow_base HR.out hs5) hown' hgrow'
            have hcl : ∀ b, b < wr.heap.size → (∀ q, (Value.slice ga (k + 1) cap).ownBlock = some q → q ≠ b) → ∀ j v, wr.cell? ⟨b, j, none⟩ = some v → w9.cell? ⟨b, j, none⟩ = some v := fun b hb hq j v hv_ =>
              (World.cell?_of_block (hgrow'.block _ (by simp; omega) (by intro h_; exact hq _ h_.symm rfl))).trans (cell_b (below_alloc _ _) hv_)
            have hbox : ∀ q, (Value.slice ga (k + 1) cap).ownBlock = some q → q ≠ w.heap.size := fun q hq h_ => by have := (HL.out.row.lt q hq).1; omega
            have hnew : ∀ q, (Value.slice ga (k + 1) cap).ownBlock = some q → q ≠ gn := fun q hq h_ => by have := HL.out.rowlt q hq; omega
            have cz9 := hcl w.heap.size (World.block_lt_of_cell? wr _ cz8) hbox 0 _ cz8
            have ca9 := hcl w.heap.size (World.block_lt_of_cell? wr _ cz8) hbox 1 _ ca8
            have hgw := hgrow'.size
            have HN9 : Hid (BoolsIn w9 w9.heap.size gn zn (stepK (zn : Int) fs S (k + 1))) := by
              have h1_ := HN8.out.1
              have h2_ := HBx.out.size
              refine ⟨by simp at hgw; omega, fun j hj => hcl gn (by omega) hnew j _ (HN8.out.2 j hj)⟩
            clear hown' hgrow' hnil' hcl hbox hnew cz8 ca8 hgw
            go_wp2_with fail
            go_roundw
            case rel => exact ⟨k + 1, gn, dn, cap9, _, by omega, by go_num, rfl, hdn1, hdn2, rfl, cz9, ca9, HN9, HNot2, HBu9, HB9⟩
            case measure => simp [intOf]; omega

end Go.Proofs.Ytmhlkopkcgmpjaa
