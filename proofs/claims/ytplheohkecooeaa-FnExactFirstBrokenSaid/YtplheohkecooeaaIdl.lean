/-
  Lists of identities: what it means that memory reads as one, and contracts of the laws' szIdentityS, toIdentityS, eqIdentityS. Conditions: the bounds that each theorem names.
-/
import Derived.Test.YtplheohkecooeaaIdn
import Derived.Test.YtplheohkecooeaaNormL
import Derived.Deep.DrawnRows
namespace Go.Proofs.Ytplheohkecooeaa
open Go.RowKit
set_option linter.unusedVariables false
set_option linter.unusedSimpArgs false
attribute [local go_sem ↓] Go.wp_at_zero Go.wp_at_succ

abbrev IdD := List Int × List Int
/-- The slice '.slice ao n c' reads as the identities es; it and their lists lie in blocks from lo on, below hi. -/
def DView (w : World) (lo hi : Nat) (ao : Option Addr) (n : Nat) (es : List IdD) : Prop :=
  es.length = n ∧ (n = 0 ∨ ∃ b o, ao = some ⟨b, o, none⟩ ∧ lo ≤ b ∧ b < hi ∧ ∀ (j : Nat) (e : IdD), es[j]? = some e → ∃ a m c a' m' c', w.cell? ⟨b, o + j * 2, none⟩ = some (.slice a m c) ∧ w.cell? ⟨b, o + j * 2 + 1, none⟩ = some (.slice a' m' c') ∧ (m ≤ c ∧ c ≤ maxLen ∧ IView w lo hi a m e.1) ∧ (m' ≤ c' ∧ c' ≤ maxLen ∧ IView w lo hi a' m' e.2))
theorem DView.kept {w w' : World} {lo hi : Nat} {ao : Option Addr} {n : Nat} {es : List IdD} (h : DView w lo hi ao n es) (hk : Kept lo hi w w') : DView w' lo hi ao n es := by
  obtain ⟨h1, h2 | ⟨b, o, rfl, hl, hh, hc⟩⟩ := h
  · exact ⟨h1, .inl h2⟩
  · refine ⟨h1, .inr ⟨b, o, rfl, hl, hh, fun j f hf => ?_⟩⟩
    obtain ⟨a, m, c, a', m', c', c0, c1, ⟨p1, p2, p3⟩, ⟨q1, q2, q3⟩⟩ := hc j f hf
    exact ⟨a, m, c, a', m', c', (hk.cell (p := ⟨b, _, none⟩) hl hh).trans c0, (hk.cell (p := ⟨b, _, none⟩) hl hh).trans c1, ⟨p1, p2, p3.kept hk⟩, ⟨q1, q2, q3.kept hk⟩⟩
theorem DView.at_ {w : World} {lo hi : Nat} {ao : Option Addr} {n : Nat} {es : List IdD} (h : DView w lo hi ao n es) (h0 : 0 < n) : ∃ b o, ao = some ⟨b, o, none⟩ ∧ lo ≤ b ∧ b < hi ∧ ∀ (j : Nat) (e : IdD), es[j]? = some e → ∃ a m c a' m' c', w.cell? ⟨b, o + j * 2, none⟩ = some (.slice a m c) ∧ w.cell? ⟨b, o + j * 2 + 1, none⟩ = some (.slice a' m' c') ∧ (m ≤ c ∧ c ≤ maxLen ∧ IView w lo hi a m e.1) ∧ (m' ≤ c' ∧ c' ≤ maxLen ∧ IView w lo hi a' m' e.2) := by
  rcases h.2 with h2 | h2
  · omega
  · exact h2
def isum (es : List IdD) : Nat := (es.map fun e => e.1.length + e.2.length).sum
theorem isum_succ {es : List IdD} {k : Nat} {e : IdD} (h : es[k]? = some e) : isum (es.take (k + 1)) = isum (es.take k) + (e.1.length + e.2.length) := by
  rw [List.take_add_one, h]; simp [isum]
theorem isum_take_le (es : List IdD) (k : Nat) : isum (es.take k) ≤ isum es := by
  induction es generalizing k with
  | nil => simp [isum]
  | cons y r ih =>
    cases k with
    | zero => simp [isum]
    | succ k =>
      have := ih k
      simp only [isum, List.take_succ_cons, List.map_cons, List.sum_cons] at this ⊢
      omega
theorem isum_all {es : List IdD} {k : Nat} (h : es.length ≤ k) : isum (es.take k) = isum es := by rw [List.take_of_length_le h]
theorem isum_get {es : List IdD} {k : Nat} {e : IdD} (h : es[k]? = some e) : e.1.length + e.2.length ≤ isum es := by
  have h1 := isum_take_le es (k + 1)
  rw [isum_succ h] at h1
  omega
theorem smallI_of {n : Nat} {es : List IdD} (h : ((n + isum es : Nat) : Int) ≤ 1048576) : n ≤ 1048576 ∧ (∀ (j : Nat) (e : IdD), es[j]? = some e → e.1.length ≤ 1048576 ∧ e.2.length ≤ 1048576) := by
  refine ⟨by omega, fun j f hf => ?_⟩
  have := isum_get hf; omega

theorem szIdl_zero (ao : Option Addr) (c : Nat) (left : Int) (w : World) (h0 : 0 ≤ left) (h1 : left ≤ 1048576) :
    Calls Try.prog 56 #[.slice ao 0 c, .int .i64 left] w fun e w' => e = .returned (.int .i64 left) ∧ w = w' := by
  go_enter Try.func56, Try.ntmps56
  go_wp2
  refine wp_loop_rounds 1 ?_
  rw [rounds_succ]
  go_wp2
  go_ret
  exact ⟨by simp, rfl⟩

set_option maxHeartbeats 1000000 in
theorem szIdl_some (hi b o c n : Nat) (es : List IdD) (left : Int) (w : World) (hlen : es.length = n) (hn : n ≤ maxLen) (h0 : 0 ≤ left) (h1 : left ≤ 1048576) (hb : b < hi) (hhi : hi ≤ w.heap.size)
    (hc : ∀ (j : Nat) (e : IdD), es[j]? = some e → ∃ a m c a' m' c', w.cell? ⟨b, o + j * 2, none⟩ = some (.slice a m c) ∧ w.cell? ⟨b, o + j * 2 + 1, none⟩ = some (.slice a' m' c') ∧ (m ≤ c ∧ c ≤ maxLen ∧ IView w 0 hi a m e.1) ∧ (m' ≤ c' ∧ c' ≤ maxLen ∧ IView w 0 hi a' m' e.2)) :
    Calls Try.prog 56 #[.slice (some ⟨b, o, none⟩) n c, .int .i64 left] w fun e w' => e = .returned (.int .i64 (szI left (n + isum es))) ∧ Below w.heap.size w w' := by
  have hn' := hn
  unfold maxLen at hn'
  have HL := Lib.hid hlen
  have HC := Lib.hid hc
  clear hlen hc hn
  by_cases hnl : (n : Int) ≤ left
  · go_enter Try.func56, Try.ntmps56
    go_wp2_with fail
    go_loopw [1, 5] (fun l i wr => ∃ k s : Nat, k ≤ n ∧ i = .int .i64 k ∧ Hid (s = isum (es.take k)) ∧ (n + s : Int) ≤ left ∧ l = .int .i64 (left - n - s) ∧ Hid (Below w.heap.size w wr)) (fun _ i _ => n - (intOf i).toNat)
    case atStart => exact ⟨0, 0, Nat.zero_le _, rfl, rfl, by omega, by simp, Below.refl _ _⟩
    case round =>
      obtain ⟨k, s, hk, rfl, HS, hs, rfl, HB⟩ := hrel
      by_cases hlt : k < n
      · obtain ⟨f, hf⟩ := get_of_lt HL.out hlt
        obtain ⟨a, m, c', a', m', c'', c0, c1, ⟨p1, p2, p3⟩, ⟨q1, q2, q3⟩⟩ := HC.out k f hf
        have e0 : wr.cell? ⟨b, o + k * 2, none⟩ = some (.slice a m c') := (HB.out.cell (p := ⟨b, _, none⟩) (by show b < _; omega)).trans c0
        have e1 : wr.cell? ⟨b, o + k * 2 + 1, none⟩ = some (.slice a' m' c'') := (HB.out.cell (p := ⟨b, _, none⟩) (by show b < _; omega)).trans c1
        have hfl : f.1.length = m := p3.1
        have hfl2 : f.2.length = m' := q3.1
        have hcall := fun w => szIdn_any a a' c' c'' m m' (left - n - s) w (Nat.le_trans p1 p2) (Nat.le_trans q1 q2) (by omega) (by omega)
        have HF := Lib.hid hf
        have HFL := Lib.hid hfl
        have HFL2 := Lib.hid hfl2
        clear hf hfl hfl2 p3 q3 c0 c1 p1 p2 q1 q2
        by_cases hfit : ((m + m' : Nat) : Int) ≤ left - n - s
        · rw [szI_yes hfit] at hcall
          have HCall := Lib.hid hcall
          clear hcall
          go_wp2_with fail
          refine (HCall.out _).mono ?_
          rintro e w1 ⟨rfl, b1⟩
          have HB1 := Lib.hid (HB.out.trans (b1.mono HB.out.size))
          clear b1
          go_wp2_with fail
          go_roundw
          case rel => exact ⟨k + 1, s + (m + m'), by omega, by go_num, by unfold Hid; rw [isum_succ HF.out, HS.out, HFL.out, HFL2.out], by omega, by go_num, HB1.out⟩
          case measure => simp [intOf]; omega
        · rw [szI_no hfit] at hcall
          have HCall := Lib.hid hcall
          clear hcall
          go_wp2_with fail
          refine (HCall.out _).mono ?_
          rintro e w1 ⟨rfl, b1⟩
          have HB1 := Lib.hid (HB.out.trans (b1.mono HB.out.size))
          clear b1
          go_wp2_with fail
          go_ret
          refine ⟨ret_int ?_, HB1.out⟩
          have h1 := isum_take_le es (k + 1)
          rw [isum_succ HF.out, ← HS.out, HFL.out, HFL2.out] at h1
          rw [szI_no (by omega)]
      · go_wp2_with fail
        go_ret
        refine ⟨?_, HB.out⟩
        have hs2 : s = isum es := by rw [HS.out, isum_all (by have := HL.out; omega)]
        rw [szI_yes (by omega), ← hs2]
        go_num
  · go_enter Try.func56, Try.ntmps56
    go_wp2_with fail
    go_ret
    exact ⟨ret_int (by rw [szI_no (by omega)]), Below.refl _ _⟩

theorem szIdl_any (hi : Nat) (ao : Option Addr) (c n : Nat) (es : List IdD) (left : Int) (w : World) (h : DView w 0 hi ao n es) (hn : n ≤ maxLen) (h0 : 0 ≤ left) (h1 : left ≤ 1048576) (hhi : hi ≤ w.heap.size) :
    Calls Try.prog 56 #[.slice ao n c, .int .i64 left] w fun e w' => e = .returned (.int .i64 (szI left (n + isum es))) ∧ Below w.heap.size w w' := by
  obtain ⟨hl, rfl | ⟨b, o, rfl, _, hb, hc⟩⟩ := h
  · obtain rfl : es = [] := List.eq_nil_of_length_eq_zero hl
    refine (szIdl_zero ao c left w h0 h1).mono fun e w' ⟨he, hw⟩ => ⟨he.trans (ret_int ?_), hw ▸ Below.refl _ _⟩
    rw [szI_yes (by simpa [isum] using h0)]
    simp [isum]
  · exact szIdl_some hi b o c n es left w hl hn h0 h1 hb hhi hc

theorem eqIdl_zero (ao bo : Option Addr) (c d : Nat) (w : World) :
    Calls Try.prog 60 #[.slice ao 0 c, .slice bo 0 d] w fun e w' => e = .returned (.bool true) ∧ Below w.heap.size w w' := by
  go_enter Try.func60, Try.ntmps60
  go_wp2
  refine wp_loop_rounds 1 ?_
  rw [rounds_succ]
  go_wp2
  go_ret
  exact ⟨rfl, Below.refl _ _⟩

set_option maxRecDepth 100000 in
set_option maxHeartbeats 2000000 in
theorem eqIdl_some (lo hi lo2 hi2 : Nat) (b o c b2 o2 c2 n : Nat) (es : List IdD) (w : World) (hlen : es.length = n) (hn : n ≤ maxLen) (hs : ∀ (j : Nat) (e : IdD), es[j]? = some e → e.1.length ≤ 1048576 ∧ e.2.length ≤ 1048576) (hh : hi ≤ w.heap.size) (hh2 : hi2 ≤ w.heap.size) (hb : b < hi) (hb2 : b2 < hi2)
    (hc : ∀ (j : Nat) (e : IdD), es[j]? = some e → ∃ a m c a' m' c', w.cell? ⟨b, o + j * 2, none⟩ = some (.slice a m c) ∧ w.cell? ⟨b, o + j * 2 + 1, none⟩ = some (.slice a' m' c') ∧ (m ≤ c ∧ c ≤ maxLen ∧ IView w lo hi a m e.1) ∧ (m' ≤ c' ∧ c' ≤ maxLen ∧ IView w lo hi a' m' e.2))
    (hc2 : ∀ (j : Nat) (e : IdD), es[j]? = some e → ∃ a m c a' m' c', w.cell? ⟨b2, o2 + j * 2, none⟩ = some (.slice a m c) ∧ w.cell? ⟨b2, o2 + j * 2 + 1, none⟩ = some (.slice a' m' c') ∧ (m ≤ c ∧ c ≤ maxLen ∧ IView w lo2 hi2 a m e.1) ∧ (m' ≤ c' ∧ c' ≤ maxLen ∧ IView w lo2 hi2 a' m' e.2)) :
    Calls Try.prog 60 #[.slice (some ⟨b, o, none⟩) n c, .slice (some ⟨b2, o2, none⟩) n c2] w fun e w' => e = .returned (.bool true) ∧ Below w.heap.size w w' := by
  unfold maxLen at hn
  have HL := Lib.hid hlen
  have HC := Lib.hid hc
  have HC2 := Lib.hid hc2
  have HSz := Lib.hid hs
  clear hlen hc hc2 hs
  go_enter Try.func60, Try.ntmps60
  go_wp2_with fail
  go_loopw [5] (fun i wr => ∃ k : Nat, k ≤ n ∧ i = .int .i64 k ∧ Hid (Below w.heap.size w wr)) (fun i _ => n - (intOf i).toNat)
  case atStart => exact ⟨0, Nat.zero_le _, rfl, Below.refl _ _⟩
  case round =>
    obtain ⟨k, hk, rfl, HB⟩ := hrel
    by_cases hlt : k < n
    · obtain ⟨f, hf⟩ := get_of_lt HL.out hlt
      obtain ⟨a, m, c', a', m', c'', c0, c1, ⟨_, _, p3⟩, ⟨_, _, q3⟩⟩ := HC.out k f hf
      obtain ⟨aa, mm, cc', aa', mm', cc'', d0, d1, ⟨_, _, r3⟩, ⟨_, _, s3⟩⟩ := HC2.out k f hf
      have e0 : wr.cell? ⟨b, o + k * 2, none⟩ = some (.slice a m c') := (HB.out.cell (p := ⟨b, _, none⟩) (by show b < _; omega)).trans c0
      have e1 : wr.cell? ⟨b, o + k * 2 + 1, none⟩ = some (.slice a' m' c'') := (HB.out.cell (p := ⟨b, _, none⟩) (by show b < _; omega)).trans c1
      have g0 : wr.cell? ⟨b2, o2 + k * 2, none⟩ = some (.slice aa mm cc') := (HB.out.cell (p := ⟨b2, _, none⟩) (by show b2 < _; omega)).trans d0
      have g1 : wr.cell? ⟨b2, o2 + k * 2 + 1, none⟩ = some (.slice aa' mm' cc'') := (HB.out.cell (p := ⟨b2, _, none⟩) (by show b2 < _; omega)).trans d1
      obtain rfl : mm = m := by have h1 := p3.1; have h2 := r3.1; omega
      obtain rfl : mm' = m' := by have h1 := q3.1; have h2 := s3.1; omega
      have hm := HSz.out k f hf
      rw [p3.1, q3.1] at hm
      have hsz := HB.out.size
      have HCall := Lib.hid (fun (W : World) (hw : Below wr.heap.size wr W) => eqIdn_view lo hi lo hi lo2 hi2 lo2 hi2 a a' aa aa' c' c'' cc' cc'' mm mm' f.1 f.2 W (p3.kept (Kept.of_below (HB.out.trans (hw.mono hsz)) hh)) (q3.kept (Kept.of_below (HB.out.trans (hw.mono hsz)) hh)) (r3.kept (Kept.of_below (HB.out.trans (hw.mono hsz)) hh2)) (s3.kept (Kept.of_below (HB.out.trans (hw.mono hsz)) hh2)) (by unfold maxLen; omega) (by unfold maxLen; omega) (by have := hw.size; omega) (by have := hw.size; omega) (by have := hw.size; omega) (by have := hw.size; omega))
      have hkn : (k : Int) < (n : Int) := by omega
      clear hf p3 q3 r3 s3 c0 c1 d0 d1 hm
      go_wp2_with fail
      refine wp_region_noPanic ?_
      refine wp_region_held_drew (S := fun W => W.cell? ⟨b, o + k * 2, none⟩ = some (.slice a mm c') ∧ W.cell? ⟨b, o + k * 2 + 1, none⟩ = some (.slice a' mm' c'') ∧ W.cell? ⟨b2, o2 + k * 2, none⟩ = some (.slice aa mm cc') ∧ W.cell? ⟨b2, o2 + k * 2 + 1, none⟩ = some (.slice aa' mm' cc'')) (by kernel_rfl) ?_ (fun hHeld => ?_)
      · exact ⟨e0, e1, g0, g1⟩
      refine wpAnyH_take (i := 0) (oi := ⟨_, _, _, _, _, _⟩) (v := ?_) rfl (by kernel_rfl) (by kernel_rfl) (by kernel_rfl) (fun _ _ _ h => h) (Or.inl ⟨rfl, ?_⟩) (by assumption) ?_
      rotate_left 1
      · intro w_ hSw; (try dsimp only at hSw); go_simp; (try with_reducible rfl)
      (try simp only [Act.put, List.setIfInBounds_toArray, List.set_cons_zero, List.set_cons_succ])
      refine wpAnyH_take (i := 1) (oi := ⟨_, _, _, _, _, _⟩) (v := ?_) rfl (by kernel_rfl) (by kernel_rfl) (by kernel_rfl) (fun _ _ _ h => h) (Or.inl ⟨rfl, ?_⟩) (by assumption) ?_
      rotate_left 1
      · intro w_ hSw; (try dsimp only at hSw); go_simp; (try with_reducible rfl)
      (try simp only [Act.put, List.setIfInBounds_toArray, List.set_cons_zero, List.set_cons_succ])
      refine wpAnyH_take (i := 2) (oi := ⟨_, _, _, _, _, _⟩) (v := ?_) rfl (by kernel_rfl) (by kernel_rfl) (by kernel_rfl) (fun _ _ _ h => h) (Or.inl ⟨rfl, ?_⟩) (by assumption) ?_
      rotate_left 1
      · intro w_ hSw; (try dsimp only at hSw); go_simp; (try with_reducible rfl)
      (try simp only [Act.put, List.setIfInBounds_toArray, List.set_cons_zero, List.set_cons_succ])
      refine wpAnyH_take (i := 3) (oi := ⟨_, _, _, _, _, _⟩) (v := ?_) rfl (by kernel_rfl) (by kernel_rfl) (by kernel_rfl) (fun _ _ _ h => h) (Or.inl ⟨rfl, ?_⟩) (by assumption) ?_
      rotate_left 1
      · intro w_ hSw; (try dsimp only at hSw); go_simp; (try with_reducible rfl)
      (try simp only [Act.put, List.setIfInBounds_toArray, List.set_cons_zero, List.set_cons_succ])
      refine wpAnyH_take (i := 4) (oi := ⟨_, _, _, _, _, _⟩) (v := ?_) rfl (by kernel_rfl) (by kernel_rfl) (by kernel_rfl) (fun _ _ _ h => h) (Or.inl ⟨rfl, ?_⟩) (by assumption) ?_
      rotate_left 1
      · intro w_ hSw; (try dsimp only at hSw); go_simp; (try with_reducible rfl)
      (try simp only [Act.put, List.setIfInBounds_toArray, List.set_cons_zero, List.set_cons_succ])
      refine wpAnyH_take (i := 5) (oi := ⟨_, _, _, _, _, _⟩) (v := ?_) rfl (by kernel_rfl) (by kernel_rfl) (by kernel_rfl) (fun _ _ _ h => h) (Or.inl ⟨rfl, ?_⟩) (by assumption) ?_
      rotate_left 1
      · intro w_ hSw; (try dsimp only at hSw); go_simp; (try with_reducible rfl)
      (try simp only [Act.put, List.setIfInBounds_toArray, List.set_cons_zero, List.set_cons_succ])
      refine wpAnyH_take (i := 6) (oi := ⟨_, _, _, _, _, _⟩) (v := ?_) rfl (by kernel_rfl) (by kernel_rfl) (by kernel_rfl) (fun _ _ _ h => h) (Or.inl ⟨rfl, ?_⟩) (by assumption) ?_
      rotate_left 1
      · intro w_ hSw; (try dsimp only at hSw); go_simp; (try with_reducible rfl)
      (try simp only [Act.put, List.setIfInBounds_toArray, List.set_cons_zero, List.set_cons_succ])
      refine wpAnyH_take (i := 7) (oi := ⟨_, _, _, _, _, _⟩) (v := ?_) rfl (by kernel_rfl) (by kernel_rfl) (by kernel_rfl) (fun _ _ _ h => h) (Or.inl ⟨rfl, ?_⟩) (by assumption) ?_
      rotate_left 1
      · intro w_ hSw; (try dsimp only at hSw); go_simp; (try with_reducible rfl)
      (try simp only [Act.put, List.setIfInBounds_toArray, List.set_cons_zero, List.set_cons_succ])
      refine wpAnyH_ready (rs := [8]) (by kernel_rfl) (by simp) ?_
      refine AllReadyH.cons (o := ⟨_, _, _, _, _, _⟩) rfl (fun K hK => ?_) AllReadyH.nil
      go_simp
      go_at_call 52
      refine (HCall.out _ (below_drew _)).mono ?_
      rintro e w3 ⟨rfl, b3⟩
      have q1 := cell_b b3 e0
      have q2 := cell_b b3 e1
      have q3 := cell_b b3 g0
      have q4 := cell_b b3 g1
      have HB3 := Lib.hid ((HB.out.drew).trans (b3.mono (by simpa using hsz)))
      clear b3
      go_wp2_with fail
      refine hK.out _ _ ?_ (fun hHeld => ?_)
      · exact ⟨q1, q2, q3, q4⟩
      clear hK K
      (try simp only [Act.put, List.setIfInBounds_toArray, List.set_cons_zero, List.set_cons_succ])
      refine wpAnyH_take (i := 9) (oi := ⟨_, _, _, _, _, _⟩) (v := ?_) rfl (by kernel_rfl) (by kernel_rfl) (by kernel_rfl) (fun _ _ _ h => h) (Or.inl ⟨rfl, ?_⟩) (by assumption) ?_
      rotate_left 1
      · intro w_ hSw; (try dsimp only at hSw); go_simp; (try with_reducible rfl)
      (try simp only [Act.put, List.setIfInBounds_toArray, List.set_cons_zero, List.set_cons_succ])
      refine wpAnyH_done (by kernel_rfl) ?_ _
      refine NoPanic.normal ?_
      clear q1 q2 q3 q4 e0 e1 g0 g1
      go_wp2_with fail
      go_roundw
      case rel => exact ⟨k + 1, by omega, by go_num, HB3⟩
      case measure => simp [intOf]; omega
    · go_wp2_with fail
      go_ret
      exact ⟨rfl, HB.out⟩

theorem eqIdl_view (lo hi lo2 hi2 : Nat) (ao bo : Option Addr) (c d n : Nat) (es : List IdD) (w : World) (h : DView w lo hi ao n es) (h2 : DView w lo2 hi2 bo n es) (hn : n ≤ maxLen) (hs : ∀ (j : Nat) (e : IdD), es[j]? = some e → e.1.length ≤ 1048576 ∧ e.2.length ≤ 1048576) (hh : hi ≤ w.heap.size) (hh2 : hi2 ≤ w.heap.size) :
    Calls Try.prog 60 #[.slice ao n c, .slice bo n d] w fun e w' => e = .returned (.bool true) ∧ Below w.heap.size w w' := by
  obtain ⟨h1, rfl | ⟨b, o, rfl, _, hb, hc⟩⟩ := h
  · exact eqIdl_zero ao bo c d w
  · obtain ⟨_, rfl | ⟨b2, o2, rfl, _, hb2, hc2⟩⟩ := h2
    · exact eqIdl_zero _ bo c d w
    · exact eqIdl_some lo hi lo2 hi2 b o c b2 o2 d n es w h1 hn hs hh hh2 hb hb2 hc hc2

end Go.Proofs.Ytplheohkecooeaa
