/-
  Contracts: spec.l7One, FirstEmbedding, FirstIso, AreIsomorphic. Conditions: none beyond the views.
-/
import Derived.Test.YtcioekhlhgkkiaaFst
import Derived.Test.YtcioekhlhgkkiaaFnd
import Derived.Test.YtcioekhlhgkkiaaHmS
namespace Go.Proofs.Ytcioekhlhgkkiaa
open Go.RowKit Go.Shelf
set_option linter.unusedVariables false
set_option linter.unusedSimpArgs false

/-! What a search keeps. -/
section
variable {most l zb : Nat} {fs gs : List OpD} {lead want : (Nat → Int) → Bool} {P : St → Prop}
theorem kids_inv {step : Nat → St → St} (ht : ∀ s, alive most s = true → P s → P (s.1 + 1, s.2)) (hs : ∀ y s, alive most s = true → P s → P (step y s)) : ∀ n y s, P s → P (kids most step n y s)
  | 0, _, s, h => h
  | n + 1, y, s, h => by
    cases ha : alive most s with
    | false => rw [kids_dead ha]; exact h
    | true =>
      by_cases h2 : s.1 + 1 > 5000
      · rw [kids_over ha h2]; exact ht s ha h
      · rw [kids_on ha h2]
        refine kids_inv ht hs n _ _ (hs y _ ?_ (ht s ha h))
        unfold alive at ha ⊢
        simp only [Bool.and_eq_true, decide_eq_true_eq] at ha ⊢
        exact ⟨ha.1, by omega⟩
theorem tryS_inv {z z1 : Int} {walk : (Nat → Int) → St → St} (hw : ∀ f s, alive most s = true → P s → P (walk f s)) (f : Nat → Int) (s : St) (ha : alive most s = true) (h : P s) : P (tryS z z1 fs gs lead walk f s) := by
  cases hc : closV z z1 fs gs f with
  | none => rw [tryS_none hc]; exact h
  | some c =>
    cases hl : lead c with
    | false => rw [tryS_no hc hl]; exact h
    | true => rw [tryS_yes hc hl]; exact hw c s ha h
theorem walkS_inv (ht : ∀ s, alive most s = true → P s → P (s.1 + 1, s.2)) (hl : ∀ f s, alive most s = true → P s → P (s.1, s.2 ++ [lstP l f])) : ∀ d f s, alive most s = true → P s → P (walkS l zb fs gs lead want most d f s)
  | 0, _, _, _, h => h
  | d + 1, f, s, ha, h => by
    cases ho : firstOpen f l with
    | none =>
      rw [walkS_leaf ho]
      split
      · exact hl f s ha h
      · exact h
    | some x =>
      rw [walkS_node ho]
      exact kids_inv ht (fun y s2 ha2 h2 => tryS_inv (fun f3 s3 ha3 h3 => walkS_inv ht hl d f3 s3 ha3 h3) _ s2 ha2 h2) _ _ _ h
theorem srchS_inv (hm : 0 < most) (h0 : P (0, [])) (ht : ∀ s, alive most s = true → P s → P (s.1 + 1, s.2)) (hl : ∀ f s, alive most s = true → P s → P (s.1, s.2 ++ [lstP l f])) : P (srchS l zb fs gs lead want most) := by
  refine tryS_inv (fun f s ha h => walkS_inv ht hl 9 f s ha h) _ _ ?_ h0
  unfold alive
  simp
  exact hm
end
def GoodS (l : Nat) (s : St) : Prop := (s.1 ≤ 5000 ∨ s.2 = []) ∧ s.2.length ≤ 1 ∧ ∀ xs, xs ∈ s.2 → xs.length = l
theorem srch_good (l zb : Nat) (fs gs : List OpD) (lead want : (Nat → Int) → Bool) : GoodS l (srchS l zb fs gs lead want 1) := by
  refine srchS_inv (P := GoodS l) (by omega) ⟨.inl (by show (0 : Nat) ≤ 5000; omega), Nat.zero_le _, fun xs h => by cases h⟩ ?_ ?_
  · rintro ⟨t, ms⟩ ha h
    unfold alive at ha
    simp only [Bool.and_eq_true, decide_eq_true_eq] at ha
    have h0 : ms = [] := List.eq_nil_of_length_eq_zero (by have := ha.1; simp at this; simp [this])
    exact ⟨.inr h0, h.2⟩
  · rintro f ⟨t, ms⟩ ha h
    unfold alive at ha
    simp only [Bool.and_eq_true, decide_eq_true_eq] at ha
    have h0 : ms = [] := List.eq_nil_of_length_eq_zero (by have := ha.1; simp at this; simp [this])
    subst h0
    refine ⟨.inl ha.2, by simp, fun xs hx => ?_⟩
    have hx2 : xs = lstP l f := by simpa using hx
    rw [hx2, lstP_len]

/-- The search of the rows, and the first that it finds. -/
def runV (into onto : Bool) (z : Int) (fs : List OpD) (z1 : Int) (gs : List OpD) : St :=
  if sameH z z1 fs gs then srchS z.toNat z1.toNat fs gs (leadB into) (wantB z.toNat z1.toNat onto) 1 else (5001, [])
def oneV (rs : St) : List Int × Bool := if (decide (rs.1 ≤ 5000) && !rs.2.isEmpty) = true then (rs.2.headD [], true) else ([], false)
def valFirstEmbedding (z : Int) (fs : List OpD) (z1 : Int) (gs : List OpD) : List Int × Bool := oneV (runV true false z fs z1 gs)
def valFirstOnto (z : Int) (fs : List OpD) (z1 : Int) (gs : List OpD) : List Int × Bool := oneV (runV false true z fs z1 gs)
def valFirstIso (z : Int) (fs : List OpD) (z1 : Int) (gs : List OpD) : List Int × Bool := if z = z1 then oneV (runV true false z fs z1 gs) else ([], false)
def valAreIsomorphic (z : Int) (fs : List OpD) (z1 : Int) (gs : List OpD) : Bool × Bool :=
  if sameH z z1 fs gs = true then (if z = z1 then ((oneV (runV true false z fs z1 gs)).2, decide ((runV true false z fs z1 gs).1 ≤ 5000)) else (false, true)) else (false, false)
theorem runV_good (into onto : Bool) (z : Int) (fs : List OpD) (z1 : Int) (gs : List OpD) : GoodS z.toNat (runV into onto z fs z1 gs) := by
  unfold runV
  split
  · exact srch_good _ _ _ _ _ _
  · exact ⟨.inr rfl, Nat.zero_le _, fun xs h => by cases h⟩
theorem oneV_len {l : Nat} {s : St} (h : GoodS l s) (hl : l ≤ 4194304) : (oneV s).1.length ≤ 4194304 := by
  unfold oneV
  split
  · obtain ⟨t, ms⟩ := s
    cases ms with
    | nil => exact Nat.zero_le _
    | cons xs rest => have := h.2.2 xs (.head _); show xs.length ≤ _; omega
  · exact Nat.zero_le _
theorem runV_len (into onto : Bool) (z : Int) (fs : List OpD) (z1 : Int) (gs : List OpD) : (oneV (runV into onto z fs z1 gs)).1.length ≤ 4194304 := by
  cases hs : sameH z z1 fs gs with
  | false =>
    have : runV into onto z fs z1 gs = (5001, []) := by unfold runV; rw [hs, if_neg (by simp)]
    rw [this]; exact Nat.zero_le _
  | true =>
    obtain ⟨⟨h1, h2⟩, _⟩ := algOkB_of (sameH_of hs).1
    exact oneV_len (runV_good _ _ _ _ _ _) (by omega)
theorem smallFirstEmbedding (z : Int) (fs : List OpD) (z1 : Int) (gs : List OpD) : (valFirstEmbedding z fs z1 gs).1.length ≤ 4194304 := runV_len _ _ _ _ _ _
theorem smallFirstOnto (z : Int) (fs : List OpD) (z1 : Int) (gs : List OpD) : (valFirstOnto z fs z1 gs).1.length ≤ 4194304 := runV_len _ _ _ _ _ _
theorem smallFirstIso (z : Int) (fs : List OpD) (z1 : Int) (gs : List OpD) : (valFirstIso z fs z1 gs).1.length ≤ 4194304 := by
  unfold valFirstIso
  split
  · exact runV_len _ _ _ _ _ _
  · exact Nat.zero_le _
theorem oneV_no (t : Nat) (b : Bool) (h : b = decide (t ≤ 5000)) : oneV (t, []) = ([], false) := by
  unfold oneV; simp
theorem oneV_yes {t : Nat} {xs : List Int} (h : t ≤ 5000) (ms : List (List Int)) : oneV (t, xs :: ms) = (xs, true) := by
  unfold oneV; simp [h]
theorem oneV_over {t : Nat} (h : ¬ t ≤ 5000) (ms : List (List Int)) : oneV (t, ms) = ([], false) := by
  unfold oneV; simp [h]

/-! The kit's side: what the search for the first one says. -/
theorem FstRes.outer {w w1 w2 : World} {l : Nat} {ms : List (List Int)} {ok : Bool} {e : Ending} (h : FstRes w1 w2 l ms ok e) (b : Below w.heap.size w w1) : FstRes w w2 l ms ok e := by
  obtain ⟨v, fd, h1, h2, h3⟩ := h
  refine ⟨v, fd, h1, b.trans (h2.mono b.size), h3.imp id ?_⟩
  rintro ⟨xs, g, dd, a, a1, a2, a3, a4⟩
  exact ⟨xs, g, dd, a, a1, a2, a3, ownsRow_base a4 b.size⟩
theorem fst_resL {w w' : World} {l : Nat} {rs : St} {v : Value} {fd : Bool} (hg : GoodS l rs) (hb : Below w.heap.size w w')
    (h : (rs.2 = [] ∧ v = .slice none 0 0 ∧ fd = false) ∨ ∃ xs g dd, rs.2 = [xs] ∧ xs.length = l ∧ v = .slice (some ⟨g, 0, none⟩) l dd ∧ fd = true ∧ w'.ownsRow w.heap.size 3 1 (.slice (some ⟨g, 0, none⟩) l dd) l (xs.map (Value.int .i64))) :
    ResL w w' (oneV rs).1 (oneV rs).2 (.returned (.tuple #[v, .bool fd])) := by
  obtain ⟨t, ms⟩ := rs
  rcases h with ⟨h1, rfl, rfl⟩ | ⟨xs, g, dd, h1, h2, rfl, rfl, h3⟩
  · obtain rfl : ms = [] := h1
    rw [oneV_no t _ rfl]
    exact ⟨_, _, _, rfl, rfl, OwnsInts.of_row (World.ownsRow_nil _ _ _ _), hb⟩
  · obtain rfl : ms = [xs] := h1
    have ht : t ≤ 5000 := by rcases hg.1 with h | h; exact h; cases h
    rw [oneV_yes ht]
    exact ⟨_, _, _, rfl, h2.symm, OwnsInts.of_row h3, hb⟩
theorem fst_two {l : Nat} {rs : St} {v : Value} {fd : Bool} {Q : List Int → Nat → Nat → Prop} (hg : GoodS l rs)
    (h : (rs.2 = [] ∧ v = .slice none 0 0 ∧ fd = false) ∨ ∃ xs g dd, rs.2 = [xs] ∧ xs.length = l ∧ v = .slice (some ⟨g, 0, none⟩) l dd ∧ fd = true ∧ Q xs g dd) : fd = (oneV rs).2 := by
  obtain ⟨t, ms⟩ := rs
  rcases h with ⟨h1, rfl, rfl⟩ | ⟨xs, g, dd, h1, h2, rfl, rfl, h3⟩
  · obtain rfl : ms = [] := h1
    rw [oneV_no t _ rfl]
  · obtain rfl : ms = [xs] := h1
    have ht : t ≤ 5000 := by rcases hg.1 with h | h; exact h; cases h
    rw [oneV_yes ht]
theorem fst_run (lo hi : Nat) (z : Int) (ao : Option Addr) (c n : Nat) (fs : List OpD) (lo2 hi2 : Nat) (z1 : Int) (bo : Option Addr) (d m : Nat) (gs : List OpD) (into onto : Bool) (lf wf : Nat) (wc : Array Value) (w : World) (hv : OView w lo hi ao n fs) (hhi : hi ≤ w.heap.size) (hs : ∀ (j : Nat) (f : OpD), fs[j]? = some f → f.2.length ≤ maxLen) (hu : OView w lo2 hi2 bo m gs) (hhi2 : hi2 ≤ w.heap.size) (hs2 : ∀ (j : Nat) (f : OpD), gs[j]? = some f → f.2.length ≤ maxLen)
    (eL : ∀ args w, (callFunc lf args).run Try.prog w = .ok (.enter lf args) w) (eW : ∀ args w, (callFunc wf args).run Try.prog w = .ok (.enter wf args) w)
    (hL : ∀ (l zb : Nat) (W : World) (f : Nat → Int), l ≤ 8 → zb ≤ 8 → Part (l : Int) (zb : Int) f → (∀ k : Nat, (l : Int) ≤ (k : Int) → f k = -1) → Calls Try.prog lf #[.agg (arrV f)] W fun e W' => e = .returned (.bool (leadB into f)) ∧ Below W.heap.size W W')
    (hW : ∀ (l zb : Nat) (W : World) (f : Nat → Int), (zb : Int) = z1 → 1 ≤ l → l ≤ 8 → 1 ≤ zb → zb ≤ 8 → Below w.heap.size w W → Full (l : Int) (zb : Int) f → (∀ k : Nat, (l : Int) ≤ (k : Int) → f k = -1) → Calls Try.prog wf (#[.agg (arrV f)] ++ wc) W fun e W' => e = .returned (.bool (wantB l zb onto f)) ∧ Below W.heap.size W W') :
    Calls Try.prog 83 #[.agg #[.int .i64 z, .slice ao n c], .agg #[.int .i64 z1, .slice bo m d], .func (.func lf) #[] #[], .func (.func wf) #[] wc] w fun e w' => FstRes w w' z.toNat (runV into onto z fs z1 gs).2 (decide ((runV into onto z fs z1 gs).1 ≤ 5000)) e := by
  cases hsm : sameH z z1 fs gs with
  | false =>
    have hr : runV into onto z fs z1 gs = (5001, []) := by unfold runV; rw [hsm, if_neg (by simp)]
    rw [hr]
    have h := fst_no lo hi lo2 hi2 z z1 ao bo c n d m z.toNat fs gs lf wf wc w hv hhi hs hu hhi2 hs2 hsm
    exact h
  | true =>
    obtain ⟨hok, hok2, hty⟩ := sameH_of hsm
    obtain ⟨⟨h1, h2⟩, _⟩ := algOkB_of hok
    obtain ⟨⟨k1, k2⟩, _⟩ := algOkB_of hok2
    have hr : runV into onto z fs z1 gs = srchS z.toNat z1.toNat fs gs (leadB into) (wantB z.toNat z1.toNat onto) 1 := by unfold runV; rw [hsm, if_pos rfl]
    rw [hr]
    obtain ⟨l, rfl⟩ : ∃ l : Nat, z = (l : Int) := ⟨z.toNat, by omega⟩
    obtain ⟨zb, rfl⟩ : ∃ zb : Nat, z1 = (zb : Int) := ⟨z1.toNat, by omega⟩
    simp only [Int.toNat_natCast]
    exact fst_any lo hi lo2 hi2 l zb ao bo c n d m fs gs lf wf wc (leadB into) (wantB l zb onto) w hv hhi hs hu hhi2 hs2 hok hok2 hty eL eW (fun W f hp ho => hL l zb W f (by omega) (by omega) hp ho) (fun W f hb hf ho => hW l zb W f rfl (by omega) (by omega) (by omega) (by omega) hb hf ho)

set_option maxHeartbeats 1000000 in
theorem firstEmb_any (lo hi : Nat) (z : Int) (ao : Option Addr) (c n : Nat) (fs : List OpD) (lo2 hi2 : Nat) (z1 : Int) (bo : Option Addr) (d m : Nat) (gs : List OpD) (w : World) (hv : OView w lo hi ao n fs) (hhi : hi ≤ w.heap.size) (hs : ∀ (j : Nat) (f : OpD), fs[j]? = some f → f.2.length ≤ maxLen) (hu : OView w lo2 hi2 bo m gs) (hhi2 : hi2 ≤ w.heap.size) (hs2 : ∀ (j : Nat) (f : OpD), gs[j]? = some f → f.2.length ≤ maxLen) :
    Calls Try.prog 80 #[.agg #[.int .i64 z, .slice ao n c], .agg #[.int .i64 z1, .slice bo m d]] w fun e w' => FstRes w w' z.toNat (runV true false z fs z1 gs).2 (decide ((runV true false z fs z1 gs).1 ≤ 5000)) e := by
  obtain ⟨w1, hw1, hbx, hsz⟩ := bx2_new w z ao n c z1 bo m d 31
  have HBx := Lib.hid hbx
  have eL : ∀ args w, (callFunc 106 args).run Try.prog w = .ok (.enter 106 args) w := enters_of Try.func106 (by kernel_rfl) rfl
  have eW : ∀ args w, (callFunc 78 args).run Try.prog w = .ok (.enter 78 args) w := enters_of Try.func78 (by kernel_rfl) rfl
  have hI := fun (W : World) (hW : Bx2 w W z ao n c z1 bo m d) => fst_run lo hi z ao c n fs lo2 hi2 z1 bo d m gs true false 106 78 #[] W (hv.kept (Kept.of_below hW.bel hhi)) (Nat.le_trans hhi hW.bel.size) hs (hu.kept (Kept.of_below hW.bel hhi2)) (Nat.le_trans hhi2 hW.bel.size) hs2 eL eW
    (fun l zb W f h8 z8 hp ho => by
      have h := oneToOne_any f W (fun k hk => by
        by_cases hkl : k < l
        · rcases hp k (by omega) with h | h
          · exact .inl h
          · exact .inr ⟨h.1, by omega⟩
        · exact .inl (ho k (by omega)))
      have e : leadB true f = oneB f 8 := by unfold leadB; simp
      rw [e]; exact h)
    (fun l zb W f _ _ _ _ _ _ hf ho => by
      have e : wantB l zb false f = true := by unfold wantB; simp
      rw [e]; exact anyMap_any f W)
  obtain ⟨cz, ca, cz1, ca1, cB⟩ := hbx
  obtain ⟨rs, hrs⟩ : ∃ rs, runV true false z fs z1 gs = rs := ⟨_, rfl⟩
  obtain ⟨ok, hok⟩ : ∃ ok, decide (rs.1 ≤ 5000) = ok := ⟨_, rfl⟩
  simp only [hrs, hok] at hI
  rw [hrs, hok]
  have HI := Lib.hid hI
  clear hI cB hv hu hs hs2 hrs hok eL eW
  go_enter Try.func80, Try.ntmps80
  go_wp2_with fail
  rw [← hw1]
  clear hw1
  go_wp2_with fail
  refine (HI.out _ HBx.out).mono ?_
  rintro e w2 hr2
  obtain ⟨v, fd, rfl, b2, ho2⟩ := hr2.outer HBx.out.bel
  have HF := Lib.hid (And.intro b2 ho2)
  clear b2 ho2 cz ca cz1 ca1 hr2
  go_wp2_with fail
  go_ret3
  exact ⟨v, fd, rfl, HF.out.1, HF.out.2⟩

set_option maxHeartbeats 1000000 in
theorem implFirstEmbedding (lo hi : Nat) (z : Int) (ao : Option Addr) (c n : Nat) (fs : List OpD) (lo2 hi2 : Nat) (z1 : Int) (bo : Option Addr) (d m : Nat) (gs : List OpD) (w : World) (hv : OView w lo hi ao n fs) (hhi : hi ≤ w.heap.size) (hs : ∀ (j : Nat) (f : OpD), fs[j]? = some f → f.2.length ≤ maxLen) (hu : OView w lo2 hi2 bo m gs) (hhi2 : hi2 ≤ w.heap.size) (hs2 : ∀ (j : Nat) (f : OpD), gs[j]? = some f → f.2.length ≤ maxLen) :
    Calls Try.prog 43 #[.agg #[.int .i64 z, .slice ao n c], .agg #[.int .i64 z1, .slice bo m d]] w fun e w' => ResL w w' (valFirstEmbedding z fs z1 gs).1 (valFirstEmbedding z fs z1 gs).2 e := by
  unfold valFirstEmbedding
  obtain ⟨w1, hw1, hbx, hsz⟩ := bx2_new w z ao n c z1 bo m d 31
  have HBx := Lib.hid hbx
  have hI := fun (W : World) (hW : Bx2 w W z ao n c z1 bo m d) => firstEmb_any lo hi z ao c n fs lo2 hi2 z1 bo d m gs W (hv.kept (Kept.of_below hW.bel hhi)) (Nat.le_trans hhi hW.bel.size) hs (hu.kept (Kept.of_below hW.bel hhi2)) (Nat.le_trans hhi2 hW.bel.size) hs2
  obtain ⟨cz, ca, cz1, ca1, cB⟩ := hbx
  have hgd := runV_good true false z fs z1 gs
  obtain ⟨rs, hrs⟩ : ∃ rs, runV true false z fs z1 gs = rs := ⟨_, rfl⟩
  rw [hrs] at hgd
  obtain ⟨ok, hok⟩ : ∃ ok, decide (rs.1 ≤ 5000) = ok := ⟨_, rfl⟩
  simp only [hrs, hok] at hI
  rw [hrs]
  have HI := Lib.hid hI
  have HGd := Lib.hid hgd
  clear hI cB hv hu hs hs2 hrs hok hgd
  go_enter Try.func43, Try.ntmps43
  go_wp2_with fail
  rw [← hw1]
  clear hw1
  go_wp2_with fail
  refine (HI.out _ HBx.out).mono ?_
  rintro e w2 hr2
  obtain ⟨v, fd, rfl, b2, ho2⟩ := hr2.outer HBx.out.bel
  have HF := Lib.hid (And.intro b2 ho2)
  clear b2 ho2 cz ca cz1 ca1 hr2
  go_wp2_with fail
  go_ret2
  exact fst_resL HGd.out HF.out.1 HF.out.2

set_option maxHeartbeats 1000000 in
theorem implFirstIso (lo hi : Nat) (z : Int) (ao : Option Addr) (c n : Nat) (fs : List OpD) (lo2 hi2 : Nat) (z1 : Int) (bo : Option Addr) (d m : Nat) (gs : List OpD) (w : World) (hv : OView w lo hi ao n fs) (hhi : hi ≤ w.heap.size) (hs : ∀ (j : Nat) (f : OpD), fs[j]? = some f → f.2.length ≤ maxLen) (hu : OView w lo2 hi2 bo m gs) (hhi2 : hi2 ≤ w.heap.size) (hs2 : ∀ (j : Nat) (f : OpD), gs[j]? = some f → f.2.length ≤ maxLen) :
    Calls Try.prog 47 #[.agg #[.int .i64 z, .slice ao n c], .agg #[.int .i64 z1, .slice bo m d]] w fun e w' => ResL w w' (valFirstIso z fs z1 gs).1 (valFirstIso z fs z1 gs).2 e := by
  unfold valFirstIso
  obtain ⟨w1, hw1, hbx, hsz⟩ := bx2_new w z ao n c z1 bo m d 31
  have HBx := Lib.hid hbx
  have hI := fun (W : World) (hW : Bx2 w W z ao n c z1 bo m d) => implFirstEmbedding lo hi z ao c n fs lo2 hi2 z1 bo d m gs W (hv.kept (Kept.of_below hW.bel hhi)) (Nat.le_trans hhi hW.bel.size) hs (hu.kept (Kept.of_below hW.bel hhi2)) (Nat.le_trans hhi2 hW.bel.size) hs2
  obtain ⟨cz, ca, cz1, ca1, cB⟩ := hbx
  obtain ⟨rs, hrs⟩ : ∃ rs, oneV (runV true false z fs z1 gs) = rs := ⟨_, rfl⟩
  simp only [valFirstEmbedding, hrs] at hI
  rw [hrs]
  have HI := Lib.hid hI
  clear hI cB hv hu hs hs2 hrs
  by_cases hzz : z = z1
  · have hne : (z != z1) = false := by simp [hzz]
    rw [if_pos hzz]
    clear hzz
    go_enter Try.func47, Try.ntmps47
    go_wp2_with fail
    rw [← hw1]
    clear hw1
    go_wp2_with fail
    refine (HI.out _ HBx.out).mono ?_
    rintro e w2 ⟨ga, gn, gc, rfl, g1, g2, b2⟩
    have HF := Lib.hid (And.intro g1 (And.intro g2 b2))
    clear g1 g2 b2 cz ca cz1 ca1
    go_wp2_with fail
    go_ret2
    exact ⟨ga, gn, gc, rfl, HF.out.1, OwnsInts.of_row (ownsRow_base HF.out.2.1.row HBx.out.bel.size), HBx.out.bel.trans (HF.out.2.2.mono HBx.out.bel.size)⟩
  · have hne : (z != z1) = true := by simp [hzz]
    rw [if_neg hzz]
    clear hzz
    go_enter Try.func47, Try.ntmps47
    go_wp2_with fail
    rw [← hw1]
    clear hw1
    go_wp2_with fail
    go_ret2
    exact ⟨_, _, _, rfl, rfl, OwnsInts.of_row (World.ownsRow_nil _ _ _ _), HBx.out.bel⟩

set_option maxHeartbeats 1000000 in
theorem implAreIsomorphic (lo hi : Nat) (z : Int) (ao : Option Addr) (c n : Nat) (fs : List OpD) (lo2 hi2 : Nat) (z1 : Int) (bo : Option Addr) (d m : Nat) (gs : List OpD) (w : World) (hv : OView w lo hi ao n fs) (hhi : hi ≤ w.heap.size) (hs : ∀ (j : Nat) (f : OpD), fs[j]? = some f → f.2.length ≤ maxLen) (hu : OView w lo2 hi2 bo m gs) (hhi2 : hi2 ≤ w.heap.size) (hs2 : ∀ (j : Nat) (f : OpD), gs[j]? = some f → f.2.length ≤ maxLen) :
    Calls Try.prog 49 #[.agg #[.int .i64 z, .slice ao n c], .agg #[.int .i64 z1, .slice bo m d]] w fun e w' => e = .returned (.tuple #[.bool (valAreIsomorphic z fs z1 gs).1, .bool (valAreIsomorphic z fs z1 gs).2]) ∧ Below w.heap.size w w' := by
  obtain ⟨w1, hw1, hbx, hsz⟩ := bx2_new w z ao n c z1 bo m d 31
  have HBx := Lib.hid hbx
  have hT := fun (W : World) (hW : Bx2 w W z ao n c z1 bo m d) => implSameType lo hi z ao c n fs lo2 hi2 z1 bo d m gs W (hv.kept (Kept.of_below hW.bel hhi)) (Nat.le_trans hhi hW.bel.size) hs (hu.kept (Kept.of_below hW.bel hhi2)) (Nat.le_trans hhi2 hW.bel.size) hs2
  have hI := fun (W : World) (hW : Bx2 w W z ao n c z1 bo m d) => firstEmb_any lo hi z ao c n fs lo2 hi2 z1 bo d m gs W (hv.kept (Kept.of_below hW.bel hhi)) (Nat.le_trans hhi hW.bel.size) hs (hu.kept (Kept.of_below hW.bel hhi2)) (Nat.le_trans hhi2 hW.bel.size) hs2
  obtain ⟨cz, ca, cz1, ca1, cB⟩ := hbx
  obtain ⟨p, hp⟩ : ∃ p, valAreIsomorphic z fs z1 gs = p := ⟨_, rfl⟩
  have HP0 : Hid (valAreIsomorphic z fs z1 gs = p) := hp
  have hgd := runV_good true false z fs z1 gs
  obtain ⟨rs, hrs⟩ : ∃ rs, runV true false z fs z1 gs = rs := ⟨_, rfl⟩
  unfold valAreIsomorphic at HP0
  rw [hrs] at hgd HP0
  obtain ⟨ok, hok⟩ : ∃ ok, decide (rs.1 ≤ 5000) = ok := ⟨_, rfl⟩
  simp only [hrs, hok] at hI
  rw [hok] at HP0
  obtain ⟨st, hst⟩ : ∃ st, sameH z z1 fs gs = st := ⟨_, rfl⟩
  rw [hst] at HP0
  obtain ⟨st2, hst2⟩ : ∃ st2, (valSameType z fs z1 gs).2 = st2 := ⟨_, rfl⟩
  have hst' : (valSameType z fs z1 gs).1 = st := hst
  simp only [hst', hst2] at hT
  rw [hp]
  have HI := Lib.hid hI
  have HT := Lib.hid hT
  have HGd := Lib.hid hgd
  have HP := HP0
  clear hI hT cB hv hu hs hs2 hrs hok hgd hp hst hst' hst2 HP0
  cases st with
  | false =>
    have HE : Hid (p = (false, false)) := by unfold Hid; rw [← HP.out, if_neg (by simp)]
    go_enter Try.func49, Try.ntmps49
    go_wp2_with fail
    rw [← hw1]
    clear hw1
    go_wp2_with fail
    refine (HT.out _ HBx.out).mono ?_
    rintro e w2 ⟨rfl, b2⟩
    have HBx2 := Lib.hid (HBx.out.below b2)
    clear b2 cz ca cz1 ca1
    go_wp2_with fail
    go_ret2
    exact ⟨by rw [HE.out]; rfl, HBx2.out.bel⟩
  | true =>
    by_cases hzz : z = z1
    · have hne : (z != z1) = false := by simp [hzz]
      have HE : Hid (p = ((oneV rs).2, ok)) := by unfold Hid; rw [← HP.out, if_pos rfl, if_pos hzz]
      clear hzz
      go_enter Try.func49, Try.ntmps49
      go_wp2_with fail
      rw [← hw1]
      clear hw1
      go_wp2_with fail
      refine (HT.out _ HBx.out).mono ?_
      rintro e w2 ⟨rfl, b2⟩
      have HBx2 := Lib.hid (HBx.out.below b2)
      clear b2 cz ca cz1 ca1
      obtain ⟨cz, ca, cz1, ca1, cB⟩ := HBx2.out
      clear cB
      go_wp2_with fail
      refine (HI.out _ HBx2.out).mono ?_
      rintro e w3 hr3
      obtain ⟨v, fd, rfl, b3, ho3⟩ := hr3.outer HBx2.out.bel
      have HF := Lib.hid b3
      have hfd := fst_two (Q := fun xs g dd => w3.ownsRow w.heap.size 3 1 (.slice (some ⟨g, 0, none⟩) z.toNat dd) z.toNat (xs.map (Value.int .i64))) HGd.out ho3
      have HFd := Lib.hid hfd
      clear b3 ho3 cz ca cz1 ca1 hr3 hfd
      go_wp2_with fail
      go_ret2
      exact ⟨by rw [HE.out, ← HFd.out]; rfl, HF.out⟩
    · have hne : (z != z1) = true := by simp [hzz]
      have HE : Hid (p = (false, true)) := by unfold Hid; rw [← HP.out, if_pos rfl, if_neg hzz]
      clear hzz
      go_enter Try.func49, Try.ntmps49
      go_wp2_with fail
      rw [← hw1]
      clear hw1
      go_wp2_with fail
      refine (HT.out _ HBx.out).mono ?_
      rintro e w2 ⟨rfl, b2⟩
      have HBx2 := Lib.hid (HBx.out.below b2)
      clear b2 cz ca cz1 ca1
      obtain ⟨cz, ca, cz1, ca1, cB⟩ := HBx2.out
      clear cB
      go_wp2_with fail
      go_ret2
      exact ⟨by rw [HE.out]; rfl, HBx2.out.bel⟩

end Go.Proofs.Ytcioekhlhgkkiaa
