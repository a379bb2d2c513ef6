/-
  Contract: spec.l1Read returns the number whose numeral the string is, and true, or 0 and false where there is none within -999999 .. 999999; it only reads. Condition: the string has at most maxLen bytes.
-/
import Derived.Test.YtoljoifldlpinaaDoorNum
import Derived.Test.YtoljoifldlpinaaDoorReadPlain
import Derived.Lib.Strings
namespace Go.Proofs.YtoljoifldlpinaaDoor
open Go.RowKit

theorem l1In_yes (x a b : Int) (w : World) (h1 : a ≤ x) (h2 : x ≤ b) :
    Calls Tryd.prog 24 #[.int .i64 x, .int .i64 a, .int .i64 b] w fun e w' => e = .returned (.bool true) ∧ w = w' := by
  have d2 : decide (x ≤ b) = true := decide_eq_true h2
  go_enter Tryd.func24, Tryd.ntmps24
  go_wp2
  go_ret
  exact ⟨rfl, rfl⟩
theorem l1In_no (x a b : Int) (w : World) (h : x < a ∨ b < x) :
    Calls Tryd.prog 24 #[.int .i64 x, .int .i64 a, .int .i64 b] w fun e w' => e = .returned (.bool false) ∧ w = w' := by
  by_cases h1 : a ≤ x
  · have d2 : decide (x ≤ b) = false := decide_eq_false (by omega)
    clear h
    go_enter Tryd.func24, Tryd.ntmps24
    go_wp2
    go_ret
    exact ⟨rfl, rfl⟩
  · have d2 : decide (a ≤ x) = false := decide_eq_false h1
    clear h
    go_enter Tryd.func24, Tryd.ntmps24
    go_wp2
    go_ret
    exact ⟨rfl, rfl⟩

def ReadPost (s : ByteArray) (e : Ending) : Prop :=
  (∀ n : Int, -999999 ≤ n → n ≤ 999999 → Lib.itoa n = s.data.toList → e = .returned (.tuple #[.int .i64 n, .bool true])) ∧ ((∀ n : Int, -999999 ≤ n → n ≤ 999999 → Lib.itoa n ≠ s.data.toList) → e = .returned (.tuple #[.int .i64 0, .bool false]))
theorem ReadPost.no {s : ByteArray} {e : Ending} (h : ∀ n : Int, -999999 ≤ n → n ≤ 999999 → Lib.itoa n ≠ s.data.toList) (he : e = .returned (.tuple #[.int .i64 0, .bool false])) : ReadPost s e :=
  ⟨fun n a b hn => absurd hn (h n a b), fun _ => he⟩
theorem ReadPost.yes {s : ByteArray} {e : Ending} {m : Int} (h : ∀ n : Int, -999999 ≤ n → n ≤ 999999 → Lib.itoa n = s.data.toList → n = m) (hm : Lib.itoa m = s.data.toList) (h0 : -999999 ≤ m) (h1 : m ≤ 999999) (he : e = .returned (.tuple #[.int .i64 m, .bool true])) : ReadPost s e :=
  ⟨fun n a b hn => by rw [h n a b hn]; exact he, fun hno => absurd hm (hno m h0 h1)⟩

set_option maxHeartbeats 1000000 in
theorem read_neg (s : ByteArray) (w : World) (hs : s.size ≤ maxLen) (T : ByteArray) (h2 : 1 < s.size) (h45 : ((s[0]'(Nat.lt_trans Nat.zero_lt_one h2)).toNat : Int) = 45) (hT : s.extract 1 s.size = T) (hTs : T.size + 1 = s.size) (hlead : Lead true s.data.toList T.data.toList) :
    Calls Tryd.prog 29 #[.string s] w fun e w' => ReadPost s e ∧ ∃ q, w' = w.drewN q := by
  unfold maxLen at hs
  have hTa : T.size + 1 ≤ s.size := by omega
  have hTb : s.size ≤ T.size + 1 := by omega
  have h45b : (((s[0]'(Nat.lt_trans Nat.zero_lt_one h2)).toNat : Int) == 45) = true := by rw [h45]; rfl
  have HD := Lib.hid hlead
  clear hTs hlead h45

  by_cases hl : 1 ≤ T.size ∧ T.size ≤ 6
  · obtain ⟨l1, l2⟩ := hl
    have hz6 : decide ((T.size : Int) ≤ 6) = true := decide_eq_true (by omega)
    have hz1 : decide (1 ≤ (T.size : Int)) = true := decide_eq_true (by omega)
    have HN := Lib.hid (fun (n : Int) (a : -999999 ≤ n) (b : n ≤ 999999) (w : World) => num_any n w a b)
    go_enter Tryd.func29, Tryd.ntmps29
    go_wp2_with (first | (go_at_call 24; refine (l1In_yes _ _ _ _ (by omega) (by omega)).mono ?_; rintro e w' ⟨rfl, rfl⟩) | (go_at_call 24; refine (l1In_no _ _ _ _ (by omega)).mono ?_; rintro e w' ⟨rfl, rfl⟩))
    go_loop [5, 6] (fun n i => ∃ k m : Nat, k ≤ T.size ∧ i = .int .i64 k ∧ n = .int .i64 m ∧ Hid (Lib.decFrom 0 (T.data.toList.take k) = some m)) (fun _ i => T.size - (intOf i).toNat)
    case atStart => exact ⟨0, 0, Nat.zero_le _, rfl, rfl, rfl⟩
    case round =>
      obtain ⟨k, m, hk, rfl, rfl, HM⟩ := hrel
      have hm6 := decFrom_lt k T.data.toList m HM.out (by simpa using hk)
      by_cases hlt : k < T.size
      · have hm5 : m ≤ 99999 := by
          have := Nat.pow_le_pow_right (n := 10) (by omega) (show k ≤ 5 by omega)
          omega
        clear hm6
        have hbk : T.data.toList[k]? = some T[k] := List.getElem?_eq_getElem (by simpa using hlt)
        have HB := Lib.hid hbk
        clear hbk
        by_cases hd1 : T[k].toNat < 48
        · have HX := Lib.hid (no_num_byte HD.out HB.out (.inl hd1))
          have hd1' : (T[k].toNat : Int) < 48 := by omega
          clear hd1
          go_wp2
          go_ret2
          exact ⟨ReadPost.no HX.out rfl, 0, rfl⟩
        · by_cases hd2 : 57 < T[k].toNat
          · have HX := Lib.hid (no_num_byte HD.out HB.out (.inr hd2))
            have hd1' : 48 ≤ (T[k].toNat : Int) := by omega
            have hd2' : 57 < (T[k].toNat : Int) := by omega
            clear hd1 hd2
            go_wp2
            go_ret2
            exact ⟨ReadPost.no HX.out rfl, 0, rfl⟩
          · have HX := Lib.hid (Lib.decFrom_take T.data.toList k 0 m T[k] (T[k].toNat - 48) HM.out HB.out (by unfold Lib.digitVal; rw [if_pos (by omega)]))
            have hd1' : 48 ≤ (T[k].toNat : Int) := by omega
            have hd2' : (T[k].toNat : Int) ≤ 57 := by omega
            clear hd1 hd2
            go_wp2
            go_round
            case rel => exact ⟨k + 1, m * 10 + (T[k].toNat - 48), by omega, by go_num, by go_num, HX⟩
            case measure => simp [intOf]; omega
      · have hm6' : m ≤ 999999 := by
          have := Nat.pow_le_pow_right (n := 10) (by omega) (show k ≤ 6 by omega)
          omega
        have HK : Hid (Lib.decFrom 0 T.data.toList = some m) := by
          have h := HM.out
          rw [take_all T k (by omega)] at h
          exact h
        have hcall := HN.out (signed true m) (by show -999999 ≤ -(m : Int); omega) (by show -(m : Int) ≤ 999999; omega)
        have hsg : signed true m = -(m : Int) := rfl
        rw [hsg] at hcall
        obtain ⟨S, hS⟩ : ∃ S : ByteArray, S = ⟨(Lib.itoa (-(m : Int))).toArray⟩ := ⟨_, rfl⟩
        rw [← hS] at hcall
        have HC := Lib.hid hcall
        have HSg := Lib.hid hsg
        have HS := Lib.hid hS
        clear hcall hsg hm6 hS
        by_cases he : S = s
        · have HE := Lib.hid he
          have he1 : (S.toList == s.toList) = true := by rw [he]; exact beq_self_eq_true _
          clear he
          go_wp2_with (go_at_call 25; refine (HC.out _).mono ?_; rintro e w' ⟨rfl, q, rfl⟩)
          go_ret2
          exact ⟨ReadPost.yes (fun n a b hn => (num_is HD.out HK.out a b hn).trans HSg.out) (by have := HE.out; rw [HS.out] at this; rw [← this]) (by omega) (by omega) rfl, q, rfl⟩
        · have HX : Hid (∀ n : Int, -999999 ≤ n → n ≤ 999999 → Lib.itoa n ≠ s.data.toList) := by
            intro n a b hn
            have := (num_is HD.out HK.out a b hn).trans HSg.out
            rw [this] at hn
            apply he
            rw [HS.out, hn]
          have he1 : (S.toList == s.toList) = false := by
            rw [beq_eq_false_iff_ne]
            intro h
            rw [Lib.toList_data, Lib.toList_data] at h
            exact he (by rcases S with ⟨⟨a⟩⟩; rcases s with ⟨⟨b⟩⟩; simp at h; rw [h])
          clear he
          go_wp2_with (go_at_call 25; refine (HC.out _).mono ?_; rintro e w' ⟨rfl, q, rfl⟩)
          go_ret2
          exact ⟨ReadPost.no HX.out rfl, q, rfl⟩
  · have HX := Lib.hid (no_num_len HD.out (by have e := Lib.size_eq T; omega))
    rcases Nat.lt_or_ge T.size 1 with hz | hz
    · have hz' : (T.size : Int) < 1 := by omega
      have hz1 : decide (1 ≤ (T.size : Int)) = false := decide_eq_false (by omega)
      clear hl
      go_enter Tryd.func29, Tryd.ntmps29
      go_wp2_with (first | (go_at_call 24; refine (l1In_yes _ _ _ _ (by omega) (by omega)).mono ?_; rintro e w' ⟨rfl, rfl⟩) | (go_at_call 24; refine (l1In_no _ _ _ _ (by omega)).mono ?_; rintro e w' ⟨rfl, rfl⟩))
      all_goals go_ret2
      all_goals exact ⟨ReadPost.no HX.out rfl, 0, rfl⟩
    · have hz2 : 6 < (T.size : Int) := by omega
      have hz1 : decide ((T.size : Int) ≤ 6) = false := decide_eq_false (by omega)
      clear hl
      go_enter Tryd.func29, Tryd.ntmps29
      go_wp2_with (first | (go_at_call 24; refine (l1In_yes _ _ _ _ (by omega) (by omega)).mono ?_; rintro e w' ⟨rfl, rfl⟩) | (go_at_call 24; refine (l1In_no _ _ _ _ (by omega)).mono ?_; rintro e w' ⟨rfl, rfl⟩))
      all_goals go_ret2
      all_goals exact ⟨ReadPost.no HX.out rfl, 0, rfl⟩

set_option maxHeartbeats 1000000 in
theorem read_short (s : ByteArray) (w : World) (hs : s.size ≤ maxLen) (hs1 : s.size ≤ 1) (hlead : Lead false s.data.toList s.data.toList) :
    Calls Tryd.prog 29 #[.string s] w fun e w' => ReadPost s e ∧ ∃ q, w' = w.drewN q := by
  unfold maxLen at hs
  have HD := Lib.hid hlead
  clear hlead

  by_cases hl : 1 ≤ s.size ∧ s.size ≤ 6
  · obtain ⟨l1, l2⟩ := hl
    have hz6 : decide ((s.size : Int) ≤ 6) = true := decide_eq_true (by omega)
    have hz1 : decide (1 ≤ (s.size : Int)) = true := decide_eq_true (by omega)
    have HN := Lib.hid (fun (n : Int) (a : -999999 ≤ n) (b : n ≤ 999999) (w : World) => num_any n w a b)
    go_enter Tryd.func29, Tryd.ntmps29
    go_wp2_with (first | (go_at_call 24; refine (l1In_yes _ _ _ _ (by omega) (by omega)).mono ?_; rintro e w' ⟨rfl, rfl⟩) | (go_at_call 24; refine (l1In_no _ _ _ _ (by omega)).mono ?_; rintro e w' ⟨rfl, rfl⟩))
    go_loop [5, 6] (fun n i => ∃ k m : Nat, k ≤ s.size ∧ i = .int .i64 k ∧ n = .int .i64 m ∧ Hid (Lib.decFrom 0 (s.data.toList.take k) = some m)) (fun _ i => s.size - (intOf i).toNat)
    case atStart => exact ⟨0, 0, Nat.zero_le _, rfl, rfl, rfl⟩
    case round =>
      obtain ⟨k, m, hk, rfl, rfl, HM⟩ := hrel
      have hm6 := decFrom_lt k s.data.toList m HM.out (by simpa using hk)
      by_cases hlt : k < s.size
      · have hm5 : m ≤ 99999 := by
          have := Nat.pow_le_pow_right (n := 10) (by omega) (show k ≤ 5 by omega)
          omega
        clear hm6
        have hbk : s.data.toList[k]? = some s[k] := List.getElem?_eq_getElem (by simpa using hlt)
        have HB := Lib.hid hbk
        clear hbk
        by_cases hd1 : s[k].toNat < 48
        · have HX := Lib.hid (no_num_byte HD.out HB.out (.inl hd1))
          have hd1' : (s[k].toNat : Int) < 48 := by omega
          clear hd1
          go_wp2
          go_ret2
          exact ⟨ReadPost.no HX.out rfl, 0, rfl⟩
        · by_cases hd2 : 57 < s[k].toNat
          · have HX := Lib.hid (no_num_byte HD.out HB.out (.inr hd2))
            have hd1' : 48 ≤ (s[k].toNat : Int) := by omega
            have hd2' : 57 < (s[k].toNat : Int) := by omega
            clear hd1 hd2
            go_wp2
            go_ret2
            exact ⟨ReadPost.no HX.out rfl, 0, rfl⟩
          · have HX := Lib.hid (Lib.decFrom_take s.data.toList k 0 m s[k] (s[k].toNat - 48) HM.out HB.out (by unfold Lib.digitVal; rw [if_pos (by omega)]))
            have hd1' : 48 ≤ (s[k].toNat : Int) := by omega
            have hd2' : (s[k].toNat : Int) ≤ 57 := by omega
            clear hd1 hd2
            go_wp2
            go_round
            case rel => exact ⟨k + 1, m * 10 + (s[k].toNat - 48), by omega, by go_num, by go_num, HX⟩
            case measure => simp [intOf]; omega
      · have hm6' : m ≤ 999999 := by
          have := Nat.pow_le_pow_right (n := 10) (by omega) (show k ≤ 6 by omega)
          omega
        have HK : Hid (Lib.decFrom 0 s.data.toList = some m) := by
          have h := HM.out
          rw [take_all s k (by omega)] at h
          exact h
        have hcall := HN.out (signed false m) (by show -999999 ≤ (m : Int); omega) (by show (m : Int) ≤ 999999; omega)
        have hsg : signed false m = (m : Int) := rfl
        rw [hsg] at hcall
        obtain ⟨S, hS⟩ : ∃ S : ByteArray, S = ⟨(Lib.itoa ((m : Int))).toArray⟩ := ⟨_, rfl⟩
        rw [← hS] at hcall
        have HC := Lib.hid hcall
        have HSg := Lib.hid hsg
        have HS := Lib.hid hS
        clear hcall hsg hm6 hS
        by_cases he : S = s
        · have HE := Lib.hid he
          have he1 : (S.toList == s.toList) = true := by rw [he]; exact beq_self_eq_true _
          clear he
          go_wp2_with (go_at_call 25; refine (HC.out _).mono ?_; rintro e w' ⟨rfl, q, rfl⟩)
          go_ret2
          exact ⟨ReadPost.yes (fun n a b hn => (num_is HD.out HK.out a b hn).trans HSg.out) (by have := HE.out; rw [HS.out] at this; rw [← this]) (by omega) (by omega) rfl, q, rfl⟩
        · have HX : Hid (∀ n : Int, -999999 ≤ n → n ≤ 999999 → Lib.itoa n ≠ s.data.toList) := by
            intro n a b hn
            have := (num_is HD.out HK.out a b hn).trans HSg.out
            rw [this] at hn
            apply he
            rw [HS.out, hn]
          have he1 : (S.toList == s.toList) = false := by
            rw [beq_eq_false_iff_ne]
            intro h
            rw [Lib.toList_data, Lib.toList_data] at h
            exact he (by rcases S with ⟨⟨a⟩⟩; rcases s with ⟨⟨b⟩⟩; simp at h; rw [h])
          clear he
          go_wp2_with (go_at_call 25; refine (HC.out _).mono ?_; rintro e w' ⟨rfl, q, rfl⟩)
          go_ret2
          exact ⟨ReadPost.no HX.out rfl, q, rfl⟩
  · have HX := Lib.hid (no_num_len HD.out (by have e := Lib.size_eq s; omega))
    rcases Nat.lt_or_ge s.size 1 with hz | hz
    · have hz' : (s.size : Int) < 1 := by omega
      have hz1 : decide (1 ≤ (s.size : Int)) = false := decide_eq_false (by omega)
      clear hl
      go_enter Tryd.func29, Tryd.ntmps29
      go_wp2_with (first | (go_at_call 24; refine (l1In_yes _ _ _ _ (by omega) (by omega)).mono ?_; rintro e w' ⟨rfl, rfl⟩) | (go_at_call 24; refine (l1In_no _ _ _ _ (by omega)).mono ?_; rintro e w' ⟨rfl, rfl⟩))
      all_goals go_ret2
      all_goals exact ⟨ReadPost.no HX.out rfl, 0, rfl⟩
    · have hz2 : 6 < (s.size : Int) := by omega
      have hz1 : decide ((s.size : Int) ≤ 6) = false := decide_eq_false (by omega)
      clear hl
      go_enter Tryd.func29, Tryd.ntmps29
      go_wp2_with (first | (go_at_call 24; refine (l1In_yes _ _ _ _ (by omega) (by omega)).mono ?_; rintro e w' ⟨rfl, rfl⟩) | (go_at_call 24; refine (l1In_no _ _ _ _ (by omega)).mono ?_; rintro e w' ⟨rfl, rfl⟩))
      all_goals go_ret2
      all_goals exact ⟨ReadPost.no HX.out rfl, 0, rfl⟩

set_option maxHeartbeats 1000000 in
theorem read_pos (s : ByteArray) (w : World) (hs : s.size ≤ maxLen) (h0 : 1 < s.size) (h45 : ((s[0]'(Nat.lt_trans Nat.zero_lt_one h0)).toNat : Int) ≠ 45) (hlead : Lead false s.data.toList s.data.toList) :
    Calls Tryd.prog 29 #[.string s] w fun e w' => ReadPost s e ∧ ∃ q, w' = w.drewN q := by
  unfold maxLen at hs
  have h45b : (((s[0]'(Nat.lt_trans Nat.zero_lt_one h0)).toNat : Int) == 45) = false := by rw [beq_eq_false_iff_ne]; exact h45
  clear h45
  have HD := Lib.hid hlead
  clear hlead

  by_cases hl : 1 ≤ s.size ∧ s.size ≤ 6
  · obtain ⟨l1, l2⟩ := hl
    have hz6 : decide ((s.size : Int) ≤ 6) = true := decide_eq_true (by omega)
    have hz1 : decide (1 ≤ (s.size : Int)) = true := decide_eq_true (by omega)
    have HN := Lib.hid (fun (n : Int) (a : -999999 ≤ n) (b : n ≤ 999999) (w : World) => num_any n w a b)
    go_enter Tryd.func29, Tryd.ntmps29
    go_wp2_with (first | (go_at_call 24; refine (l1In_yes _ _ _ _ (by omega) (by omega)).mono ?_; rintro e w' ⟨rfl, rfl⟩) | (go_at_call 24; refine (l1In_no _ _ _ _ (by omega)).mono ?_; rintro e w' ⟨rfl, rfl⟩))
    go_loop [5, 6] (fun n i => ∃ k m : Nat, k ≤ s.size ∧ i = .int .i64 k ∧ n = .int .i64 m ∧ Hid (Lib.decFrom 0 (s.data.toList.take k) = some m)) (fun _ i => s.size - (intOf i).toNat)
    case atStart => exact ⟨0, 0, Nat.zero_le _, rfl, rfl, rfl⟩
    case round =>
      obtain ⟨k, m, hk, rfl, rfl, HM⟩ := hrel
      have hm6 := decFrom_lt k s.data.toList m HM.out (by simpa using hk)
      by_cases hlt : k < s.size
      · have hm5 : m ≤ 99999 := by
          have := Nat.pow_le_pow_right (n := 10) (by omega) (show k ≤ 5 by omega)
          omega
        clear hm6
        have hbk : s.data.toList[k]? = some s[k] := List.getElem?_eq_getElem (by simpa using hlt)
        have HB := Lib.hid hbk
        clear hbk
        by_cases hd1 : s[k].toNat < 48
        · have HX := Lib.hid (no_num_byte HD.out HB.out (.inl hd1))
          have hd1' : (s[k].toNat : Int) < 48 := by omega
          clear hd1
          go_wp2
          go_ret2
          exact ⟨ReadPost.no HX.out rfl, 0, rfl⟩
        · by_cases hd2 : 57 < s[k].toNat
          · have HX := Lib.hid (no_num_byte HD.out HB.out (.inr hd2))
            have hd1' : 48 ≤ (s[k].toNat : Int) := by omega
            have hd2' : 57 < (s[k].toNat : Int) := by omega
            clear hd1 hd2
            go_wp2
            go_ret2
            exact ⟨ReadPost.no HX.out rfl, 0, rfl⟩
          · have HX := Lib.hid (Lib.decFrom_take s.data.toList k 0 m s[k] (s[k].toNat - 48) HM.out HB.out (by unfold Lib.digitVal; rw [if_pos (by omega)]))
            have hd1' : 48 ≤ (s[k].toNat : Int) := by omega
            have hd2' : (s[k].toNat : Int) ≤ 57 := by omega
            clear hd1 hd2
            go_wp2
            go_round
            case rel => exact ⟨k + 1, m * 10 + (s[k].toNat - 48), by omega, by go_num, by go_num, HX⟩
            case measure => simp [intOf]; omega
      · have hm6' : m ≤ 999999 := by
          have := Nat.pow_le_pow_right (n := 10) (by omega) (show k ≤ 6 by omega)
          omega
        have HK : Hid (Lib.decFrom 0 s.data.toList = some m) := by
          have h := HM.out
          rw [take_all s k (by omega)] at h
          exact h
        have hcall := HN.out (signed false m) (by show -999999 ≤ (m : Int); omega) (by show (m : Int) ≤ 999999; omega)
        have hsg : signed false m = (m : Int) := rfl
        rw [hsg] at hcall
        obtain ⟨S, hS⟩ : ∃ S : ByteArray, S = ⟨(Lib.itoa ((m : Int))).toArray⟩ := ⟨_, rfl⟩
        rw [← hS] at hcall
        have HC := Lib.hid hcall
        have HSg := Lib.hid hsg
        have HS := Lib.hid hS
        clear hcall hsg hm6 hS
        by_cases he : S = s
        · have HE := Lib.hid he
          have he1 : (S.toList == s.toList) = true := by rw [he]; exact beq_self_eq_true _
          clear he
          go_wp2_with (go_at_call 25; refine (HC.out _).mono ?_; rintro e w' ⟨rfl, q, rfl⟩)
          go_ret2
          exact ⟨ReadPost.yes (fun n a b hn => (num_is HD.out HK.out a b hn).trans HSg.out) (by have := HE.out; rw [HS.out] at this; rw [← this]) (by omega) (by omega) rfl, q, rfl⟩
        · have HX : Hid (∀ n : Int, -999999 ≤ n → n ≤ 999999 → Lib.itoa n ≠ s.data.toList) := by
            intro n a b hn
            have := (num_is HD.out HK.out a b hn).trans HSg.out
            rw [this] at hn
            apply he
            rw [HS.out, hn]
          have he1 : (S.toList == s.toList) = false := by
            rw [beq_eq_false_iff_ne]
            intro h
            rw [Lib.toList_data, Lib.toList_data] at h
            exact he (by rcases S with ⟨⟨a⟩⟩; rcases s with ⟨⟨b⟩⟩; simp at h; rw [h])
          clear he
          go_wp2_with (go_at_call 25; refine (HC.out _).mono ?_; rintro e w' ⟨rfl, q, rfl⟩)
          go_ret2
          exact ⟨ReadPost.no HX.out rfl, q, rfl⟩
  · have HX := Lib.hid (no_num_len HD.out (by have e := Lib.size_eq s; omega))
    rcases Nat.lt_or_ge s.size 1 with hz | hz
    · have hz' : (s.size : Int) < 1 := by omega
      have hz1 : decide (1 ≤ (s.size : Int)) = false := decide_eq_false (by omega)
      clear hl
      go_enter Tryd.func29, Tryd.ntmps29
      go_wp2_with (first | (go_at_call 24; refine (l1In_yes _ _ _ _ (by omega) (by omega)).mono ?_; rintro e w' ⟨rfl, rfl⟩) | (go_at_call 24; refine (l1In_no _ _ _ _ (by omega)).mono ?_; rintro e w' ⟨rfl, rfl⟩))
      all_goals go_ret2
      all_goals exact ⟨ReadPost.no HX.out rfl, 0, rfl⟩
    · have hz2 : 6 < (s.size : Int) := by omega
      have hz1 : decide ((s.size : Int) ≤ 6) = false := decide_eq_false (by omega)
      clear hl
      go_enter Tryd.func29, Tryd.ntmps29
      go_wp2_with (first | (go_at_call 24; refine (l1In_yes _ _ _ _ (by omega) (by omega)).mono ?_; rintro e w' ⟨rfl, rfl⟩) | (go_at_call 24; refine (l1In_no _ _ _ _ (by omega)).mono ?_; rintro e w' ⟨rfl, rfl⟩))
      all_goals go_ret2
      all_goals exact ⟨ReadPost.no HX.out rfl, 0, rfl⟩


theorem read_any (s : ByteArray) (w : World) (hs : s.size ≤ maxLen) :
    Calls Tryd.prog 29 #[.string s] w fun e w' => ReadPost s e ∧ ∃ q, w' = w.drewN q := by
  by_cases h1 : s.size ≤ 1
  · exact read_short s w hs h1 ⟨(fun h => by cases h), fun _ => ⟨rfl, .inl (by simpa using h1)⟩⟩
  · by_cases h45 : ((s[0]'(by omega)).toNat : Int) = 45
    · have h0 : s.data.toList = 45 :: (s.extract 1 s.size).data.toList := by
        have hb : s[0]'(by omega) = 45 := UInt8.toNat_inj.1 (by have : (45 : UInt8).toNat = 45 := rfl; omega)
        have he : (s.extract 1 s.size).data.toList = s.data.toList.drop 1 := Lib.extract_to_end s 1
        rw [he]
        have hl : 0 < s.data.toList.length := by simp; omega
        have e : s.data.toList[0] = 45 := hb
        rw [← e]
        have h3 := List.drop_eq_getElem_cons hl
        simpa using h3
      exact read_neg s w hs _ (by omega) h45 rfl (by simp; omega) ⟨fun _ => h0, fun h => by cases h⟩
    · exact read_pos s w hs (by omega) h45 ⟨(fun h => by cases h), fun _ => ⟨rfl, .inr (by
        intro h
        have hl : 0 < s.data.toList.length := by simp; omega
        rw [List.getElem?_eq_getElem hl] at h
        have e : s[0]'(by omega) = 45 := Option.some.inj h
        rw [e] at h45
        exact h45 rfl)⟩⟩

end Go.Proofs.YtoljoifldlpinaaDoor
