/-
  Contracts of ParseInt, and the walk of the law FnExactParseInt: it returns true for every string, where the library's variables lie as their text lays them. Condition: the string has at most maxLen bytes.
-/
import Derived.Test.YtoljoifldlpinaaDoorRead
import Derived.Test.YtoljoifldlpinaaDoorLaid
import Derived.Lib.AtoiErrMem
import Derived.Lib.AppendIntMem
namespace Go.Proofs.YtoljoifldlpinaaDoor
open Go.RowKit

def ParseEnd (m : Int) (b : Bool) (e : Ending) : Prop := e = .returned (.tuple #[.int .i64 m, .bool b])
/-- What ParseInt answers. -/
def ParseIs (s : ByteArray) (m : Int) (b : Bool) : Prop :=
  (b = true ∧ -999999 ≤ m ∧ m ≤ 999999 ∧ Lib.itoa m = s.data.toList) ∨ (b = false ∧ m = 0 ∧ ∀ n : Int, -999999 ≤ n → n ≤ 999999 → Lib.itoa n ≠ s.data.toList)
theorem parse_ex (s : ByteArray) : ∃ m b, ParseIs s m b := by
  by_cases h : ∃ n : Int, -999999 ≤ n ∧ n ≤ 999999 ∧ Lib.itoa n = s.data.toList
  · obtain ⟨n, h⟩ := h
    exact ⟨n, true, .inl ⟨rfl, h⟩⟩
  · exact ⟨0, false, .inr ⟨rfl, rfl, fun n a b hn => h ⟨n, a, b, hn⟩⟩⟩
theorem ReadPost.ends {s : ByteArray} {m : Int} {b : Bool} {e : Ending} (h : ParseIs s m b) (hr : ReadPost s e) : ParseEnd m b e := by
  rcases h with ⟨rfl, h0, h1, h2⟩ | ⟨rfl, rfl, h⟩
  · exact hr.1 m h0 h1 h2
  · exact hr.2 h

theorem specParse (s : ByteArray) (m : Int) (b : Bool) (w : World) (hs : s.size ≤ maxLen) (h : ParseIs s m b) :
    Calls Tryd.prog 14 #[.string s] w fun e w' => e = .returned (.tuple #[.int .i64 m, .bool b]) ∧ ∃ q, w' = w.drewN q := by
  have HR := Lib.hid ((read_any s w hs).mono fun e w' ⟨hr, hw⟩ => (⟨hr.ends h, hw⟩ : ParseEnd m b e ∧ ∃ q, w' = w.drewN q))
  clear h hs
  go_enter Tryd.func14, Tryd.ntmps14
  go_wp2_with fail
  refine HR.out.mono ?_
  rintro e w' ⟨rfl, q, rfl⟩
  go_wp2
  go_ret2
  exact ⟨rfl, q, rfl⟩

theorem bytes_below {w w' : World} (h : w' = w ∨ ∃ t, w' = Lib.bytesWorld w 5 t) : Below w.heap.size w w' := by
  rcases h with rfl | ⟨t, rfl⟩
  · exact Below.refl _ _
  · exact Lib.bytesWorld_below w _ t

theorem atoi_ok (s : ByteArray) (v : Int) (w : World) (hs : s.size ≤ 9223372036854775806) (ha : Lib.atoiAll s.data.toList = .ok v) :
    Calls Tryd.prog 28 #[.string s] w fun e w' => e = .returned (.tuple #[.int .i64 v, .nilIface]) ∧ Below w.heap.size w w' :=
  (Tryd.strconv_Atoi_ok s hs v ha w).mono fun _ _ h => ⟨h.1, bytes_below h.2⟩
theorem eq_of_data {a b : ByteArray} (h : a.data.toList = b.data.toList) : a = b := by
  rcases a with ⟨⟨x⟩⟩; rcases b with ⟨⟨y⟩⟩; simp at h; rw [h]

theorem atoi_three (l : List UInt8) : (∃ v, Lib.atoiAll l = .ok v) ∨ Lib.atoiAll l = Lib.NumEnd.syntax ∨ Lib.atoiAll l = Lib.NumEnd.range := by
  cases Lib.atoiAll l <;> simp

theorem implParse (s : ByteArray) (m : Int) (b : Bool) (w : World) (hs : s.size ≤ 1048576) (h : ParseIs s m b) (htab : ∀ w', Below w.heap.size w w' → Lib.TabIs Tryd.prog w' "internal/strconv.uint64pow10" .u64 Lib.pow10Tab)
    (hsyn : ∃ p, w.var? Tryd.prog "strconv.ErrSyntax" = some #[.iface 92 p]) (hrng : ∃ p, w.var? Tryd.prog "strconv.ErrRange" = some #[.iface 92 p]) :
    Calls Tryd.prog 13 #[.string s] w fun e w' => e = .returned (.tuple #[.int .i64 m, .bool b]) ∧ Below w.heap.size w w' := by
  rcases atoi_three s.data.toList with ⟨v, ha⟩ | ha | ha
  ·
    have hA := Lib.hid (atoi_ok s v w (by omega) ha)
    by_cases hv : -999999 ≤ v ∧ v ≤ 999999
    · obtain ⟨S, hS⟩ : ∃ S : ByteArray, S = ⟨(Lib.itoa v).toArray⟩ := ⟨_, rfl⟩
      have hF := Lib.hid (fun w1 (hb : Below w.heap.size w w1) => implFormat_yes v w1 hv.1 hv.2 (htab w1 hb))
      rw [← hS] at hF
      have HS := Lib.hid hS
      clear hS htab hsyn hrng
      have HV := Lib.hid hv
      clear hv
      by_cases he : S = s
      · have hm : m = v ∧ b = true := by
          have hi : Lib.itoa v = s.data.toList := by rw [← he, HS.out]
          rcases h with ⟨hb, h0, h1, h2⟩ | ⟨_, _, hno⟩
          · exact ⟨itoa_inj h0 h1 HV.out.1 HV.out.2 (h2.trans hi.symm), hb⟩
          · exact absurd hi (hno v HV.out.1 HV.out.2)
        obtain ⟨rfl, rfl⟩ := hm
        have he1 : (S.toList == s.toList) = true := by rw [he]; exact beq_self_eq_true _
        clear h he ha
        go_enter Tryd.func13, Tryd.ntmps13
        go_wp2_with fail
        refine hA.out.mono ?_
        rintro e w1 ⟨rfl, b1⟩
        have B1 := Lib.hid b1
        clear b1
        go_wp2_with fail
        refine (hF.out _ B1.out).mono ?_
        rintro e w2 ⟨rfl, b2⟩
        have B2 := Lib.hid (B1.out.trans (b2.mono B1.out.size))
        clear b2
        go_wp2
        go_ret2
        exact ⟨rfl, B2.out⟩
      · have hm : m = 0 ∧ b = false := by
          rcases h with ⟨hb, h0, h1, h2⟩ | ⟨hb, hm, hno⟩
          · exfalso
            have := atoi_itoa h0 h1
            rw [h2, ha] at this
            injection this with this
            subst this
            exact he (by rw [HS.out, h2])
          · exact ⟨hm, hb⟩
        obtain ⟨rfl, rfl⟩ := hm
        have he1 : (S.toList == s.toList) = false := by
          rw [beq_eq_false_iff_ne]
          intro h
          rw [Lib.toList_data, Lib.toList_data] at h
          exact he (eq_of_data h)
        clear h he ha
        go_enter Tryd.func13, Tryd.ntmps13
        go_wp2_with fail
        refine hA.out.mono ?_
        rintro e w1 ⟨rfl, b1⟩
        have B1 := Lib.hid b1
        clear b1
        go_wp2_with fail
        refine (hF.out _ B1.out).mono ?_
        rintro e w2 ⟨rfl, b2⟩
        have B2 := Lib.hid (B1.out.trans (b2.mono B1.out.size))
        clear b2
        go_wp2
        go_ret2
        exact ⟨rfl, B2.out⟩
    · have hm : m = 0 ∧ b = false := by
        rcases h with ⟨hb, h0, h1, h2⟩ | ⟨hb, hm, hno⟩
        · exfalso
          have := atoi_itoa h0 h1
          rw [h2, ha] at this
          injection this with this
          subst this
          exact hv ⟨h0, h1⟩
        · exact ⟨hm, hb⟩
      obtain ⟨rfl, rfl⟩ := hm
      have hF := Lib.hid (fun w1 => implFormat_no v w1 (by omega))
      clear h ha hv htab hsyn hrng
      go_enter Tryd.func13, Tryd.ntmps13
      go_wp2_with fail
      refine hA.out.mono ?_
      rintro e w1 ⟨rfl, b1⟩
      have B1 := Lib.hid b1
      clear b1
      go_wp2_with fail
      refine (hF.out _).mono ?_
      rintro e w2 ⟨rfl, rfl⟩
      go_wp2
      go_ret2
      exact ⟨rfl, B1.out⟩
  ·
    have hm : m = 0 ∧ b = false := by
      rcases h with ⟨hb, h0, h1, h2⟩ | ⟨hb, hm, hno⟩
      · exfalso
        have := atoi_itoa h0 h1
        rw [h2, ha] at this
        cases this
      · exact ⟨hm, hb⟩
    obtain ⟨rfl, rfl⟩ := hm
    obtain ⟨p, hp⟩ := hsyn
    have hA := Lib.hid (Tryd.strconv_Atoi_syntax_var s (by omega) ha _ p w hp)
    clear h ha htab hrng hp
    go_enter Tryd.func13, Tryd.ntmps13
    go_wp2_with fail
    refine hA.out.mono ?_
    rintro e w1 ⟨N, rfl, hN, hc, b1⟩
    have B1 := Lib.hid b1
    clear b1 hN hc
    go_wp2
    go_ret2
    exact ⟨rfl, B1.out⟩
  ·
    have hm : m = 0 ∧ b = false := by
      rcases h with ⟨hb, h0, h1, h2⟩ | ⟨hb, hm, hno⟩
      · exfalso
        have := atoi_itoa h0 h1
        rw [h2, ha] at this
        cases this
      · exact ⟨hm, hb⟩
    obtain ⟨rfl, rfl⟩ := hm
    obtain ⟨p, hp⟩ := hrng
    have hA := Lib.hid (Tryd.strconv_Atoi_range_var s (by omega) ha _ p w hp)
    clear h ha htab hsyn hp
    go_enter Tryd.func13, Tryd.ntmps13
    go_wp2_with fail
    refine hA.out.mono ?_
    rintro e w1 ⟨N, rfl, hN, hc, b1⟩
    have B1 := Lib.hid b1
    clear b1 hN hc
    go_wp2
    go_ret2
    exact ⟨rfl, B1.out⟩

theorem lawParseInt (s : ByteArray) (w : World) (hs : s.size ≤ maxLen) (hL : laidMetH Tryd.prog laidB w) :
    Calls Tryd.prog 5 #[.string s] w fun e w' => e = .returned (.bool true) ∧ Below w.heap.size w w' := by
  have htab := tab_of_laidB hL
  obtain ⟨hsyn, hrng⟩ := errs_of_laidB hL
  clear hL
  by_cases h1 : s.size ≤ 1048576
  · obtain ⟨m, b, hp⟩ := parse_ex s
    have hS := Lib.hid (specParse s m b w hs hp)
    have hI := Lib.hid (fun q => implParse s m b (w.drewN q) h1 hp (fun w' hb => Lib.tabBelow_of_tabIs htab w' ((below_drewN (Below.refl _ w) q).trans hb)) hsyn hrng)
    clear hp htab hsyn hrng hs
    go_enter Tryd.func5, Tryd.ntmps5
    go_wp2_with fail
    refine hS.out.mono ?_
    rintro e w' ⟨rfl, q, rfl⟩
    go_wp2_with fail
    refine (hI.out q).mono ?_
    rintro e w2 ⟨rfl, b2⟩
    have B2 := Lib.hid ((below_drewN (Below.refl _ w) q).trans b2)
    clear b2
    go_wp2
    go_ret
    exact ⟨rfl, B2.out⟩
  · clear htab hsyn hrng hs
    go_enter Tryd.func5, Tryd.ntmps5
    go_wp2
    go_ret
    exact ⟨rfl, Below.refl _ _⟩

end Go.Proofs.YtoljoifldlpinaaDoor
