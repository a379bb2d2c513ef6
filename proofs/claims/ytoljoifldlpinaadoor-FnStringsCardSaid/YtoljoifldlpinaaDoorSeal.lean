/-
  Contracts: spec.l1Seal, spec.AppendChecksum and impl.AppendChecksum: both return the string, '#' and its checksum where that is allowed, else the empty string and false. Conditions: the bounds that each theorem names; impl.AppendChecksum asks that the library's table of powers of ten holds its numbers.
-/
import Derived.Test.YtoljoifldlpinaaDoorNum
import Derived.Test.YtoljoifldlpinaaDoorStrSum
import Derived.Test.YtoljoifldlpinaaDoorJoin
import Derived.Test.YtoljoifldlpinaaDoorReadPlain
import Derived.Lib.AppendIntMem
namespace Go.Proofs.YtoljoifldlpinaaDoor
open Go.RowKit

def sumText (s : ByteArray) : ByteArray := ⟨(Lib.itoa (ck s.data.toList)).toArray⟩
def sealOf (s : ByteArray) : ByteArray := s ++ ⟨#[35]⟩ ++ sumText s
theorem itoa_of_nonneg {n : Int} (h0 : 0 ≤ n) : Lib.itoa n = Lib.decDigits n.toNat := by
  have := Lib.itoa_nonneg n.toNat
  rwa [Int.toNat_of_nonneg h0] at this
theorem sumText_size (s : ByteArray) : (sumText s).size ≤ 6 := by
  obtain ⟨h0, h1⟩ := ck_bd s.data.toList
  unfold sumText
  rw [itoa_of_nonneg h0]
  exact dec_size _ (by omega)
theorem sumText_noSep (s : ByteArray) : noSep 35 (sumText s) = true := by
  obtain ⟨h0, h1⟩ := ck_bd s.data.toList
  unfold sumText
  rw [itoa_of_nonneg h0]
  unfold noSep
  rw [Bool.not_eq_true', ← Bool.not_eq_true, List.contains_iff_mem]
  intro hm
  obtain ⟨j, hj, he⟩ := List.mem_iff_getElem.1 hm
  have := dec_digit (u := (ck s.data.toList).toNat) (j := j) (b := 35) (by rw [← he]; exact List.getElem?_eq_getElem (by simpa using hj))
  simp at this

theorem seal_any (s : ByteArray) (w : World) (hs : s.size ≤ 1048576) :
    Calls Tryd.prog 34 #[.string s] w fun e w' => e = .returned (.string (sealOf s)) ∧ ∃ q, w' = w.drewN q := by
  have h6 := sumText_size s
  obtain ⟨h0, h1⟩ := ck_bd s.data.toList
  have hN := Lib.hid (fun w => num_any (ck s.data.toList) w (by omega) (by omega))
  obtain ⟨c, hc⟩ : ∃ c, c = ck s.data.toList := ⟨_, rfl⟩
  obtain ⟨N, hNn⟩ : ∃ N, N = sumText s := ⟨_, rfl⟩
  have hS := Lib.hid (l1Sum_any s w (by unfold maxLen; omega))
  have hN2 : Hid (∀ w, Calls Tryd.prog 25 #[.int .i64 c] w fun e w' => e = .returned (.string N) ∧ ∃ q, w' = w.drewN q) := by
    rw [hNn, hc]; exact hN
  rw [← hc] at hS
  unfold sealOf
  rw [← hNn] at h6 ⊢
  clear hN hNn hc h0 h1
  have h35 : (⟨#[35]⟩ : ByteArray).size = 1 := rfl
  go_enter Tryd.func34, Tryd.ntmps34
  go_wp2_with fail
  refine hS.out.mono ?_
  rintro e w' ⟨rfl, rfl⟩
  go_wp2_with fail
  refine (hN2.out _).mono ?_
  rintro e w' ⟨rfl, q, rfl⟩
  go_wp2
  go_ret
  exact ⟨rfl, q, rfl⟩

/-- The argument is sealed. -/
def Seals (s : ByteArray) : Prop := s.size ≤ 4000 ∧ noSep 35 s = true ∧ (sealOf s).size ≤ 4000
/-- What AppendChecksum answers. -/
def SealIs (s js : ByteArray) (jb : Bool) : Prop := (Seals s ∧ js = sealOf s ∧ jb = true) ∨ (¬ Seals s ∧ js = ⟨#[]⟩ ∧ jb = false)
theorem seal_ex (s : ByteArray) : ∃ js jb, SealIs s js jb := by
  by_cases h : Seals s
  · exact ⟨_, _, .inl ⟨h, rfl, rfl⟩⟩
  · exact ⟨_, _, .inr ⟨h, rfl, rfl⟩⟩
theorem SealIs.bad {s js : ByteArray} {jb : Bool} (h : SealIs s js jb) (hn : ¬ Seals s) : js = ⟨#[]⟩ ∧ jb = false := by
  rcases h with ⟨h1, _⟩ | ⟨_, h⟩
  · exact absurd h1 hn
  · exact h
theorem SealIs.good {s js : ByteArray} {jb : Bool} (h : SealIs s js jb) (hn : Seals s) : js = sealOf s ∧ jb = true := by
  rcases h with ⟨_, h⟩ | ⟨h1, _⟩
  · exact h
  · exact absurd hn h1

theorem specAppend (s js : ByteArray) (jb : Bool) (w : World) (hs : s.size ≤ 1048576) (h : SealIs s js jb) :
    Calls Tryd.prog 17 #[.string s] w fun e w' => e = .returned (.tuple #[.string js, .bool jb]) ∧ ∃ q, w' = w.drewN q := by
  have hSeal := Lib.hid (fun w => seal_any s w hs)
  have hSt := Lib.hid (fun w => stands_any s 35 w (by unfold maxLen; omega))
  by_cases h1 : s.size ≤ 4000
  · cases h2 : noSep 35 s with
    | false =>
      obtain ⟨rfl, rfl⟩ := h.bad (fun g => by have := g.2.1; rw [h2] at this; cases this)
      have hSt2 : Hid (∀ w, Calls Tryd.prog 33 #[.string s, .int .u8 35] w fun e w' => e = .returned (.bool true) ∧ w' = w) := by
        have := hSt.out; rw [h2] at this; exact this
      clear h h2 hSt hSeal
      go_enter Tryd.func17, Tryd.ntmps17
      go_wp2_with fail
      refine (hSt2.out _).mono ?_
      rintro e w' ⟨rfl, hw⟩
      rw [hw]
      clear hw
      go_wp2
      go_ret2
      exact ⟨rfl, 0, rfl⟩
    | true =>
      have hSt2 : Hid (∀ w, Calls Tryd.prog 33 #[.string s, .int .u8 35] w fun e w' => e = .returned (.bool false) ∧ w' = w) := by
        have := hSt.out; rw [h2] at this; exact this
      obtain ⟨Z, hZ⟩ : ∃ Z, Z = sealOf s := ⟨_, rfl⟩
      rw [← hZ] at hSeal
      by_cases h3 : (sealOf s).size ≤ 4000
      · obtain ⟨rfl, rfl⟩ := h.good ⟨h1, h2, h3⟩
        rw [← hZ] at h3 ⊢
        clear h h2 hSt hZ
        go_enter Tryd.func17, Tryd.ntmps17
        go_wp2_with fail
        refine (hSt2.out _).mono ?_
        rintro e w' ⟨rfl, hw⟩
        rw [hw]
        clear hw
        go_wp2_with fail
        refine (hSeal.out _).mono ?_
        rintro e w' ⟨rfl, q, rfl⟩
        go_wp2_with fail
        refine (hSeal.out _).mono ?_
        rintro e w' ⟨rfl, q2, rfl⟩
        go_wp2
        go_ret2
        exact ⟨rfl, _, rfl⟩
      · obtain ⟨rfl, rfl⟩ := h.bad (fun g => h3 g.2.2)
        rw [← hZ] at h3
        clear h h2 hSt hZ
        go_enter Tryd.func17, Tryd.ntmps17
        go_wp2_with fail
        refine (hSt2.out _).mono ?_
        rintro e w' ⟨rfl, hw⟩
        rw [hw]
        clear hw
        go_wp2_with fail
        refine (hSeal.out _).mono ?_
        rintro e w' ⟨rfl, q, rfl⟩
        go_wp2
        go_ret2
        exact ⟨rfl, q, rfl⟩
  · obtain ⟨rfl, rfl⟩ := h.bad (fun g => h1 g.1)
    clear h hSt hSeal
    go_enter Tryd.func17, Tryd.ntmps17
    go_wp2
    go_ret2
    exact ⟨rfl, 0, rfl⟩

end Go.Proofs.YtoljoifldlpinaaDoor
