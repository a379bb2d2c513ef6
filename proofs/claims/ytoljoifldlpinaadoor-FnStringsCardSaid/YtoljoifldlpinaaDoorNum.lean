/-
  Contracts: spec.l1Num returns the decimal numeral of a number and only reads; impl.FormatInt and spec.FormatInt return it and true within -999999 .. 999999, else the empty string and false. Conditions: the bounds that each theorem names; impl.FormatInt asks that the library's table of powers of ten holds its numbers.
-/
import Derived.Test.YtoljoifldlpinaaDoorProg
import Derived.Test.YtoljoifldlpinaaDoorStrPlain
import Derived.Test.YtoljoifldlpinaaDoorShelf
import Derived.WalkKit
import Derived.IntWalk
import Derived.Lib.Hide
import Derived.Deep.QuietTactic
import Derived.BigQuiet
import Derived.WalkSmall
import Derived.WalkLawsBesides
import Derived.Laws.DeepStrings4
import Derived.WalkSpells
namespace Go.Proofs.YtoljoifldlpinaaDoor
open Go.RowKit

theorem ten_at : ∀ d : Fin 10, (⟨#[48, 49, 50, 51, 52, 53, 54, 55, 56, 57]⟩ : ByteArray).extract d.val (d.val + 1) = ⟨#[UInt8.ofNat (48 + d.val)]⟩ := by decide
theorem ten_slice {d : Nat} (h : d < 10) (w : World) :
    (Instr.slice 9 (.string ⟨#[48, 49, 50, 51, 52, 53, 54, 55, 56, 57]⟩) (some (.int .i64 (d : Int))) (some (.int .i64 ((d : Int) + 1))) none).run Tryd.prog w = .ok (.string ⟨#[UInt8.ofNat (48 + d)]⟩) w := by
  have hz : ((⟨#[48, 49, 50, 51, 52, 53, 54, 55, 56, 57]⟩ : ByteArray).size : Int) = 10 := by decide
  rw [run_slice_string_if (h := Tryd.underlying9), if_pos (by rw [hz]; omega), if_pos (by omega)]
  have h1 : ((d : Int) + 1).toNat = d + 1 := by omega
  rw [h1, Int.toNat_natCast, ten_at ⟨d, h⟩]
theorem dec_one {d : Nat} (h : d < 10) : (⟨#[UInt8.ofNat (48 + d)]⟩ : ByteArray) = ⟨(Lib.decDigits d).toArray⟩ := by
  rw [Lib.decDigits_one h]
theorem dec_next {a d : Nat} (ha : 0 < a) (hd : d < 10) : (⟨(Lib.decDigits a).toArray⟩ : ByteArray) ++ ⟨#[UInt8.ofNat (48 + d)]⟩ = ⟨(Lib.decDigits (10 * a + d)).toArray⟩ := by
  have h : Lib.decDigits (10 * a + d) = Lib.decDigits a ++ [UInt8.ofNat (48 + d)] := by
    rw [Lib.decDigits, dif_neg (by omega)]
    have h1 : (10 * a + d) / 10 = a := by omega
    have h2 : (10 * a + d) % 10 = d := by omega
    rw [h1, h2]
  rw [h, ByteArray.mk_append_mk]
theorem nd_le : ∀ (k v : Nat), v < 10 ^ (k + 1) → Lib.nDigits v ≤ k + 1
  | 0, v, h => by rw [Lib.nDigits_small (by omega)]; exact Nat.le_refl _
  | k + 1, v, h => by
    by_cases hv : v < 10
    · rw [Lib.nDigits_small hv]; omega
    · rw [Lib.nDigits_big hv]
      have := nd_le k (v / 10) (by rw [Nat.pow_succ] at h; omega)
      omega
theorem dec_size (u : Nat) (h : u ≤ 999999) : (⟨(Lib.decDigits u).toArray⟩ : ByteArray).size ≤ 6 := by
  show (Lib.decDigits u).toArray.size ≤ 6
  rw [List.size_toArray, Lib.decDigits_length]
  exact nd_le 5 u (by omega)
theorem ret_str {a b : ByteArray} (h : a = b) : Ending.returned (.string a) = .returned (.string b) := by rw [h]

theorem num_small (d : Nat) (w : World) (h : d < 10) :
    Calls Tryd.prog 25 #[.int .i64 d] w fun e w' => e = .returned (.string ⟨(Lib.decDigits d).toArray⟩) ∧ ∃ q, w' = w.drewN q := by
  have hsl := fun w => ten_slice h w
  obtain ⟨D, hD⟩ : ∃ D : ByteArray, D = ⟨#[UInt8.ofNat (48 + d)]⟩ := ⟨_, rfl⟩
  rw [← dec_one h]
  rw [← hD] at hsl ⊢
  clear hD
  go_enter Tryd.func25, Tryd.ntmps25
  go_wp2
  go_ret
  exact ⟨rfl, 0, rfl⟩

theorem num_step (a d u : Nat) (A D : ByteArray) (w : World) (hu : u = 10 * a + d) (hd : d < 10) (ha : 0 < a) (hm : u ≤ 999999) (hA : A.size ≤ 6) (hD : D.size ≤ 1)
    (hsl : ∀ w, (Instr.slice 9 (.string ⟨#[48, 49, 50, 51, 52, 53, 54, 55, 56, 57]⟩) (some (.int .i64 (d : Int))) (some (.int .i64 ((d : Int) + 1))) none).run Tryd.prog w = .ok (.string D) w)
    (ih : ∀ w : World, Calls Tryd.prog 25 #[.int .i64 a] w fun e w' => e = .returned (.string A) ∧ ∃ q, w' = w.drewN q) :
    Calls Tryd.prog 25 #[.int .i64 u] w fun e w' => e = .returned (.string (A ++ D)) ∧ ∃ q, w' = w.drewN q := by
  have h1 : (u : Int).tdiv 10 = (a : Int) := by rw [Int.tdiv_eq_ediv_of_nonneg (by omega)]; omega
  have h1b : (u : Int) / 10 = (a : Int) := by omega
  have h2 : (u : Int).tmod 10 = (d : Int) := by rw [Int.tmod_eq_emod_of_nonneg (by omega)]; omega
  have h2b : (u : Int) % 10 = (d : Int) := by omega
  have h3 : IntKind.i64.wrap ((d : Int) + 1) = (d : Int) + 1 := IntWalk.i64_in _ (by omega)
  have h4 : IntKind.i64.wrap (a : Int) = (a : Int) := IntWalk.i64_in _ (by omega)
  have h5 : IntKind.i64.wrap (d : Int) = (d : Int) := IntWalk.i64_in _ (by omega)
  have hu10 : 10 ≤ (u : Int) := by omega
  have IH := Lib.hid ih
  clear ih hu
  go_enter Tryd.func25, Tryd.ntmps25
  go_wp2
  go_quiet ((go_at_call 25; exact Calls.quiet_of (IH.out _)))
  clear h1 h1b h2 h2b h3 h4 h5
  go_wp2
  go_ret
  exact ⟨rfl, _, rfl⟩

theorem num_nat (b : Nat) : ∀ (u : Nat) (w : World), u ≤ b → u ≤ 999999 →
    Calls Tryd.prog 25 #[.int .i64 u] w fun e w' => e = .returned (.string ⟨(Lib.decDigits u).toArray⟩) ∧ ∃ q, w' = w.drewN q := by
  induction b with
  | zero => intro u w h _; exact num_small u w (by omega)
  | succ b ih =>
    intro u w h hm
    by_cases h10 : u < 10
    · exact num_small u w h10
    · have hu : u = 10 * (u / 10) + u % 10 := by omega
      have hd : u % 10 < 10 := Nat.mod_lt _ (by omega)
      have ha : 0 < u / 10 := by omega
      have h := num_step (u / 10) (u % 10) u _ _ w hu hd ha hm (dec_size _ (by omega)) (by show (#[UInt8.ofNat (48 + u % 10)] : Array UInt8).size ≤ 1; simp) (fun w => ten_slice hd w) (fun w => ih (u / 10) w (by omega) (by omega))
      rw [dec_next ha hd, ← hu] at h
      exact h

theorem num_neg (u : Nat) (A : ByteArray) (w : World) (h0 : 0 < u) (hm : u ≤ 999999) (hA : A.size ≤ 6)
    (ih : ∀ w : World, Calls Tryd.prog 25 #[.int .i64 u] w fun e w' => e = .returned (.string A) ∧ ∃ q, w' = w.drewN q) :
    Calls Tryd.prog 25 #[.int .i64 (-(u : Int))] w fun e w' => e = .returned (.string (⟨#[45]⟩ ++ A)) ∧ ∃ q, w' = w.drewN q := by
  have IH := Lib.hid ih
  have hs : (⟨#[45]⟩ : ByteArray).size = 1 := rfl
  clear ih
  go_enter Tryd.func25, Tryd.ntmps25
  go_wp2_with (go_at_call 25; refine (IH.out _).mono ?_; rintro e w' ⟨rfl, q, rfl⟩)
  go_ret
  exact ⟨rfl, q, rfl⟩

theorem num_any (n : Int) (w : World) (h0 : -999999 ≤ n) (h1 : n ≤ 999999) :
    Calls Tryd.prog 25 #[.int .i64 n] w fun e w' => e = .returned (.string ⟨(Lib.itoa n).toArray⟩) ∧ ∃ q, w' = w.drewN q := by
  rcases Int.lt_or_le n 0 with hn | hn
  · obtain ⟨u, rfl⟩ : ∃ u : Nat, n = -(u : Int) := ⟨n.natAbs, by omega⟩
    have h := num_neg u _ w (by omega) (by omega) (dec_size u (by omega)) (fun w => num_nat u u w (Nat.le_refl _) (by omega))
    rw [ByteArray.mk_append_mk] at h
    rw [Lib.itoa_neg u (by omega)]
    exact h
  · obtain ⟨u, rfl⟩ : ∃ u : Nat, n = (u : Int) := ⟨n.toNat, by omega⟩
    rw [Lib.itoa_nonneg]
    exact num_nat u u w (Nat.le_refl _) (by omega)

theorem specFormat_yes (n : Int) (w : World) (h0 : -999999 ≤ n) (h1 : n ≤ 999999) :
    Calls Tryd.prog 11 #[.int .i64 n] w fun e w' => e = .returned (.tuple #[.string ⟨(Lib.itoa n).toArray⟩, .bool true]) ∧ ∃ q, w' = w.drewN q := by
  have HN := Lib.hid (fun w => num_any n w h0 h1)
  go_enter Tryd.func11, Tryd.ntmps11
  go_wp2_with (first | (go_at_call 25; refine (HN.out _).mono ?_; rintro e w' ⟨rfl, q, rfl⟩) | go_in)
  go_ret2
  exact ⟨rfl, q, rfl⟩

theorem specFormat_no (n : Int) (w : World) (h0 : n < -999999 ∨ 999999 < n) :
    Calls Tryd.prog 11 #[.int .i64 n] w fun e w' => e = .returned (.tuple #[.string ⟨#[]⟩, .bool false]) ∧ w = w' := by
  rcases h0 with h | h
  · go_enter Tryd.func11, Tryd.ntmps11
    go_wp2
    go_ret2
    exact ⟨rfl, rfl⟩
  · have hd : decide (n ≤ 999999) = false := decide_eq_false (by omega)
    go_enter Tryd.func11, Tryd.ntmps11
    go_wp2
    go_ret2
    exact ⟨rfl, rfl⟩

theorem below_grow (w : World) (k : Nat) (os : Array Obj) : Below w.heap.size w (Sort.grow (w.drewN k) os) :=
  ⟨rfl, rfl, rfl, by simp [Sort.grow], fun j hj => by simp [Sort.grow, Array.getElem?_append_left hj]⟩

theorem implFormat_yes (n : Int) (w : World) (h0 : -999999 ≤ n) (h1 : n ≤ 999999) (htab : Lib.TabIs Tryd.prog w "internal/strconv.uint64pow10" .u64 Lib.pow10Tab) :
    Calls Tryd.prog 10 #[.int .i64 n] w fun e w' => e = .returned (.tuple #[.string ⟨(Lib.itoa n).toArray⟩, .bool true]) ∧ Below w.heap.size w w' := by
  have HN := Lib.hid (Tryd.strconv_Itoa n (by omega) (by omega) w htab)
  clear htab
  go_enter Tryd.func10, Tryd.ntmps10
  go_wp2_with (go_at_call 23; refine HN.out.mono ?_; rintro e w' ⟨rfl, hw⟩)
  go_ret2
  obtain ⟨k, os, rfl⟩ := hw
  exact ⟨rfl, below_grow w k os⟩

theorem implFormat_no (n : Int) (w : World) (h0 : n < -999999 ∨ 999999 < n) :
    Calls Tryd.prog 10 #[.int .i64 n] w fun e w' => e = .returned (.tuple #[.string ⟨#[]⟩, .bool false]) ∧ w = w' := by
  rcases h0 with h | h
  all_goals
    go_enter Tryd.func10, Tryd.ntmps10
    go_wp2
    go_ret2
    exact ⟨rfl, rfl⟩

end Go.Proofs.YtoljoifldlpinaaDoor
