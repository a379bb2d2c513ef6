/-
  Contracts of VerifyChecksum, and the walk of the law FnExactVerifyChecksum: it returns true for every string, where the library's table of powers of ten lies as its text lays it and the world has the program's shape. Condition: the string has at most maxLen bytes.
-/
import Derived.Test.YtoljoifldlpinaaDoorLawAppendChecksum
import Derived.Test.YtoljoifldlpinaaDoorSplit
import Derived.Test.YtoljoifldlpinaaDoorVerPlain
import Derived.ChangeAgain
namespace Go.Proofs.YtoljoifldlpinaaDoor
open Go.RowKit

/-- The program's shape lies below all that a call makes. -/
theorem shape_below {w w' : World} (h : w.ShapedOpen Tryd.prog) (hb : Below w.heap.size w w') : w'.ShapedOpen Tryd.prog :=
  h.keptBut (may := fun _ => False) (hb.frame _) (fun _ h => h.elim)

theorem str_eq {a b : ByteArray} (h : a = b) : (a.toList == b.toList) = true := by rw [h]; exact beq_self_eq_true _
theorem str_ne {a b : ByteArray} (h : a ≠ b) : (a.toList == b.toList) = false := by
  rw [beq_eq_false_iff_ne]
  intro e
  rw [Lib.toList_data, Lib.toList_data] at e
  exact h (data_inj e)

set_option maxHeartbeats 400000 in
theorem specVerify (s js : ByteArray) (jb : Bool) (w : World) (hs : s.size ≤ 1048576) (h : VerIs s js jb) :
    Calls Tryd.prog 20 #[.string s] w fun e w' => e = .returned (.tuple #[.string js, .bool jb]) ∧ Below w.heap.size w w' := by
  by_cases h1 : s.size ≤ 4000
  · obtain ⟨t, ht0, ht1, ht2, ht3⟩ := first_part s 35
    have hSp := Lib.hid (split_any s 35 w hs)
    have hSe := Lib.hid (fun w => seal_any t w (by omega))
    obtain ⟨Z, hZ⟩ : ∃ Z, Z = sealOf t := ⟨_, rfl⟩
    rw [← hZ] at hSe
    have hpos := parts_pos s 35
    have hle := parts_le s 35
    obtain ⟨ps, hps⟩ : ∃ ps, ps = parts s 35 := ⟨_, rfl⟩
    rw [← hps] at hSp ht0 hpos hle
    obtain ⟨n, hn⟩ : ∃ n, ps.length = n + 1 := ⟨ps.length - 1, by omega⟩
    have HT := Lib.hid ht0
    have HN := Lib.hid hn
    clear hps ht0 hpos
    by_cases he : sealOf t = s
    · have hse : Seals t := ⟨by omega, ht1, by rw [he]; exact h1⟩
      obtain ⟨rfl, rfl⟩ := h.yes hse he
      have he1 := str_eq (hZ.trans he)
      clear h he hse ht1 ht2 ht3 hZ hle
      go_enter Tryd.func20, Tryd.ntmps20
      go_wp2_with fail
      refine hSp.out.mono ?_
      rintro e w1 ⟨g, cap, rfl, ho, b1⟩
      have hcell : w1.cell? ⟨g, 0, none⟩ = some (.string js) := by
        rw [ho.cellAt 0 (by have := HN.out; omega), List.getElem?_map, HT.out]; rfl
      have B1 := Lib.hid b1
      have hn := HN.out
      rw [hn]
      clear ho b1 hn
      go_wp2_with fail
      refine (hSe.out _).mono ?_
      rintro e w2 ⟨rfl, q, rfl⟩
      go_wp2
      go_ret2
      exact ⟨rfl, below_drewN B1.out q⟩
    · have hno : ∀ u, Seals u → sealOf u ≠ s := fun u hu hus => by
        have : t = u := data_inj (ht3 _ _ (noSep_mem hu.2.1) (by rw [← hus]; exact seal_data u))
        exact he (by rw [this]; exact hus)
      obtain ⟨rfl, rfl⟩ := h.no hno
      have he1 := str_ne (fun e => he (hZ.symm.trans e))
      clear h he hno ht1 ht2 ht3 hZ hle
      go_enter Tryd.func20, Tryd.ntmps20
      go_wp2_with fail
      refine hSp.out.mono ?_
      rintro e w1 ⟨g, cap, rfl, ho, b1⟩
      have hcell : w1.cell? ⟨g, 0, none⟩ = some (.string t) := by
        rw [ho.cellAt 0 (by have := HN.out; omega), List.getElem?_map, HT.out]; rfl
      have B1 := Lib.hid b1
      have hn := HN.out
      rw [hn]
      clear ho b1 hn
      go_wp2_with fail
      refine (hSe.out _).mono ?_
      rintro e w2 ⟨rfl, q, rfl⟩
      go_wp2
      go_ret2
      exact ⟨rfl, below_drewN B1.out q⟩
  · have hno : ∀ u, Seals u → sealOf u ≠ s := fun u hu hus => h1 (by rw [← hus]; exact hu.2.2)
    obtain ⟨rfl, rfl⟩ := h.no hno
    clear h hno
    go_enter Tryd.func20, Tryd.ntmps20
    go_wp2
    go_ret2
    exact ⟨rfl, Below.refl _ _⟩

set_option maxHeartbeats 400000 in
theorem implVerify (s js : ByteArray) (jb : Bool) (w : World) (hs : s.size ≤ 1048576) (h : VerIs s js jb) (hsh : w.ShapedOpen Tryd.prog)
    (htab : ∀ w', Below w.heap.size w w' → Lib.TabIs Tryd.prog w' "internal/strconv.uint64pow10" .u64 Lib.pow10Tab) :
    Calls Tryd.prog 18 #[.string s] w fun e w' => e = .returned (.tuple #[.string js, .bool jb]) ∧ Below w.heap.size w w' := by
  have hC := Tryd.strings_Cut_shaped s ⟨#[35]⟩ w hsh (by omega)
  have e35 : (⟨#[35]⟩ : ByteArray).data.toList = [35] := rfl
  rw [e35] at hC
  obtain ⟨⟨x, y, fnd⟩, hcut⟩ : ∃ p, Lib.cut s.data.toList [35] = p := ⟨_, rfl⟩
  rw [hcut] at hC
  obtain ⟨body, hb⟩ : ∃ b : ByteArray, b = ⟨x.toArray⟩ := ⟨_, rfl⟩
  obtain ⟨rest, hr⟩ : ∃ b : ByteArray, b = ⟨y.toArray⟩ := ⟨_, rfl⟩
  have hC2 : Hid (Calls Tryd.prog 35 #[.string s, .string ⟨#[35]⟩] w fun e w' => e = .returned (.tuple #[.string body, .string rest, .bool fnd]) ∧ ∃ n, w' = w.drewN n) := by
    rw [hb, hr]; exact hC
  have hsame : ∀ u, Seals u → sealOf u = s → body = u ∧ fnd = true := fun u hu hus => by
    have := cut_seal hu
    rw [hus, hcut] at this
    cases this
    exact ⟨data_inj (by rw [hb]), rfl⟩
  have hbs : body.size ≤ s.size := by
    have e : body.size = x.length := by rw [hb]; show x.toArray.size = _; simp
    have e2 := Lib.size_eq s
    unfold Lib.cut at hcut
    split at hcut
    · have : x = s.data.toList.take _ := (congrArg Prod.fst hcut).symm
      rw [e, this, e2]
      exact (List.take_sublist _ _).length_le
    · have : x = s.data.toList := (congrArg Prod.fst hcut).symm
      rw [e, this, e2]
      exact Nat.le_refl _
  clear hC hb hr hcut e35 hsh
  cases fnd with
  | false =>
    obtain ⟨rfl, rfl⟩ := h.no (fun u hu hus => by have := (hsame u hu hus).2; cases this)
    clear h hsame htab
    go_enter Tryd.func18, Tryd.ntmps18
    go_wp2_with fail
    refine hC2.out.mono ?_
    rintro e w1 ⟨rfl, q, rfl⟩
    go_wp2
    go_ret2
    exact ⟨rfl, below_drewN (Below.refl _ _) q⟩
  | true =>
    obtain ⟨az, ab, ha⟩ := seal_ex body
    have hA := Lib.hid (fun w1 (hb : Below w.heap.size w w1) => implAppend body az ab w1 (by omega) ha (htab w1 hb))
    by_cases hg : Seals body ∧ sealOf body = s
    · obtain ⟨rfl, rfl⟩ := h.yes hg.1 hg.2
      obtain ⟨rfl, rfl⟩ := ha.good hg.1
      have he1 := str_eq hg.2
      obtain ⟨Z, hZ⟩ : ∃ Z, Z = sealOf js := ⟨_, rfl⟩
      rw [← hZ] at he1 hA
      clear h hsame htab ha hg hZ
      go_enter Tryd.func18, Tryd.ntmps18
      go_wp2_with fail
      refine hC2.out.mono ?_
      rintro e w1 ⟨rfl, q, rfl⟩
      go_wp2_with fail
      refine (hA.out _ (below_drewN (Below.refl _ _) q)).mono ?_
      rintro e w2 ⟨rfl, b2⟩
      have B2 := Lib.hid ((below_drewN (Below.refl _ w) q).trans b2)
      clear b2
      go_wp2
      go_ret2
      exact ⟨rfl, B2.out⟩
    · have hno : ∀ u, Seals u → sealOf u ≠ s := fun u hu hus => by
        obtain ⟨rfl, _⟩ := hsame u hu hus
        exact hg ⟨hu, hus⟩
      obtain ⟨rfl, rfl⟩ := h.no hno
      by_cases hse : Seals body
      · obtain ⟨rfl, rfl⟩ := ha.good hse
        have he1 := str_ne (fun e => hg ⟨hse, e⟩)
        obtain ⟨Z, hZ⟩ : ∃ Z, Z = sealOf body := ⟨_, rfl⟩
        rw [← hZ] at he1 hA
        clear h hsame htab ha hg hZ hno hse
        go_enter Tryd.func18, Tryd.ntmps18
        go_wp2_with fail
        refine hC2.out.mono ?_
        rintro e w1 ⟨rfl, q, rfl⟩
        go_wp2_with fail
        refine (hA.out _ (below_drewN (Below.refl _ _) q)).mono ?_
        rintro e w2 ⟨rfl, b2⟩
        have B2 := Lib.hid ((below_drewN (Below.refl _ w) q).trans b2)
        clear b2
        go_wp2
        go_ret2
        exact ⟨rfl, B2.out⟩
      · obtain ⟨rfl, rfl⟩ := ha.bad hse
        clear h hsame htab ha hg hno hse
        go_enter Tryd.func18, Tryd.ntmps18
        go_wp2_with fail
        refine hC2.out.mono ?_
        rintro e w1 ⟨rfl, q, rfl⟩
        go_wp2_with fail
        refine (hA.out _ (below_drewN (Below.refl _ _) q)).mono ?_
        rintro e w2 ⟨rfl, b2⟩
        have B2 := Lib.hid ((below_drewN (Below.refl _ w) q).trans b2)
        clear b2
        go_wp2
        go_ret2
        exact ⟨rfl, B2.out⟩

theorem lawVerifyChecksum (s : ByteArray) (w : World) (hL : laidMetH Tryd.prog laidA w) (hsh : w.ShapedOpen Tryd.prog) :
    Calls Tryd.prog 7 #[.string s] w fun e w' => e = .returned (.bool true) ∧ Below w.heap.size w w' := by
  have htab := tab_of_laidA hL
  by_cases h1 : s.size ≤ 1048576
  · obtain ⟨js, jb, hp⟩ := ver_ex s
    have hS := Lib.hid (specVerify s js jb w h1 hp)
    have hI := Lib.hid (fun w1 (hb : Below w.heap.size w w1) => implVerify s js jb w1 h1 hp (shape_below hsh hb) (fun w' hb2 => Lib.tabBelow_of_tabIs htab w' (hb.trans (hb2.mono hb.size))))
    clear hp htab hL hsh
    go_enter Tryd.func7, Tryd.ntmps7
    go_wp2_with fail
    refine hS.out.mono ?_
    rintro e w1 ⟨rfl, b1⟩
    have B1 := Lib.hid b1
    clear b1
    go_wp2_with fail
    refine (hI.out _ B1.out).mono ?_
    rintro e w2 ⟨rfl, b2⟩
    have B2 := Lib.hid (B1.out.trans (b2.mono B1.out.size))
    clear b2
    go_wp2
    go_ret
    exact ⟨rfl, B2.out⟩
  · clear htab hL hsh
    go_enter Tryd.func7, Tryd.ntmps7
    go_wp2
    go_ret
    exact ⟨rfl, Below.refl _ _⟩

end Go.Proofs.YtoljoifldlpinaaDoor
