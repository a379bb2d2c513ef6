/-
  Contract: the closure of impl.translations: it hands on the pairs in the order of the tables. Conditions: the bounds that the theorem names.
-/
import Derived.Test.YtcmjkfcgekmomaaTrA
import Derived.Test.YtcmjkfcgekmomaaBuilt
namespace Go.Proofs.Ytcmjkfcgekmomaa
open Go.RowKit Go.Shelf
set_option linter.unusedVariables false
set_option linter.unusedSimpArgs false
attribute [local go_sem] Oper.semAt_some

/-- The three boxes. -/
structure TrB (W : World) (X z nn c s t : Nat) (ao : Option Addr) : Prop where
  a : W.heap[X]? = some (.cells #[.int .i64 (z : Int), .slice ao nn c] 31 (0, 0))
  s : W.heap[X + 1]? = some (.cells #[.int .i64 (s : Int)] 3 (0, 0))
  t : W.heap[X + 2]? = some (.cells #[.int .i64 (t : Int)] 3 (0, 0))
theorem TrB.keep {W W' : World} {X z nn c s t B : Nat} {ao : Option Addr} (h : TrB W X z nn c s t ao) (k : KeepT B X W W') : TrB W' X z nn c s t ao :=
  ⟨(k.box X (by omega) (by omega)).trans h.a, (k.box (X + 1) (by omega) (by omega)).trans h.s, (k.box (X + 2) (by omega) (by omega)).trans h.t⟩
theorem TrB.cells {W : World} {X z nn c s t : Nat} {ao : Option Addr} (h : TrB W X z nn c s t ao) : W.cell? ⟨X, 0, none⟩ = some (.int .i64 (z : Int)) ∧ W.cell? ⟨X, 1, none⟩ = some (.slice ao nn c) ∧ W.cell? ⟨X + 1, 0, none⟩ = some (.int .i64 (s : Int)) ∧ W.cell? ⟨X + 2, 0, none⟩ = some (.int .i64 (t : Int)) :=
  ⟨(box_cells h.a).1, (box_cells h.a).2.1, Boxed.cell (t := 3) h.s, Boxed.cell (t := 3) h.t⟩

theorem pow_le_8 {z j : Nat} (hz : z ≤ 8) (hj : j ≤ 2) : z ^ j ≤ 64 := by
  have h1 : z ^ j ≤ 8 ^ j := Nat.pow_le_pow_left hz j
  have h2 : (8 : Nat) ^ j ≤ 8 ^ 2 := Nat.pow_le_pow_right (by decide) hj
  omega
theorem mul_bd {a b p q : Nat} (ha : a ≤ p) (hb : b ≤ q) : a * b ≤ p * q := Nat.mul_le_mul ha hb

set_option maxRecDepth 100000 in
set_option maxHeartbeats 8000000 in
theorem trn_seq (n X B z nn c s t lo hi : Nat) (ao : Option Addr) (fs : List OpD) (w : World) (hX : X + 3 ≤ w.heap.size) (hB : B ≤ w.heap.size) (hv : OView w lo hi ao nn fs) (hhi : hi ≤ B) (hok : algOkB (z : Int) fs = true) (hs : s < z) (ht : t < z)
    (hb : TrB w X z nn c s t ao) :
    SeqStopsK Fence.wide n Try.prog 149 #[.pointer (some ⟨X, 0, none⟩), .pointer (some ⟨X + 1, 0, none⟩), .pointer (some ⟨X + 2, 0, none⟩)] encT (KeepT B X) (fun xs => xs = alT z fs s t nn) (fun pre => pre <+: alT z fs s t nn) (alT z fs s t nn).length w := by
  intro l J Jx W hW hJ hJx hY hJ0
  have HTb : Hid (TrB W X z nn c s t ao) := ⟨(hW.block X (by omega)).trans hb.a, (hW.block (X + 1) (by omega)).trans hb.s, (hW.block (X + 2) (by omega)).trans hb.t⟩
  have HV := Lib.hid (hv.kept (Kept.of_below hW (by omega)))
  have hsz : w.heap.size ≤ W.heap.size := hW.size
  obtain ⟨cz, ca, cs, ct⟩ := HTb.out.cells
  obtain ⟨⟨hz1, hz8⟩, hn4, hall⟩ := algOkB_of hok
  have hnl := hv.1
  have HAll := Lib.hid hall
  have HJ := Lib.hid hJ
  have HY := Lib.hid hY
  have HJ0 : Hid (J (alT z fs s t 0) W) := hJ0
  have HK0 := Lib.hid (KeepT.refl B X W)
  clear hb hv hW hok hall hJ hY hJ0 hJx
  refine callsIn_of_wp Try.func149 rfl trivial ?_ rfl
  simp only [Try.ntmps149, List.size_toArray, List.length_cons, List.length_nil, Nat.reduceAdd, Nat.reduceSub, Array.replicate_succ, Array.replicate_zero, List.push_toArray, List.append_toArray, List.nil_append, List.cons_append]
  gi_wp2
  gi_loopw [6, 7, 8, 9, 13] (fun _ _ _ _ i wr => ∃ k : Nat, k ≤ nn ∧ i = .int .i64 (k : Int) ∧ Hid (J (alT z fs s t k) wr) ∧ Hid (KeepT B X W wr)) (fun _ _ _ _ i _ => nn - (intOf i).toNat)
  case atStart => exact ⟨0, Nat.zero_le _, rfl, HJ0, HK0⟩
  case round =>
    obtain ⟨k, hk, rfl, HJk, HK⟩ := hrel
    clear cz ca cs ct
    by_cases hlt : k < nn
    · have hkn : (k : Int) < (nn : Int) := by omega
      obtain ⟨b, o, rfl, _, hbh, hc⟩ := (HV.out.kept (Kept.of_below HK.out.bel hhi)).at_ (by omega)
      obtain ⟨f, hf⟩ := get_of_lt HV.out.1 hlt
      obtain ⟨ta, m, tc, c0, c1, hmt, htc, hvt⟩ := hc k f hf
      have hokf := HAll.out f (List.mem_of_getElem? hf)
      have hL := tab_len hokf
      have hml := hvt.1
      obtain ⟨ar, har⟩ : ∃ ar : Nat, f.1 = (ar : Int) := ⟨f.1.toNat, by have := (opOkB_of hokf).1; omega⟩
      have har3 : ar ≤ 3 := by have := (opOkB_of hokf).1; omega
      rw [har] at c0
      have hpow : 0 < z ^ ar := Nat.pow_pos (by omega)
      have hm1 : 1 ≤ m := by rw [← hml, hL, har]; exact hpow
      have hm512 : m ≤ 512 := by have := (place_bd (z := (z : Int)) (by omega) hz8 hokf).1; omega
      obtain ⟨bt, ot, rfl, _, hbth, hct⟩ := hvt.at_ (by omega)
      have HCt := Lib.hid hct
      have HEf := Lib.hid (opAt_get hf)
      have HMl := Lib.hid hml
      have HL := Lib.hid (show m = z ^ ar by rw [← hml, hL, har]; rfl)
      have HOkf := Lib.hid hokf
      have HAr := Lib.hid har
      have HBlk := Lib.hid (fun (W' : World) (hW' : Below B wr W') (i : Nat) (y : Int) (hy : f.2[i]? = some y) => (hW'.cell (p := ⟨bt, ot + i, none⟩) (show bt < B by omega)).trans (hct i y hy))
      obtain ⟨cz, ca, cs, ct⟩ := (HTb.out.keep HK.out).cells
      have hszr : W.heap.size ≤ wr.heap.size := HK.out.size
      clear hc hf hvt hct hokf hL hml har hpow hbth hmt htc
      gi_wp2
      obtain ⟨F, hF⟩ : ∃ F, F = wr.heap.size := ⟨_, rfl⟩
      obtain ⟨w1, hw1⟩ : ∃ w1, w1 = wr.alloc (.cells #[.int .i64 (ar : Int), .slice (some ⟨bt, ot, none⟩) m tc] 66) := ⟨_, rfl⟩
      have HF1 : Hid (w1.heap[F]? = some (.cells #[.int .i64 (ar : Int), .slice (some ⟨bt, ot, none⟩) m tc] 66 (0, 0))) := by unfold Hid; rw [hw1, hF]; exact heap_alloc_new _ _
      have HK1 : Hid (KeepT B X W w1) := by unfold Hid; rw [hw1]; exact HK.out.alloc (by omega) (by omega) _
      have HJ1 : Hid (J (alT z fs s t k ++ opT z f s t 0) w1) := by
        unfold Hid; rw [opT, List.append_nil, hw1]
        exact HJ.out _ _ _ none HJk.out (World.grownBy_alloc wr _ none) (by simp)
      have HB1 : Hid (Below B wr w1) := by unfold Hid; rw [hw1]; exact (Below.refl _ _).alloc (by omega) _
      rw [← hw1, ← hF]
      clear hw1 hF cz ca cs ct c0 c1
      gi_loopw [7, 8, 9, 19] (fun sv _ _ i wp => ∃ j st : Nat, j ≤ ar ∧ i = .int .i64 (j : Int) ∧ sv = .int .i64 (st : Int) ∧ Hid (st = z ^ j) ∧ Hid (J (alT z fs s t k ++ opT z f s t j) wp) ∧ Hid (KeepT B X W wp) ∧ Hid (wp.heap[F]? = some (.cells #[.int .i64 (ar : Int), .slice (some ⟨bt, ot, none⟩) m tc] 66 (0, 0))) ∧ Hid (Below B wr wp)) (fun _ _ _ i _ => ar - (intOf i).toNat)
      case atStart => exact ⟨0, 1, Nat.zero_le _, rfl, rfl, rfl, HJ1, HK1, HF1, HB1⟩
      case round =>
        rename World => wp
        obtain ⟨j, st, hj, rfl, rfl, HSt, HJp, HKp, HFp, HBp⟩ := hrel
        clear HJ1 HK1 HF1 HB1
        obtain ⟨f0, f1, _⟩ := box_cells HFp.out
        obtain ⟨cz, ca, cs, ct⟩ := (HTb.out.keep HKp.out).cells
        by_cases hltj : j < ar
        · have hjn : (j : Int) < (ar : Int) := by omega
          have hst64 : st ≤ 64 := by rw [HSt.out]; exact pow_le_8 (by omega) (by omega)
          have hst1 : 1 ≤ st := by rw [HSt.out]; exact Nat.pow_pos (by omega)
          obtain ⟨M, hM⟩ : ∃ M, M = z ^ (ar - 1 - j) := ⟨_, rfl⟩
          have hzp : z ^ ar = z ^ (ar - 1 - j) * (z * z ^ j) := by rw [← Nat.pow_succ', ← Nat.pow_add]; congr 1; omega
          have HMm : Hid (m = M * (z * st)) := by unfold Hid; rw [HL.out, hM, HSt.out]; exact hzp
          obtain ⟨zs, hzs⟩ : ∃ zs, z * st = zs := ⟨_, rfl⟩
          obtain ⟨ss, hss⟩ : ∃ ss, s * st = ss := ⟨_, rfl⟩
          have hss1 : ss + st ≤ zs := by rw [← hss, ← hzs]; have := Nat.mul_le_mul_right st hs; rw [Nat.succ_mul] at this; exact this
          have hzs1 : zs ≤ 512 := by rw [← hzs]; exact mul_bd (p := 8) (q := 64) (by omega) hst64
          have iss : (s : Int) * (st : Int) = (ss : Int) := by rw [← hss, Int.natCast_mul]
          have izs : (z : Int) * (st : Int) = (zs : Int) := by rw [← hzs, Int.natCast_mul]
          have izs2 : (st : Int) * (z : Int) = (zs : Int) := by rw [Int.mul_comm]; exact izs
          have HJ2 : Hid (J (alT z fs s t k ++ (opT z f s t j ++ plT z f st s t 0)) wp) := by unfold Hid; rw [plT, List.append_nil]; exact HJp.out
          have HZs := Lib.hid hzs
          have HSs := Lib.hid hss
          clear hM hzp hzs hss
          gi_wp2
          gi_loopw [8, 9] (fun a8 _ ws => ∃ i q : Nat, a8 = .int .i64 (q : Int) ∧ q ≤ 1024 ∧ Hid (i ≤ M ∧ q = ss + i * zs) ∧ Hid (J (alT z fs s t k ++ (opT z f s t j ++ plT z f st s t (i * zs))) ws) ∧ Hid (KeepT B X W ws) ∧ Hid (ws.heap[F]? = some (.cells #[.int .i64 (ar : Int), .slice (some ⟨bt, ot, none⟩) m tc] 66 (0, 0))) ∧ Hid (Below B wr ws)) (fun a8 _ _ => 2000 - (intOf a8).toNat)
          case atStart => exact ⟨0, ss, by simp only [iss], by omega, ⟨Nat.zero_le _, by simp⟩, by unfold Hid; rw [Nat.zero_mul]; exact HJ2.out, HKp, HFp, HBp⟩
          case round =>
            rename World => ws
            obtain ⟨i, q, rfl, hq, HIq, HJs, HKs, HFs, HBs⟩ := hrel
            clear HJ2 cz ca cs ct f0 f1
            obtain ⟨f0, f1, _⟩ := box_cells HFs.out
            obtain ⟨cz, ca, cs, ct⟩ := (HTb.out.keep HKs.out).cells
            obtain ⟨hiM, hqe⟩ := HIq.out
            by_cases hqm : q < m
            · have hqn : (q : Int) < (m : Int) := by omega
              have hiM2 : i < M := by
                rcases Nat.lt_or_ge i M with h | h
                · exact h
                · have h2 := Nat.mul_le_mul_right zs h
                  have h3 := HMm.out
                  rw [HZs.out] at h3
                  omega
              have hnext : (i + 1) * zs ≤ m := by
                have h3 := HMm.out
                rw [HZs.out] at h3
                rw [h3]; exact Nat.mul_le_mul_right zs hiM2
              rw [Nat.succ_mul] at hnext
              have HNx := Lib.hid hnext
              have HQe := Lib.hid hqe
              have HJ3 : Hid (J (alT z fs s t k ++ (opT z f s t j ++ plT z f st s t (q + 0))) ws) := by
                unfold Hid
                rw [Nat.add_zero, hqe, Nat.add_comm, plT_skip ss (fun e h1 h2 => ?_)]
                · exact HJs.out
                · have h3 := skip_low (z := z) (st := st) (s := s) (i := i) (e := e) hst1 hs (by rw [HZs.out]; exact h1) (by rw [HZs.out, HSs.out]; exact h2)
                  exact h3
              clear hiM hqe hiM2 hnext
              gi_wp2
              gi_loopw [9] (fun a9 wq => ∃ r p : Nat, r ≤ st ∧ a9 = .int .i64 (p : Int) ∧ p = q + r ∧ Hid (J (alT z fs s t k ++ (opT z f s t j ++ plT z f st s t (q + r))) wq) ∧ Hid (KeepT B X W wq) ∧ Hid (wq.heap[F]? = some (.cells #[.int .i64 (ar : Int), .slice (some ⟨bt, ot, none⟩) m tc] 66 (0, 0))) ∧ Hid (Below B wr wq)) (fun a9 _ => 2000 - (intOf a9).toNat)
              case atStart => exact ⟨0, q, Nat.zero_le _, rfl, rfl, HJ3, HKs, HFs, HBs⟩
              case round =>
                rename World => wq
                obtain ⟨r, p, hr, rfl, hp, HJq, HKq, HFq, HBq⟩ := hrel
                clear HJ3 cz ca cs ct f0 f1
                obtain ⟨f0, f1, _⟩ := box_cells HFq.out
                obtain ⟨cz, ca, cs, ct⟩ := (HTb.out.keep HKq.out).cells
                by_cases hrst : r < st
                · have hpn : (p : Int) < (q : Int) + (st : Int) := by omega
                  have hdig : p / st % z = s := by
                    have h_ := dig_at (z := z) (st := st) (q := i) (d := s) (r := r) hst1 hrst hs
                    rw [show (i * z + s) * st + r = p by rw [hp, HQe.out, Nat.add_mul, Nat.mul_assoc, HZs.out, HSs.out]; omega] at h_
                    exact h_
                  have hpm : p < m := by have := HNx.out; have := HQe.out; omega
                  obtain ⟨i2, hi2⟩ : ∃ i2, p + t * st - s * st = i2 := ⟨_, rfl⟩
                  have hmv := dig_move (z := z) (m := ar) (j := j) (i := p) (d' := t) (by omega) hltj (by rw [← HL.out]; exact hpm) ht
                  rw [← HSt.out, hdig, hi2, ← HL.out] at hmv
                  have hi2m : i2 < m := hmv.1
                  have hps : s * st ≤ p := by rw [HSs.out]; have := HQe.out; omega
                  have HE : Hid ((p : Int) + ((t : Int) - (s : Int)) * (st : Int) = (i2 : Int)) := by
                    unfold Hid
                    rw [Int.sub_mul, ← Int.natCast_mul, ← Int.natCast_mul]
                    omega
                  have hb1 : -4096 ≤ ((t : Int) - (s : Int)) * (st : Int) ∧ ((t : Int) - (s : Int)) * (st : Int) ≤ 4096 := by
                    have := HE.out
                    omega
                  obtain ⟨hb1, hb2⟩ := hb1
                  have hw1 : IntKind.i64.wrap ((t : Int) - (s : Int)) = (t : Int) - (s : Int) := by rw [IntKind.wrap_i64]; omega
                  have hw2 : IntKind.i64.wrap (((t : Int) - (s : Int)) * (st : Int)) = ((t : Int) - (s : Int)) * (st : Int) := by rw [IntKind.wrap_i64]; omega
                  have hw3 : IntKind.i64.wrap ((p : Int) + ((t : Int) - (s : Int)) * (st : Int)) = (i2 : Int) := by rw [HE.out, IntKind.wrap_i64]; omega
                  obtain ⟨y1, hy1⟩ : ∃ y1, gI f.2 p = y1 := ⟨_, rfl⟩
                  obtain ⟨y2, hy2⟩ : ∃ y2, gI f.2 i2 = y2 := ⟨_, rfl⟩
                  have hg1 := get_gI HMl.out hpm
                  have hg2 := get_gI HMl.out hi2m
                  rw [hy1] at hg1
                  rw [hy2] at hg2
                  have ey1 := HBlk.out _ HBq.out _ _ hg1
                  have ey2 := HBlk.out _ HBq.out _ _ hg2
                  have hbd1 := tab_bd HOkf.out (i := p) (by rw [HMl.out]; exact hpm)
                  have hbd2 := tab_bd HOkf.out (i := i2) (by rw [HMl.out]; exact hi2m)
                  rw [hy1] at hbd1
                  rw [hy2] at hbd2
                  have hx : encT (prT f st s t p) = #[.int .i64 y1, .int .i64 y2] := by
                    unfold encT prT
                    rw [hi2, hy1, hy2, f8_val hbd1.1 (by omega), f8_val hbd2.1 (by omega)]
                  have hpre : alT z fs s t k ++ (opT z f s t j ++ plT z f st s t (q + r)) ++ [prT f st s t p] <+: alT z fs s t nn := by
                    have h_ := alT_at (z := z) (fs := fs) (s := s) (t := t) (k := k) (j := j) (m := p + 1) (n := nn) hlt (by rw [HEf.out, HAr.out]; exact hltj) (by rw [HEf.out, HMl.out]; exact hpm)
                    rw [HEf.out, ← HSt.out, plT_yes hdig, ← List.append_assoc, ← List.append_assoc, hp] at h_
                    rw [hp, ← List.append_assoc]
                    exact h_
                  have HPre := Lib.hid hpre
                  have hyr := HY.out _ (prT f st s t p) wq.drew (HJ.out _ _ _ none HJq.out (grown_drew wq) (by simp)) (by have := hpre.length_le; simp at this ⊢; omega)
                  rw [hx] at hyr
                  obtain ⟨fn, tmps, assign, body, hy, hR⟩ := hyr
                  have HR := Lib.hid hR
                  have HDig := Lib.hid hdig
                  have hi2n : (i2 : Int) < (m : Int) := by omega
                  have hpmn : (p : Int) < (m : Int) := by omega
                  have hS0 : (fun W_ => W_.cell? ⟨F, 1, none⟩ = some (.slice (some ⟨bt, ot, none⟩) m tc) ∧ W_.cell? ⟨X + 1, 0, none⟩ = some (.int .i64 (s : Int)) ∧ W_.cell? ⟨X + 2, 0, none⟩ = some (.int .i64 (t : Int)) ∧ W_.cell? ⟨bt, ot + p, none⟩ = some (.int .i64 y1) ∧ W_.cell? ⟨bt, ot + i2, none⟩ = some (.int .i64 y2)) wq.drew := ⟨f1, cs, ct, ey1, ey2⟩
                  have HPe := Lib.hid hp
                  clear hp hx hpre hR hg1 hg2 hy1 hy2 hi2 hmv hdig hbd1 hbd2
                  gi_wp2
                  refine wpIn_region_S (fun W_ => W_.cell? ⟨F, 1, none⟩ = some (.slice (some ⟨bt, ot, none⟩) m tc) ∧ W_.cell? ⟨X + 1, 0, none⟩ = some (.int .i64 (s : Int)) ∧ W_.cell? ⟨X + 2, 0, none⟩ = some (.int .i64 (t : Int)) ∧ W_.cell? ⟨bt, ot + p, none⟩ = some (.int .i64 y1) ∧ W_.cell? ⟨bt, ot + i2, none⟩ = some (.int .i64 y2)) 17 (by kernel_rfl) ?_
                  refine wpAnyS_take (i := 0) (oi := ⟨_, _, _, _, _, _⟩) (v := ?_) [0, 17] rfl rfl (by decide) (by decide) (by kernel_rfl) (by kernel_rfl) (by kernel_rfl) (by kernel_rfl) (fun _ _ _ h => h) (Or.inl ⟨rfl, ?_⟩) (fun _ => rfl) hS0 ?_
                  rotate_left 1
                  · intro w_ hSw; (try dsimp only at hSw); go_simp; (try with_reducible rfl)
                  (try simp only [Act.put, List.setIfInBounds_toArray, List.set_cons_zero, List.set_cons_succ])
                  refine wpAnyS_take (i := 1) (oi := ⟨_, _, _, _, _, _⟩) (v := ?_) [1, 2, 4, 5, 17] rfl rfl (by decide) (by decide) (by kernel_rfl) (by kernel_rfl) (by kernel_rfl) (by kernel_rfl) (fun _ _ _ h => h) (Or.inl ⟨rfl, ?_⟩) (fun _ => rfl) hS0 ?_
                  rotate_left 1
                  · intro w_ hSw; (try dsimp only at hSw); go_simp; (try with_reducible rfl)
                  (try simp only [Act.put, List.setIfInBounds_toArray, List.set_cons_zero, List.set_cons_succ])
                  refine wpAnyS_take (i := 2) (oi := ⟨_, _, _, _, _, _⟩) (v := ?_) [2, 4, 5, 17] rfl rfl (by decide) (by decide) (by kernel_rfl) (by kernel_rfl) (by kernel_rfl) (by kernel_rfl) (fun _ _ _ h => h) (Or.inl ⟨rfl, ?_⟩) (fun _ => rfl) hS0 ?_
                  rotate_left 1
                  · intro w_ hSw; (try dsimp only at hSw); go_simp; (try with_reducible rfl)
                  (try simp only [Act.put, List.setIfInBounds_toArray, List.set_cons_zero, List.set_cons_succ])
                  refine wpAnyS_take (i := 3) (oi := ⟨_, _, _, _, _, _⟩) (v := ?_) [3, 4, 5, 17] rfl rfl (by decide) (by decide) (by kernel_rfl) (by kernel_rfl) (by kernel_rfl) (by kernel_rfl) (fun _ _ _ h => h) (Or.inl ⟨rfl, ?_⟩) (fun _ => rfl) hS0 ?_
                  rotate_left 1
                  · intro w_ hSw; (try dsimp only at hSw); go_simp; (try with_reducible rfl)
                  (try simp only [Act.put, List.setIfInBounds_toArray, List.set_cons_zero, List.set_cons_succ])
                  refine wpAnyS_take (i := 4) (oi := ⟨_, _, _, _, _, _⟩) (v := ?_) [4, 5, 17] rfl rfl (by decide) (by decide) (by kernel_rfl) (by kernel_rfl) (by kernel_rfl) (by kernel_rfl) (fun _ _ _ h => h) (Or.inl ⟨rfl, ?_⟩) (fun _ => rfl) hS0 ?_
                  rotate_left 1
                  · intro w_ hSw; (try dsimp only at hSw); go_simp; (try with_reducible rfl)
                  (try simp only [Act.put, List.setIfInBounds_toArray, List.set_cons_zero, List.set_cons_succ])
                  refine wpAnyS_take (i := 5) (oi := ⟨_, _, _, _, _, _⟩) (v := ?_) [5, 17] rfl rfl (by decide) (by decide) (by kernel_rfl) (by kernel_rfl) (by kernel_rfl) (by kernel_rfl) (fun _ _ _ h => h) (Or.inl ⟨rfl, ?_⟩) (fun _ => rfl) hS0 ?_
                  rotate_left 1
                  · intro w_ hSw; (try dsimp only at hSw); go_simp; (try with_reducible rfl)
                  (try simp only [Act.put, List.setIfInBounds_toArray, List.set_cons_zero, List.set_cons_succ])
                  refine wpAnyS_take (i := 6) (oi := ⟨_, _, _, _, _, _⟩) (v := ?_) [6, 7, 15, 16, 17] rfl rfl (by decide) (by decide) (by kernel_rfl) (by kernel_rfl) (by kernel_rfl) (by kernel_rfl) (fun _ _ _ h => h) (Or.inl ⟨rfl, ?_⟩) (fun _ => rfl) hS0 ?_
                  rotate_left 1
                  · intro w_ hSw; (try dsimp only at hSw); go_simp; (try with_reducible rfl)
                  (try simp only [Act.put, List.setIfInBounds_toArray, List.set_cons_zero, List.set_cons_succ])
                  refine wpAnyS_take (i := 7) (oi := ⟨_, _, _, _, _, _⟩) (v := ?_) [7, 15, 16, 17] rfl rfl (by decide) (by decide) (by kernel_rfl) (by kernel_rfl) (by kernel_rfl) (by kernel_rfl) (fun _ _ _ h => h) (Or.inl ⟨rfl, ?_⟩) (fun _ => rfl) hS0 ?_
                  rotate_left 1
                  · intro w_ hSw; (try dsimp only at hSw); go_simp; (try with_reducible rfl)
                  (try simp only [Act.put, List.setIfInBounds_toArray, List.set_cons_zero, List.set_cons_succ])
                  refine wpAnyS_take (i := 8) (oi := ⟨_, _, _, _, _, _⟩) (v := ?_) [8, 14, 15, 16, 17] rfl rfl (by decide) (by decide) (by kernel_rfl) (by kernel_rfl) (by kernel_rfl) (by kernel_rfl) (fun _ _ _ h => h) (Or.inl ⟨rfl, ?_⟩) (fun _ => rfl) hS0 ?_
                  rotate_left 1
                  · intro w_ hSw; (try dsimp only at hSw); go_simp; (try with_reducible rfl)
                  (try simp only [Act.put, List.setIfInBounds_toArray, List.set_cons_zero, List.set_cons_succ])
                  refine wpAnyS_take (i := 9) (oi := ⟨_, _, _, _, _, _⟩) (v := ?_) [9, 11, 13, 14, 15, 16, 17] rfl rfl (by decide) (by decide) (by kernel_rfl) (by kernel_rfl) (by kernel_rfl) (by kernel_rfl) (fun _ _ _ h => h) (Or.inl ⟨rfl, ?_⟩) (fun _ => rfl) hS0 ?_
                  rotate_left 1
                  · intro w_ hSw; (try dsimp only at hSw); go_simp; (try with_reducible rfl)
                  (try simp only [Act.put, List.setIfInBounds_toArray, List.set_cons_zero, List.set_cons_succ])
                  refine wpAnyS_take (i := 10) (oi := ⟨_, _, _, _, _, _⟩) (v := ?_) [10, 11, 13, 14, 15, 16, 17] rfl rfl (by decide) (by decide) (by kernel_rfl) (by kernel_rfl) (by kernel_rfl) (by kernel_rfl) (fun _ _ _ h => h) (Or.inl ⟨rfl, ?_⟩) (fun _ => rfl) hS0 ?_
                  rotate_left 1
                  · intro w_ hSw; (try dsimp only at hSw); go_simp; (try with_reducible rfl)
                  (try simp only [Act.put, List.setIfInBounds_toArray, List.set_cons_zero, List.set_cons_succ])
                  refine wpAnyS_take (i := 11) (oi := ⟨_, _, _, _, _, _⟩) (v := ?_) [11, 13, 14, 15, 16, 17] rfl rfl (by decide) (by decide) (by kernel_rfl) (by kernel_rfl) (by kernel_rfl) (by kernel_rfl) (fun _ _ _ h => h) (Or.inl ⟨rfl, ?_⟩) (fun _ => rfl) hS0 ?_
                  rotate_left 1
                  · intro w_ hSw; (try dsimp only at hSw); go_simp; (try with_reducible rfl)
                  (try simp only [Act.put, List.setIfInBounds_toArray, List.set_cons_zero, List.set_cons_succ])
                  refine wpAnyS_take (i := 12) (oi := ⟨_, _, _, _, _, _⟩) (v := ?_) [12, 13, 14, 15, 16, 17] rfl rfl (by decide) (by decide) (by kernel_rfl) (by kernel_rfl) (by kernel_rfl) (by kernel_rfl) (fun _ _ _ h => h) (Or.inl ⟨rfl, ?_⟩) (fun _ => rfl) hS0 ?_
                  rotate_left 1
                  · intro w_ hSw; (try dsimp only at hSw); go_simp; (try with_reducible rfl)
                  (try simp only [Act.put, List.setIfInBounds_toArray, List.set_cons_zero, List.set_cons_succ])
                  refine wpAnyS_take (i := 13) (oi := ⟨_, _, _, _, _, _⟩) (v := ?_) [13, 14, 15, 16, 17] rfl rfl (by decide) (by decide) (by kernel_rfl) (by kernel_rfl) (by kernel_rfl) (by kernel_rfl) (fun _ _ _ h => h) (Or.inl ⟨rfl, ?_⟩) (fun _ => rfl) hS0 ?_
                  rotate_left 1
                  · intro w_ hSw; (try dsimp only at hSw); go_simp; (try with_reducible rfl)
                  (try simp only [Act.put, List.setIfInBounds_toArray, List.set_cons_zero, List.set_cons_succ])
                  refine wpAnyS_take (i := 14) (oi := ⟨_, _, _, _, _, _⟩) (v := ?_) [14, 15, 16, 17] rfl rfl (by decide) (by decide) (by kernel_rfl) (by kernel_rfl) (by kernel_rfl) (by kernel_rfl) (fun _ _ _ h => h) (Or.inl ⟨rfl, ?_⟩) (fun _ => rfl) hS0 ?_
                  rotate_left 1
                  · intro w_ hSw; (try dsimp only at hSw); go_simp; (try with_reducible rfl)
                  (try simp only [Act.put, List.setIfInBounds_toArray, List.set_cons_zero, List.set_cons_succ])
                  (try simp only [HE.out])
                  refine wpAnyS_take (i := 15) (oi := ⟨_, _, _, _, _, _⟩) (v := ?_) [15, 16, 17] rfl rfl (by decide) (by decide) (by kernel_rfl) (by kernel_rfl) (by kernel_rfl) (by kernel_rfl) (fun _ _ _ h => h) (Or.inl ⟨rfl, ?_⟩) (fun _ => rfl) hS0 ?_
                  rotate_left 1
                  · intro w_ hSw; (try dsimp only at hSw); go_simp; (try with_reducible rfl)
                  (try simp only [Act.put, List.setIfInBounds_toArray, List.set_cons_zero, List.set_cons_succ])
                  refine wpAnyS_take (i := 16) (oi := ⟨_, _, _, _, _, _⟩) (v := ?_) [16, 17] rfl rfl (by decide) (by decide) (by kernel_rfl) (by kernel_rfl) (by kernel_rfl) (by kernel_rfl) (fun _ _ _ h => h) (Or.inl ⟨rfl, ?_⟩) (fun _ => rfl) hS0 ?_
                  rotate_left 1
                  · intro w_ hSw; (try dsimp only at hSw); go_simp; (try with_reducible rfl)
                  (try simp only [Act.put, List.setIfInBounds_toArray, List.set_cons_zero, List.set_cons_succ])
                  refine wpAnyS_call (o := ⟨_, _, _, _, _, _⟩) (by kernel_rfl) rfl rfl (fun K hK => ?_)
                  change Oper.wpIn _ _ _ _ _ wq.drew _ _
                  unfold Oper.wpIn
                  refine ⟨fun _ _ => trivial, ?_⟩
                  go_simp
                  refine ⟨fun h => (by cases h), ?_⟩
                  refine HR.out.mono ?_
                  rintro e W3 (⟨rfl, hJ3, hk3⟩ | ⟨rfl, hJx3⟩)
                  · have HKn : Hid (KeepT B X W W3) := (HKq.out.drew).trans hk3
                    have HFn : Hid (W3.heap[F]? = some (.cells #[.int .i64 (ar : Int), .slice (some ⟨bt, ot, none⟩) m tc] 66 (0, 0))) := hk3.op F _ _ HFq.out
                    have HBn : Hid (Below B wr W3) := (HBq.out.drew).trans hk3.bel
                    have HJn : Hid (J (alT z fs s t k ++ (opT z f s t j ++ plT z f st s t (q + (r + 1)))) W3) := by
                      unfold Hid
                      rw [← Nat.add_assoc, plT_yes (by rw [← HPe.out]; exact HDig.out), ← List.append_assoc, ← List.append_assoc, ← HPe.out]
                      rw [← HPe.out, ← List.append_assoc] at hJ3
                      exact hJ3
                    clear hJ3 hk3
                    refine hK _ _ ?_
                    (try simp only [Act.put, List.setIfInBounds_toArray, List.set_cons_zero, List.set_cons_succ])
                    refine wpAnyIn_take (i := 18) (oi := ⟨_, _, _, _, _, _⟩) (v := ?_) rfl rfl (by kernel_rfl) (by kernel_rfl) (by kernel_rfl) (fun _ _ _ h => h) ⟨Or.inl ⟨by rfl, ?_⟩, fun _ => rfl⟩ ?_
                    rotate_left 1
                    · intro w_; go_simp; (try with_reducible rfl)
                    (try simp only [Act.put, List.setIfInBounds_toArray, List.set_cons_zero, List.set_cons_succ])
                    refine wpAnyIn_done (by kernel_rfl) ?_ _
                    gi_wp2
                    go_roundw
                    case rel => exact ⟨r + 1, p + 1, by omega, by go_num, by have := HPe.out; omega, HJn, HKn, HFn, HBn⟩
                    case measure => simp [intOf]; omega
                  · refine hK _ _ ?_
                    (try simp only [Act.put, List.setIfInBounds_toArray, List.set_cons_zero, List.set_cons_succ])
                    refine wpAnyIn_take (i := 18) (oi := ⟨_, _, _, _, _, _⟩) (v := ?_) rfl rfl (by kernel_rfl) (by kernel_rfl) (by kernel_rfl) (fun _ _ _ h => h) ⟨Or.inl ⟨by rfl, ?_⟩, fun _ => rfl⟩ ?_
                    rotate_left 1
                    · intro w_; go_simp; (try with_reducible rfl)
                    (try simp only [Act.put, List.setIfInBounds_toArray, List.set_cons_zero, List.set_cons_succ])
                    refine wpAnyIn_done (by kernel_rfl) ?_ _
                    gi_wp2
                    refine bodyPost_ret (results_none rfl _ _ _) rfl ?_
                    exact ⟨⟨_, rfl⟩, .inr ⟨_, HPre.out, hJx3⟩⟩
                · have hpn : ¬ (p : Int) < (q : Int) + (st : Int) := by omega
                  obtain rfl : r = st := by omega
                  have HJ4 : Hid (J (alT z fs s t k ++ (opT z f s t j ++ plT z f r s t ((i + 1) * zs))) wq) := by
                    unfold Hid
                    have h1 := HQe.out
                    rw [Nat.succ_mul, show i * zs + zs = (q + r) + (i * zs + zs - (q + r)) by omega, plT_skip (i * zs + zs - (q + r)) (fun e h1 h2 => ?_)]
                    · exact HJq.out
                    · exact skip_high (z := z) (st := r) (s := s) (i := i) (e := e) hst1 hs (by rw [HZs.out, HSs.out]; omega) (by rw [HZs.out, Nat.succ_mul]; omega)
                  have HI4 : Hid (i + 1 ≤ M ∧ q + zs = ss + (i + 1) * zs) := by
                    unfold Hid
                    have h1 := HQe.out
                    have h2 := HNx.out
                    have h3 := HMm.out
                    rw [HZs.out] at h3
                    refine ⟨?_, by rw [Nat.succ_mul]; omega⟩
                    rcases Nat.lt_or_ge i M with h | h
                    · exact h
                    · have h5 := Nat.mul_le_mul_right zs h
                      omega
                  have HPe := Lib.hid hp
                  clear hp
                  gi_wp2
                  go_roundw
                  case rel => exact ⟨i + 1, q + zs, by go_num, by omega, HI4, HJ4, HKq, HFq, HBq⟩
                  case measure => simp [intOf]; omega
            · have hqn : ¬ (q : Int) < (m : Int) := by omega
              have HJ5 : Hid (J (alT z fs s t k ++ opT z f s t (j + 1)) ws) := by
                unfold Hid
                have h3 := HMm.out
                rw [HZs.out] at h3
                have hi : i = M := by
                  rcases Nat.lt_or_ge i M with h | h
                  · have h5 := Nat.mul_le_mul_right zs h
                    rw [Nat.succ_mul] at h5
                    omega
                  · omega
                rw [opT, ← HSt.out, HMl.out, h3, ← hi]
                exact HJs.out
              have HS5 : Hid (zs = z ^ (j + 1)) := by unfold Hid; rw [← HZs.out, HSt.out, Nat.pow_succ']
              clear hqe hiM
              gi_wp2
              go_roundw
              case rel => exact ⟨j + 1, zs, by omega, by go_num, by go_num, HS5, HJ5, HKs, HFs, HBs⟩
              case measure => simp [intOf]; omega
        · have hjn : ¬ (j : Int) < (ar : Int) := by omega
          obtain rfl : j = ar := by omega
          have HJ6 : Hid (J (alT z fs s t (k + 1)) wp) := by
            unfold Hid
            rw [alT, HEf.out, HAr.out, Int.toNat_natCast]
            exact HJp.out
          gi_wp2
          go_roundw
          case rel => exact ⟨k + 1, by omega, by go_num, HJ6, HKp⟩
          case measure => simp [intOf]; omega
    · have hkn : ¬ (k : Int) < (nn : Int) := by omega
      obtain rfl : k = nn := by omega
      gi_wp2
      go_end0
      exact ⟨⟨_, rfl⟩, .inl HJk.out⟩

end Go.Proofs.Ytcmjkfcgekmomaa
