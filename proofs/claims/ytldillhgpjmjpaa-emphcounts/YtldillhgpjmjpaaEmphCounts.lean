/-
  PROVED: stetlaw12.EmphCounts returns true for every list of rows: a row's marks are those of its pairs and those that are left, and pairs are of rows that may open and close, of one mark. Conditions: none beside the row's own.
-/
import Derived.Test.YtldillhgpjmjpaaOpen2
import Derived.Test.YtldillhgpjmjpaaInvPure
import Derived.Test.YtldillhgpjmjpaaRefPL
namespace Go.Proofs.Ytldillhgpjmjpaa.emphCounts
open Go.ChangeShapes Go.WideShapes Go.ChangeAt Go.RowKit Go.Joins Go.Sort
set_option linter.unusedVariables false

/-- The marks left and those of the first k pairs. -/
def cnt (lf : Nat → Nat) (P : List Bd) (k : Nat) : Nat → Nat := fun i => lf i + sm i (P.take k)
theorem cnt_step (lf : Nat → Nat) (P : List Bd) (k o c q : Nat) (hk : k < P.length) (hP : P[k]? = some (o, c, q)) (hoc : o ≠ c) (n : Nat) :
    lefts (upd (upd (cnt lf P k) o (cnt lf P k o + q)) c (cnt lf P k c + q)) n = lefts (cnt lf P (k + 1)) n := by
  unfold lefts
  apply List.map_congr_left
  intro i hi
  have e : P.take (k + 1) = P.take k ++ [(o, c, q)] := by
    have h1 : P[k] = (o, c, q) := by rw [List.getElem?_eq_getElem hk] at hP; exact Option.some.inj hP
    rw [List.take_succ_eq_append_getElem hk, h1]
  have h2 : cnt lf P (k + 1) i = cnt lf P k i + ctr i (o, c, q) := by
    unfold cnt
    rw [e, sm_app]
    simp [sm]
    omega
  rw [h2]
  congr 2
  unfold upd ctr
  simp only
  split
  · subst_vars
    rw [if_neg (fun h => hoc h.symm)]
    omega
  · split
    · subst_vars; omega
    · omega
theorem sm_take (i k : Nat) (P : List Bd) : sm i (P.take k) ≤ sm i P := by
  conv => rhs; rw [← List.take_append_drop k P]
  rw [sm_app]
  omega
theorem below_dr2 {B : Nat} {a w : World} (h : Below B a w) (n : Nat) : Below B a (w.drewN n) := ⟨h.os, h.tape, h.output, h.size, h.block⟩

set_option maxHeartbeats 4000000 in
set_option maxRecDepth 100000 in
theorem walk (A : Option Addr) (c : Nat) (hA : A = none → c = 0) (L : List Rw) (hl : L.length ≤ 140737488355328) (hm : ∀ r ∈ L, (Lit.int .u8 r.m).wf = true) (w : World) (h : Rdc w w.heap.size A (rcells L)) :
    Calls Try.prog 4 #[.slice A L.length c] w fun e w' => e = .returned (.bool true) ∧ Below w.heap.size w w' := by
  have HM := Lib.hid hm
  have HA := Lib.hid hA
  have HR := Lib.hid h
  clear hm hA h
  go_enter Try.func4, Try.ntmps4
  go_wp2_with fail
  refine (alive_any w).mono ?_
  rintro e w1 ⟨rfl, hb1⟩
  have R1 := Lib.hid (HR.out.on hb1)
  have B1 := Lib.hid hb1
  clear hb1 HR
  go_wp2_with fail
  refine (great_any A c L hl _ w1 R1.out).mono ?_
  rintro e w2 ⟨⟨b, rfl, hbL⟩, hw⟩
  subst hw
  cases b with
  | true =>
    clear hbL
    go_wp2_with fail
    go_ret
    exact ⟨rfl, B1.out⟩
  | false =>
    have hl3 := hbL rfl
    clear hbL
    go_wp2_with fail
    refine (copy_any A c HA.out L (by omega) _ w1 R1.out).mono ?_
    rintro e w2 hO
    obtain ⟨A2, c2, rfl, hc2, _, hr2, hb2⟩ := hO.rd
    have RO2 := Lib.hid hr2
    have R2 := Lib.hid (R1.out.on hb2)
    have B2 := Lib.hid (chain (Nat.le_refl _) B1.out hb2)
    clear hO hr2 hb2 R1 B1
    go_wp2_with fail
    refine (pairs_any A2 c2 L (by omega) HM.out w2 RO2.out).mono ?_
    rintro e w3 hO
    obtain ⟨A3, c3, rfl, hc3, _, hr3, hb3⟩ := hO.rd
    have RP3 := Lib.hid hr3
    have R3 := Lib.hid (R2.out.on hb3)
    have B3 := Lib.hid (chain (Nat.le_refl _) B2.out hb3)
    clear hO hr3 hb3 R2 B2 RO2
    go_wp2_with fail
    refine (copy_any A c HA.out L (by omega) _ w3 R3.out).mono ?_
    rintro e w4 hO
    obtain ⟨A4, c4, rfl, hc4, _, hr4, hb4⟩ := hO.rd
    have RO4 := Lib.hid hr4
    have RP4 := Lib.hid (RP3.out.on hb4)
    have R4 := Lib.hid (R3.out.on hb4)
    have B4 := Lib.hid (chain (Nat.le_refl _) B3.out hb4)
    clear hO hr4 hb4 R3 B3 RP3
    go_wp2_with fail
    refine (left_made A4 c4 L (by omega) HM.out w4 RO4.out).mono ?_
    rintro e w5 ⟨vL, rfl, ho5, hb5⟩
    have eL : (leftM L).length = L.length := by simp [leftM]
    obtain ⟨P, hP⟩ : ∃ P, P = pairsM L := ⟨_, rfl⟩
    obtain ⟨lf, hlf⟩ : ∃ lf, lf = (runM L L.length).2.1 := ⟨_, rfl⟩
    have e2 : ints (leftM L) = lefts (cnt lf P 0) L.length := by
      unfold lefts cnt
      rw [hlf]
      simp [ints, leftM, sm]
    rw [eL, e2] at ho5
    obtain ⟨AL, cL, hvL⟩ := own_sl ho5
    subst hvL
    have HO5 := Lib.hid ho5
    have B5 := Lib.hid hb5
    have HSm : Hid (∀ i k, cnt lf P k i ≤ num (rw L i)) := fun i k => by
      have h1 := pairs_sm L i
      have h2 := sm_take i k P
      unfold cnt
      rw [hlf]
      rw [hP] at h2 ⊢
      omega
    have HEnd : Hid (∀ i, cnt lf P P.length i = num (rw L i)) := fun i => by
      have h1 := pairs_sm L i
      unfold cnt
      rw [List.take_length, hlf, hP]
      exact h1
    have HPk := Lib.hid (pairs_ok L)
    have hPl : (pairsM L).length ≤ 361200 * 1048576 := by
      have h1 := expand_len (runM L L.length).2.2 (run_q L L.length)
      have h2 := run_len L 600 L.length (by omega)
      have h3 : L.length * 601 ≤ 600 * 601 := Nat.mul_le_mul_right _ (by omega)
      exact Nat.le_trans h1 (Nat.mul_le_mul_right _ (by omega))
    rw [← hP] at HPk hPl RP4 ⊢
    clear ho5 hb5 eL e2 hP hlf RO4
    go_upto_block 0 with fail
    go_cut [] from 23 to 110 (fun wx => wx.ownsRow w4.heap.size 3 1 (.slice AL L.length cL) L.length (lefts (cnt lf P P.length) L.length) ∧ Below w4.heap.size w4 wx)
    case first =>
      go_wp2_with fail
      go_loopw [5] (fun v wr => ∃ k : Nat, k ≤ P.length ∧ v = .int .i64 k ∧ wr.ownsRow w4.heap.size 3 1 (.slice AL L.length cL) L.length (lefts (cnt lf P k) L.length) ∧ Below w4.heap.size w4 wr) (fun v _ => P.length - (intOf v).toNat)
      case atStart => exact ⟨0, Nat.zero_le _, rfl, HO5.out, B5.out⟩
      case round =>
        obtain ⟨k, hk, rfl, ho, hb⟩ := hrel
        have HO := Lib.hid ho
        have HB := Lib.hid hb
        clear HO5 B5
        by_cases hlt : k < P.length
        · obtain ⟨qo, qc, qn, hPk⟩ : ∃ qo qc qn, P[k]? = some (qo, qc, qn) := ⟨_, _, _, List.getElem?_eq_getElem hlt⟩
          obtain ⟨f1, f2, f3, f4, f5, f6⟩ := HPk.out _ (List.mem_of_getElem? hPk)
          simp only at f1 f2 f3 f4 f5 f6
          have hnl : 0 < L.length := by omega
          have hqol : qo < L.length := by omega
          obtain ⟨q, cq, hq1, hqb, hql, _, hat, hqf⟩ := own_at ho hnl
          have e1 : AL = some ⟨q, 0, none⟩ := by injection hq1
          subst e1
          obtain ⟨b3, o3, rfl, hb3, p0, p1, p2⟩ := (RP4.out.below hb).pair hPk
          simp only at p0 p1 p2
          obtain ⟨b, o, rfl, hbb, s0, s1, s2, s3⟩ := (R4.out.below hb).run (rw_of L qo hqol)
          obtain ⟨b', o', e2, hbb', t0, t1, t2, t3⟩ := (R4.out.below hb).run (rw_of L qc f2)
          cases e2
          have l0 := hat qo _ (lefts_at _ _ qo hqol)
          have l1 := hat qc _ (lefts_at _ _ qc f2)
          have g0 := hqf qo
          have g1 := hqf qc
          rw [f4] at s2
          rw [f5] at t3
          rw [← f6] at t0
          have n0 := Nat.le_trans (HSm.out qo k) (num_bd _)
          have n1 := Nat.le_trans (HSm.out qc k) (num_bd _)
          have HStep := Lib.hid (cnt_step lf P k qo qc qn hlt hPk (by omega) L.length)
          obtain ⟨x, hx⟩ : ∃ x, x = cnt lf P k qo := ⟨_, rfl⟩
          obtain ⟨y, hy⟩ : ∃ y, y = cnt lf P k qc := ⟨_, rfl⟩
          rw [← hx] at l0 n0
          rw [← hy] at l1 n1
          have HXY := Lib.hid (And.intro hx hy)
          obtain ⟨mk, hmk⟩ : ∃ mk, mk = (rw L qo).m := ⟨_, rfl⟩
          rw [← hmk] at s0 t0
          have hbz : w4.heap.size ≤ wr.heap.size := hb.size
          have hqbb : q < wr.heap.size := hql
          clear ho hb hat hqf f4 f5 f6 hx hy hmk hq1 s1 s3 t1 t2 hPk
          have d1 : decide ((qo : Int) < 0) = false := by simp
          have d2 : decide ((qo : Int) ≥ (qc : Int)) = false := by simp; omega
          have d3 : decide (qc ≤ qo) = false := by simp; omega
          have d4 : decide ((qc : Int) ≥ (L.length : Int)) = false := by simp; omega
          have d5 : decide (L.length ≤ qc) = false := by simp; omega
          have d6 : (mk != mk) = false := by simp
          have z0 : (qo : Int) < (L.length : Int) := by omega
          have z1 : (qc : Int) < (L.length : Int) := by omega
          have z2 : (k : Int) < (P.length : Int) := by omega
          obtain ⟨bx, hbx⟩ : ∃ bx, bx = wr.heap.size := ⟨_, rfl⟩
          obtain ⟨w6, hw6⟩ : ∃ w6, w6 = wr.alloc (.cells #[.int .i64 qo, .int .i64 qc, .int .i64 qn] 33) := ⟨_, rfl⟩
          have H6 : Hid (Holds w6 bx 33 #[.int .i64 qo, .int .i64 qc, .int .i64 qn]) := by show Holds _ _ _ _; rw [hw6, hbx]; exact Holds.made wr 33 _
          have hb6 : Below wr.heap.size wr w6 := by rw [hw6]; exact (Below.refl _ _).alloc (Nat.le_refl _) _
          have B6 := Lib.hid (HB.out.trans (hb6.mono hbz))
          have O6 := Lib.hid (own_below HO.out hb6)
          have S0 := (hb6.cell (p := ⟨b, o + qo * 4, none⟩) (World.block_lt_of_cell? _ _ s0)).trans s0
          have S2 := (hb6.cell (p := ⟨b, o + qo * 4 + 2, none⟩) (World.block_lt_of_cell? _ _ s2)).trans s2
          have T0 := (hb6.cell (p := ⟨b, o + qc * 4, none⟩) (World.block_lt_of_cell? _ _ t0)).trans t0
          have T3 := (hb6.cell (p := ⟨b, o + qc * 4 + 3, none⟩) (World.block_lt_of_cell? _ _ t3)).trans t3
          have L0 := (hb6.cell (p := ⟨q, qo, none⟩) hql).trans l0
          have L1 := (hb6.cell (p := ⟨q, qc, none⟩) hql).trans l1
          have G0 := (own_at (own_below HO.out hb6) hnl)
          have X0 : w6.cell? ⟨bx, 0, none⟩ = some (.int .i64 qo) := H6.out.at 0
          have X1 : w6.cell? ⟨bx, 1, none⟩ = some (.int .i64 qc) := H6.out.at 1
          have X2 : w6.cell? ⟨bx, 2, none⟩ = some (.int .i64 qn) := H6.out.at 2
          obtain ⟨_, _, hq2, _, _, _, _, hqf6⟩ := G0
          have e3 := hq2
          injection e3 with e3 _ _
          injection e3 with e3
          injection e3 with e3
          subst e3
          have F0 := hqf6 qo
          have F1 := hqf6 qc
          have ne1 : q ≠ bx := by omega
          clear hq2 hqf6 s0 s2 t0 t3 l0 l1 g0 g1 hb6
          go_upto_region 13 with fail
          rw [← hbx, ← hw6]
          clear hbx hw6 p0 p1 p2
          have HST : Hid (∀ w8 w9 : World, w8.ownsRow w4.heap.size 3 1 (.slice (some ⟨q, 0, none⟩) L.length cL) L.length (lefts (upd (cnt lf P k) qo (x + qn)) L.length) → w9 = w8.setCell ⟨q, qc, none⟩ (.int .i64 ((y + qn : Nat) : Int)) → w9.ownsRow w4.heap.size 3 1 (.slice (some ⟨q, 0, none⟩) L.length cL) L.length (lefts (cnt lf P (k + 1)) L.length)) := by
            intro w8 w9 h8 h9
            rw [h9]
            have h := (h8.stored qc (.int .i64 ((y + qn : Nat) : Int))).1
            rw [lefts_set _ _ _ _ f2] at h
            have e := HStep.out
            rw [← HXY.out.1, ← HXY.out.2] at e
            rw [← e]
            exact h
          have hqn : qn ≤ 2 := by omega
          have hcat : upd (cnt lf P k) qo (x + qn) qc = y := by rw [upd_other _ _ _ _ (by omega), HXY.out.2]
          have HCat := Lib.hid hcat
          clear hcat
          rcases f3 with f3 | f3
          · subst f3
            go_quiet (fail)
            obtain ⟨w7, hw7⟩ : ∃ w7, w7 = w6.drewN nq := ⟨_, rfl⟩
            have O7 : Hid (w7.ownsRow w4.heap.size 3 1 (.slice (some ⟨q, 0, none⟩) L.length cL) L.length (lefts (cnt lf P k) L.length)) := by show World.ownsRow _ _ _ _ _ _ _; rw [hw7]; exact O6.out
            have B7 : Hid (Below w4.heap.size w4 w7) := by show Below _ _ _; rw [hw7]; exact below_dr2 B6.out nq
            have H7 : Hid (Holds w7 bx 33 #[.int .i64 qo, .int .i64 qc, .int .i64 ((1 : Nat) : Int)]) := by show Holds _ _ _ _; rw [hw7]; exact H6.out
            have X0 : w7.cell? ⟨bx, 0, none⟩ = some (.int .i64 qo) := H7.out.at 0
            have X2 : w7.cell? ⟨bx, 2, none⟩ = some (.int .i64 ((1 : Nat) : Int)) := H7.out.at 2
            have L0 : w7.cell? ⟨q, qo, none⟩ = some (.int .i64 x) := by rw [hw7]; exact L0
            have F0 : w7.frozen? ⟨q, qo, none⟩ = false := by rw [hw7]; exact F0
            rw [← hw7]
            clear hw7 H6 O6 B6 S0 S2 T0 T3 L1 F1
            go_upto_region 15 with fail
            go_region
            obtain ⟨w8, hw8⟩ : ∃ w8, w8 = (w7.setCell ⟨q, qo, none⟩ (.int .i64 ((x : Int) + 1))).drew := ⟨_, rfl⟩
            have O8 : Hid (w8.ownsRow w4.heap.size 3 1 (.slice (some ⟨q, 0, none⟩) L.length cL) L.length (lefts (upd (cnt lf P k) qo (x + 1)) L.length)) := by
              show World.ownsRow _ _ _ _ _ _ _
              have h := (O7.out.stored qo (.int .i64 ((x + 1 : Nat) : Int))).1
              rw [lefts_set _ _ _ _ hqol] at h
              rw [hw8]
              exact h.drew
            have H8 : Hid (Holds w8 bx 33 #[.int .i64 qo, .int .i64 qc, .int .i64 ((1 : Nat) : Int)]) := by show Holds _ _ _ _; rw [hw8]; exact H7.out.past (fun e => ne1 e.symm) _
            have B8 : Hid (Below w4.heap.size w4 w8) := by show Below _ _ _; rw [hw8]; exact (B7.out.setCell hqb _).drew
            have X1 : w8.cell? ⟨bx, 1, none⟩ = some (.int .i64 qc) := H8.out.at 1
            have X2 : w8.cell? ⟨bx, 2, none⟩ = some (.int .i64 ((1 : Nat) : Int)) := H8.out.at 2
            obtain ⟨_, _, hq8, _, _, _, hat8, hqf8⟩ := own_at O8.out hnl
            have e8 := hq8
            injection e8 with e8 _ _
            injection e8 with e8
            injection e8 with e8
            subst e8
            have L1 := hat8 qc _ (lefts_at _ _ qc f2)
            rw [HCat.out] at L1
            have F1 := hqf8 qc
            rw [← hw8]
            clear hw8 H7 O7 B7 X0 L0 F0 hq8 hat8 hqf8
            go_upto_region 16 with fail
            go_region
            obtain ⟨w9, hw9⟩ : ∃ w9, w9 = w8.setCell ⟨q, qc, none⟩ (.int .i64 ((y : Int) + 1)) := ⟨_, rfl⟩
            have O9 : Hid (w9.drew.ownsRow w4.heap.size 3 1 (.slice (some ⟨q, 0, none⟩) L.length cL) L.length (lefts (cnt lf P (k + 1)) L.length)) := (HST.out w8 w9 O8.out hw9).drew
            have B9 : Hid (Below w4.heap.size w4 w9.drew) := by show Below _ _ _; rw [hw9]; exact (B8.out.setCell hqb _).drew
            have e9 : (w8.setCell ⟨q, qc, none⟩ (.int .i64 ((y : Int) + 1))).drew = w9.drew := by rw [hw9]
            rw [e9]
            clear hw9 e9
            go_wp2_with fail
            go_roundw
            case rel => exact ⟨k + 1, by omega, by go_num, O9.out, B9.out⟩
            case measure => simp [intOf]; omega
          · subst f3
            go_quiet (fail)
            obtain ⟨w7, hw7⟩ : ∃ w7, w7 = w6.drewN nq := ⟨_, rfl⟩
            have O7 : Hid (w7.ownsRow w4.heap.size 3 1 (.slice (some ⟨q, 0, none⟩) L.length cL) L.length (lefts (cnt lf P k) L.length)) := by show World.ownsRow _ _ _ _ _ _ _; rw [hw7]; exact O6.out
            have B7 : Hid (Below w4.heap.size w4 w7) := by show Below _ _ _; rw [hw7]; exact below_dr2 B6.out nq
            have H7 : Hid (Holds w7 bx 33 #[.int .i64 qo, .int .i64 qc, .int .i64 ((2 : Nat) : Int)]) := by show Holds _ _ _ _; rw [hw7]; exact H6.out
            have X0 : w7.cell? ⟨bx, 0, none⟩ = some (.int .i64 qo) := H7.out.at 0
            have X2 : w7.cell? ⟨bx, 2, none⟩ = some (.int .i64 ((2 : Nat) : Int)) := H7.out.at 2
            have L0 : w7.cell? ⟨q, qo, none⟩ = some (.int .i64 x) := by rw [hw7]; exact L0
            have F0 : w7.frozen? ⟨q, qo, none⟩ = false := by rw [hw7]; exact F0
            rw [← hw7]
            clear hw7 H6 O6 B6 S0 S2 T0 T3 L1 F1
            go_upto_region 15 with fail
            go_region
            obtain ⟨w8, hw8⟩ : ∃ w8, w8 = (w7.setCell ⟨q, qo, none⟩ (.int .i64 ((x : Int) + 2))).drew := ⟨_, rfl⟩
            have O8 : Hid (w8.ownsRow w4.heap.size 3 1 (.slice (some ⟨q, 0, none⟩) L.length cL) L.length (lefts (upd (cnt lf P k) qo (x + 2)) L.length)) := by
              show World.ownsRow _ _ _ _ _ _ _
              have h := (O7.out.stored qo (.int .i64 ((x + 2 : Nat) : Int))).1
              rw [lefts_set _ _ _ _ hqol] at h
              rw [hw8]
              exact h.drew
            have H8 : Hid (Holds w8 bx 33 #[.int .i64 qo, .int .i64 qc, .int .i64 ((2 : Nat) : Int)]) := by show Holds _ _ _ _; rw [hw8]; exact H7.out.past (fun e => ne1 e.symm) _
            have B8 : Hid (Below w4.heap.size w4 w8) := by show Below _ _ _; rw [hw8]; exact (B7.out.setCell hqb _).drew
            have X1 : w8.cell? ⟨bx, 1, none⟩ = some (.int .i64 qc) := H8.out.at 1
            have X2 : w8.cell? ⟨bx, 2, none⟩ = some (.int .i64 ((2 : Nat) : Int)) := H8.out.at 2
            obtain ⟨_, _, hq8, _, _, _, hat8, hqf8⟩ := own_at O8.out hnl
            have e8 := hq8
            injection e8 with e8 _ _
            injection e8 with e8
            injection e8 with e8
            subst e8
            have L1 := hat8 qc _ (lefts_at _ _ qc f2)
            rw [HCat.out] at L1
            have F1 := hqf8 qc
            rw [← hw8]
            clear hw8 H7 O7 B7 X0 L0 F0 hq8 hat8 hqf8
            go_upto_region 16 with fail
            go_region
            obtain ⟨w9, hw9⟩ : ∃ w9, w9 = w8.setCell ⟨q, qc, none⟩ (.int .i64 ((y : Int) + 2)) := ⟨_, rfl⟩
            have O9 : Hid (w9.drew.ownsRow w4.heap.size 3 1 (.slice (some ⟨q, 0, none⟩) L.length cL) L.length (lefts (cnt lf P (k + 1)) L.length)) := (HST.out w8 w9 O8.out hw9).drew
            have B9 : Hid (Below w4.heap.size w4 w9.drew) := by show Below _ _ _; rw [hw9]; exact (B8.out.setCell hqb _).drew
            have e9 : (w8.setCell ⟨q, qc, none⟩ (.int .i64 ((y : Int) + 2))).drew = w9.drew := by rw [hw9]
            rw [e9]
            clear hw9 e9
            go_wp2_with fail
            go_roundw
            case rel => exact ⟨k + 1, by omega, by go_num, O9.out, B9.out⟩
            case measure => simp [intOf]; omega
        · have hk2 : k = P.length := by omega
          subst hk2
          clear ho hb
          go_wp2_with fail
          go_meet
          exact ⟨HO.out, HB.out⟩
    case rest =>
      obtain ⟨ho, hb⟩ := hcut
      have HO := Lib.hid ho
      have HB := Lib.hid hb
      have hbz : w4.heap.size ≤ wc.heap.size := hb.size
      have RC := Lib.hid (R4.out.below hb)
      have BC := Lib.hid (chain (Nat.le_refl _) B4.out hb)
      clear HO5 B5 ho hb
      go_wp2_with fail
      go_loopw [7] (fun v wr => ∃ i n : Nat, i ≤ L.length ∧ v = .int .i64 i ∧ wr = wc.drewN n) (fun v _ => L.length - (intOf v).toNat)
      case atStart => exact ⟨0, 0, Nat.zero_le _, rfl, rfl⟩
      case round =>
        obtain ⟨i, n, hi, rfl, rfl⟩ := hrel
        by_cases hlt : i < L.length
        · obtain ⟨b, o, rfl, hbb, s0, s1, s2, s3⟩ := RC.out.run (rw_of L i hlt)
          obtain ⟨q, cq, hq1, hqb, hql, _, hat, hqf⟩ := own_at HO.out (by omega)
          have e1 : AL = some ⟨q, 0, none⟩ := by injection hq1
          subst e1
          have l0 := hat i _ (lefts_at _ _ i hlt)
          rw [HEnd.out i] at l0
          have hin := num_in (rw L i)
          have hno := num_of (rw L i)
          obtain ⟨x, hx⟩ : ∃ x, x = num (rw L i) := ⟨_, rfl⟩
          obtain ⟨nn, hnn⟩ : ∃ nn, nn = (rw L i).n := ⟨_, rfl⟩
          rw [← hx] at l0 hin hno
          rw [← hnn] at s1 hin hno
          have hiz : (i : Int) < (L.length : Int) := by omega
          clear s0 s2 s3 hat hqf hq1 hx hnn
          by_cases hr : 1 ≤ nn ∧ nn ≤ 1048576
          · rw [hin hr] at l0
            obtain ⟨h1, h2⟩ := hr
            clear hin hno
            have d1 : decide (1 ≤ nn) = true := by simp; omega
            have d2 : decide (nn ≤ 1048576) = true := by simp; omega
            have d3 : (nn != nn) = false := by simp
            have d4 : decide (nn < 1) = false := by simp; omega
            have d5 : decide (1048576 < nn) = false := by simp; omega
            go_wp2_with fail
            go_quiet (fail)
            go_wp2_with fail
            go_roundw
            case rel => exact ⟨i + 1, n + nq, by omega, by go_num, rfl⟩
            case measure => simp [intOf]; omega
          · rw [hno hr] at l0
            clear hin hno
            have d3 : (((0 : Nat) : Int) != 0) = false := by simp
            by_cases h1 : nn < 1
            · have d1 : decide (1 ≤ nn) = false := by simp; omega
              have d4 : decide (nn < 1) = true := by simp; omega
              clear hr
              go_wp2_with fail
              go_quiet (fail)
              go_wp2_with fail
              go_roundw
              case rel => exact ⟨i + 1, n + nq, by omega, by go_num, rfl⟩
              case measure => simp [intOf]; omega
            · have h2 : 1048576 < nn := by omega
              have d1 : decide (1 ≤ nn) = true := by simp; omega
              have d2 : decide (nn ≤ 1048576) = false := by simp; omega
              have d4 : decide (nn < 1) = false := by simp; omega
              have d5 : decide (1048576 < nn) = true := by simp; omega
              clear hr
              go_wp2_with fail
              go_quiet (fail)
              go_wp2_with fail
              go_roundw
              case rel => exact ⟨i + 1, n + nq, by omega, by go_num, rfl⟩
              case measure => simp [intOf]; omega
        · go_wp2_with fail
          go_ret
          exact ⟨rfl, below_drewN BC.out n⟩

set_option maxRecDepth 100000 in
theorem lifted (os : Os) (started : os.Started) (H : Type) (enc : TypeId × Value → H) :
    ReturnsInHanded {} Try.checked os 4 .any (Rows.emphCountsSpec.pre6 enc Try.prog Try.f4 Rows.emphCountsRow.domain false) (Rows.emphCountsSpec.post enc Try.prog Try.f4 false true false false) := by
  refine returnsInHanded_of_change_sized (C := Try.checked) Try.own started (by kernel_rfl) Try.func4
    (ChangeSpec.witness6 (enc := enc) (C := Try.checked) false ⟨#[], #[.slice none 0 0], []⟩ 8 (by kernel_rfl) (by kernel_rfl) (by kernel_rfl) (by kernel_rfl)) ?_
  intro W base args ds gs before hval0 hW hcnd hsz0 _
  have hval : ∀ (j : Nat) t v, Try.f4.params[j]? = some t → args[j]? = some v → Value.okWide Try.prog W .any base t v := hval0
  have hW' := hW
  obtain ⟨p, q, hA0, hV, rfl, hfz, hnd⟩ := hW
  have hA : DataW.TrodAll enc Try.prog W 0 (fun _ => true) true Try.f4.params.toList args.toList ds p := hA0
  have hsz : (DataW.weightsEach Try.prog (Try.f4.params.toList ++ Rows.emphCountsSpec.plain.varTypes Try.prog) (ds ++ gs)).all (· ≤ reachBytes) = true := hsz0
  rw [Try.params4] at hA hval hsz
  obtain ⟨v0, vs0, d0, ds0, p0, q0, hargs, rfl, rfl, h0, r0⟩ := trodAll_cons hA
  obtain ⟨rfl, rfl, rfl⟩ := trodAll_nil r0
  obtain rfl : args = #[v0] := by cases args; simp_all
  obtain ⟨rfl, rfl⟩ := trodVars_none hV
  obtain ⟨A, c, L, rfl, hAc, hrd, hl, hm, hn⟩ := open_runs (okWide_slice Try.underlying22 (hval 0 22 v0 rfl rfl)) h0 (fun n hn => by
    have := List.all_eq_true.1 hsz n (DataW.weights_mem_each (j := 0) (t := 22) rfl rfl n hn)
    simpa using this)
  clear hA0 hval0
  simp only [List.append_nil] at hW'
  have hlt : ∀ x ∈ p0, x.block < W.heap.size := fun x hx => hW'.lt x (by simp [hx])
  refine (walk A c hAc L hl hm W hrd).mono fun e W' ⟨he, hg⟩ => ?_
  subst he
  exact ⟨_, rfl, _, _, _, [], p0 ++ [], [], hW', (trodAll_cons_mk (shut_bool Try.underlying4 _) trodAll_mk0), (trodAll_cons_mk (Below.trod Try.laidOut (by kernel_rfl) (of_decide_eq_true (by kernel_rfl)) h0 hg hlt) trodAll_mk0), rfl, hg.frame _, fun h => by cases h⟩

theorem over : Rows.emphCountsRow.holds Try.pinned (OpenSpec.ofChange Rows.emphCountsSpec) :=
  OpenClaim.holds_of_wide 4 Try.f4 rfl rfl rfl rfl rfl rfl rfl ⟨rfl, rfl, rfl, rfl, rfl⟩ rfl rfl rfl rfl rfl (by kernel_rfl) Try.func4 (by kernel_rfl)
    (of_decide_eq_true (by kernel_rfl)) (by unfold Func.isWrapper; first | (rw [if_pos (by decide +kernel)]; kernel_rfl) | (rw [if_neg (by decide +kernel)]; exact ⟨rfl, rfl⟩))
    (fun os started H enc _ => lifted os started H enc)

theorem proved : Rows.EmphCountsSaid :=
  over
#print axioms proved
end Go.Proofs.Ytldillhgpjmjpaa.emphCounts
