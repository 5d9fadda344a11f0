/-
  PROVED: contracts of mark.Rule, mark.Under, mark.Quote, mark.Closes and of the document's own Rule, Under, Quote, Closes: both sides answer 'ruleL', 'underL', 'quoteL', 'closesL'. Conditions: the text has at most 1000000 bytes.
-/
import Derived.Test.YtinmefdcgiiejaaDoorSmall
namespace Go.Proofs.YtinmefdcgiiejaaDoor
open Go.ChangeShapes Go.WideShapes Go.ChangeAt Go.RowKit
set_option linter.unusedVariables false

theorem below_drewN {B : Nat} {a b : World} (h : Below B a b) (q : Nat) : Below B a (b.drewN q) := h.trans ⟨rfl, rfl, rfl, Nat.le_refl _, fun _ _ => rfl⟩
/-- The byte, or a blank. -/
def okR (x b : UInt8) : Bool := b == x || isB b
theorem rule_val (s : ByteArray) (h : 0 < s.size) : ruleL (lst s) = (begL (lst s) [42, 45, 95] && (lst s).all (okR (s[0]'h)) && decide (3 ≤ (lst s).count (s[0]'h))) := by
  obtain ⟨m, hm⟩ := lst_cons s h
  rw [hm]
  generalize s[0]'h = x
  simp only [ruleL, begL, List.contains, List.elem]
  congr 2
  cases (x == 42) <;> cases (x == 45) <;> cases (x == 95) <;> rfl
/-- What the loops of both Rules go by. -/
def RRel (s : ByteArray) (x : UInt8) (i n : Value) (w wr : World) : Prop :=
  ∃ j q : Nat, j ≤ s.size ∧ i = .int .i64 j ∧ n = .int .i64 (((lst s).take j).count x : Nat) ∧ ((lst s).take j).all (okR x) = true ∧ wr = w.drewN q
theorem rule_step (l : List UInt8) (x b : UInt8) (j : Nat) (h : l[j]? = some b) : (l.take (j + 1)).count x = (l.take j).count x + (if b = x then 1 else 0) ∧ (l.take (j + 1)).all (okR x) = ((l.take j).all (okR x) && okR x b) := by
  obtain ⟨hj, rfl⟩ := List.getElem?_eq_some_iff.1 h
  rw [List.take_succ_eq_append_getElem hj, List.count_append, List.all_append]
  refine ⟨?_, by simp⟩
  congr 1
  by_cases e : l[j] = x
  · rw [if_pos e, e]; simp
  · rw [if_neg e, List.count_singleton]; simp [e]
theorem rule_bad (l : List UInt8) (x b : UInt8) (j : Nat) (h : l[j]? = some b) (hb : okR x b = false) : l.all (okR x) = false := by
  cases hc : l.all (okR x) with
  | false => rfl
  | true => rw [List.all_eq_true] at hc; rw [hc b (List.mem_of_getElem? h)] at hb; cases hb

set_option maxHeartbeats 2000000 in
theorem rule_any (s : ByteArray) (hs : s.size ≤ 1000000) (w : World) : Calls Tryd.prog 10 #[.string s] w fun e w' => e = .returned (.bool (ruleL (lst s))) ∧ Below w.heap.size w w' := by
  have HB : Hid (∀ W, Calls Tryd.prog 24 #[.string s, .string { data := #[42, 45, 95] }] W fun e w' => e = .returned (.bool (begL (lst s) [42, 45, 95])) ∧ w' = W) := fun W => begins_any s _ W
  by_cases h0 : 0 < s.size
  · have HV := Lib.hid (rule_val s h0)
    cases hbg : begL (lst s) [42, 45, 95] with
    | false =>
      rw [hbg] at HB HV
      clear hbg
      go_enter Tryd.func10, Tryd.ntmps10
      go_wp2_with fail
      refine (HB.out _).mono ?_
      rintro e w1 ⟨rfl, rfl⟩
      go_wp2_with fail
      go_ret
      exact ⟨ret_bool (by rw [HV.out]; rfl), Below.refl _ _⟩
    | true =>
      rw [hbg, Bool.true_and] at HV
      rw [hbg] at HB
      clear hbg
      go_enter Tryd.func10, Tryd.ntmps10
      go_wp2_with fail
      refine (HB.out _).mono ?_
      rintro e w1 ⟨rfl, rfl⟩
      clear HB
      go_wp2_with fail
      go_loopw [10, 3] (fun i n wr => RRel s (s[0]'h0) i n w1 wr) (fun i _ _ => s.size - (intOf i).toNat)
      case atStart => exact ⟨0, 0, Nat.zero_le _, rfl, rfl, rfl, rfl⟩
      case round =>
        obtain ⟨j, q, hj, rfl, rfl, hal, rfl⟩ := hrel
        have hcl : ((lst s).take j).count (s[0]'h0) ≤ j := Nat.le_trans List.count_le_length (by rw [List.length_take]; omega)
        have HA := Lib.hid hal
        clear hal
        by_cases hlt : j < s.size
        · have hx := Lib.data_getElem? s j hlt
          have hst := rule_step (lst s) (s[0]'h0) _ j hx
          have HN := Lib.hid (Nat.le_refl 0)
          have z0 : (0 : Int) ≤ (j : Int) := by omega
          have z1 : (j : Int) < (s.size : Int) := by omega
          have z2 : (0 : Int) < (s.size : Int) := by omega
          obtain ⟨h1, h2⟩ := hst
          by_cases he : (s[j]'hlt) = (s[0]'h0)
          · have c1 := eq_u8 _ _ he
            have HC : Hid (((lst s).take (j + 1)).count (s[0]'h0) = ((lst s).take j).count (s[0]'h0) + 1) := show _ = _ from by rw [h1, if_pos he]
            have HD : Hid (((lst s).take (j + 1)).all (okR (s[0]'h0)) = true) := show _ = _ from by rw [h2, HA.out]; simp [okR, he]
            clear h1 h2 hx he
            generalize ((lst s).take j).count (s[0]'h0) = k at *
            go_wp2_with fail
            go_quiet (fail)
            go_wp2_with fail
            go_roundw
            case rel => exact ⟨j + 1, q + nq, by omega, by go_num, by rw [HC.out]; go_num, HD.out, rfl⟩
            case measure => simp [intOf]; omega
          · have c1 := ne_u8 _ _ he
            have HC : Hid (((lst s).take (j + 1)).count (s[0]'h0) = ((lst s).take j).count (s[0]'h0)) := show _ = _ from by rw [h1, if_neg he]; rfl
            have HK := Lib.hid (blank_any (s[j]'hlt))
            cases hb : isB (s[j]'hlt) with
            | true =>
              rw [hb] at HK
              have HD : Hid (((lst s).take (j + 1)).all (okR (s[0]'h0)) = true) := show _ = _ from by rw [h2, HA.out]; simp [okR, hb]
              clear h1 h2 hx he hb
              generalize ((lst s).take j).count (s[0]'h0) = k at *
              go_wp2_with fail
              go_quiet (fail)
              go_wp2_with fail
              refine (HK.out _).mono ?_
              rintro e w2 ⟨rfl, rfl⟩
              go_wp2_with fail
              go_roundw
              case rel => exact ⟨j + 1, q + nq, by omega, by go_num, by rw [HC.out], HD.out, rfl⟩
              case measure => simp [intOf]; omega
            | false =>
              rw [hb] at HK
              have HD : Hid ((lst s).all (okR (s[0]'h0)) = false) := rule_bad (lst s) _ _ j hx (by simp [okR, hb, he])
              clear h1 h2 hx he hb
              generalize ((lst s).take j).count (s[0]'h0) = k at *
              go_wp2_with fail
              go_quiet (fail)
              go_wp2_with fail
              refine (HK.out _).mono ?_
              rintro e w2 ⟨rfl, rfl⟩
              go_wp2_with fail
              go_ret
              exact ⟨ret_bool (by rw [HV.out, HD.out]; rfl), below_drewN (Below.refl _ _) _⟩
        · have HT : Hid ((lst s).take j = lst s) := List.take_of_length_le (by rw [lst_size]; omega)
          have HF : Hid (ruleL (lst s) = decide (3 ≤ ((lst s).take j).count (s[0]'h0))) := show _ = _ from by
            have ha := HA.out
            rw [HT.out] at ha
            rw [HV.out, HT.out, ha, Bool.true_and]
          generalize ((lst s).take j).count (s[0]'h0) = k at *
          go_wp2_with fail
          go_ret
          exact ⟨ret_bool (by rw [HF.out, decide_eq_decide]; omega), below_drewN (Below.refl _ _) _⟩
  · have HV : Hid (begL (lst s) [42, 45, 95] = false) := show _ = _ from by rw [lst_nil s (by omega)]; rfl
    have HW : Hid (ruleL (lst s) = false) := show _ = _ from by rw [lst_nil s (by omega)]; rfl
    rw [HV.out] at HB
    go_enter Tryd.func10, Tryd.ntmps10
    go_wp2_with fail
    refine (HB.out _).mono ?_
    rintro e w1 ⟨rfl, rfl⟩
    go_wp2_with fail
    go_ret
    exact ⟨ret_bool (by rw [HW.out]), Below.refl _ _⟩

theorem u8_ne (x : UInt8) (k : Nat) (hk : k < 256) (h : x ≠ k.toUInt8) : ((x.toNat : Int) != (k : Int)) = true := by
  have : (x.toNat : Int) ≠ (k : Int) := fun e => h (UInt8.toNat_inj.1 (by simp; omega))
  simpa using this
theorem beg_rule (s : ByteArray) (h : 0 < s.size) : begL (lst s) [42, 45, 95] = true ↔ (s[0]'h) = 42 ∨ (s[0]'h) = 45 ∨ (s[0]'h) = 95 := by
  obtain ⟨m, hm⟩ := lst_cons s h
  rw [hm]
  simp [begL]

set_option maxHeartbeats 4000000 in
theorem refRule_any (s : ByteArray) (hs : s.size ≤ 1000000) (w : World) : Calls Tryd.prog 11 #[.string s] w fun e w' => e = .returned (.bool (ruleL (lst s))) ∧ Below w.heap.size w w' := by
  by_cases h0 : 0 < s.size
  · have HV := Lib.hid (rule_val s h0)
    have hem := emp_no s h0
    cases hbg : begL (lst s) [42, 45, 95] with
    | false =>
      rw [hbg] at HV
      have hx : ¬ ((s[0]'h0) = 42 ∨ (s[0]'h0) = 45 ∨ (s[0]'h0) = 95) := fun h => by rw [(beg_rule s h0).2 h] at hbg; cases hbg
      have d1 : (((s[0]'h0).toNat : Int) != 42) = true := u8_ne (s[0]'h0) 42 (by omega) (fun h => hx (.inl h))
      have d2 : (((s[0]'h0).toNat : Int) != 45) = true := u8_ne (s[0]'h0) 45 (by omega) (fun h => hx (.inr (.inl h)))
      have d3 : (((s[0]'h0).toNat : Int) != 95) = true := u8_ne (s[0]'h0) 95 (by omega) (fun h => hx (.inr (.inr h)))
      clear hbg hx
      go_enter Tryd.func11, Tryd.ntmps11
      go_wp2_with fail
      go_ret
      exact ⟨ret_bool (by rw [HV.out]; rfl), Below.refl _ _⟩
    | true =>
      rw [hbg, Bool.true_and] at HV
      have hD : (((s[0]'h0).toNat : Int) != 42) = false ∨ ((((s[0]'h0).toNat : Int) != 42) = true ∧ (((s[0]'h0).toNat : Int) != 45) = false) ∨ ((((s[0]'h0).toNat : Int) != 42) = true ∧ (((s[0]'h0).toNat : Int) != 45) = true ∧ (((s[0]'h0).toNat : Int) != 95) = false) := by
        rcases (beg_rule s h0).1 hbg with h | h | h
        · exact .inl (by rw [h]; rfl)
        · exact .inr (.inl (by rw [h]; exact ⟨rfl, rfl⟩))
        · exact .inr (.inr (by rw [h]; exact ⟨rfl, rfl, rfl⟩))
      clear hbg
      rcases hD with d1 | ⟨d1, d2⟩ | ⟨d1, d2, d3⟩
      all_goals
        go_enter Tryd.func11, Tryd.ntmps11
        go_wp2_with fail
        go_loopw [4, 3] (fun i n wr => RRel s (s[0]'h0) i n w wr) (fun i _ _ => s.size - (intOf i).toNat)
        case atStart => exact ⟨0, 0, Nat.zero_le _, rfl, rfl, rfl, rfl⟩
        case round =>
          obtain ⟨j, q, hj, rfl, rfl, hal, rfl⟩ := hrel
          have hcl : ((lst s).take j).count (s[0]'h0) ≤ j := Nat.le_trans List.count_le_length (by rw [List.length_take]; omega)
          have HA := Lib.hid hal
          clear hal
          by_cases hlt : j < s.size
          · have hx := Lib.data_getElem? s j hlt
            have hst := rule_step (lst s) (s[0]'h0) _ j hx
            have HN := Lib.hid (Nat.le_refl 0)
            have z0 : (0 : Int) ≤ (j : Int) := by omega
            have z1 : (j : Int) < (s.size : Int) := by omega
            have z2 : (0 : Int) < (s.size : Int) := by omega
            obtain ⟨h1, h2⟩ := hst
            by_cases he : (s[j]'hlt) = (s[0]'h0)
            · have c1 := eq_u8 _ _ he
              have HC : Hid (((lst s).take (j + 1)).count (s[0]'h0) = ((lst s).take j).count (s[0]'h0) + 1) := show _ = _ from by rw [h1, if_pos he]
              have HD : Hid (((lst s).take (j + 1)).all (okR (s[0]'h0)) = true) := show _ = _ from by rw [h2, HA.out]; simp [okR, he]
              clear h1 h2 hx he
              generalize ((lst s).take j).count (s[0]'h0) = k at *
              go_wp2_with fail
              go_quiet (fail)
              go_wp2_with fail
              go_roundw
              case rel => exact ⟨j + 1, q + nq, by omega, by go_num, by rw [HC.out]; go_num, HD.out, rfl⟩
              case measure => simp [intOf]; omega
            · have c1 := ne_u8 _ _ he
              have HC : Hid (((lst s).take (j + 1)).count (s[0]'h0) = ((lst s).take j).count (s[0]'h0)) := show _ = _ from by rw [h1, if_neg he]; rfl
              have HK := Lib.hid (refBlank_any (s[j]'hlt))
              cases hb : isB (s[j]'hlt) with
              | true =>
                rw [hb] at HK
                have HD : Hid (((lst s).take (j + 1)).all (okR (s[0]'h0)) = true) := show _ = _ from by rw [h2, HA.out]; simp [okR, hb]
                clear h1 h2 hx he hb
                generalize ((lst s).take j).count (s[0]'h0) = k at *
                go_wp2_with fail
                go_quiet (fail)
                go_wp2_with fail
                refine (HK.out _).mono ?_
                rintro e w2 ⟨rfl, rfl⟩
                go_wp2_with fail
                go_roundw
                case rel => exact ⟨j + 1, q + nq, by omega, by go_num, by rw [HC.out], HD.out, rfl⟩
                case measure => simp [intOf]; omega
              | false =>
                rw [hb] at HK
                have HD : Hid ((lst s).all (okR (s[0]'h0)) = false) := rule_bad (lst s) _ _ j hx (by simp [okR, hb, he])
                clear h1 h2 hx he hb
                generalize ((lst s).take j).count (s[0]'h0) = k at *
                go_wp2_with fail
                go_quiet (fail)
                go_wp2_with fail
                refine (HK.out _).mono ?_
                rintro e w2 ⟨rfl, rfl⟩
                go_wp2_with fail
                go_ret
                exact ⟨ret_bool (by rw [HV.out, HD.out]; rfl), below_drewN (Below.refl _ _) _⟩
          · have HT : Hid ((lst s).take j = lst s) := List.take_of_length_le (by rw [lst_size]; omega)
            have HF : Hid (ruleL (lst s) = decide (3 ≤ ((lst s).take j).count (s[0]'h0))) := show _ = _ from by
              have ha := HA.out
              rw [HT.out] at ha
              rw [HV.out, HT.out, ha, Bool.true_and]
            generalize ((lst s).take j).count (s[0]'h0) = k at *
            go_wp2_with fail
            go_ret
            exact ⟨ret_bool (by rw [HF.out, decide_eq_decide]; omega), below_drewN (Below.refl _ _) _⟩
  · have hem := emp_yes s (by omega)
    have HW : Hid (ruleL (lst s) = false) := show _ = _ from by rw [lst_nil s (by omega)]; rfl
    go_enter Tryd.func11, Tryd.ntmps11
    go_wp2_with fail
    go_ret
    exact ⟨ret_bool (by rw [HW.out]), Below.refl _ _⟩

theorem under_any (s : ByteArray) (hs : s.size ≤ 1000000) (w : World) : Calls Tryd.prog 12 #[.string s] w fun e w' => e = .returned (.int .i64 (underL (lst s))) ∧ Below w.heap.size w w' := by
  have H1 := Lib.hid (alone_any s 61 hs)
  have H2 := Lib.hid (alone_any s 45 hs)
  unfold underL
  generalize aloneL (lst s) 61 = a at *
  generalize aloneL (lst s) 45 = b at *
  by_cases ha : 0 < a
  · rw [if_pos ha]
    go_enter Tryd.func12, Tryd.ntmps12
    go_wp2_with fail
    refine (H1.out _).mono ?_
    rintro e w1 ⟨rfl, hb1⟩
    have B1 := Lib.hid hb1
    clear hb1
    go_wp2_with fail
    go_ret
    exact ⟨rfl, B1.out⟩
  · rw [if_neg ha]
    by_cases hb : 0 < b
    · rw [if_pos hb]
      go_enter Tryd.func12, Tryd.ntmps12
      go_wp2_with fail
      refine (H1.out _).mono ?_
      rintro e w1 ⟨rfl, hb1⟩
      have B1 := Lib.hid hb1
      clear hb1
      go_wp2_with fail
      refine (H2.out _).mono ?_
      rintro e w2 ⟨rfl, hb2⟩
      have B2 := Lib.hid hb2
      clear hb2
      go_wp2_with fail
      go_ret
      exact ⟨rfl, chain (Nat.le_refl _) B1.out B2.out⟩
    · rw [if_neg hb]
      go_enter Tryd.func12, Tryd.ntmps12
      go_wp2_with fail
      refine (H1.out _).mono ?_
      rintro e w1 ⟨rfl, hb1⟩
      have B1 := Lib.hid hb1
      clear hb1
      go_wp2_with fail
      refine (H2.out _).mono ?_
      rintro e w2 ⟨rfl, hb2⟩
      have B2 := Lib.hid hb2
      clear hb2
      go_wp2_with fail
      go_ret
      exact ⟨rfl, chain (Nat.le_refl _) B1.out B2.out⟩

theorem alone_pos (l : List UInt8) (c : UInt8) : 0 < aloneL l c ↔ 0 < cnt l c ∧ (l.drop (cnt l c)).all isB = true := by
  unfold aloneL
  split <;> rename_i h
  · simp [h]
  · simp [h]
set_option maxHeartbeats 8000000 in
theorem refUnder_any (s : ByteArray) (hs : s.size ≤ 1000000) (w : World) : Calls Tryd.prog 13 #[.string s] w fun e w' => e = .returned (.int .i64 (underL (lst s))) ∧ w' = w := by
  have H1 := Lib.hid (many_any s 61 hs)
  have H2 := Lib.hid (many_any s 45 hs)
  have q1 : cnt (lst s) 61 ≤ s.size := by rw [← lst_size]; exact cnt_le _ _
  have q2 : cnt (lst s) 45 ≤ s.size := by rw [← lst_size]; exact cnt_le _ _
  have H3 := Lib.hid (blanks_any s (cnt (lst s) 61) q1 hs)
  have H4 := Lib.hid (blanks_any s (cnt (lst s) 45) q2 hs)
  have HU : Hid (underL (lst s) = if 0 < cnt (lst s) 61 ∧ ((lst s).drop (cnt (lst s) 61)).all isB = true then 1 else if 0 < cnt (lst s) 45 ∧ ((lst s).drop (cnt (lst s) 45)).all isB = true then 2 else 0) := show _ = _ from by
    unfold underL
    simp only [alone_pos]
  generalize underL (lst s) = u at *
  generalize ((lst s).drop (cnt (lst s) 61)).all isB = v1 at *
  generalize ((lst s).drop (cnt (lst s) 45)).all isB = v2 at *
  generalize cnt (lst s) 61 = a at *
  generalize cnt (lst s) 45 = b at *
  by_cases ha : 0 < a
  · cases v1
    · skip
      by_cases hb : 0 < b
      · cases v2
        · skip
          go_enter Tryd.func13, Tryd.ntmps13
          go_wp2_with fail
          refine (H1.out _).mono ?_
          rintro e w1 ⟨rfl, rfl⟩
          go_wp2_with fail
          refine (H2.out _).mono ?_
          rintro e w1 ⟨rfl, rfl⟩
          go_wp2_with fail
          refine (H3.out _).mono ?_
          rintro e w1 ⟨rfl, rfl⟩
          go_wp2_with fail
          refine (H4.out _).mono ?_
          rintro e w1 ⟨rfl, rfl⟩
          go_wp2_with fail
          go_ret
          exact ⟨ret_int (by rw [HU.out]; simp [ha, hb]), rfl⟩
        · skip
          go_enter Tryd.func13, Tryd.ntmps13
          go_wp2_with fail
          refine (H1.out _).mono ?_
          rintro e w1 ⟨rfl, rfl⟩
          go_wp2_with fail
          refine (H2.out _).mono ?_
          rintro e w1 ⟨rfl, rfl⟩
          go_wp2_with fail
          refine (H3.out _).mono ?_
          rintro e w1 ⟨rfl, rfl⟩
          go_wp2_with fail
          refine (H4.out _).mono ?_
          rintro e w1 ⟨rfl, rfl⟩
          go_wp2_with fail
          go_ret
          exact ⟨ret_int (by rw [HU.out]; simp [ha, hb]), rfl⟩
      · skip
        go_enter Tryd.func13, Tryd.ntmps13
        go_wp2_with fail
        refine (H1.out _).mono ?_
        rintro e w1 ⟨rfl, rfl⟩
        go_wp2_with fail
        refine (H2.out _).mono ?_
        rintro e w1 ⟨rfl, rfl⟩
        go_wp2_with fail
        refine (H3.out _).mono ?_
        rintro e w1 ⟨rfl, rfl⟩
        go_wp2_with fail
        go_ret
        exact ⟨ret_int (by rw [HU.out]; simp [ha, hb]), rfl⟩
    · have hb := ha
      go_enter Tryd.func13, Tryd.ntmps13
      go_wp2_with fail
      refine (H1.out _).mono ?_
      rintro e w1 ⟨rfl, rfl⟩
      go_wp2_with fail
      refine (H2.out _).mono ?_
      rintro e w1 ⟨rfl, rfl⟩
      go_wp2_with fail
      refine (H3.out _).mono ?_
      rintro e w1 ⟨rfl, rfl⟩
      go_wp2_with fail
      go_ret
      exact ⟨ret_int (by rw [HU.out]; simp [ha]), rfl⟩
  · skip
    by_cases hb : 0 < b
    · cases v2
      · skip
        go_enter Tryd.func13, Tryd.ntmps13
        go_wp2_with fail
        refine (H1.out _).mono ?_
        rintro e w1 ⟨rfl, rfl⟩
        go_wp2_with fail
        refine (H2.out _).mono ?_
        rintro e w1 ⟨rfl, rfl⟩
        go_wp2_with fail
        refine (H4.out _).mono ?_
        rintro e w1 ⟨rfl, rfl⟩
        go_wp2_with fail
        go_ret
        exact ⟨ret_int (by rw [HU.out]; simp [ha, hb]), rfl⟩
      · skip
        go_enter Tryd.func13, Tryd.ntmps13
        go_wp2_with fail
        refine (H1.out _).mono ?_
        rintro e w1 ⟨rfl, rfl⟩
        go_wp2_with fail
        refine (H2.out _).mono ?_
        rintro e w1 ⟨rfl, rfl⟩
        go_wp2_with fail
        refine (H4.out _).mono ?_
        rintro e w1 ⟨rfl, rfl⟩
        go_wp2_with fail
        go_ret
        exact ⟨ret_int (by rw [HU.out]; simp [ha, hb]), rfl⟩
    · skip
      go_enter Tryd.func13, Tryd.ntmps13
      go_wp2_with fail
      refine (H1.out _).mono ?_
      rintro e w1 ⟨rfl, rfl⟩
      go_wp2_with fail
      refine (H2.out _).mono ?_
      rintro e w1 ⟨rfl, rfl⟩
      go_wp2_with fail
      go_ret
      exact ⟨ret_int (by rw [HU.out]; simp [ha, hb]), rfl⟩

theorem quote_any (s : ByteArray) (w : World) : Calls Tryd.prog 14 #[.string s] w fun e w' => e = .returned (.bool (quoteL (lst s))) ∧ w' = w := by
  have HB : Hid (∀ W, Calls Tryd.prog 24 #[.string s, .string { data := #[62] }] W fun e w' => e = .returned (.bool (quoteL (lst s))) ∧ w' = W) := fun W => begins_any s _ W
  generalize quoteL (lst s) = v at *
  go_enter Tryd.func14, Tryd.ntmps14
  go_wp2_with fail
  refine (HB.out _).mono ?_
  rintro e w1 ⟨rfl, rfl⟩
  go_wp2_with fail
  go_ret
  exact ⟨rfl, rfl⟩
theorem refQuote_any (s : ByteArray) (w : World) : Calls Tryd.prog 15 #[.string s] w fun e w' => e = .returned (.bool (quoteL (lst s))) ∧ w' = w := by
  by_cases h0 : 0 < s.size
  · have HV : Hid (quoteL (lst s) = (((s[0]'h0).toNat : Int) == 62)) := show _ = _ from by
      obtain ⟨m, hm⟩ := lst_cons s h0
      rw [hm]
      generalize s[0]'h0 = x
      by_cases e : x = 62
      · subst e; rfl
      · have := ne_u8 x 62 e
        rw [show ((62 : UInt8).toNat : Int) = 62 from rfl] at this
        rw [this]
        simp [quoteL, begL, e]
    generalize quoteL (lst s) = v at *
    go_enter Tryd.func15, Tryd.ntmps15
    go_wp2_with fail
    all_goals go_ret
    all_goals exact ⟨ret_bool (by rw [HV.out] <;> simp [*]), rfl⟩
  · have HV : Hid (quoteL (lst s) = false) := show _ = _ from by rw [lst_nil s (by omega)]; rfl
    generalize quoteL (lst s) = v at *
    go_enter Tryd.func15, Tryd.ntmps15
    go_wp2_with fail
    go_ret
    exact ⟨ret_bool (by rw [HV.out]), rfl⟩

theorem closes_any (s : ByteArray) (c : UInt8) (n : Int) (hs : s.size ≤ 1000000) (w : World) : Calls Tryd.prog 20 #[.string s, .int .u8 c.toNat, .int .i64 n] w fun e w' => e = .returned (.bool (closesL (lst s) c n)) ∧ Below w.heap.size w w' := by
  have H1 := Lib.hid (alone_any s c hs)
  unfold closesL
  generalize aloneL (lst s) c = a at *
  by_cases hn : 1 ≤ n
  · go_enter Tryd.func20, Tryd.ntmps20
    go_wp2_with fail
    refine (H1.out _).mono ?_
    rintro e w1 ⟨rfl, hb1⟩
    have B1 := Lib.hid hb1
    clear hb1
    go_wp2_with fail
    go_ret
    exact ⟨ret_bool (by simp [hn]), B1.out⟩
  · go_enter Tryd.func20, Tryd.ntmps20
    go_wp2_with fail
    go_ret
    exact ⟨ret_bool (by simp; omega), Below.refl _ _⟩
theorem refCloses_any (s : ByteArray) (c : UInt8) (n : Int) (hs : s.size ≤ 1000000) (w : World) : Calls Tryd.prog 21 #[.string s, .int .u8 c.toNat, .int .i64 n] w fun e w' => e = .returned (.bool (closesL (lst s) c n)) ∧ w' = w := by
  have H1 := Lib.hid (many_any s c hs)
  have q1 : cnt (lst s) c ≤ s.size := by rw [← lst_size]; exact cnt_le _ _
  have H3 := Lib.hid (blanks_any s (cnt (lst s) c) q1 hs)
  have HU : Hid (closesL (lst s) c n = (decide (1 ≤ n) && decide (n ≤ (cnt (lst s) c : Int)) && ((lst s).drop (cnt (lst s) c)).all isB)) := show _ = _ from by
    unfold closesL aloneL
    by_cases h1 : 1 ≤ n
    · cases hb : ((lst s).drop (cnt (lst s) c)).all isB with
      | true => simp
      | false => simp; omega
    · simp [h1]
  generalize closesL (lst s) c n = u at *
  generalize ((lst s).drop (cnt (lst s) c)).all isB = v1 at *
  generalize cnt (lst s) c = a at *
  by_cases hn : 1 ≤ n
  · by_cases ha : n ≤ (a : Int)
    · go_enter Tryd.func21, Tryd.ntmps21
      go_wp2_with fail
      refine (H1.out _).mono ?_
      rintro e w1 ⟨rfl, rfl⟩
      go_wp2_with fail
      refine (H3.out _).mono ?_
      rintro e w1 ⟨rfl, rfl⟩
      go_wp2_with fail
      go_ret
      exact ⟨ret_bool (by rw [HU.out]; simp [hn, ha]), rfl⟩
    · go_enter Tryd.func21, Tryd.ntmps21
      go_wp2_with fail
      refine (H1.out _).mono ?_
      rintro e w1 ⟨rfl, rfl⟩
      go_wp2_with fail
      go_ret
      exact ⟨ret_bool (by rw [HU.out]; simp; intros; omega), rfl⟩
  · go_enter Tryd.func21, Tryd.ntmps21
    go_wp2_with fail
    refine (H1.out _).mono ?_
    rintro e w1 ⟨rfl, rfl⟩
    go_wp2_with fail
    go_ret
    exact ⟨ret_bool (by rw [HU.out]; simp; intros; omega), rfl⟩
end Go.Proofs.YtinmefdcgiiejaaDoor
