/-
  PROVED: contracts of mark.leadingNumber and mark.Item: 'digs', 'val', 'itemL'. Conditions: the text has at most 1000000 bytes.
-/
import Derived.Test.YtinmefdcgiiejaaDoorSmall
namespace Go.Proofs.YtinmefdcgiiejaaDoor
open Go.ChangeShapes Go.WideShapes Go.ChangeAt Go.RowKit
set_option linter.unusedVariables false

theorem val_step (l : List UInt8) (j : Nat) (b : UInt8) (h : l[j]? = some b) : val l (j + 1) = val l j * 10 + (b.toNat - 48) := by
  obtain ⟨hj, rfl⟩ := List.getElem?_eq_some_iff.1 h
  unfold val
  rw [List.take_succ_eq_append_getElem hj, List.foldl_append]
  rfl
theorem isD_iff (b : UInt8) : isD b = true ↔ 48 ≤ b.toNat ∧ b.toNat ≤ 57 := by simp [isD]
/-- What the loops over an item's digits go by. -/
def DRel (s : ByteArray) (i v : Value) (w wr : World) : Prop :=
  ∃ j : Nat, j ≤ s.size ∧ j ≤ 10 ∧ i = .int .i64 j ∧ v = .int .i64 (val (lst s) j) ∧ val (lst s) j < 10 ^ j ∧ upL isD (lst s) j = upL isD (lst s) 0 ∧ wr = w
theorem digs_stop (l : List UInt8) (j : Nat) (hj : j ≤ 10) (hu : upL isD l j = upL isD l 0) (h : ∀ x, l[j]? = some x → isD x = false) : digs l = j := by
  unfold digs
  rw [← hu, upL_stop isD l j h]
  omega
theorem digs_ten (l : List UInt8) (hj : 10 ≤ l.length) (hu : upL isD l 10 = upL isD l 0) : digs l = 10 := by
  unfold digs
  have := (upL_bd isD l 10 hj).1
  omega
theorem digs_le (l : List UInt8) : digs l ≤ l.length := by
  have := (upL_bd isD l 0 (Nat.zero_le _)).2
  unfold digs
  omega
theorem pow_ten (j : Nat) (h : j ≤ 10) : 10 ^ j ≤ 10000000000 := by
  have := Nat.pow_le_pow_right (n := 10) (by omega) h
  omega

set_option maxHeartbeats 2000000 in
theorem lead_any (s : ByteArray) (hs : s.size ≤ 1000000) (w : World) : Calls Tryd.prog 38 #[.string s] w fun e w' => e = .returned (.tuple #[.int .i64 (digs (lst s)), .int .i64 (val (lst s) (digs (lst s)))]) ∧ w' = w := by
  go_enter Tryd.func38, Tryd.ntmps38
  go_wp2_with fail
  go_loopw [4, 5] (fun i v wr => DRel s i v w wr) (fun i _ _ => s.size - (intOf i).toNat)
  case atStart => exact ⟨0, Nat.zero_le _, Nat.zero_le _, rfl, rfl, by simp [val], rfl, rfl⟩
  case round =>
    obtain ⟨j, hj, hj9, rfl, rfl, hv, hu, rfl⟩ := hrel
    have hp := pow_ten j hj9
    have HU := Lib.hid hu
    clear hu
    by_cases hlt : j < s.size
    · have hx := Lib.data_getElem? s j hlt
      by_cases hn : j ≤ 9
      · cases hd : isD (s[j]'hlt) with
        | true =>
          have hb := (isD_iff _).1 hd
          have HN := Lib.hid (upL_step isD (lst s) j _ hx hd)
          have HS := Lib.hid (val_step (lst s) j _ hx)
          have HP : Hid (val (lst s) (j + 1) < 10 ^ (j + 1)) := show _ < _ from by
            rw [HS.out, Nat.pow_succ]
            omega
          obtain ⟨hb1, hb2⟩ := hb
          have hvb : val (lst s) j < 10000000000 := by omega
          clear hd hx hv hp
          generalize val (lst s) j = v at *
          go_wp2_with fail
          go_roundw
          case rel => exact ⟨j + 1, by omega, by omega, by go_num, by rw [HS.out]; go_num, HP.out, HN.out.trans HU.out, rfl⟩
          case measure => simp [intOf]; omega
        | false =>
          have hb : ¬ (48 ≤ (s[j]'hlt).toNat ∧ (s[j]'hlt).toNat ≤ 57) := fun h => by rw [(isD_iff _).2 h] at hd; cases hd
          have HD := Lib.hid (digs_stop (lst s) j hj9 HU.out (fun x h => by rw [hx] at h; cases h; exact hd))
          clear hd hx hv hp
          by_cases h48 : 48 ≤ (s[j]'hlt).toNat
          · have h57 : 57 < (s[j]'hlt).toNat := by omega
            clear hb
            go_wp2_with fail
            go_ret2
            exact ⟨by rw [HD.out]; rfl, rfl⟩
          · clear hb
            go_wp2_with fail
            go_ret2
            exact ⟨by rw [HD.out]; rfl, rfl⟩
      · obtain rfl : j = 10 := by omega
        have HD := Lib.hid (digs_ten (lst s) (by rw [lst_size]; omega) HU.out)
        clear hx hv hp hn
        go_wp2_with fail
        go_ret2
        exact ⟨by rw [HD.out]; rfl, rfl⟩
    · have HD := Lib.hid (digs_stop (lst s) j hj9 HU.out (fun x h => by rw [List.getElem?_eq_none (by rw [lst_size]; omega)] at h; cases h))
      clear hv hp
      go_wp2_with fail
      go_ret2
      exact ⟨by rw [HD.out]; rfl, rfl⟩

/-- An item's mark, number and bytes. -/
def itemV (l : List UInt8) : Value := .tuple #[.int .u8 ((itemL l).1.toNat : Int), .int .i64 (itemL l).2.1, .int .i64 ((itemL l).2.2 : Nat)]
def item0 : Value := .tuple #[.int .u8 0, .int .i64 0, .int .i64 0]
theorem itemV_one (l : List UInt8) (h : begL l [45, 43, 42] = true ∧ endsL (l.drop 1) = true) : itemV l = .tuple #[.int .u8 ((l.headD 0).toNat : Int), .int .i64 (-1), .int .i64 1] := by
  unfold itemV itemL
  rw [if_pos h]
  rfl
theorem itemV_no (l : List UInt8) (h : ¬ (begL l [45, 43, 42] = true ∧ endsL (l.drop 1) = true)) (hi : ¬ isItem l) : itemV l = item0 := by
  unfold itemV itemL
  rw [if_neg h, if_neg hi]
  rfl
theorem itemV_num (l : List UInt8) (h : ¬ (begL l [45, 43, 42] = true ∧ endsL (l.drop 1) = true)) (hi : isItem l) : itemV l = .tuple #[.int .u8 (((l.drop (digs l)).headD 0).toNat : Int), .int .i64 (val l (digs l)), .int .i64 ((digs l + 1 : Nat) : Int)] := by
  unfold itemV itemL
  rw [if_neg h, if_pos hi]
theorem head_is (s : ByteArray) (h : 0 < s.size) : (lst s).headD 0 = s[0]'h := by
  obtain ⟨m, hm⟩ := lst_cons s h
  rw [hm]
  rfl
theorem drop_head (s : ByteArray) (k : Nat) (h : k < s.size) : ((lst s).drop k).headD 0 = s[k]'h := by
  have hx := Lib.data_getElem? s k h
  obtain ⟨hj, he⟩ := List.getElem?_eq_some_iff.1 hx
  rw [List.drop_eq_getElem_cons hj, ← he]
  rfl
/-- Where the first byte is no digit there are none. -/
theorem digs_none (l : List UInt8) (h : begL l [45, 43, 42] = true) : digs l = 0 := by
  refine digs_stop l 0 (Nat.zero_le _) rfl (fun x hx => ?_)
  cases l with
  | nil => cases hx
  | cons a m =>
    simp at hx
    subst hx
    simp [begL] at h
    rcases h with rfl | rfl | rfl <;> rfl

set_option maxHeartbeats 4000000 in
theorem item_any (s : ByteArray) (hs : s.size ≤ 1000000) (w : World) : Calls Tryd.prog 22 #[.string s] w fun e w' => e = .returned (itemV (lst s)) ∧ w' = w := by
  have HB : Hid (∀ W, Calls Tryd.prog 24 #[.string s, .string { data := #[45, 43, 42] }] W fun e w' => e = .returned (.bool (begL (lst s) [45, 43, 42])) ∧ w' = W) := fun W => begins_any s _ W
  have HL := Lib.hid (lead_any s hs)
  have hds : digs (lst s) ≤ s.size := by rw [← lst_size]; exact digs_le _
  have hdt : digs (lst s) ≤ 10 := Nat.min_le_left _ _
  cases hbg : begL (lst s) [45, 43, 42] with
  | true =>
    have h0 : 0 < s.size := by
      by_cases h : 0 < s.size
      · exact h
      · rw [lst_nil s (by omega)] at hbg; cases hbg
    have HE : Hid (∀ W, Calls Tryd.prog 31 #[.string (s.extract 1 s.size)] W fun e w' => e = .returned (.bool (endsL ((lst s).drop 1))) ∧ w' = W) := fun W => by
      have h := ends_any (s.extract 1 s.size) W
      rw [lst_from] at h
      exact h
    cases he : endsL ((lst s).drop 1) with
    | true =>
      have HV := Lib.hid (itemV_one (lst s) ⟨hbg, he⟩)
      rw [head_is s h0] at HV
      rw [he] at HE
      rw [hbg] at HB
      clear hbg he
      generalize itemV (lst s) = v at *
      go_enter Tryd.func22, Tryd.ntmps22
      go_wp2_with fail
      refine (HB.out _).mono ?_
      rintro e w1 ⟨rfl, rfl⟩
      go_wp2_with fail
      refine (HE.out _).mono ?_
      rintro e w1 ⟨rfl, rfl⟩
      go_wp2_with fail
      go_ret3
      exact ⟨(congrArg Ending.returned HV.out).symm, rfl⟩
    | false =>
      have hd := digs_none (lst s) hbg
      have HV := Lib.hid (itemV_no (lst s) (fun h => by rw [h.2] at he; cases he) (fun h => by have := h.1; omega))
      rw [hd] at HL
      rw [he] at HE
      rw [hbg] at HB
      clear hbg he hd hds hdt
      generalize itemV (lst s) = v at *
      generalize val (lst s) 0 = V at *
      go_enter Tryd.func22, Tryd.ntmps22
      go_wp2_with fail
      refine (HB.out _).mono ?_
      rintro e w1 ⟨rfl, rfl⟩
      go_wp2_with fail
      refine (HE.out _).mono ?_
      rintro e w1 ⟨rfl, rfl⟩
      go_wp2_with fail
      refine (HL.out _).mono ?_
      rintro e w1 ⟨rfl, rfl⟩
      go_wp2_with fail
      go_ret3
      exact ⟨(congrArg Ending.returned HV.out).symm, rfl⟩
  | false =>
    have hno : ¬ (begL (lst s) [45, 43, 42] = true ∧ endsL ((lst s).drop 1) = true) := fun h => by rw [h.1] at hbg; cases hbg
    have hN := itemV_no (lst s) hno
    have hY := itemV_num (lst s) hno
    have HC : Hid (∀ W, Calls Tryd.prog 24 #[.string (s.extract (digs (lst s)) s.size), .string { data := #[46, 41] }] W fun e w' => e = .returned (.bool (begL ((lst s).drop (digs (lst s))) [46, 41])) ∧ w' = W) := fun W => by
      have h := begins_any (s.extract (digs (lst s)) s.size) { data := #[46, 41] } W
      rw [lst_from] at h
      exact h
    have HD : Hid (∀ W, Calls Tryd.prog 31 #[.string (s.extract (digs (lst s) + 1) s.size)] W fun e w' => e = .returned (.bool (endsL ((lst s).drop (digs (lst s) + 1)))) ∧ w' = W) := fun W => by
      have h := ends_any (s.extract (digs (lst s) + 1) s.size) W
      rw [lst_from] at h
      exact h
    have hdl : begL ((lst s).drop (digs (lst s))) [46, 41] = true → digs (lst s) < s.size := fun h => by
      by_cases hc : digs (lst s) < s.size
      · exact hc
      · rw [List.drop_of_length_le (by rw [lst_size]; omega)] at h; cases h
    rw [hbg] at HB
    clear hbg hno
    have hI : isItem (lst s) ↔ (1 ≤ digs (lst s) ∧ digs (lst s) ≤ 9 ∧ begL ((lst s).drop (digs (lst s))) [46, 41] = true ∧ endsL ((lst s).drop (digs (lst s) + 1)) = true) := Iff.rfl
    generalize isItem (lst s) = IT at *
    generalize itemV (lst s) = v at *
    generalize val (lst s) (digs (lst s)) = V at *
    by_cases h1 : digs (lst s) < 1
    · have HV := Lib.hid (hN (fun h => by have := (hI.1 h).1; omega))
      generalize begL ((lst s).drop (digs (lst s))) [46, 41] = v1 at *
      generalize endsL ((lst s).drop (digs (lst s) + 1)) = v2 at *
      clear hN hY hI hdl
      generalize digs (lst s) = d at *
      go_enter Tryd.func22, Tryd.ntmps22
      go_wp2_with fail
      refine (HB.out _).mono ?_
      rintro e w1 ⟨rfl, rfl⟩
      go_wp2_with fail
      refine (HL.out _).mono ?_
      rintro e w1 ⟨rfl, rfl⟩
      go_wp2_with fail
      go_ret3
      exact ⟨(congrArg Ending.returned HV.out).symm, rfl⟩
    by_cases h9 : 9 < digs (lst s)
    · have HV := Lib.hid (hN (fun h => by have := (hI.1 h).2.1; omega))
      generalize begL ((lst s).drop (digs (lst s))) [46, 41] = v1 at *
      generalize endsL ((lst s).drop (digs (lst s) + 1)) = v2 at *
      clear hN hY hI hdl
      generalize digs (lst s) = d at *
      go_enter Tryd.func22, Tryd.ntmps22
      go_wp2_with fail
      refine (HB.out _).mono ?_
      rintro e w1 ⟨rfl, rfl⟩
      go_wp2_with fail
      refine (HL.out _).mono ?_
      rintro e w1 ⟨rfl, rfl⟩
      go_wp2_with fail
      go_ret3
      exact ⟨(congrArg Ending.returned HV.out).symm, rfl⟩
    cases hb : begL ((lst s).drop (digs (lst s))) [46, 41] with
    | false =>
      have HV := Lib.hid (hN (fun h => by rw [(hI.1 h).2.2.1] at hb; cases hb))
      rw [hb] at HC
      generalize endsL ((lst s).drop (digs (lst s) + 1)) = v2 at *
      clear hN hY hI hdl hb
      generalize digs (lst s) = d at *
      go_enter Tryd.func22, Tryd.ntmps22
      go_wp2_with fail
      refine (HB.out _).mono ?_
      rintro e w1 ⟨rfl, rfl⟩
      go_wp2_with fail
      refine (HL.out _).mono ?_
      rintro e w1 ⟨rfl, rfl⟩
      go_wp2_with fail
      refine (HC.out _).mono ?_
      rintro e w1 ⟨rfl, rfl⟩
      go_wp2_with fail
      go_ret3
      exact ⟨(congrArg Ending.returned HV.out).symm, rfl⟩
    | true =>
      have hlt := hdl hb
      cases he : endsL ((lst s).drop (digs (lst s) + 1)) with
      | false =>
        have HV := Lib.hid (hN (fun h => by rw [(hI.1 h).2.2.2] at he; cases he))
        rw [hb] at HC
        rw [he] at HD
        clear hN hY hI hdl hb he
        generalize digs (lst s) = d at *
        go_enter Tryd.func22, Tryd.ntmps22
        go_wp2_with fail
        refine (HB.out _).mono ?_
        rintro e w1 ⟨rfl, rfl⟩
        go_wp2_with fail
        refine (HL.out _).mono ?_
        rintro e w1 ⟨rfl, rfl⟩
        go_wp2_with fail
        refine (HC.out _).mono ?_
        rintro e w1 ⟨rfl, rfl⟩
        go_wp2_with fail
        refine (HD.out _).mono ?_
        rintro e w1 ⟨rfl, rfl⟩
        go_wp2_with fail
        go_ret3
        exact ⟨(congrArg Ending.returned HV.out).symm, rfl⟩
      | true =>
        have HV := Lib.hid (hY (hI.2 ⟨by omega, by omega, hb, he⟩))
        rw [drop_head s _ hlt] at HV
        rw [hb] at HC
        rw [he] at HD
        clear hN hY hI hdl hb he
        generalize digs (lst s) = d at *
        go_enter Tryd.func22, Tryd.ntmps22
        go_wp2_with fail
        refine (HB.out _).mono ?_
        rintro e w1 ⟨rfl, rfl⟩
        go_wp2_with fail
        refine (HL.out _).mono ?_
        rintro e w1 ⟨rfl, rfl⟩
        go_wp2_with fail
        refine (HC.out _).mono ?_
        rintro e w1 ⟨rfl, rfl⟩
        go_wp2_with fail
        refine (HD.out _).mono ?_
        rintro e w1 ⟨rfl, rfl⟩
        go_wp2_with fail
        go_ret3
        exact ⟨(congrArg Ending.returned HV.out).symm, rfl⟩
end Go.Proofs.YtinmefdcgiiejaaDoor
