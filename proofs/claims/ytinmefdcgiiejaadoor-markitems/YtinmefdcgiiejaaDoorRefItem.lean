/-
  PROVED: the contract of the document's own Item: 'itemL', as mark.Item's. Conditions: the text has at most 1000000 bytes.
-/
import Derived.Test.YtinmefdcgiiejaaDoorItems
import Derived.Test.YtinmefdcgiiejaaDoorRefHead
import Derived.Test.YtinmefdcgiiejaaDoorLines
namespace Go.Proofs.YtinmefdcgiiejaaDoor
open Go.ChangeShapes Go.WideShapes Go.ChangeAt Go.RowKit
set_option linter.unusedVariables false

theorem beg_in (l cs : List UInt8) (n : Nat) (x : UInt8) (h : l[n]? = some x) : begL (l.drop n) cs = cs.contains x := by
  obtain ⟨hj, rfl⟩ := List.getElem?_eq_some_iff.1 h
  rw [List.drop_eq_getElem_cons hj]
  rfl
theorem beg_out (l cs : List UInt8) (n : Nat) (h : l.length ≤ n) : begL (l.drop n) cs = false := by
  rw [List.drop_of_length_le h]
  rfl
theorem val0 (l : List UInt8) : val l 0 = 0 := by simp [val]
theorem u8_nb (x : UInt8) (k : Nat) (hk : k < 256) (h : x = k.toUInt8) : ((x.toNat : Int) != (k : Int)) = false := by
  subst h
  have e : (k.toUInt8.toNat : Int) = (k : Int) := by simp; omega
  rw [e]
  simp
/-- Digits first: no item of one byte. -/
theorem digs_some (l : List UInt8) (h : 0 < digs l) : begL l [45, 43, 42] = false := by
  cases hb : begL l [45, 43, 42] with
  | false => rfl
  | true => have := digs_none l hb; omega

set_option maxHeartbeats 8000000 in
theorem refItem_any (s : ByteArray) (hs : s.size ≤ 1000000) (w : World) : Calls Tryd.prog 23 #[.string s] w fun e w' => e = .returned (itemV (lst s)) ∧ w' = w := by
  by_cases h0 : 0 < s.size
  · have hem := emp_no s h0
    have z0 : (0 : Int) < (s.size : Int) := by omega
    have hds : digs (lst s) ≤ s.size := by rw [← lst_size]; exact digs_le _
    have hdt : digs (lst s) ≤ 10 := Nat.min_le_left _ _
    obtain ⟨d, hdd⟩ : ∃ d, d = digs (lst s) := ⟨_, rfl⟩
    obtain ⟨V, hVV⟩ : ∃ V, V = val (lst s) (digs (lst s)) := ⟨_, rfl⟩
    have HN0 : Hid (d = 0 → ¬ (begL (lst s) [45, 43, 42] = true ∧ endsL ((lst s).drop 1) = true) → itemV (lst s) = item0) := fun hd h => itemV_no (lst s) h (fun hi => by have := hi.1; omega)
    have HY0 : Hid (begL (lst s) [45, 43, 42] = true ∧ endsL ((lst s).drop 1) = true → itemV (lst s) = .tuple #[.int .u8 ((s[0]'h0).toNat : Int), .int .i64 (-1), .int .i64 1]) := fun h => by rw [itemV_one (lst s) h, head_is s h0]
    have HNN : Hid (0 < d → ¬ (1 ≤ d ∧ d ≤ 9 ∧ begL ((lst s).drop d) [46, 41] = true ∧ endsL ((lst s).drop (d + 1)) = true) → itemV (lst s) = item0) := fun hd h => itemV_no (lst s) (fun hh => by rw [digs_some (lst s) (by omega)] at hh; cases hh.1) (fun hi => h (by rw [hdd]; exact hi))
    have HYN : Hid (1 ≤ d ∧ d ≤ 9 ∧ begL ((lst s).drop d) [46, 41] = true ∧ endsL ((lst s).drop (d + 1)) = true → itemV (lst s) = .tuple #[.int .u8 ((((lst s).drop d).headD 0).toNat : Int), .int .i64 V, .int .i64 ((d + 1 : Nat) : Int)]) := fun h => by
      rw [itemV_num (lst s) (fun hh => by rw [digs_some (lst s) (by omega)] at hh; cases hh.1) (by rw [hdd] at h; exact h), hVV, hdd]
    rw [← hdd] at hds hdt
    have HDD := Lib.hid hdd
    have HVV := Lib.hid hVV
    clear hdd hVV
    generalize itemV (lst s) = vv at *
    obtain ⟨W0, hW0⟩ : ∃ W0, W0 = w := ⟨_, rfl⟩
    rw [← hW0]
    clear hW0
    go_enter Tryd.func23, Tryd.ntmps23
    go_upto_block 0 with fail
    go_cut [5, 6] (fun a b wx => a = .int .i64 d ∧ b = .int .i64 V ∧ W0 = wx)
    case first =>
      go_wp2_with fail
      go_loopg [5, 6] s.size (fun g a b wx => ∃ j : Nat, j ≤ s.size ∧ j ≤ 10 ∧ g = s.size - j ∧ a = .int .i64 j ∧ b = .int .i64 (val (lst s) j) ∧ val (lst s) j < 10 ^ j ∧ Hid (upL isD (lst s) j = upL isD (lst s) 0) ∧ W0 = wx)
      case atStart => exact ⟨0, Nat.zero_le _, Nat.zero_le _, rfl, rfl, by rw [val0]; rfl, by simp [val], rfl, rfl⟩
      case round =>
        obtain ⟨j, hj, hj9, rfl, rfl, rfl, hv, HU, rfl⟩ := hrel
        have hp := pow_ten j hj9
        by_cases hlt : j < s.size
        · have hx := Lib.data_getElem? s j hlt
          cases hd : isD (s[j]'hlt) with
          | true =>
            obtain ⟨hb1, hb2⟩ := (isD_iff _).1 hd
            by_cases hn : j < 10
            · have HN := Lib.hid (upL_step isD (lst s) j _ hx hd)
              have HS := Lib.hid (val_step (lst s) j _ hx)
              have HP : Hid (val (lst s) (j + 1) < 10 ^ (j + 1)) := show _ < _ from by
                rw [HS.out, Nat.pow_succ]
                omega
              have hvb : val (lst s) j < 10000000000 := by omega
              clear hd hx hv hp
              generalize val (lst s) j = v at *
              go_wp2_with fail
              go_roundg (s.size - (j + 1))
              case measure => omega
              case rel => exact ⟨j + 1, by omega, by omega, rfl, by go_num, by rw [HS.out]; go_num, HP.out, HN.out.trans HU.out, rfl⟩
            · obtain rfl : j = 10 := by omega
              have HD : Hid (10 = d) := (digs_ten (lst s) (by rw [lst_size]; omega) HU.out).symm.trans HDD.out.symm
              have HW : Hid (val (lst s) 10 = V) := show _ = _ from by rw [HVV.out, ← HDD.out, ← HD.out]
              clear hd hx hv hp hn
              go_wp2_with fail
              go_meet
              exact ⟨by rw [← HD.out]; rfl, by rw [HW.out], rfl⟩
          | false =>
            have hb : ¬ (48 ≤ (s[j]'hlt).toNat ∧ (s[j]'hlt).toNat ≤ 57) := fun h => by rw [(isD_iff _).2 h] at hd; cases hd
            have HD : Hid (j = d) := (digs_stop (lst s) j hj9 HU.out (fun x h => by rw [hx] at h; cases h; exact hd)).symm.trans HDD.out.symm
            have HW : Hid (val (lst s) j = V) := show _ = _ from by rw [HVV.out, ← HDD.out, ← HD.out]
            clear hd hx hv hp
            by_cases h48 : 48 ≤ (s[j]'hlt).toNat
            · have h57 : 57 < (s[j]'hlt).toNat := by omega
              clear hb
              go_wp2_with fail
              go_meet
              exact ⟨by rw [HD.out], by rw [HW.out], rfl⟩
            · clear hb
              go_wp2_with fail
              go_meet
              exact ⟨by rw [HD.out], by rw [HW.out], rfl⟩
        · have HD : Hid (j = d) := (digs_stop (lst s) j hj9 HU.out (fun x h => by rw [List.getElem?_eq_none (by rw [lst_size]; omega)] at h; cases h)).symm.trans HDD.out.symm
          have HW : Hid (val (lst s) j = V) := show _ = _ from by rw [HVV.out, ← HDD.out, ← HD.out]
          clear hv hp
          go_wp2_with fail
          go_meet
          exact ⟨by rw [HD.out], by rw [HW.out], rfl⟩
    case rest =>
      obtain ⟨rfl, rfl, rfl⟩ := hcut
      by_cases h9 : 9 < d
      · have HV := Lib.hid (HNN.out (by omega) (fun h => by have := h.2.1; omega))
        clear HNN HYN HN0 HY0
        go_wp2_with fail
        go_ret3
        exact ⟨(congrArg Ending.returned HV.out).symm, rfl⟩
      by_cases hz : d = s.size
      · have c2 : ((d : Int) == (s.size : Int)) = true := by simp; omega
        have HV := Lib.hid (HNN.out (by omega) (fun h => by rw [beg_out (lst s) [46, 41] d (by rw [lst_size]; omega)] at h; cases h.2.2.1))
        clear HNN HYN HN0 HY0
        go_wp2_with fail
        go_ret3
        exact ⟨(congrArg Ending.returned HV.out).symm, rfl⟩
      have c2 : ((d : Int) == (s.size : Int)) = false := by simp; omega
      have hls : d < s.size := by omega
      by_cases hd0 : d < 1
      · have c3 : ((d : Int) == 0) = true := by simp; omega
        cases hbg : begL (lst s) [45, 43, 42] with
        | false =>
          have HV := Lib.hid (HN0.out (by omega) (fun h => by rw [h.1] at hbg; cases hbg))
          obtain ⟨m, hm⟩ := lst_cons s h0
          have hx : ¬ ((s[0]'h0) = 45 ∨ (s[0]'h0) = 43 ∨ (s[0]'h0) = 42) := fun h => by
            rw [hm] at hbg
            simp [begL, h] at hbg
          have d1 : (((s[0]'h0).toNat : Int) != 45) = true := u8_ne (s[0]'h0) 45 (by omega) (fun h => hx (.inl h))
          have d2 : (((s[0]'h0).toNat : Int) != 43) = true := u8_ne (s[0]'h0) 43 (by omega) (fun h => hx (.inr (.inl h)))
          have d3 : (((s[0]'h0).toNat : Int) != 42) = true := u8_ne (s[0]'h0) 42 (by omega) (fun h => hx (.inr (.inr h)))
          clear HNN HYN HN0 HY0 hx hm hbg
          go_wp2_with fail
          go_ret3
          exact ⟨(congrArg Ending.returned HV.out).symm, rfl⟩
        | true =>
          have HBG := Lib.hid hbg
          have hD : (((s[0]'h0).toNat : Int) != 45) = false ∨ ((((s[0]'h0).toNat : Int) != 45) = true ∧ (((s[0]'h0).toNat : Int) != 43) = false) ∨ ((((s[0]'h0).toNat : Int) != 45) = true ∧ (((s[0]'h0).toNat : Int) != 43) = true ∧ (((s[0]'h0).toNat : Int) != 42) = false) := by
            obtain ⟨m, hm⟩ := lst_cons s h0
            rw [hm] at hbg
            simp only [begL, List.contains_cons, List.contains_nil, Bool.or_eq_true, beq_iff_eq] at hbg
            rcases hbg with h | h | h | h
            · exact .inl (by rw [h]; rfl)
            · exact .inr (.inl (by rw [h]; exact ⟨rfl, rfl⟩))
            · exact .inr (.inr (by rw [h]; exact ⟨rfl, rfl, rfl⟩))
            · cases h
          clear hbg
          rcases hD with d1 | ⟨d1, d2⟩ | ⟨d1, d2, d3⟩
          · skip
            by_cases h1 : d + 1 < s.size
            · have hx1 := Lib.data_getElem? s (d + 1) h1
              have he := ends_in (lst s) (d + 1) _ hx1
              have HB := Lib.hid (refBlank_w (s[d + 1]'h1))
              cases hb : isB (s[d + 1]'h1) with
              | false =>
                rw [hb] at HB he
                have HV := Lib.hid (HN0.out (by omega) (fun h => by rw [show d + 1 = 1 from by omega] at he; rw [h.2] at he; cases he))
                clear hb he hx1 
                go_wp2_with fail
                refine (HB.out _).mono ?_
                rintro e w2 ⟨rfl, rfl⟩
                go_wp2_with fail
                go_ret3
                exact ⟨(congrArg Ending.returned HV.out).symm, rfl⟩
              | true =>
                rw [hb] at HB he
                have HV := Lib.hid (HY0.out ⟨HBG.out, by rw [show d + 1 = 1 from by omega] at he; exact he⟩)
                clear hb he hx1 
                go_wp2_with fail
                refine (HB.out _).mono ?_
                rintro e w2 ⟨rfl, rfl⟩
                go_wp2_with fail
                go_ret3
                exact ⟨(congrArg Ending.returned HV.out).symm, rfl⟩
            · have he := ends_out (lst s) (d + 1) (by rw [lst_size]; omega)
              have HV := Lib.hid (HY0.out ⟨HBG.out, by rw [show d + 1 = 1 from by omega] at he; exact he⟩)
              clear he 
              go_wp2_with fail
              go_ret3
              exact ⟨(congrArg Ending.returned HV.out).symm, rfl⟩
          · skip
            by_cases h1 : d + 1 < s.size
            · have hx1 := Lib.data_getElem? s (d + 1) h1
              have he := ends_in (lst s) (d + 1) _ hx1
              have HB := Lib.hid (refBlank_w (s[d + 1]'h1))
              cases hb : isB (s[d + 1]'h1) with
              | false =>
                rw [hb] at HB he
                have HV := Lib.hid (HN0.out (by omega) (fun h => by rw [show d + 1 = 1 from by omega] at he; rw [h.2] at he; cases he))
                clear hb he hx1 
                go_wp2_with fail
                refine (HB.out _).mono ?_
                rintro e w2 ⟨rfl, rfl⟩
                go_wp2_with fail
                go_ret3
                exact ⟨(congrArg Ending.returned HV.out).symm, rfl⟩
              | true =>
                rw [hb] at HB he
                have HV := Lib.hid (HY0.out ⟨HBG.out, by rw [show d + 1 = 1 from by omega] at he; exact he⟩)
                clear hb he hx1 
                go_wp2_with fail
                refine (HB.out _).mono ?_
                rintro e w2 ⟨rfl, rfl⟩
                go_wp2_with fail
                go_ret3
                exact ⟨(congrArg Ending.returned HV.out).symm, rfl⟩
            · have he := ends_out (lst s) (d + 1) (by rw [lst_size]; omega)
              have HV := Lib.hid (HY0.out ⟨HBG.out, by rw [show d + 1 = 1 from by omega] at he; exact he⟩)
              clear he 
              go_wp2_with fail
              go_ret3
              exact ⟨(congrArg Ending.returned HV.out).symm, rfl⟩
          · skip
            by_cases h1 : d + 1 < s.size
            · have hx1 := Lib.data_getElem? s (d + 1) h1
              have he := ends_in (lst s) (d + 1) _ hx1
              have HB := Lib.hid (refBlank_w (s[d + 1]'h1))
              cases hb : isB (s[d + 1]'h1) with
              | false =>
                rw [hb] at HB he
                have HV := Lib.hid (HN0.out (by omega) (fun h => by rw [show d + 1 = 1 from by omega] at he; rw [h.2] at he; cases he))
                clear hb he hx1 
                go_wp2_with fail
                refine (HB.out _).mono ?_
                rintro e w2 ⟨rfl, rfl⟩
                go_wp2_with fail
                go_ret3
                exact ⟨(congrArg Ending.returned HV.out).symm, rfl⟩
              | true =>
                rw [hb] at HB he
                have HV := Lib.hid (HY0.out ⟨HBG.out, by rw [show d + 1 = 1 from by omega] at he; exact he⟩)
                clear hb he hx1 
                go_wp2_with fail
                refine (HB.out _).mono ?_
                rintro e w2 ⟨rfl, rfl⟩
                go_wp2_with fail
                go_ret3
                exact ⟨(congrArg Ending.returned HV.out).symm, rfl⟩
            · have he := ends_out (lst s) (d + 1) (by rw [lst_size]; omega)
              have HV := Lib.hid (HY0.out ⟨HBG.out, by rw [show d + 1 = 1 from by omega] at he; exact he⟩)
              clear he 
              go_wp2_with fail
              go_ret3
              exact ⟨(congrArg Ending.returned HV.out).symm, rfl⟩
      · have c3 : ((d : Int) == 0) = false := by simp; omega
        have hx := Lib.data_getElem? s d hls
        have hbe := beg_in (lst s) [46, 41] d _ hx
        have hdh := drop_head s d hls
        rw [hdh] at HYN
        clear hdh
        cases hbn : begL ((lst s).drop d) [46, 41] with
        | false =>
          have HV := Lib.hid (HNN.out (by omega) (fun h => by rw [h.2.2.1] at hbn; cases hbn))
          have hxx : ¬ ((s[d]'hls) = 46 ∨ (s[d]'hls) = 41) := fun h => by
            rw [hbe] at hbn
            simp only [List.contains_cons, List.contains_nil, Bool.or_false, Bool.or_eq_false_iff, beq_eq_false_iff_ne] at hbn
            rcases h with h | h
            · exact hbn.1 h
            · exact hbn.2 h
          have d1 : (((s[d]'hls).toNat : Int) != 46) = true := u8_ne (s[d]'hls) 46 (by omega) (fun h => hxx (.inl h))
          have d2 : (((s[d]'hls).toNat : Int) != 41) = true := u8_ne (s[d]'hls) 41 (by omega) (fun h => hxx (.inr h))
          clear HNN HYN HN0 HY0 hx hbe hbn hxx
          go_wp2_with fail
          go_ret3
          exact ⟨(congrArg Ending.returned HV.out).symm, rfl⟩
        | true =>
          have HBN := Lib.hid hbn
          have hD : (((s[d]'hls).toNat : Int) != 46) = false ∨ ((((s[d]'hls).toNat : Int) != 46) = true ∧ (((s[d]'hls).toNat : Int) != 41) = false) := by
            rw [hbe] at hbn
            simp only [List.contains_cons, List.contains_nil, Bool.or_false, Bool.or_eq_true, beq_iff_eq] at hbn
            rcases hbn with h | h
            · exact .inl (by rw [h]; rfl)
            · exact .inr (by rw [h]; exact ⟨rfl, rfl⟩)
          clear hbn hbe hx
          rcases hD with d1 | ⟨d1, d2⟩
          · skip
            by_cases h1 : d + 1 < s.size
            · have hx1 := Lib.data_getElem? s (d + 1) h1
              have he := ends_in (lst s) (d + 1) _ hx1
              have HB := Lib.hid (refBlank_w (s[d + 1]'h1))
              cases hb : isB (s[d + 1]'h1) with
              | false =>
                rw [hb] at HB he
                have HV := Lib.hid (HNN.out (by omega) (fun h => by rw [h.2.2.2] at he; cases he))
                clear hb he hx1 
                go_wp2_with fail
                refine (HB.out _).mono ?_
                rintro e w2 ⟨rfl, rfl⟩
                go_wp2_with fail
                go_ret3
                exact ⟨(congrArg Ending.returned HV.out).symm, rfl⟩
              | true =>
                rw [hb] at HB he
                have HV := Lib.hid (HYN.out ⟨by omega, by omega, HBN.out, he⟩)
                clear hb he hx1 
                go_wp2_with fail
                refine (HB.out _).mono ?_
                rintro e w2 ⟨rfl, rfl⟩
                go_wp2_with fail
                go_ret3
                exact ⟨(congrArg Ending.returned HV.out).symm, rfl⟩
            · have he := ends_out (lst s) (d + 1) (by rw [lst_size]; omega)
              have HV := Lib.hid (HYN.out ⟨by omega, by omega, HBN.out, he⟩)
              clear he 
              go_wp2_with fail
              go_ret3
              exact ⟨(congrArg Ending.returned HV.out).symm, rfl⟩
          · skip
            by_cases h1 : d + 1 < s.size
            · have hx1 := Lib.data_getElem? s (d + 1) h1
              have he := ends_in (lst s) (d + 1) _ hx1
              have HB := Lib.hid (refBlank_w (s[d + 1]'h1))
              cases hb : isB (s[d + 1]'h1) with
              | false =>
                rw [hb] at HB he
                have HV := Lib.hid (HNN.out (by omega) (fun h => by rw [h.2.2.2] at he; cases he))
                clear hb he hx1 
                go_wp2_with fail
                refine (HB.out _).mono ?_
                rintro e w2 ⟨rfl, rfl⟩
                go_wp2_with fail
                go_ret3
                exact ⟨(congrArg Ending.returned HV.out).symm, rfl⟩
              | true =>
                rw [hb] at HB he
                have HV := Lib.hid (HYN.out ⟨by omega, by omega, HBN.out, he⟩)
                clear hb he hx1 
                go_wp2_with fail
                refine (HB.out _).mono ?_
                rintro e w2 ⟨rfl, rfl⟩
                go_wp2_with fail
                go_ret3
                exact ⟨(congrArg Ending.returned HV.out).symm, rfl⟩
            · have he := ends_out (lst s) (d + 1) (by rw [lst_size]; omega)
              have HV := Lib.hid (HYN.out ⟨by omega, by omega, HBN.out, he⟩)
              clear he 
              go_wp2_with fail
              go_ret3
              exact ⟨(congrArg Ending.returned HV.out).symm, rfl⟩
  · have hem := emp_yes s (by omega)
    have HV : Hid (itemV (lst s) = item0) := show _ = _ from by rw [lst_nil s (by omega)]; rfl
    generalize itemV (lst s) = v at *
    go_enter Tryd.func23, Tryd.ntmps23
    go_wp2_with fail
    go_ret3
    exact ⟨(congrArg Ending.returned HV.out).symm, rfl⟩
end Go.Proofs.YtinmefdcgiiejaaDoor
