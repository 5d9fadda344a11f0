/-
  PROVED: contract of the document's attribute: behind an attribute, the place itself where there is none, -1 where its value is none. Conditions: the text has at most 1000000 bytes; the place is within it.
-/
import Derived.Test.YtdnnjakggopdoaaDoorRefScan
namespace Go.Proofs.YtdnnjakggopdoaaDoor
open Go.ChangeShapes Go.WideShapes Go.ChangeAt Go.RowKit
set_option linter.unusedVariables false
set_option linter.unusedSimpArgs false

/-- The document's attribute. -/
def attR (l : List UInt8) (k : Nat) : Int := if isAtt l k then ans (attE l k) else k
theorem attR_no {l : List UInt8} {k : Nat} (h : isAtt l k = false) : attR l k = k := by unfold attR; rw [h]; rfl
theorem attR_yes {l : List UInt8} {k : Nat} (h : isAtt l k = true) : attR l k = ans (valueL l (upL isA l (upL isS l k))) := by unfold attR attE; rw [h, upL_again isF isA F_A]; rfl
theorem value_eq {l : List UInt8} {j : Nat} (h : l[upL isS l j]? = some 61) : valueL l j = valL l (upL isS l (upL isS l j + 1)) := by unfold valueL; rw [if_pos h]
theorem value_no {l : List UInt8} {j : Nat} (h : ¬ l[upL isS l j]? = some 61) : valueL l j = some j := by unfold valueL; rw [if_neg h]
theorem F_is (x : UInt8) : isF x = (isL x || x == 95 || x == 58) := rfl
theorem F_yes (x : UInt8) (h : isF x = true) : isL x = true ∨ (isL x = false ∧ ((x.toNat : Int) != 95) = false) ∨ (isL x = false ∧ ((x.toNat : Int) != 95) = true ∧ ((x.toNat : Int) != 58) = false) := by
  rw [F_is] at h
  cases hl : isL x with
  | true => exact .inl rfl
  | false =>
    rw [hl, Bool.false_or, Bool.or_eq_true, beq_iff_eq, beq_iff_eq] at h
    rcases h with rfl | rfl
    · exact .inr (.inl ⟨rfl, rfl⟩)
    · exact .inr (.inr ⟨rfl, rfl, rfl⟩)
theorem F_no (x : UInt8) (h : isF x = false) : isL x = false ∧ ((x.toNat : Int) != 95) = true ∧ ((x.toNat : Int) != 58) = true := by
  rw [F_is, Bool.or_eq_false_iff, Bool.or_eq_false_iff] at h
  exact ⟨h.1.1, u8_ne x 95 (by omega) (by simpa using h.1.2), u8_ne x 58 (by omega) (by simpa using h.2)⟩

set_option maxHeartbeats 64000000 in
set_option maxRecDepth 100000 in
theorem refAtt_yes (s : ByteArray) (hs : s.size ≤ 1000000) (k b : Nat) (hb : k ≤ b ∧ b ≤ s.size) (hne : ¬ b = k) (hbs : b < s.size)
    (HS : Hid (∀ W, Calls Tryd.prog 29 #[.string s, .int .i64 k] W fun e w' => e = .returned (.int .i64 b) ∧ w' = W))
    (HV : Hid (attR (lst s) k = ans (valueL (lst s) (upL isA (lst s) b)))) (a : Bool)
    (C : Hid (∀ W, Calls Tryd.prog 22 #[.int .u8 (s[b]'hbs).toNat] W fun e w' => e = .returned (.bool a) ∧ w' = W))
    (hD : a = true ∨ (a = false ∧ (((s[b]'hbs).toNat : Int) != 95) = false) ∨ (a = false ∧ (((s[b]'hbs).toNat : Int) != 95) = true ∧ (((s[b]'hbs).toNat : Int) != 58) = false)) (w : World) :
    Calls Tryd.prog 30 #[.string s, .int .i64 k] w fun e w' => e = .returned (.int .i64 (attR (lst s) k)) ∧ Below w.heap.size w w' := by
  have qk : ((b : Int) == (k : Int)) = false := by simp; omega
  have ql : decide (s.size ≤ b) = false := by simp; omega
  rcases hD with rfl | ⟨rfl, d1⟩ | ⟨rfl, d1, d2⟩
  · skip
    go_enter Tryd.func30, Tryd.ntmps30
    go_wp2_with fail
    refine (HS.out _).mono ?_
    rintro e w1 ⟨rfl, rfl⟩
    go_wp2_with fail
    refine (C.out _).mono ?_
    rintro e w1 ⟨rfl, rfl⟩
    clear C HS
    go_wp2_with fail
    go_loopw [5] (fun i wr => NRel isA s b i w1 wr) (fun i _ => s.size - (intOf i).toNat)
    case atStart => exact ⟨b, hb.2, rfl, rfl, rfl⟩
    case round =>
      obtain ⟨j, hj, rfl, hl, rfl⟩ := hrel
      have HL := Lib.hid hl
      clear hl
      by_cases hlt : j < s.size
      · have hx := Lib.data_getElem? s j hlt
        have C0 := Lib.hid (refLetter_any (s[j]'hlt))
        cases h0 : isL (s[j]'hlt) with
        | true =>
          rw [h0] at C0
          have hp : isA (s[j]'hlt) = true := by rw [A_is]; simp [h0]
          have HN := Lib.hid (upL_step isA (lst s) j _ hx hp)
          clear hx hp h0
          go_wp2_with fail
          refine (C0.out _).mono ?_
          rintro e w1 ⟨rfl, rfl⟩
          go_wp2_with fail
          go_roundw
          case rel => exact ⟨j + 1, by omega, by go_num, HN.out.trans HL.out, rfl⟩
          case measure => simp [intOf]; omega
        | false =>
          rw [h0] at C0
          have C1 := Lib.hid (refDigit_any (s[j]'hlt))
          cases h1 : isD (s[j]'hlt) with
          | true =>
            rw [h1] at C1
            have hp : isA (s[j]'hlt) = true := by rw [A_is]; simp [h0, h1]
            have HN := Lib.hid (upL_step isA (lst s) j _ hx hp)
            clear hx hp h0 h1
            go_wp2_with fail
            refine (C0.out _).mono ?_
            rintro e w1 ⟨rfl, rfl⟩
            go_wp2_with fail
            refine (C1.out _).mono ?_
            rintro e w1 ⟨rfl, rfl⟩
            go_wp2_with fail
            go_roundw
            case rel => exact ⟨j + 1, by omega, by go_num, HN.out.trans HL.out, rfl⟩
            case measure => simp [intOf]; omega
          | false =>
            rw [h1] at C1
            by_cases h2 : (s[j]'hlt) = 95
            · have q2 : (((s[j]'hlt).toNat : Int) == 95) = true := by rw [h2]; rfl
              have hp : isA (s[j]'hlt) = true := by rw [A_is]; simp [h0, h1, h2]
              have HN := Lib.hid (upL_step isA (lst s) j _ hx hp)
              clear hx hp h0 h1 h2
              go_wp2_with fail
              refine (C0.out _).mono ?_
              rintro e w1 ⟨rfl, rfl⟩
              go_wp2_with fail
              refine (C1.out _).mono ?_
              rintro e w1 ⟨rfl, rfl⟩
              go_wp2_with fail
              go_roundw
              case rel => exact ⟨j + 1, by omega, by go_num, HN.out.trans HL.out, rfl⟩
              case measure => simp [intOf]; omega
            · have q2 : (((s[j]'hlt).toNat : Int) == 95) = false := u8_not _ 95 (by omega) h2
              by_cases h3 : (s[j]'hlt) = 46
              · have q3 : (((s[j]'hlt).toNat : Int) == 46) = true := by rw [h3]; rfl
                have hp : isA (s[j]'hlt) = true := by rw [A_is]; simp [h0, h1, h2, h3]
                have HN := Lib.hid (upL_step isA (lst s) j _ hx hp)
                clear hx hp h0 h1 h2 h3
                go_wp2_with fail
                refine (C0.out _).mono ?_
                rintro e w1 ⟨rfl, rfl⟩
                go_wp2_with fail
                refine (C1.out _).mono ?_
                rintro e w1 ⟨rfl, rfl⟩
                go_wp2_with fail
                go_roundw
                case rel => exact ⟨j + 1, by omega, by go_num, HN.out.trans HL.out, rfl⟩
                case measure => simp [intOf]; omega
              · have q3 : (((s[j]'hlt).toNat : Int) == 46) = false := u8_not _ 46 (by omega) h3
                by_cases h4 : (s[j]'hlt) = 58
                · have q4 : (((s[j]'hlt).toNat : Int) == 58) = true := by rw [h4]; rfl
                  have hp : isA (s[j]'hlt) = true := by rw [A_is]; simp [h0, h1, h2, h3, h4]
                  have HN := Lib.hid (upL_step isA (lst s) j _ hx hp)
                  clear hx hp h0 h1 h2 h3 h4
                  go_wp2_with fail
                  refine (C0.out _).mono ?_
                  rintro e w1 ⟨rfl, rfl⟩
                  go_wp2_with fail
                  refine (C1.out _).mono ?_
                  rintro e w1 ⟨rfl, rfl⟩
                  go_wp2_with fail
                  go_roundw
                  case rel => exact ⟨j + 1, by omega, by go_num, HN.out.trans HL.out, rfl⟩
                  case measure => simp [intOf]; omega
                · have q4 : (((s[j]'hlt).toNat : Int) == 58) = false := u8_not _ 58 (by omega) h4
                  by_cases h5 : (s[j]'hlt) = 45
                  · have q5 : (((s[j]'hlt).toNat : Int) == 45) = true := by rw [h5]; rfl
                    have hp : isA (s[j]'hlt) = true := by rw [A_is]; simp [h0, h1, h2, h3, h4, h5]
                    have HN := Lib.hid (upL_step isA (lst s) j _ hx hp)
                    clear hx hp h0 h1 h2 h3 h4 h5
                    go_wp2_with fail
                    refine (C0.out _).mono ?_
                    rintro e w1 ⟨rfl, rfl⟩
                    go_wp2_with fail
                    refine (C1.out _).mono ?_
                    rintro e w1 ⟨rfl, rfl⟩
                    go_wp2_with fail
                    go_roundw
                    case rel => exact ⟨j + 1, by omega, by go_num, HN.out.trans HL.out, rfl⟩
                    case measure => simp [intOf]; omega
                  · have q5 : (((s[j]'hlt).toNat : Int) == 45) = false := u8_not _ 45 (by omega) h5
                    have hp : isA (s[j]'hlt) = false := by rw [A_is]; simp [h0, h1, h2, h3, h4, h5]
                    have HN := Lib.hid (upL_stop isA (lst s) j (fun x h => by rw [hx] at h; cases h; exact hp))
                    clear hx hp h0 h1 h2 h3 h4 h5
                    have HJ := Lib.hid (HL.out.symm.trans HN.out)
                    have hbe := upL_bd isS (lst s) j (by rw [lst_size]; exact hj)
                    rw [lst_size] at hbe
                    have HE := Lib.hid (refBlanks_any s hs j hj)
                    by_cases hes : upL isS (lst s) j < s.size
                    · have hxe := Lib.data_getElem? s (upL isS (lst s) j) hes
                      by_cases h61 : (s[upL isS (lst s) j]'hes) = 61
                      · have HV2 : Hid (attR (lst s) k = ans (valL (lst s) (upL isS (lst s) (upL isS (lst s) j + 1)))) := show _ = _ from by rw [HV.out, HJ.out, value_eq (by rw [hxe, h61])]
                        have HB2 := Lib.hid (refBlanks_any s hs (upL isS (lst s) j + 1) hes)
                        have hb2 := upL_bd isS (lst s) (upL isS (lst s) j + 1) (by rw [lst_size]; exact hes)
                        rw [lst_size] at hb2
                        have HW := Lib.hid (refValue_any s hs (upL isS (lst s) (upL isS (lst s) j + 1)) hb2.2)
                        have qe : (((s[upL isS (lst s) j]'hes).toNat : Int) == 61) = true := by rw [h61]; rfl
                        clear hxe h61 hbe hb2
                        generalize upL isS (lst s) j = b2 at *
                        generalize ans (valL (lst s) (upL isS (lst s) (b2 + 1))) = r at *
                        generalize upL isS (lst s) (b2 + 1) = b3 at *
                        go_wp2_with fail
                        refine (C0.out _).mono ?_
                        rintro e w1 ⟨rfl, rfl⟩
                        go_wp2_with fail
                        refine (C1.out _).mono ?_
                        rintro e w1 ⟨rfl, rfl⟩
                        go_wp2_with fail
                        refine (HE.out _).mono ?_
                        rintro e w1 ⟨rfl, rfl⟩
                        go_wp2_with fail
                        refine (HB2.out _).mono ?_
                        rintro e w1 ⟨rfl, rfl⟩
                        go_wp2_with fail
                        refine (HW.out _).mono ?_
                        rintro e w2 ⟨rfl, hbw⟩
                        have HBW := Lib.hid hbw
                        clear hbw
                        go_wp2_with fail
                        go_ret
                        exact ⟨ret_int (by rw [HV2.out]), HBW.out⟩
                      · have HV2 : Hid (attR (lst s) k = (j : Int)) := show _ = _ from by rw [HV.out, HJ.out, value_no (by rw [hxe]; exact fun h => h61 (Option.some.inj h))]; rfl
                        have qe : (((s[upL isS (lst s) j]'hes).toNat : Int) == 61) = false := u8_not _ 61 (by omega) h61
                        clear hxe h61 hbe
                        generalize upL isS (lst s) j = b2 at *
                        go_wp2_with fail
                        refine (C0.out _).mono ?_
                        rintro e w1 ⟨rfl, rfl⟩
                        go_wp2_with fail
                        refine (C1.out _).mono ?_
                        rintro e w1 ⟨rfl, rfl⟩
                        go_wp2_with fail
                        refine (HE.out _).mono ?_
                        rintro e w1 ⟨rfl, rfl⟩
                        go_wp2_with fail
                        go_ret
                        exact ⟨ret_int (by rw [HV2.out]), Below.refl _ _⟩
                    · have HV2 : Hid (attR (lst s) k = (j : Int)) := show _ = _ from by rw [HV.out, HJ.out, value_no (by rw [List.getElem?_eq_none (by rw [lst_size]; omega)]; simp)]; rfl
                      clear hbe
                      generalize upL isS (lst s) j = b2 at *
                      go_wp2_with fail
                      refine (C0.out _).mono ?_
                      rintro e w1 ⟨rfl, rfl⟩
                      go_wp2_with fail
                      refine (C1.out _).mono ?_
                      rintro e w1 ⟨rfl, rfl⟩
                      go_wp2_with fail
                      refine (HE.out _).mono ?_
                      rintro e w1 ⟨rfl, rfl⟩
                      go_wp2_with fail
                      go_ret
                      exact ⟨ret_int (by rw [HV2.out]), Below.refl _ _⟩
      · have HN := Lib.hid (upL_stop isA (lst s) j (fun x h => by rw [List.getElem?_eq_none (by rw [lst_size]; omega)] at h; cases h))
        have HJ := Lib.hid (HL.out.symm.trans HN.out)
        have hbe := upL_bd isS (lst s) j (by rw [lst_size]; exact hj)
        rw [lst_size] at hbe
        have HE := Lib.hid (refBlanks_any s hs j hj)
        by_cases hes : upL isS (lst s) j < s.size
        · have hxe := Lib.data_getElem? s (upL isS (lst s) j) hes
          by_cases h61 : (s[upL isS (lst s) j]'hes) = 61
          · have HV2 : Hid (attR (lst s) k = ans (valL (lst s) (upL isS (lst s) (upL isS (lst s) j + 1)))) := show _ = _ from by rw [HV.out, HJ.out, value_eq (by rw [hxe, h61])]
            have HB2 := Lib.hid (refBlanks_any s hs (upL isS (lst s) j + 1) hes)
            have hb2 := upL_bd isS (lst s) (upL isS (lst s) j + 1) (by rw [lst_size]; exact hes)
            rw [lst_size] at hb2
            have HW := Lib.hid (refValue_any s hs (upL isS (lst s) (upL isS (lst s) j + 1)) hb2.2)
            have qe : (((s[upL isS (lst s) j]'hes).toNat : Int) == 61) = true := by rw [h61]; rfl
            clear hxe h61 hbe hb2
            generalize upL isS (lst s) j = b2 at *
            generalize ans (valL (lst s) (upL isS (lst s) (b2 + 1))) = r at *
            generalize upL isS (lst s) (b2 + 1) = b3 at *
            go_wp2_with fail
            refine (HE.out _).mono ?_
            rintro e w1 ⟨rfl, rfl⟩
            go_wp2_with fail
            refine (HB2.out _).mono ?_
            rintro e w1 ⟨rfl, rfl⟩
            go_wp2_with fail
            refine (HW.out _).mono ?_
            rintro e w2 ⟨rfl, hbw⟩
            have HBW := Lib.hid hbw
            clear hbw
            go_wp2_with fail
            go_ret
            exact ⟨ret_int (by rw [HV2.out]), HBW.out⟩
          · have HV2 : Hid (attR (lst s) k = (j : Int)) := show _ = _ from by rw [HV.out, HJ.out, value_no (by rw [hxe]; exact fun h => h61 (Option.some.inj h))]; rfl
            have qe : (((s[upL isS (lst s) j]'hes).toNat : Int) == 61) = false := u8_not _ 61 (by omega) h61
            clear hxe h61 hbe
            generalize upL isS (lst s) j = b2 at *
            go_wp2_with fail
            refine (HE.out _).mono ?_
            rintro e w1 ⟨rfl, rfl⟩
            go_wp2_with fail
            go_ret
            exact ⟨ret_int (by rw [HV2.out]), Below.refl _ _⟩
        · have HV2 : Hid (attR (lst s) k = (j : Int)) := show _ = _ from by rw [HV.out, HJ.out, value_no (by rw [List.getElem?_eq_none (by rw [lst_size]; omega)]; simp)]; rfl
          clear hbe
          generalize upL isS (lst s) j = b2 at *
          go_wp2_with fail
          refine (HE.out _).mono ?_
          rintro e w1 ⟨rfl, rfl⟩
          go_wp2_with fail
          go_ret
          exact ⟨ret_int (by rw [HV2.out]), Below.refl _ _⟩
  · skip
    go_enter Tryd.func30, Tryd.ntmps30
    go_wp2_with fail
    refine (HS.out _).mono ?_
    rintro e w1 ⟨rfl, rfl⟩
    go_wp2_with fail
    refine (C.out _).mono ?_
    rintro e w1 ⟨rfl, rfl⟩
    clear C HS
    go_wp2_with fail
    go_loopw [5] (fun i wr => NRel isA s b i w1 wr) (fun i _ => s.size - (intOf i).toNat)
    case atStart => exact ⟨b, hb.2, rfl, rfl, rfl⟩
    case round =>
      obtain ⟨j, hj, rfl, hl, rfl⟩ := hrel
      have HL := Lib.hid hl
      clear hl
      by_cases hlt : j < s.size
      · have hx := Lib.data_getElem? s j hlt
        have C0 := Lib.hid (refLetter_any (s[j]'hlt))
        cases h0 : isL (s[j]'hlt) with
        | true =>
          rw [h0] at C0
          have hp : isA (s[j]'hlt) = true := by rw [A_is]; simp [h0]
          have HN := Lib.hid (upL_step isA (lst s) j _ hx hp)
          clear hx hp h0
          go_wp2_with fail
          refine (C0.out _).mono ?_
          rintro e w1 ⟨rfl, rfl⟩
          go_wp2_with fail
          go_roundw
          case rel => exact ⟨j + 1, by omega, by go_num, HN.out.trans HL.out, rfl⟩
          case measure => simp [intOf]; omega
        | false =>
          rw [h0] at C0
          have C1 := Lib.hid (refDigit_any (s[j]'hlt))
          cases h1 : isD (s[j]'hlt) with
          | true =>
            rw [h1] at C1
            have hp : isA (s[j]'hlt) = true := by rw [A_is]; simp [h0, h1]
            have HN := Lib.hid (upL_step isA (lst s) j _ hx hp)
            clear hx hp h0 h1
            go_wp2_with fail
            refine (C0.out _).mono ?_
            rintro e w1 ⟨rfl, rfl⟩
            go_wp2_with fail
            refine (C1.out _).mono ?_
            rintro e w1 ⟨rfl, rfl⟩
            go_wp2_with fail
            go_roundw
            case rel => exact ⟨j + 1, by omega, by go_num, HN.out.trans HL.out, rfl⟩
            case measure => simp [intOf]; omega
          | false =>
            rw [h1] at C1
            by_cases h2 : (s[j]'hlt) = 95
            · have q2 : (((s[j]'hlt).toNat : Int) == 95) = true := by rw [h2]; rfl
              have hp : isA (s[j]'hlt) = true := by rw [A_is]; simp [h0, h1, h2]
              have HN := Lib.hid (upL_step isA (lst s) j _ hx hp)
              clear hx hp h0 h1 h2
              go_wp2_with fail
              refine (C0.out _).mono ?_
              rintro e w1 ⟨rfl, rfl⟩
              go_wp2_with fail
              refine (C1.out _).mono ?_
              rintro e w1 ⟨rfl, rfl⟩
              go_wp2_with fail
              go_roundw
              case rel => exact ⟨j + 1, by omega, by go_num, HN.out.trans HL.out, rfl⟩
              case measure => simp [intOf]; omega
            · have q2 : (((s[j]'hlt).toNat : Int) == 95) = false := u8_not _ 95 (by omega) h2
              by_cases h3 : (s[j]'hlt) = 46
              · have q3 : (((s[j]'hlt).toNat : Int) == 46) = true := by rw [h3]; rfl
                have hp : isA (s[j]'hlt) = true := by rw [A_is]; simp [h0, h1, h2, h3]
                have HN := Lib.hid (upL_step isA (lst s) j _ hx hp)
                clear hx hp h0 h1 h2 h3
                go_wp2_with fail
                refine (C0.out _).mono ?_
                rintro e w1 ⟨rfl, rfl⟩
                go_wp2_with fail
                refine (C1.out _).mono ?_
                rintro e w1 ⟨rfl, rfl⟩
                go_wp2_with fail
                go_roundw
                case rel => exact ⟨j + 1, by omega, by go_num, HN.out.trans HL.out, rfl⟩
                case measure => simp [intOf]; omega
              · have q3 : (((s[j]'hlt).toNat : Int) == 46) = false := u8_not _ 46 (by omega) h3
                by_cases h4 : (s[j]'hlt) = 58
                · have q4 : (((s[j]'hlt).toNat : Int) == 58) = true := by rw [h4]; rfl
                  have hp : isA (s[j]'hlt) = true := by rw [A_is]; simp [h0, h1, h2, h3, h4]
                  have HN := Lib.hid (upL_step isA (lst s) j _ hx hp)
                  clear hx hp h0 h1 h2 h3 h4
                  go_wp2_with fail
                  refine (C0.out _).mono ?_
                  rintro e w1 ⟨rfl, rfl⟩
                  go_wp2_with fail
                  refine (C1.out _).mono ?_
                  rintro e w1 ⟨rfl, rfl⟩
                  go_wp2_with fail
                  go_roundw
                  case rel => exact ⟨j + 1, by omega, by go_num, HN.out.trans HL.out, rfl⟩
                  case measure => simp [intOf]; omega
                · have q4 : (((s[j]'hlt).toNat : Int) == 58) = false := u8_not _ 58 (by omega) h4
                  by_cases h5 : (s[j]'hlt) = 45
                  · have q5 : (((s[j]'hlt).toNat : Int) == 45) = true := by rw [h5]; rfl
                    have hp : isA (s[j]'hlt) = true := by rw [A_is]; simp [h0, h1, h2, h3, h4, h5]
                    have HN := Lib.hid (upL_step isA (lst s) j _ hx hp)
                    clear hx hp h0 h1 h2 h3 h4 h5
                    go_wp2_with fail
                    refine (C0.out _).mono ?_
                    rintro e w1 ⟨rfl, rfl⟩
                    go_wp2_with fail
                    refine (C1.out _).mono ?_
                    rintro e w1 ⟨rfl, rfl⟩
                    go_wp2_with fail
                    go_roundw
                    case rel => exact ⟨j + 1, by omega, by go_num, HN.out.trans HL.out, rfl⟩
                    case measure => simp [intOf]; omega
                  · have q5 : (((s[j]'hlt).toNat : Int) == 45) = false := u8_not _ 45 (by omega) h5
                    have hp : isA (s[j]'hlt) = false := by rw [A_is]; simp [h0, h1, h2, h3, h4, h5]
                    have HN := Lib.hid (upL_stop isA (lst s) j (fun x h => by rw [hx] at h; cases h; exact hp))
                    clear hx hp h0 h1 h2 h3 h4 h5
                    have HJ := Lib.hid (HL.out.symm.trans HN.out)
                    have hbe := upL_bd isS (lst s) j (by rw [lst_size]; exact hj)
                    rw [lst_size] at hbe
                    have HE := Lib.hid (refBlanks_any s hs j hj)
                    by_cases hes : upL isS (lst s) j < s.size
                    · have hxe := Lib.data_getElem? s (upL isS (lst s) j) hes
                      by_cases h61 : (s[upL isS (lst s) j]'hes) = 61
                      · have HV2 : Hid (attR (lst s) k = ans (valL (lst s) (upL isS (lst s) (upL isS (lst s) j + 1)))) := show _ = _ from by rw [HV.out, HJ.out, value_eq (by rw [hxe, h61])]
                        have HB2 := Lib.hid (refBlanks_any s hs (upL isS (lst s) j + 1) hes)
                        have hb2 := upL_bd isS (lst s) (upL isS (lst s) j + 1) (by rw [lst_size]; exact hes)
                        rw [lst_size] at hb2
                        have HW := Lib.hid (refValue_any s hs (upL isS (lst s) (upL isS (lst s) j + 1)) hb2.2)
                        have qe : (((s[upL isS (lst s) j]'hes).toNat : Int) == 61) = true := by rw [h61]; rfl
                        clear hxe h61 hbe hb2
                        generalize upL isS (lst s) j = b2 at *
                        generalize ans (valL (lst s) (upL isS (lst s) (b2 + 1))) = r at *
                        generalize upL isS (lst s) (b2 + 1) = b3 at *
                        go_wp2_with fail
                        refine (C0.out _).mono ?_
                        rintro e w1 ⟨rfl, rfl⟩
                        go_wp2_with fail
                        refine (C1.out _).mono ?_
                        rintro e w1 ⟨rfl, rfl⟩
                        go_wp2_with fail
                        refine (HE.out _).mono ?_
                        rintro e w1 ⟨rfl, rfl⟩
                        go_wp2_with fail
                        refine (HB2.out _).mono ?_
                        rintro e w1 ⟨rfl, rfl⟩
                        go_wp2_with fail
                        refine (HW.out _).mono ?_
                        rintro e w2 ⟨rfl, hbw⟩
                        have HBW := Lib.hid hbw
                        clear hbw
                        go_wp2_with fail
                        go_ret
                        exact ⟨ret_int (by rw [HV2.out]), HBW.out⟩
                      · have HV2 : Hid (attR (lst s) k = (j : Int)) := show _ = _ from by rw [HV.out, HJ.out, value_no (by rw [hxe]; exact fun h => h61 (Option.some.inj h))]; rfl
                        have qe : (((s[upL isS (lst s) j]'hes).toNat : Int) == 61) = false := u8_not _ 61 (by omega) h61
                        clear hxe h61 hbe
                        generalize upL isS (lst s) j = b2 at *
                        go_wp2_with fail
                        refine (C0.out _).mono ?_
                        rintro e w1 ⟨rfl, rfl⟩
                        go_wp2_with fail
                        refine (C1.out _).mono ?_
                        rintro e w1 ⟨rfl, rfl⟩
                        go_wp2_with fail
                        refine (HE.out _).mono ?_
                        rintro e w1 ⟨rfl, rfl⟩
                        go_wp2_with fail
                        go_ret
                        exact ⟨ret_int (by rw [HV2.out]), Below.refl _ _⟩
                    · have HV2 : Hid (attR (lst s) k = (j : Int)) := show _ = _ from by rw [HV.out, HJ.out, value_no (by rw [List.getElem?_eq_none (by rw [lst_size]; omega)]; simp)]; rfl
                      clear hbe
                      generalize upL isS (lst s) j = b2 at *
                      go_wp2_with fail
                      refine (C0.out _).mono ?_
                      rintro e w1 ⟨rfl, rfl⟩
                      go_wp2_with fail
                      refine (C1.out _).mono ?_
                      rintro e w1 ⟨rfl, rfl⟩
                      go_wp2_with fail
                      refine (HE.out _).mono ?_
                      rintro e w1 ⟨rfl, rfl⟩
                      go_wp2_with fail
                      go_ret
                      exact ⟨ret_int (by rw [HV2.out]), Below.refl _ _⟩
      · have HN := Lib.hid (upL_stop isA (lst s) j (fun x h => by rw [List.getElem?_eq_none (by rw [lst_size]; omega)] at h; cases h))
        have HJ := Lib.hid (HL.out.symm.trans HN.out)
        have hbe := upL_bd isS (lst s) j (by rw [lst_size]; exact hj)
        rw [lst_size] at hbe
        have HE := Lib.hid (refBlanks_any s hs j hj)
        by_cases hes : upL isS (lst s) j < s.size
        · have hxe := Lib.data_getElem? s (upL isS (lst s) j) hes
          by_cases h61 : (s[upL isS (lst s) j]'hes) = 61
          · have HV2 : Hid (attR (lst s) k = ans (valL (lst s) (upL isS (lst s) (upL isS (lst s) j + 1)))) := show _ = _ from by rw [HV.out, HJ.out, value_eq (by rw [hxe, h61])]
            have HB2 := Lib.hid (refBlanks_any s hs (upL isS (lst s) j + 1) hes)
            have hb2 := upL_bd isS (lst s) (upL isS (lst s) j + 1) (by rw [lst_size]; exact hes)
            rw [lst_size] at hb2
            have HW := Lib.hid (refValue_any s hs (upL isS (lst s) (upL isS (lst s) j + 1)) hb2.2)
            have qe : (((s[upL isS (lst s) j]'hes).toNat : Int) == 61) = true := by rw [h61]; rfl
            clear hxe h61 hbe hb2
            generalize upL isS (lst s) j = b2 at *
            generalize ans (valL (lst s) (upL isS (lst s) (b2 + 1))) = r at *
            generalize upL isS (lst s) (b2 + 1) = b3 at *
            go_wp2_with fail
            refine (HE.out _).mono ?_
            rintro e w1 ⟨rfl, rfl⟩
            go_wp2_with fail
            refine (HB2.out _).mono ?_
            rintro e w1 ⟨rfl, rfl⟩
            go_wp2_with fail
            refine (HW.out _).mono ?_
            rintro e w2 ⟨rfl, hbw⟩
            have HBW := Lib.hid hbw
            clear hbw
            go_wp2_with fail
            go_ret
            exact ⟨ret_int (by rw [HV2.out]), HBW.out⟩
          · have HV2 : Hid (attR (lst s) k = (j : Int)) := show _ = _ from by rw [HV.out, HJ.out, value_no (by rw [hxe]; exact fun h => h61 (Option.some.inj h))]; rfl
            have qe : (((s[upL isS (lst s) j]'hes).toNat : Int) == 61) = false := u8_not _ 61 (by omega) h61
            clear hxe h61 hbe
            generalize upL isS (lst s) j = b2 at *
            go_wp2_with fail
            refine (HE.out _).mono ?_
            rintro e w1 ⟨rfl, rfl⟩
            go_wp2_with fail
            go_ret
            exact ⟨ret_int (by rw [HV2.out]), Below.refl _ _⟩
        · have HV2 : Hid (attR (lst s) k = (j : Int)) := show _ = _ from by rw [HV.out, HJ.out, value_no (by rw [List.getElem?_eq_none (by rw [lst_size]; omega)]; simp)]; rfl
          clear hbe
          generalize upL isS (lst s) j = b2 at *
          go_wp2_with fail
          refine (HE.out _).mono ?_
          rintro e w1 ⟨rfl, rfl⟩
          go_wp2_with fail
          go_ret
          exact ⟨ret_int (by rw [HV2.out]), Below.refl _ _⟩
  · skip
    go_enter Tryd.func30, Tryd.ntmps30
    go_wp2_with fail
    refine (HS.out _).mono ?_
    rintro e w1 ⟨rfl, rfl⟩
    go_wp2_with fail
    refine (C.out _).mono ?_
    rintro e w1 ⟨rfl, rfl⟩
    clear C HS
    go_wp2_with fail
    go_loopw [5] (fun i wr => NRel isA s b i w1 wr) (fun i _ => s.size - (intOf i).toNat)
    case atStart => exact ⟨b, hb.2, rfl, rfl, rfl⟩
    case round =>
      obtain ⟨j, hj, rfl, hl, rfl⟩ := hrel
      have HL := Lib.hid hl
      clear hl
      by_cases hlt : j < s.size
      · have hx := Lib.data_getElem? s j hlt
        have C0 := Lib.hid (refLetter_any (s[j]'hlt))
        cases h0 : isL (s[j]'hlt) with
        | true =>
          rw [h0] at C0
          have hp : isA (s[j]'hlt) = true := by rw [A_is]; simp [h0]
          have HN := Lib.hid (upL_step isA (lst s) j _ hx hp)
          clear hx hp h0
          go_wp2_with fail
          refine (C0.out _).mono ?_
          rintro e w1 ⟨rfl, rfl⟩
          go_wp2_with fail
          go_roundw
          case rel => exact ⟨j + 1, by omega, by go_num, HN.out.trans HL.out, rfl⟩
          case measure => simp [intOf]; omega
        | false =>
          rw [h0] at C0
          have C1 := Lib.hid (refDigit_any (s[j]'hlt))
          cases h1 : isD (s[j]'hlt) with
          | true =>
            rw [h1] at C1
            have hp : isA (s[j]'hlt) = true := by rw [A_is]; simp [h0, h1]
            have HN := Lib.hid (upL_step isA (lst s) j _ hx hp)
            clear hx hp h0 h1
            go_wp2_with fail
            refine (C0.out _).mono ?_
            rintro e w1 ⟨rfl, rfl⟩
            go_wp2_with fail
            refine (C1.out _).mono ?_
            rintro e w1 ⟨rfl, rfl⟩
            go_wp2_with fail
            go_roundw
            case rel => exact ⟨j + 1, by omega, by go_num, HN.out.trans HL.out, rfl⟩
            case measure => simp [intOf]; omega
          | false =>
            rw [h1] at C1
            by_cases h2 : (s[j]'hlt) = 95
            · have q2 : (((s[j]'hlt).toNat : Int) == 95) = true := by rw [h2]; rfl
              have hp : isA (s[j]'hlt) = true := by rw [A_is]; simp [h0, h1, h2]
              have HN := Lib.hid (upL_step isA (lst s) j _ hx hp)
              clear hx hp h0 h1 h2
              go_wp2_with fail
              refine (C0.out _).mono ?_
              rintro e w1 ⟨rfl, rfl⟩
              go_wp2_with fail
              refine (C1.out _).mono ?_
              rintro e w1 ⟨rfl, rfl⟩
              go_wp2_with fail
              go_roundw
              case rel => exact ⟨j + 1, by omega, by go_num, HN.out.trans HL.out, rfl⟩
              case measure => simp [intOf]; omega
            · have q2 : (((s[j]'hlt).toNat : Int) == 95) = false := u8_not _ 95 (by omega) h2
              by_cases h3 : (s[j]'hlt) = 46
              · have q3 : (((s[j]'hlt).toNat : Int) == 46) = true := by rw [h3]; rfl
                have hp : isA (s[j]'hlt) = true := by rw [A_is]; simp [h0, h1, h2, h3]
                have HN := Lib.hid (upL_step isA (lst s) j _ hx hp)
                clear hx hp h0 h1 h2 h3
                go_wp2_with fail
                refine (C0.out _).mono ?_
                rintro e w1 ⟨rfl, rfl⟩
                go_wp2_with fail
                refine (C1.out _).mono ?_
                rintro e w1 ⟨rfl, rfl⟩
                go_wp2_with fail
                go_roundw
                case rel => exact ⟨j + 1, by omega, by go_num, HN.out.trans HL.out, rfl⟩
                case measure => simp [intOf]; omega
              · have q3 : (((s[j]'hlt).toNat : Int) == 46) = false := u8_not _ 46 (by omega) h3
                by_cases h4 : (s[j]'hlt) = 58
                · have q4 : (((s[j]'hlt).toNat : Int) == 58) = true := by rw [h4]; rfl
                  have hp : isA (s[j]'hlt) = true := by rw [A_is]; simp [h0, h1, h2, h3, h4]
                  have HN := Lib.hid (upL_step isA (lst s) j _ hx hp)
                  clear hx hp h0 h1 h2 h3 h4
                  go_wp2_with fail
                  refine (C0.out _).mono ?_
                  rintro e w1 ⟨rfl, rfl⟩
                  go_wp2_with fail
                  refine (C1.out _).mono ?_
                  rintro e w1 ⟨rfl, rfl⟩
                  go_wp2_with fail
                  go_roundw
                  case rel => exact ⟨j + 1, by omega, by go_num, HN.out.trans HL.out, rfl⟩
                  case measure => simp [intOf]; omega
                · have q4 : (((s[j]'hlt).toNat : Int) == 58) = false := u8_not _ 58 (by omega) h4
                  by_cases h5 : (s[j]'hlt) = 45
                  · have q5 : (((s[j]'hlt).toNat : Int) == 45) = true := by rw [h5]; rfl
                    have hp : isA (s[j]'hlt) = true := by rw [A_is]; simp [h0, h1, h2, h3, h4, h5]
                    have HN := Lib.hid (upL_step isA (lst s) j _ hx hp)
                    clear hx hp h0 h1 h2 h3 h4 h5
                    go_wp2_with fail
                    refine (C0.out _).mono ?_
                    rintro e w1 ⟨rfl, rfl⟩
                    go_wp2_with fail
                    refine (C1.out _).mono ?_
                    rintro e w1 ⟨rfl, rfl⟩
                    go_wp2_with fail
                    go_roundw
                    case rel => exact ⟨j + 1, by omega, by go_num, HN.out.trans HL.out, rfl⟩
                    case measure => simp [intOf]; omega
                  · have q5 : (((s[j]'hlt).toNat : Int) == 45) = false := u8_not _ 45 (by omega) h5
                    have hp : isA (s[j]'hlt) = false := by rw [A_is]; simp [h0, h1, h2, h3, h4, h5]
                    have HN := Lib.hid (upL_stop isA (lst s) j (fun x h => by rw [hx] at h; cases h; exact hp))
                    clear hx hp h0 h1 h2 h3 h4 h5
                    have HJ := Lib.hid (HL.out.symm.trans HN.out)
                    have hbe := upL_bd isS (lst s) j (by rw [lst_size]; exact hj)
                    rw [lst_size] at hbe
                    have HE := Lib.hid (refBlanks_any s hs j hj)
                    by_cases hes : upL isS (lst s) j < s.size
                    · have hxe := Lib.data_getElem? s (upL isS (lst s) j) hes
                      by_cases h61 : (s[upL isS (lst s) j]'hes) = 61
                      · have HV2 : Hid (attR (lst s) k = ans (valL (lst s) (upL isS (lst s) (upL isS (lst s) j + 1)))) := show _ = _ from by rw [HV.out, HJ.out, value_eq (by rw [hxe, h61])]
                        have HB2 := Lib.hid (refBlanks_any s hs (upL isS (lst s) j + 1) hes)
                        have hb2 := upL_bd isS (lst s) (upL isS (lst s) j + 1) (by rw [lst_size]; exact hes)
                        rw [lst_size] at hb2
                        have HW := Lib.hid (refValue_any s hs (upL isS (lst s) (upL isS (lst s) j + 1)) hb2.2)
                        have qe : (((s[upL isS (lst s) j]'hes).toNat : Int) == 61) = true := by rw [h61]; rfl
                        clear hxe h61 hbe hb2
                        generalize upL isS (lst s) j = b2 at *
                        generalize ans (valL (lst s) (upL isS (lst s) (b2 + 1))) = r at *
                        generalize upL isS (lst s) (b2 + 1) = b3 at *
                        go_wp2_with fail
                        refine (C0.out _).mono ?_
                        rintro e w1 ⟨rfl, rfl⟩
                        go_wp2_with fail
                        refine (C1.out _).mono ?_
                        rintro e w1 ⟨rfl, rfl⟩
                        go_wp2_with fail
                        refine (HE.out _).mono ?_
                        rintro e w1 ⟨rfl, rfl⟩
                        go_wp2_with fail
                        refine (HB2.out _).mono ?_
                        rintro e w1 ⟨rfl, rfl⟩
                        go_wp2_with fail
                        refine (HW.out _).mono ?_
                        rintro e w2 ⟨rfl, hbw⟩
                        have HBW := Lib.hid hbw
                        clear hbw
                        go_wp2_with fail
                        go_ret
                        exact ⟨ret_int (by rw [HV2.out]), HBW.out⟩
                      · have HV2 : Hid (attR (lst s) k = (j : Int)) := show _ = _ from by rw [HV.out, HJ.out, value_no (by rw [hxe]; exact fun h => h61 (Option.some.inj h))]; rfl
                        have qe : (((s[upL isS (lst s) j]'hes).toNat : Int) == 61) = false := u8_not _ 61 (by omega) h61
                        clear hxe h61 hbe
                        generalize upL isS (lst s) j = b2 at *
                        go_wp2_with fail
                        refine (C0.out _).mono ?_
                        rintro e w1 ⟨rfl, rfl⟩
                        go_wp2_with fail
                        refine (C1.out _).mono ?_
                        rintro e w1 ⟨rfl, rfl⟩
                        go_wp2_with fail
                        refine (HE.out _).mono ?_
                        rintro e w1 ⟨rfl, rfl⟩
                        go_wp2_with fail
                        go_ret
                        exact ⟨ret_int (by rw [HV2.out]), Below.refl _ _⟩
                    · have HV2 : Hid (attR (lst s) k = (j : Int)) := show _ = _ from by rw [HV.out, HJ.out, value_no (by rw [List.getElem?_eq_none (by rw [lst_size]; omega)]; simp)]; rfl
                      clear hbe
                      generalize upL isS (lst s) j = b2 at *
                      go_wp2_with fail
                      refine (C0.out _).mono ?_
                      rintro e w1 ⟨rfl, rfl⟩
                      go_wp2_with fail
                      refine (C1.out _).mono ?_
                      rintro e w1 ⟨rfl, rfl⟩
                      go_wp2_with fail
                      refine (HE.out _).mono ?_
                      rintro e w1 ⟨rfl, rfl⟩
                      go_wp2_with fail
                      go_ret
                      exact ⟨ret_int (by rw [HV2.out]), Below.refl _ _⟩
      · have HN := Lib.hid (upL_stop isA (lst s) j (fun x h => by rw [List.getElem?_eq_none (by rw [lst_size]; omega)] at h; cases h))
        have HJ := Lib.hid (HL.out.symm.trans HN.out)
        have hbe := upL_bd isS (lst s) j (by rw [lst_size]; exact hj)
        rw [lst_size] at hbe
        have HE := Lib.hid (refBlanks_any s hs j hj)
        by_cases hes : upL isS (lst s) j < s.size
        · have hxe := Lib.data_getElem? s (upL isS (lst s) j) hes
          by_cases h61 : (s[upL isS (lst s) j]'hes) = 61
          · have HV2 : Hid (attR (lst s) k = ans (valL (lst s) (upL isS (lst s) (upL isS (lst s) j + 1)))) := show _ = _ from by rw [HV.out, HJ.out, value_eq (by rw [hxe, h61])]
            have HB2 := Lib.hid (refBlanks_any s hs (upL isS (lst s) j + 1) hes)
            have hb2 := upL_bd isS (lst s) (upL isS (lst s) j + 1) (by rw [lst_size]; exact hes)
            rw [lst_size] at hb2
            have HW := Lib.hid (refValue_any s hs (upL isS (lst s) (upL isS (lst s) j + 1)) hb2.2)
            have qe : (((s[upL isS (lst s) j]'hes).toNat : Int) == 61) = true := by rw [h61]; rfl
            clear hxe h61 hbe hb2
            generalize upL isS (lst s) j = b2 at *
            generalize ans (valL (lst s) (upL isS (lst s) (b2 + 1))) = r at *
            generalize upL isS (lst s) (b2 + 1) = b3 at *
            go_wp2_with fail
            refine (HE.out _).mono ?_
            rintro e w1 ⟨rfl, rfl⟩
            go_wp2_with fail
            refine (HB2.out _).mono ?_
            rintro e w1 ⟨rfl, rfl⟩
            go_wp2_with fail
            refine (HW.out _).mono ?_
            rintro e w2 ⟨rfl, hbw⟩
            have HBW := Lib.hid hbw
            clear hbw
            go_wp2_with fail
            go_ret
            exact ⟨ret_int (by rw [HV2.out]), HBW.out⟩
          · have HV2 : Hid (attR (lst s) k = (j : Int)) := show _ = _ from by rw [HV.out, HJ.out, value_no (by rw [hxe]; exact fun h => h61 (Option.some.inj h))]; rfl
            have qe : (((s[upL isS (lst s) j]'hes).toNat : Int) == 61) = false := u8_not _ 61 (by omega) h61
            clear hxe h61 hbe
            generalize upL isS (lst s) j = b2 at *
            go_wp2_with fail
            refine (HE.out _).mono ?_
            rintro e w1 ⟨rfl, rfl⟩
            go_wp2_with fail
            go_ret
            exact ⟨ret_int (by rw [HV2.out]), Below.refl _ _⟩
        · have HV2 : Hid (attR (lst s) k = (j : Int)) := show _ = _ from by rw [HV.out, HJ.out, value_no (by rw [List.getElem?_eq_none (by rw [lst_size]; omega)]; simp)]; rfl
          clear hbe
          generalize upL isS (lst s) j = b2 at *
          go_wp2_with fail
          refine (HE.out _).mono ?_
          rintro e w1 ⟨rfl, rfl⟩
          go_wp2_with fail
          go_ret
          exact ⟨ret_int (by rw [HV2.out]), Below.refl _ _⟩

set_option maxHeartbeats 8000000 in
theorem refAtt_any (s : ByteArray) (hs : s.size ≤ 1000000) (k : Nat) (hk : k ≤ s.size) (w : World) : Calls Tryd.prog 30 #[.string s, .int .i64 k] w fun e w' => e = .returned (.int .i64 (attR (lst s) k)) ∧ Below w.heap.size w w' := by
  have HS := Lib.hid (refBlanks_any s hs k hk)
  have hb := upL_bd isS (lst s) k (by rw [lst_size]; exact hk)
  rw [lst_size] at hb
  by_cases hne : upL isS (lst s) k = k
  · have HV := Lib.hid (attR_no (att_no1 hne))
    rw [hne] at HS
    clear hne hb
    go_enter Tryd.func30, Tryd.ntmps30
    go_wp2_with fail
    refine (HS.out _).mono ?_
    rintro e w1 ⟨rfl, rfl⟩
    go_wp2_with fail
    go_ret
    exact ⟨ret_int (by rw [HV.out]), Below.refl _ _⟩
  · by_cases hbs : upL isS (lst s) k < s.size
    · have hx := Lib.data_getElem? s (upL isS (lst s) k) hbs
      cases hf : isF (s[upL isS (lst s) k]'hbs) with
      | true =>
        have hat : isAtt (lst s) k = true := att_yes hne (fun e => by
          have := (upL_pos isF (lst s) (upL isS (lst s) k)).1 e _ hx
          rw [hf] at this
          cases this)
        exact refAtt_yes s hs k _ hb hne hbs HS (Lib.hid (attR_yes hat)) _ (Lib.hid (refLetter_any _)) (F_yes _ hf) w
      | false =>
        have HV := Lib.hid (attR_no (att_no2 (l := lst s) (k := k) (upL_stop _ _ _ (fun x h => by rw [hx] at h; cases h; exact hf))))
        have C := Lib.hid (refLetter_any (s[upL isS (lst s) k]'hbs))
        obtain ⟨d0, d1, d2⟩ := F_no _ hf
        rw [d0] at C
        have ql : decide (s.size ≤ upL isS (lst s) k) = false := by simp; omega
        have qk : ((upL isS (lst s) k : Int) == (k : Int)) = false := by simp; omega
        clear hx hf d0 hb hne
        generalize upL isS (lst s) k = b at *
        go_enter Tryd.func30, Tryd.ntmps30
        go_wp2_with fail
        refine (HS.out _).mono ?_
        rintro e w1 ⟨rfl, rfl⟩
        go_wp2_with fail
        refine (C.out _).mono ?_
        rintro e w1 ⟨rfl, rfl⟩
        go_wp2_with fail
        go_ret
        exact ⟨ret_int (by rw [HV.out]), Below.refl _ _⟩
    · have HV := Lib.hid (attR_no (att_no2 (l := lst s) (k := k) (upL_stop _ _ _ (fun x h => by rw [List.getElem?_eq_none (by rw [lst_size]; omega)] at h; cases h))))
      have ql : decide (s.size ≤ upL isS (lst s) k) = true := by simp; omega
      have qk : ((upL isS (lst s) k : Int) == (k : Int)) = false := by simp; omega
      clear hb hne
      generalize upL isS (lst s) k = b at *
      go_enter Tryd.func30, Tryd.ntmps30
      go_wp2_with fail
      refine (HS.out _).mono ?_
      rintro e w1 ⟨rfl, rfl⟩
      go_wp2_with fail
      go_ret
      exact ⟨ret_int (by rw [HV.out]), Below.refl _ _⟩
end Go.Proofs.YtdnnjakggopdoaaDoor
