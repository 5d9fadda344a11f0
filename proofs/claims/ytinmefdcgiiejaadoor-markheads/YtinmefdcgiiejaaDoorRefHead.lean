/-
  PROVED: the contract of the document's own Head: 'headL', as mark.Head's. Conditions: the text has at most 1000000 bytes.
-/
import Derived.Test.YtinmefdcgiiejaaDoorHeads
import Derived.Deep.CutBlock
import Derived.Deep.DeepCutAuto
import Derived.Deep.LoopGhost
namespace Go.Proofs.YtinmefdcgiiejaaDoor
open Go.ChangeShapes Go.WideShapes Go.ChangeAt Go.RowKit
set_option linter.unusedVariables false

theorem firm_cut (l : List UInt8) (f k : Nat) (x : UInt8) (h : f < k) (hx : l[k - 1]? = some x) : firm ((l.take k).drop f) = !isB x := by
  obtain ⟨j, rfl⟩ : ∃ j, k = j + 1 := ⟨k - 1, by omega⟩
  rw [take_snoc l j f x (by simpa using hx) (by omega)]
  unfold firm
  simp
theorem firm_none (l : List UInt8) (f : Nat) : firm ((l.take f).drop f) = false := by
  rw [List.drop_of_length_le (by rw [List.length_take]; omega)]
  rfl
theorem dn_step (p : UInt8 → Bool) (l : List UInt8) (lo j : Nat) (x : UInt8) (h : lo < j) (hx : l[j - 1]? = some x) (hp : p x = true) : dnL p l lo (j - 1) = dnL p l lo j := by
  obtain ⟨i, rfl⟩ : ∃ i, j = i + 1 := ⟨j - 1, by omega⟩
  exact dnL_step p l lo i x (by omega) (by simpa using hx) hp
theorem dn_stop (p : UInt8 → Bool) (l : List UInt8) (lo j : Nat) (x : UInt8) (h : lo < j) (hx : l[j - 1]? = some x) (hp : p x = false) : dnL p l lo j = j := by
  obtain ⟨i, rfl⟩ : ∃ i, j = i + 1 := ⟨j - 1, by omega⟩
  exact dnL_stop p l lo i x (by omega) (by simpa using hx) hp
theorem ne_of_beq_false {a b : UInt8} (h : (a == b) = false) : a ≠ b := by simpa using h
theorem refBlank_w (c : UInt8) (w : World) : Calls Tryd.prog 26 #[.int .u8 c.toNat] w fun e w' => e = .returned (.bool (isB c)) ∧ w = w' := (refBlank_any c w).mono fun e w' ⟨h1, h2⟩ => ⟨h1, h2.symm⟩
theorem ends_in (l : List UInt8) (n : Nat) (x : UInt8) (h : l[n]? = some x) : endsL (l.drop n) = isB x := by
  obtain ⟨hj, rfl⟩ := List.getElem?_eq_some_iff.1 h
  rw [List.drop_eq_getElem_cons hj]
  rfl
theorem ends_out (l : List UInt8) (n : Nat) (h : l.length ≤ n) : endsL (l.drop n) = true := by
  rw [List.drop_of_length_le h]
  rfl

set_option maxHeartbeats 8000000 in
theorem refHead_any (s : ByteArray) (hs : s.size ≤ 1000000) (w : World) : Calls Tryd.prog 17 #[.string s] w fun e w' => e = .returned (headV (lst s)) ∧ w' = w := by
  have H1 : Hid (∀ W, Calls Tryd.prog 28 #[.string s, .int .u8 35] W fun e w' => e = .returned (.int .i64 (cnt (lst s) 35)) ∧ w' = W) := fun W => many_any s 35 hs W
  have hn : cnt (lst s) 35 ≤ s.size := by rw [← lst_size]; exact cnt_le _ _
  by_cases h1 : cnt (lst s) 35 < 1
  · have HNO : ¬ isHead (lst s) := fun h => by have := h.1; omega
    have HV := Lib.hid (headV_no (lst s) HNO)
    generalize cnt (lst s) 35 = n at *
    generalize headV (lst s) = v at *
    go_enter Tryd.func17, Tryd.ntmps17
    go_wp2_with fail
    refine (H1.out _).mono ?_
    rintro e w1 ⟨rfl, rfl⟩
    go_wp2_with fail
    go_ret3
    exact ⟨(congrArg Ending.returned HV.out).symm, rfl⟩
  by_cases h2 : 6 < cnt (lst s) 35
  · have HNO : ¬ isHead (lst s) := fun h => by have := h.2.1; omega
    have HV := Lib.hid (headV_no (lst s) HNO)
    generalize cnt (lst s) 35 = n at *
    generalize headV (lst s) = v at *
    go_enter Tryd.func17, Tryd.ntmps17
    go_wp2_with fail
    refine (H1.out _).mono ?_
    rintro e w1 ⟨rfl, rfl⟩
    go_wp2_with fail
    go_ret3
    exact ⟨(congrArg Ending.returned HV.out).symm, rfl⟩
  by_cases h3 : cnt (lst s) 35 < s.size
  · have H2 := Lib.hid (refBlank_w (s[cnt (lst s) 35]'h3))
    have hE := ends_in (lst s) _ _ (Lib.data_getElem? s _ h3)
    cases hb : isB (s[cnt (lst s) 35]'h3) with
    | false =>
      rw [hb] at H2 hE
      clear hb
      have HNO : ¬ isHead (lst s) := fun h => by rw [h.2.2] at hE; cases hE
      clear hE
      have HV := Lib.hid (headV_no (lst s) HNO)
      generalize cnt (lst s) 35 = n at *
      generalize headV (lst s) = v at *
      go_enter Tryd.func17, Tryd.ntmps17
      go_wp2_with fail
      refine (H1.out _).mono ?_
      rintro e w1 ⟨rfl, rfl⟩
      go_wp2_with fail
      refine (H2.out _).mono ?_
      rintro e w2 ⟨rfl, rfl⟩
      go_wp2_with fail
      go_ret3
      exact ⟨(congrArg Ending.returned HV.out).symm, rfl⟩
    | true =>
      rw [hb] at H2 hE
      clear hb
      have hend := hE
      clear hE
      have hh : isHead (lst s) := ⟨by omega, by omega, hend⟩
      have hRV : headV (lst s) = .tuple #[.int .i64 (refHeadL (lst s)).1, .int .i64 (refHeadL (lst s)).2.1, .int .i64 (refHeadL (lst s)).2.2] := by rw [refHead_eq]; rfl
      unfold refHeadL at hRV
      rw [if_pos hh] at hRV
      simp only [] at hRV
      generalize headV (lst s) = v at *
      clear hh hend
      generalize cnt (lst s) 35 = n at *
      have bF := upL_bd isB (lst s) n (by rw [lst_size]; exact hn)
      rw [lst_size] at bF hRV
      obtain ⟨F, hF⟩ : ∃ F, F = upL isB (lst s) n := ⟨_, rfl⟩
      rw [← hF] at bF hRV
      have HF : Hid (upL isB (lst s) n = F) := hF.symm
      have bT := dnL_bd isB (lst s) F s.size bF.2 (by rw [lst_size]; exact Nat.le_refl _)
      obtain ⟨T, hT⟩ : ∃ T, T = dnL isB (lst s) F s.size := ⟨_, rfl⟩
      rw [← hT] at bT hRV
      have HT : Hid (dnL isB (lst s) F s.size = T) := hT.symm
      have bK := dnL_bd (· == 35) (lst s) F T bT.1 (by rw [lst_size]; exact bT.2)
      obtain ⟨K, hK⟩ : ∃ K, K = dnL (· == 35) (lst s) F T := ⟨_, rfl⟩
      rw [← hK] at bK hRV
      have HK : Hid (dnL (· == 35) (lst s) F T = K) := hK.symm
      have bM := dnL_bd isB (lst s) F K bK.1 (by rw [lst_size]; omega)
      obtain ⟨M, hM⟩ : ∃ M, M = dnL isB (lst s) F K := ⟨_, rfl⟩
      rw [← hM] at bM hRV
      have HM : Hid (dnL isB (lst s) F K = M) := hM.symm
      have HY : Hid (K < T ∧ firm (((lst s).take K).drop F) = false → v = .tuple #[.int .i64 n, .int .i64 F, .int .i64 M]) := fun h => by rw [hRV, if_pos h]
      have HZ : Hid (¬ (K < T ∧ firm (((lst s).take K).drop F) = false) → v = .tuple #[.int .i64 n, .int .i64 F, .int .i64 T]) := fun h => by rw [hRV, if_neg h]
      clear hF hT hK hM hRV
      obtain ⟨bF1, bF2⟩ := bF
      obtain ⟨bT1, bT2⟩ := bT
      obtain ⟨bK1, bK2⟩ := bK
      obtain ⟨bM1, bM2⟩ := bM
      go_enter Tryd.func17, Tryd.ntmps17
      go_wp2_with fail
      refine (H1.out _).mono ?_
      rintro e W0 ⟨rfl, rfl⟩
      go_wp2_with fail
      refine (H2.out _).mono ?_
      rintro e w1 ⟨rfl, rfl⟩

      go_upto_block 0 with fail
      go_cut [6] (fun v wx => v = .int .i64 F ∧ W0 = wx)
      case first =>
        go_wp2_with fail
        go_loopg [6] (s.size - n) (fun g v wx => ∃ j : Nat, n ≤ j ∧ j ≤ s.size ∧ g = s.size - j ∧ v = .int .i64 j ∧ Hid (upL isB (lst s) j = F) ∧ W0 = wx)
        case atStart => exact ⟨n, Nat.le_refl _, by omega, rfl, rfl, HF.out, rfl⟩
        case round =>
          obtain ⟨j, hj0, hj, rfl, rfl, HL, rfl⟩ := hrel
          by_cases hlt : j < s.size
          · have hx := Lib.data_getElem? s j hlt
            have HB := Lib.hid (refBlank_w (s[j]'hlt))
            cases hb : isB (s[j]'hlt) with
            | true =>
              have HN := Lib.hid (upL_step isB (lst s) j _ hx hb)
              rw [hb] at HB
              clear hb hx
              go_wp2_with fail
              refine (HB.out _).mono ?_
              rintro e w2 ⟨rfl, rfl⟩
              go_wp2_with fail
              go_roundg (s.size - (j + 1))
              case measure => omega
              case rel => exact ⟨j + 1, by omega, by omega, rfl, by go_num, HN.out.trans HL.out, rfl⟩
            | false =>
              have HN : Hid (j = F) := (upL_stop isB (lst s) j (fun x h => by rw [hx] at h; cases h; exact hb)).symm.trans HL.out
              rw [hb] at HB
              clear hb hx
              go_wp2_with fail
              refine (HB.out _).mono ?_
              rintro e w2 ⟨rfl, rfl⟩
              go_wp2_with fail
              go_meet
              exact ⟨by rw [HN.out], rfl⟩
          · have HN : Hid (j = F) := (upL_stop isB (lst s) j (fun x h => by rw [List.getElem?_eq_none (by rw [lst_size]; omega)] at h; cases h)).symm.trans HL.out
            go_wp2_with fail
            go_meet
            exact ⟨by rw [HN.out], rfl⟩
      case rest =>
        obtain ⟨rfl, rfl⟩ := hcut
        go_upto_block 2 with fail
        go_cut [7] (fun v wx => v = .int .i64 T ∧ W0 = wx)
        case first =>
          go_wp2_with fail
          go_loopg [7] (s.size - F) (fun g v wx => ∃ j : Nat, F ≤ j ∧ j ≤ s.size ∧ g = j - F ∧ v = .int .i64 j ∧ Hid (dnL isB (lst s) F j = T) ∧ W0 = wx)
          case atStart => exact ⟨s.size, by omega, Nat.le_refl _, rfl, rfl, HT.out, rfl⟩
          case round =>
            obtain ⟨j, hj0, hj, rfl, rfl, HL, rfl⟩ := hrel
            by_cases hjl : F < j
            · have hlt : j - 1 < s.size := by omega
              have hx := Lib.data_getElem? s (j - 1) hlt
              have hwr : ((j : Int) - 1 + 9223372036854775808) % 18446744073709551616 - 9223372036854775808 = ((j - 1 : Nat) : Int) := by omega
              have HB := Lib.hid (refBlank_w (s[j - 1]'hlt))
              cases hb : isB (s[j - 1]'hlt) with
              | true =>
                have HN := Lib.hid (dn_step isB (lst s) F j _ hjl hx hb)
                rw [hb] at HB
                skip
                clear hb hx
                go_wp2_with fail
                refine (HB.out _).mono ?_
                rintro e w2 ⟨rfl, rfl⟩
                go_wp2_with fail
                go_roundg (j - 1 - F)
                case measure => omega
                case rel => exact ⟨j - 1, by omega, by omega, rfl, by go_num, HN.out.trans HL.out, rfl⟩
              | false =>
                have HN : Hid (j = T) := (dn_stop isB (lst s) F j _ hjl hx hb).symm.trans HL.out
                rw [hb] at HB
                skip
                clear hb hx
                go_wp2_with fail
                refine (HB.out _).mono ?_
                rintro e w2 ⟨rfl, rfl⟩
                go_wp2_with fail
                go_meet
                exact ⟨by rw [HN.out], rfl⟩
            · have HN : Hid (j = T) := by
                have e : j = F := by omega
                have h := HL.out
                rw [e, dnL_end] at h
                show j = T
                omega
              go_wp2_with fail
              go_meet
              exact ⟨by rw [HN.out], rfl⟩
        case rest =>
          obtain ⟨rfl, rfl⟩ := hcut
          go_upto_block 4 with fail
          go_cut [8] (fun v wx => v = .int .i64 K ∧ W0 = wx)
          case first =>
            go_wp2_with fail
            go_loopg [8] (T - F) (fun g v wx => ∃ j : Nat, F ≤ j ∧ j ≤ T ∧ g = j - F ∧ v = .int .i64 j ∧ Hid (dnL (· == 35) (lst s) F j = K) ∧ W0 = wx)
            case atStart => exact ⟨T, by omega, Nat.le_refl _, rfl, rfl, HK.out, rfl⟩
            case round =>
              obtain ⟨j, hj0, hj, rfl, rfl, HL, rfl⟩ := hrel
              by_cases hjl : F < j
              · have hlt : j - 1 < s.size := by omega
                have hx := Lib.data_getElem? s (j - 1) hlt
                have hwr : ((j : Int) - 1 + 9223372036854775808) % 18446744073709551616 - 9223372036854775808 = ((j - 1 : Nat) : Int) := by omega
                skip
                cases hb : (· == 35) (s[j - 1]'hlt) with
                | true =>
                  have HN := Lib.hid (dn_step (· == 35) (lst s) F j _ hjl hx hb)
                  skip
                  have hq : (((s[j - 1]'hlt).toNat : Int) == 35) = true := eq_u8 _ 35 (eq_of_beq hb)
                  clear hb hx
                  go_wp2_with fail
                  go_roundg (j - 1 - F)
                  case measure => omega
                  case rel => exact ⟨j - 1, by omega, by omega, rfl, by go_num, HN.out.trans HL.out, rfl⟩
                | false =>
                  have HN : Hid (j = K) := (dn_stop (· == 35) (lst s) F j _ hjl hx hb).symm.trans HL.out
                  skip
                  have hq : (((s[j - 1]'hlt).toNat : Int) == 35) = false := ne_u8 _ 35 (ne_of_beq_false hb)
                  clear hb hx
                  go_wp2_with fail
                  go_meet
                  exact ⟨by rw [HN.out], rfl⟩
              · have HN : Hid (j = K) := by
                  have e : j = F := by omega
                  have h := HL.out
                  rw [e, dnL_end] at h
                  show j = K
                  omega
                go_wp2_with fail
                go_meet
                exact ⟨by rw [HN.out], rfl⟩
          case rest =>
            obtain ⟨rfl, rfl⟩ := hcut
            by_cases hkt : K < T
            · by_cases hkf : F < K
              · have hlt : K - 1 < s.size := by omega
                have hx := Lib.data_getElem? s (K - 1) hlt
                have hwr : ((K : Int) - 1 + 9223372036854775808) % 18446744073709551616 - 9223372036854775808 = ((K - 1 : Nat) : Int) := by omega
                have hfm := firm_cut (lst s) F K _ hkf hx
                have HB := Lib.hid (refBlank_w (s[K - 1]'hlt))
                cases hb : isB (s[K - 1]'hlt) with
                | true =>
                  rw [hb] at HB hfm
                  have HR := Lib.hid (HY.out ⟨hkt, hfm⟩)
                  have c1 : ((K : Int) == (F : Int)) = false := by simp; omega
                  clear hb hx hfm HY HZ
                  go_wp2_with fail
                  refine (HB.out _).mono ?_
                  rintro e w2 ⟨rfl, rfl⟩
                  go_upto_block 6 with fail
                  go_cut [8] (fun v wx => v = .int .i64 M ∧ W0 = wx)
                  case first =>
                    go_wp2_with fail
                    go_loopg [8] (K - F) (fun g v wx => ∃ j : Nat, F ≤ j ∧ j ≤ K ∧ g = j - F ∧ v = .int .i64 j ∧ Hid (dnL isB (lst s) F j = M) ∧ W0 = wx)
                    case atStart => exact ⟨K, by omega, Nat.le_refl _, rfl, rfl, HM.out, rfl⟩
                    case round =>
                      obtain ⟨j, hj0, hj, rfl, rfl, HL, rfl⟩ := hrel
                      by_cases hjl : F < j
                      · have hlt : j - 1 < s.size := by omega
                        have hx := Lib.data_getElem? s (j - 1) hlt
                        have hwr : ((j : Int) - 1 + 9223372036854775808) % 18446744073709551616 - 9223372036854775808 = ((j - 1 : Nat) : Int) := by omega
                        have HB := Lib.hid (refBlank_w (s[j - 1]'hlt))
                        cases hb : isB (s[j - 1]'hlt) with
                        | true =>
                          have HN := Lib.hid (dn_step isB (lst s) F j _ hjl hx hb)
                          rw [hb] at HB
                          skip
                          clear hb hx
                          go_wp2_with fail
                          refine (HB.out _).mono ?_
                          rintro e w2 ⟨rfl, rfl⟩
                          go_wp2_with fail
                          go_roundg (j - 1 - F)
                          case measure => omega
                          case rel => exact ⟨j - 1, by omega, by omega, rfl, by go_num, HN.out.trans HL.out, rfl⟩
                        | false =>
                          have HN : Hid (j = M) := (dn_stop isB (lst s) F j _ hjl hx hb).symm.trans HL.out
                          rw [hb] at HB
                          skip
                          clear hb hx
                          go_wp2_with fail
                          refine (HB.out _).mono ?_
                          rintro e w2 ⟨rfl, rfl⟩
                          go_wp2_with fail
                          go_meet
                          exact ⟨by rw [HN.out], rfl⟩
                      · have HN : Hid (j = M) := by
                          have e : j = F := by omega
                          have h := HL.out
                          rw [e, dnL_end] at h
                          show j = M
                          omega
                        go_wp2_with fail
                        go_meet
                        exact ⟨by rw [HN.out], rfl⟩
                  case rest =>
                    obtain ⟨rfl, rfl⟩ := hcut
                    go_wp2_with fail
                    go_ret3
                    exact ⟨(congrArg Ending.returned HR.out).symm, rfl⟩
                | false =>
                  rw [hb] at HB hfm
                  have HR := Lib.hid (HZ.out (fun h => by rw [h.2] at hfm; cases hfm))
                  have c1 : ((K : Int) == (F : Int)) = false := by simp; omega
                  clear hb hx hfm HY HZ
                  go_wp2_with fail
                  refine (HB.out _).mono ?_
                  rintro e w2 ⟨rfl, rfl⟩
                  go_wp2_with fail
                  go_ret3
                  exact ⟨(congrArg Ending.returned HR.out).symm, rfl⟩
              · have hkf' : K = F := by omega
                have HR := Lib.hid (HY.out ⟨hkt, by rw [hkf']; exact firm_none _ _⟩)
                have c1 : ((K : Int) == (F : Int)) = true := by simp; omega
                clear hkf' HY HZ
                go_upto_block 6 with fail
                go_cut [8] (fun v wx => v = .int .i64 M ∧ W0 = wx)
                case first =>
                  go_wp2_with fail
                  go_loopg [8] (K - F) (fun g v wx => ∃ j : Nat, F ≤ j ∧ j ≤ K ∧ g = j - F ∧ v = .int .i64 j ∧ Hid (dnL isB (lst s) F j = M) ∧ W0 = wx)
                  case atStart => exact ⟨K, by omega, Nat.le_refl _, rfl, rfl, HM.out, rfl⟩
                  case round =>
                    obtain ⟨j, hj0, hj, rfl, rfl, HL, rfl⟩ := hrel
                    by_cases hjl : F < j
                    · exfalso; omega
                    · have HN : Hid (j = M) := by
                        have e : j = F := by omega
                        have h := HL.out
                        rw [e, dnL_end] at h
                        show j = M
                        omega
                      go_wp2_with fail
                      go_meet
                      exact ⟨by rw [HN.out], rfl⟩
                case rest =>
                  obtain ⟨rfl, rfl⟩ := hcut
                  go_wp2_with fail
                  go_ret3
                  exact ⟨(congrArg Ending.returned HR.out).symm, rfl⟩
            · have HR := Lib.hid (HZ.out (fun h => by omega))
              clear HY HZ
              go_wp2_with fail
              go_ret3
              exact ⟨(congrArg Ending.returned HR.out).symm, rfl⟩
  · have hend := ends_out (lst s) (cnt (lst s) 35) (by rw [lst_size]; omega)
    have hh : isHead (lst s) := ⟨by omega, by omega, hend⟩
    have hRV : headV (lst s) = .tuple #[.int .i64 (refHeadL (lst s)).1, .int .i64 (refHeadL (lst s)).2.1, .int .i64 (refHeadL (lst s)).2.2] := by rw [refHead_eq]; rfl
    unfold refHeadL at hRV
    rw [if_pos hh] at hRV
    simp only [] at hRV
    generalize headV (lst s) = v at *
    clear hh hend
    generalize cnt (lst s) 35 = n at *
    have bF := upL_bd isB (lst s) n (by rw [lst_size]; exact hn)
    rw [lst_size] at bF hRV
    obtain ⟨F, hF⟩ : ∃ F, F = upL isB (lst s) n := ⟨_, rfl⟩
    rw [← hF] at bF hRV
    have HF : Hid (upL isB (lst s) n = F) := hF.symm
    have bT := dnL_bd isB (lst s) F s.size bF.2 (by rw [lst_size]; exact Nat.le_refl _)
    obtain ⟨T, hT⟩ : ∃ T, T = dnL isB (lst s) F s.size := ⟨_, rfl⟩
    rw [← hT] at bT hRV
    have HT : Hid (dnL isB (lst s) F s.size = T) := hT.symm
    have bK := dnL_bd (· == 35) (lst s) F T bT.1 (by rw [lst_size]; exact bT.2)
    obtain ⟨K, hK⟩ : ∃ K, K = dnL (· == 35) (lst s) F T := ⟨_, rfl⟩
    rw [← hK] at bK hRV
    have HK : Hid (dnL (· == 35) (lst s) F T = K) := hK.symm
    have bM := dnL_bd isB (lst s) F K bK.1 (by rw [lst_size]; omega)
    obtain ⟨M, hM⟩ : ∃ M, M = dnL isB (lst s) F K := ⟨_, rfl⟩
    rw [← hM] at bM hRV
    have HM : Hid (dnL isB (lst s) F K = M) := hM.symm
    have HY : Hid (K < T ∧ firm (((lst s).take K).drop F) = false → v = .tuple #[.int .i64 n, .int .i64 F, .int .i64 M]) := fun h => by rw [hRV, if_pos h]
    have HZ : Hid (¬ (K < T ∧ firm (((lst s).take K).drop F) = false) → v = .tuple #[.int .i64 n, .int .i64 F, .int .i64 T]) := fun h => by rw [hRV, if_neg h]
    clear hF hT hK hM hRV
    obtain ⟨bF1, bF2⟩ := bF
    obtain ⟨bT1, bT2⟩ := bT
    obtain ⟨bK1, bK2⟩ := bK
    obtain ⟨bM1, bM2⟩ := bM
    go_enter Tryd.func17, Tryd.ntmps17
    go_wp2_with fail
    refine (H1.out _).mono ?_
    rintro e W0 ⟨rfl, rfl⟩
    go_upto_block 0 with fail
    go_cut [6] (fun v wx => v = .int .i64 F ∧ W0 = wx)
    case first =>
      go_wp2_with fail
      go_loopg [6] (s.size - n) (fun g v wx => ∃ j : Nat, n ≤ j ∧ j ≤ s.size ∧ g = s.size - j ∧ v = .int .i64 j ∧ Hid (upL isB (lst s) j = F) ∧ W0 = wx)
      case atStart => exact ⟨n, Nat.le_refl _, by omega, rfl, rfl, HF.out, rfl⟩
      case round =>
        obtain ⟨j, hj0, hj, rfl, rfl, HL, rfl⟩ := hrel
        by_cases hlt : j < s.size
        · exfalso; omega
        · have HN : Hid (j = F) := (upL_stop isB (lst s) j (fun x h => by rw [List.getElem?_eq_none (by rw [lst_size]; omega)] at h; cases h)).symm.trans HL.out
          go_wp2_with fail
          go_meet
          exact ⟨by rw [HN.out], rfl⟩
    case rest =>
      obtain ⟨rfl, rfl⟩ := hcut
      go_upto_block 2 with fail
      go_cut [7] (fun v wx => v = .int .i64 T ∧ W0 = wx)
      case first =>
        go_wp2_with fail
        go_loopg [7] (s.size - F) (fun g v wx => ∃ j : Nat, F ≤ j ∧ j ≤ s.size ∧ g = j - F ∧ v = .int .i64 j ∧ Hid (dnL isB (lst s) F j = T) ∧ W0 = wx)
        case atStart => exact ⟨s.size, by omega, Nat.le_refl _, rfl, rfl, HT.out, rfl⟩
        case round =>
          obtain ⟨j, hj0, hj, rfl, rfl, HL, rfl⟩ := hrel
          by_cases hjl : F < j
          · exfalso; omega
          · have HN : Hid (j = T) := by
              have e : j = F := by omega
              have h := HL.out
              rw [e, dnL_end] at h
              show j = T
              omega
            go_wp2_with fail
            go_meet
            exact ⟨by rw [HN.out], rfl⟩
      case rest =>
        obtain ⟨rfl, rfl⟩ := hcut
        go_upto_block 4 with fail
        go_cut [8] (fun v wx => v = .int .i64 K ∧ W0 = wx)
        case first =>
          go_wp2_with fail
          go_loopg [8] (T - F) (fun g v wx => ∃ j : Nat, F ≤ j ∧ j ≤ T ∧ g = j - F ∧ v = .int .i64 j ∧ Hid (dnL (· == 35) (lst s) F j = K) ∧ W0 = wx)
          case atStart => exact ⟨T, by omega, Nat.le_refl _, rfl, rfl, HK.out, rfl⟩
          case round =>
            obtain ⟨j, hj0, hj, rfl, rfl, HL, rfl⟩ := hrel
            by_cases hjl : F < j
            · exfalso; omega
            · have HN : Hid (j = K) := by
                have e : j = F := by omega
                have h := HL.out
                rw [e, dnL_end] at h
                show j = K
                omega
              go_wp2_with fail
              go_meet
              exact ⟨by rw [HN.out], rfl⟩
        case rest =>
          obtain ⟨rfl, rfl⟩ := hcut
          have HR := Lib.hid (HZ.out (fun h => by omega))
          clear HY HZ
          go_wp2_with fail
          go_ret3
          exact ⟨(congrArg Ending.returned HR.out).symm, rfl⟩
end Go.Proofs.YtinmefdcgiiejaaDoor
