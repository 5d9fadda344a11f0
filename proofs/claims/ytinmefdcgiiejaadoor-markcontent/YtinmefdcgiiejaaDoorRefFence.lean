/-
  PROVED: the contract of the document's own Fence: 'fenceL', as mark.Fence's. Conditions: the text has at most 1000000 bytes.
-/
import Derived.Test.YtinmefdcgiiejaaDoorFences
import Derived.Test.YtinmefdcgiiejaaDoorRefHead
namespace Go.Proofs.YtinmefdcgiiejaaDoor
open Go.ChangeShapes Go.WideShapes Go.ChangeAt Go.RowKit
set_option linter.unusedVariables false

theorem trimR_keep (p : UInt8 → Bool) (a : List UInt8) : ∀ b : List UInt8, trimR p b ≠ [] → trimR p (a ++ b) = a ++ trimR p b := by
  intro b hb
  obtain ⟨c, hc⟩ : ∃ c, c = b.reverse := ⟨_, rfl⟩
  have hbc : b = c.reverse := by rw [hc, List.reverse_reverse]
  subst hbc
  clear hc
  induction c with
  | nil => exact (hb rfl).elim
  | cons x c ih =>
    rw [List.reverse_cons, ← List.append_assoc, trimR_snoc, trimR_snoc]
    rw [List.reverse_cons, trimR_snoc] at hb
    cases hx : p x with
    | true =>
      rw [hx] at hb
      simp only [if_true] at hb ⊢
      exact ih hb
    | false => simp
theorem drop_firm (p : UInt8 → Bool) (l : List UInt8) : ∀ x, (l.dropWhile p).head? = some x → p x = false := by
  induction l with
  | nil => intro x h; simp at h
  | cons a l ih =>
    intro x h
    rw [List.dropWhile_cons] at h
    split at h
    · exact ih x h
    · rename_i hn
      simp at h
      subst h
      simpa using hn
theorem dropWhile_left (p : UInt8 → Bool) : ∀ a b : List UInt8, a.all p = true → (a ++ b).dropWhile p = b.dropWhile p
  | [], b, _ => rfl
  | x :: a, b, h => by
    rw [List.all_cons, Bool.and_eq_true] at h
    rw [List.cons_append, List.dropWhile_cons, if_pos h.1]
    exact dropWhile_left p a b h.2
theorem all_take (p : UInt8 → Bool) : ∀ l : List UInt8, (l.takeWhile p).all p = true
  | [] => rfl
  | x :: l => by
    rw [List.takeWhile_cons]
    split
    · rename_i h
      rw [List.all_cons, h, all_take p l]
      rfl
    · rfl
theorem trim_comm (p : UInt8 → Bool) (l : List UInt8) : (trimR p l).dropWhile p = trimR p (l.dropWhile p) := by
  have e := List.takeWhile_append_dropWhile (p := p) (l := l)
  have ha := all_take p l
  have hf := drop_firm p l
  generalize l.takeWhile p = a at *
  generalize hB : l.dropWhile p = b at *
  rw [← e]
  by_cases hb : trimR p b = []
  · have hab : (a ++ b).all p = true := by rw [List.all_append, ha, (trimR_empty p b).1 hb]; rfl
    rw [(trimR_empty p (a ++ b)).2 hab, hb]
    rfl
  · rw [trimR_keep p a b hb, dropWhile_left p a _ ha]
    cases hc : trimR p b with
    | nil => exact (hb hc).elim
    | cons y c =>
      have hy : b.head? = some y := by
        have h1 := trimR_take p b
        rw [hc] at h1
        cases b with
        | nil => simp at h1
        | cons z d => simp at h1; simp [h1.1]
      rw [List.dropWhile_cons, if_neg]
      rw [hf y hy]
      decide
theorem cut_trimB (l : List UInt8) (n : Nat) (hn : n ≤ l.length) : (l.take (dnL isB l (upL isB l n) l.length)).drop (upL isB l n) = trimB (l.drop n) := by
  have hb := upL_bd isB l n hn
  rw [take_dnL isB l _ _ hb.2 (Nat.le_refl _), List.take_length, drop_upL]
  exact (trim_comm isB (l.drop n)).symm
theorem mem_cut (l : List UInt8) (F T : Nat) (hT : T ≤ l.length) (x : UInt8) : x ∈ (l.take T).drop F ↔ ∃ k, F ≤ k ∧ k < T ∧ l[k]? = some x := by
  rw [List.mem_iff_getElem?]
  constructor
  · rintro ⟨i, hi⟩
    rw [List.getElem?_drop, List.getElem?_take] at hi
    split at hi
    · exact ⟨F + i, by omega, by assumption, hi⟩
    · cases hi
  · rintro ⟨k, h1, h2, h3⟩
    refine ⟨k - F, ?_⟩
    rw [List.getElem?_drop, List.getElem?_take, if_pos (by omega), Nat.add_sub_cancel' h1]
    exact h3
theorem of_lst (s : ByteArray) (l : List UInt8) (h : lst s = l) : s = ⟨l.toArray⟩ := by rw [← h, Lib.mk_data]

set_option maxHeartbeats 8000000 in
theorem refFence_any (s : ByteArray) (hs : s.size ≤ 1000000) (w : World) : Calls Tryd.prog 19 #[.string s] w fun e w' => e = .returned (fenceV (lst s)) ∧ Below w.heap.size w w' := by
  by_cases h0 : 0 < s.size
  · have hem := emp_no s h0
    have z0 : (0 : Int) < (s.size : Int) := by omega
    by_cases hx : (s[0]'h0) = 96 ∨ (s[0]'h0) = 126
    · have H1 := Lib.hid (many_any s (s[0]'h0) hs)
      have hn : cnt (lst s) (s[0]'h0) ≤ s.size := by rw [← lst_size]; exact cnt_le _ _
      have hY : isFence (lst s) (s[0]'h0) → fenceV (lst s) = .tuple #[.int .u8 ((s[0]'h0).toNat : Int), .int .i64 (cnt (lst s) (s[0]'h0)), .string ⟨(trimB ((lst s).drop (cnt (lst s) (s[0]'h0)))).toArray⟩] := fenceV_yes s h0
      have hN : ¬ isFence (lst s) (s[0]'h0) → fenceV (lst s) = fence0 := fenceV_no s h0
      have hI : isFence (lst s) (s[0]'h0) ↔ (3 ≤ cnt (lst s) (s[0]'h0) ∧ ¬ ((s[0]'h0) = 96 ∧ 96 ∈ trimB ((lst s).drop (cnt (lst s) (s[0]'h0))))) := by
        unfold isFence
        exact and_iff_right hx
      generalize fenceV (lst s) = v at *
      generalize isFence (lst s) (s[0]'h0) = IF at *
      generalize cnt (lst s) (s[0]'h0) = n at *
      by_cases h3 : n < 3
      · have HV := Lib.hid (hN (fun h => by have := (hI.1 h).1; omega))
        clear hI hN hY
        have hD : (((s[0]'h0).toNat : Int) != 96) = false ∨ ((((s[0]'h0).toNat : Int) != 96) = true ∧ (((s[0]'h0).toNat : Int) != 126) = false) := by
          rcases hx with h | h
          · exact .inl (by rw [h]; rfl)
          · exact .inr (by rw [h]; exact ⟨rfl, rfl⟩)
        rcases hD with d1 | ⟨d1, d2⟩
        all_goals
          go_enter Tryd.func19, Tryd.ntmps19
          go_wp2_with fail
          refine (H1.out _).mono ?_
          rintro e W0 ⟨rfl, rfl⟩
          go_wp2_with fail
          go_ret3
          exact ⟨(congrArg Ending.returned HV.out).symm, Below.refl _ _⟩
      · rcases hx with hx | hx
        · have d1 : (((s[0]'h0).toNat : Int) != 96) = false := by rw [hx]; rfl
          have d3 : (((s[0]'h0).toNat : Int) == 96) = true := by rw [hx]; rfl
          have bF := upL_bd isB (lst s) n (by rw [lst_size]; exact hn)
          have hcut0 := cut_trimB (lst s) n (by rw [lst_size]; exact hn)
          rw [lst_size] at bF hcut0
          obtain ⟨F, hF⟩ : ∃ F, F = upL isB (lst s) n := ⟨_, rfl⟩
          rw [← hF] at bF hcut0
          have HF : Hid (upL isB (lst s) n = F) := hF.symm
          have bT := dnL_bd isB (lst s) F s.size bF.2 (by rw [lst_size]; exact Nat.le_refl _)
          obtain ⟨T, hT⟩ : ∃ T, T = dnL isB (lst s) F s.size := ⟨_, rfl⟩
          rw [← hT] at bT hcut0
          have HT : Hid (dnL isB (lst s) F s.size = T) := hT.symm
          obtain ⟨bF1, bF2⟩ := bF
          obtain ⟨bT1, bT2⟩ := bT
          have HM : Hid (96 ∈ trimB ((lst s).drop n) ↔ ∃ k, F ≤ k ∧ k < T ∧ (lst s)[k]? = some 96) := show _ ↔ _ from by rw [← hcut0]; exact mem_cut (lst s) F T (by rw [lst_size]; exact bT2) 96
          have HE : Hid (s.extract F T = ⟨(trimB ((lst s).drop n)).toArray⟩) := of_lst _ _ (by rw [lst_cut]; exact hcut0)
          rw [← HE.out] at hY
          clear hcut0 hF hT HE
          have gY := Lib.hid hY
          have gN := Lib.hid hN
          have gI := Lib.hid hI
          have gx := Lib.hid hx
          clear hY hN hI hx

          go_enter Tryd.func19, Tryd.ntmps19
          go_wp2_with fail
          refine (H1.out _).mono ?_
          rintro e W0 ⟨rfl, rfl⟩

          go_upto_block 0 with fail
          go_cut [6] (fun v wx => v = .int .i64 F ∧ W0 = wx)
          case first =>
            go_wp2_with fail
            go_loopg [6] (s.size - n) (fun g v wx => ∃ j : Nat, n ≤ j ∧ j ≤ s.size ∧ g = s.size - j ∧ v = .int .i64 j ∧ Hid (upL isB (lst s) j = F) ∧ W0 = wx)
            case atStart => exact ⟨n, Nat.le_refl _, by omega, rfl, rfl, HF.out, rfl⟩
            case round =>
              obtain ⟨j, hj0, hj, rfl, rfl, HL, rfl⟩ := hrel
              by_cases hlt : j < s.size
              · have hx := Lib.data_getElem? s j hlt
                have HB := Lib.hid (refBlank_w (s[j]'hlt))
                cases hb : isB (s[j]'hlt) with
                | true =>
                  have HN := Lib.hid (upL_step isB (lst s) j _ hx hb)
                  rw [hb] at HB
                  clear hb hx
                  go_wp2_with fail
                  refine (HB.out _).mono ?_
                  rintro e w2 ⟨rfl, rfl⟩
                  go_wp2_with fail
                  go_roundg (s.size - (j + 1))
                  case measure => omega
                  case rel => exact ⟨j + 1, by omega, by omega, rfl, by go_num, HN.out.trans HL.out, rfl⟩
                | false =>
                  have HN : Hid (j = F) := (upL_stop isB (lst s) j (fun x h => by rw [hx] at h; cases h; exact hb)).symm.trans HL.out
                  rw [hb] at HB
                  clear hb hx
                  go_wp2_with fail
                  refine (HB.out _).mono ?_
                  rintro e w2 ⟨rfl, rfl⟩
                  go_wp2_with fail
                  go_meet
                  exact ⟨by rw [HN.out], rfl⟩
              · have HN : Hid (j = F) := (upL_stop isB (lst s) j (fun x h => by rw [List.getElem?_eq_none (by rw [lst_size]; omega)] at h; cases h)).symm.trans HL.out
                go_wp2_with fail
                go_meet
                exact ⟨by rw [HN.out], rfl⟩
          case rest =>
            obtain ⟨rfl, rfl⟩ := hcut
            go_upto_block 2 with fail
            go_cut [7] (fun v wx => v = .int .i64 T ∧ W0 = wx)
            case first =>
              go_wp2_with fail
              go_loopg [7] (s.size - F) (fun g v wx => ∃ j : Nat, F ≤ j ∧ j ≤ s.size ∧ g = j - F ∧ v = .int .i64 j ∧ Hid (dnL isB (lst s) F j = T) ∧ W0 = wx)
              case atStart => exact ⟨s.size, by omega, Nat.le_refl _, rfl, rfl, HT.out, rfl⟩
              case round =>
                obtain ⟨j, hj0, hj, rfl, rfl, HL, rfl⟩ := hrel
                by_cases hjl : F < j
                · have hlt : j - 1 < s.size := by omega
                  have hx := Lib.data_getElem? s (j - 1) hlt
                  have hwr : ((j : Int) - 1 + 9223372036854775808) % 18446744073709551616 - 9223372036854775808 = ((j - 1 : Nat) : Int) := by omega
                  have HB := Lib.hid (refBlank_w (s[j - 1]'hlt))
                  cases hb : isB (s[j - 1]'hlt) with
                  | true =>
                    have HN := Lib.hid (dn_step isB (lst s) F j _ hjl hx hb)
                    rw [hb] at HB
                    skip
                    clear hb hx
                    go_wp2_with fail
                    refine (HB.out _).mono ?_
                    rintro e w2 ⟨rfl, rfl⟩
                    go_wp2_with fail
                    go_roundg (j - 1 - F)
                    case measure => omega
                    case rel => exact ⟨j - 1, by omega, by omega, rfl, by go_num, HN.out.trans HL.out, rfl⟩
                  | false =>
                    have HN : Hid (j = T) := (dn_stop isB (lst s) F j _ hjl hx hb).symm.trans HL.out
                    rw [hb] at HB
                    skip
                    clear hb hx
                    go_wp2_with fail
                    refine (HB.out _).mono ?_
                    rintro e w2 ⟨rfl, rfl⟩
                    go_wp2_with fail
                    go_meet
                    exact ⟨by rw [HN.out], rfl⟩
                · have HN : Hid (j = T) := by
                    have e : j = F := by omega
                    have h := HL.out
                    rw [e, dnL_end] at h
                    show j = T
                    omega
                  go_wp2_with fail
                  go_meet
                  exact ⟨by rw [HN.out], rfl⟩
            case rest =>
              obtain ⟨rfl, rfl⟩ := hcut
              have HIN : Hid (96 ∈ trimB ((lst s).drop n) → v = fence0) := fun h => gN.out (fun hf => (gI.out.1 hf).2 ⟨gx.out, h⟩)
              have HOUT : Hid (96 ∉ trimB ((lst s).drop n) → v = .tuple #[.int .u8 ((s[0]'h0).toNat : Int), .int .i64 n, .string (s.extract F T)]) := fun h => gY.out (gI.out.2 ⟨by omega, fun hh => h hh.2⟩)
              clear gI gN gY gx
              go_wp2_with fail
              go_loopg [8] (T - F) (fun g v wx => ∃ j : Nat, F ≤ j ∧ j ≤ T ∧ g = T - j ∧ v = .int .i64 j ∧ Hid (∀ k, F ≤ k → k < j → (lst s)[k]? ≠ some 96) ∧ W0 = wx)
              case atStart => exact ⟨F, Nat.le_refl _, by omega, rfl, rfl, fun k h1 h2 => by omega, rfl⟩
              case round =>
                obtain ⟨j, hj0, hj, rfl, rfl, HL, rfl⟩ := hrel
                by_cases hlt : j < T
                · have hls : j < s.size := by omega
                  have hxx := Lib.data_getElem? s j hls
                  by_cases he : (s[j]'hls) = 96
                  · have q1 : (((s[j]'hls).toNat : Int) == 96) = true := eq_u8 _ 96 he
                    have HR := Lib.hid (HIN.out (HM.out.2 ⟨j, hj0, hlt, by rw [hxx, he]⟩))
                    clear hxx he
                    go_wp2_with fail
                    go_ret3
                    exact ⟨(congrArg Ending.returned HR.out).symm, Below.refl _ _⟩
                  · have q1 : (((s[j]'hls).toNat : Int) == 96) = false := ne_u8 _ 96 he
                    have HN : Hid (∀ k, F ≤ k → k < j + 1 → (lst s)[k]? ≠ some 96) := fun k h1 h2 h3 => by
                      by_cases e : k = j
                      · subst e; rw [hxx] at h3; exact he (Option.some.inj h3)
                      · exact HL.out k h1 (by omega) h3
                    clear hxx he
                    go_wp2_with fail
                    go_roundg (T - (j + 1))
                    case measure => omega
                    case rel => exact ⟨j + 1, by omega, by omega, rfl, by go_num, HN.out, rfl⟩
                · have HR := Lib.hid (HOUT.out (fun h => by obtain ⟨k, h1, h2, h3⟩ := HM.out.1 h; exact HL.out k h1 (by omega) h3))
                  have z1 : (F : Int) ≤ (T : Int) := by omega
                  have z2 : (T : Int) ≤ (s.size : Int) := by omega
                  go_wp2_with fail
                  go_quiet (fail)
                  go_wp2_with fail
                  go_ret3
                  exact ⟨(congrArg Ending.returned HR.out).symm, below_drewN (Below.refl _ _) _⟩
        · have d1 : (((s[0]'h0).toNat : Int) != 96) = true := by rw [hx]; rfl
          have d2 : (((s[0]'h0).toNat : Int) != 126) = false := by rw [hx]; rfl
          have d3 : (((s[0]'h0).toNat : Int) == 96) = false := by rw [hx]; rfl
          have bF := upL_bd isB (lst s) n (by rw [lst_size]; exact hn)
          have hcut0 := cut_trimB (lst s) n (by rw [lst_size]; exact hn)
          rw [lst_size] at bF hcut0
          obtain ⟨F, hF⟩ : ∃ F, F = upL isB (lst s) n := ⟨_, rfl⟩
          rw [← hF] at bF hcut0
          have HF : Hid (upL isB (lst s) n = F) := hF.symm
          have bT := dnL_bd isB (lst s) F s.size bF.2 (by rw [lst_size]; exact Nat.le_refl _)
          obtain ⟨T, hT⟩ : ∃ T, T = dnL isB (lst s) F s.size := ⟨_, rfl⟩
          rw [← hT] at bT hcut0
          have HT : Hid (dnL isB (lst s) F s.size = T) := hT.symm
          obtain ⟨bF1, bF2⟩ := bF
          obtain ⟨bT1, bT2⟩ := bT
          have HM : Hid (96 ∈ trimB ((lst s).drop n) ↔ ∃ k, F ≤ k ∧ k < T ∧ (lst s)[k]? = some 96) := show _ ↔ _ from by rw [← hcut0]; exact mem_cut (lst s) F T (by rw [lst_size]; exact bT2) 96
          have HE : Hid (s.extract F T = ⟨(trimB ((lst s).drop n)).toArray⟩) := of_lst _ _ (by rw [lst_cut]; exact hcut0)
          rw [← HE.out] at hY
          clear hcut0 hF hT HE
          have gY := Lib.hid hY
          have gN := Lib.hid hN
          have gI := Lib.hid hI
          have gx := Lib.hid hx
          clear hY hN hI hx

          go_enter Tryd.func19, Tryd.ntmps19
          go_wp2_with fail
          refine (H1.out _).mono ?_
          rintro e W0 ⟨rfl, rfl⟩

          go_upto_block 0 with fail
          go_cut [6] (fun v wx => v = .int .i64 F ∧ W0 = wx)
          case first =>
            go_wp2_with fail
            go_loopg [6] (s.size - n) (fun g v wx => ∃ j : Nat, n ≤ j ∧ j ≤ s.size ∧ g = s.size - j ∧ v = .int .i64 j ∧ Hid (upL isB (lst s) j = F) ∧ W0 = wx)
            case atStart => exact ⟨n, Nat.le_refl _, by omega, rfl, rfl, HF.out, rfl⟩
            case round =>
              obtain ⟨j, hj0, hj, rfl, rfl, HL, rfl⟩ := hrel
              by_cases hlt : j < s.size
              · have hx := Lib.data_getElem? s j hlt
                have HB := Lib.hid (refBlank_w (s[j]'hlt))
                cases hb : isB (s[j]'hlt) with
                | true =>
                  have HN := Lib.hid (upL_step isB (lst s) j _ hx hb)
                  rw [hb] at HB
                  clear hb hx
                  go_wp2_with fail
                  refine (HB.out _).mono ?_
                  rintro e w2 ⟨rfl, rfl⟩
                  go_wp2_with fail
                  go_roundg (s.size - (j + 1))
                  case measure => omega
                  case rel => exact ⟨j + 1, by omega, by omega, rfl, by go_num, HN.out.trans HL.out, rfl⟩
                | false =>
                  have HN : Hid (j = F) := (upL_stop isB (lst s) j (fun x h => by rw [hx] at h; cases h; exact hb)).symm.trans HL.out
                  rw [hb] at HB
                  clear hb hx
                  go_wp2_with fail
                  refine (HB.out _).mono ?_
                  rintro e w2 ⟨rfl, rfl⟩
                  go_wp2_with fail
                  go_meet
                  exact ⟨by rw [HN.out], rfl⟩
              · have HN : Hid (j = F) := (upL_stop isB (lst s) j (fun x h => by rw [List.getElem?_eq_none (by rw [lst_size]; omega)] at h; cases h)).symm.trans HL.out
                go_wp2_with fail
                go_meet
                exact ⟨by rw [HN.out], rfl⟩
          case rest =>
            obtain ⟨rfl, rfl⟩ := hcut
            go_upto_block 2 with fail
            go_cut [7] (fun v wx => v = .int .i64 T ∧ W0 = wx)
            case first =>
              go_wp2_with fail
              go_loopg [7] (s.size - F) (fun g v wx => ∃ j : Nat, F ≤ j ∧ j ≤ s.size ∧ g = j - F ∧ v = .int .i64 j ∧ Hid (dnL isB (lst s) F j = T) ∧ W0 = wx)
              case atStart => exact ⟨s.size, by omega, Nat.le_refl _, rfl, rfl, HT.out, rfl⟩
              case round =>
                obtain ⟨j, hj0, hj, rfl, rfl, HL, rfl⟩ := hrel
                by_cases hjl : F < j
                · have hlt : j - 1 < s.size := by omega
                  have hx := Lib.data_getElem? s (j - 1) hlt
                  have hwr : ((j : Int) - 1 + 9223372036854775808) % 18446744073709551616 - 9223372036854775808 = ((j - 1 : Nat) : Int) := by omega
                  have HB := Lib.hid (refBlank_w (s[j - 1]'hlt))
                  cases hb : isB (s[j - 1]'hlt) with
                  | true =>
                    have HN := Lib.hid (dn_step isB (lst s) F j _ hjl hx hb)
                    rw [hb] at HB
                    skip
                    clear hb hx
                    go_wp2_with fail
                    refine (HB.out _).mono ?_
                    rintro e w2 ⟨rfl, rfl⟩
                    go_wp2_with fail
                    go_roundg (j - 1 - F)
                    case measure => omega
                    case rel => exact ⟨j - 1, by omega, by omega, rfl, by go_num, HN.out.trans HL.out, rfl⟩
                  | false =>
                    have HN : Hid (j = T) := (dn_stop isB (lst s) F j _ hjl hx hb).symm.trans HL.out
                    rw [hb] at HB
                    skip
                    clear hb hx
                    go_wp2_with fail
                    refine (HB.out _).mono ?_
                    rintro e w2 ⟨rfl, rfl⟩
                    go_wp2_with fail
                    go_meet
                    exact ⟨by rw [HN.out], rfl⟩
                · have HN : Hid (j = T) := by
                    have e : j = F := by omega
                    have h := HL.out
                    rw [e, dnL_end] at h
                    show j = T
                    omega
                  go_wp2_with fail
                  go_meet
                  exact ⟨by rw [HN.out], rfl⟩
            case rest =>
              obtain ⟨rfl, rfl⟩ := hcut
              have HR := Lib.hid (gY.out (gI.out.2 ⟨by omega, fun hh => by rw [gx.out] at hh; exact absurd hh.1 (by decide)⟩))
              clear gI gN gY gx
              go_wp2_with fail
              go_loopg [8] 0 (fun g v wx => v = .int .i64 F ∧ W0 = wx)
              case atStart => exact ⟨rfl, rfl⟩
              case round =>
                obtain ⟨rfl, rfl⟩ := hrel
                have z1 : (F : Int) ≤ (T : Int) := by omega
                have z2 : (T : Int) ≤ (s.size : Int) := by omega
                by_cases hlt : F < T
                · go_wp2_with fail
                  go_quiet (fail)
                  go_wp2_with fail
                  go_ret3
                  exact ⟨(congrArg Ending.returned HR.out).symm, below_drewN (Below.refl _ _) _⟩
                · go_wp2_with fail
                  go_quiet (fail)
                  go_wp2_with fail
                  go_ret3
                  exact ⟨(congrArg Ending.returned HR.out).symm, below_drewN (Below.refl _ _) _⟩
    · have HV := Lib.hid (fenceV_no s h0 (fun h => hx h.1))
      have d1 : (((s[0]'h0).toNat : Int) != 96) = true := u8_ne (s[0]'h0) 96 (by omega) (fun h => hx (.inl h))
      have d2 : (((s[0]'h0).toNat : Int) != 126) = true := u8_ne (s[0]'h0) 126 (by omega) (fun h => hx (.inr h))
      generalize fenceV (lst s) = v at *
      clear hx
      go_enter Tryd.func19, Tryd.ntmps19
      go_wp2_with fail
      go_ret3
      exact ⟨(congrArg Ending.returned HV.out).symm, Below.refl _ _⟩
  · have hem := emp_yes s (by omega)
    have HV : Hid (fenceV (lst s) = fence0) := show _ = _ from by rw [lst_nil s (by omega)]; rfl
    generalize fenceV (lst s) = v at *
    go_enter Tryd.func19, Tryd.ntmps19
    go_wp2_with fail
    go_ret3
    exact ⟨(congrArg Ending.returned HV.out).symm, Below.refl _ _⟩
end Go.Proofs.YtinmefdcgiiejaaDoor
