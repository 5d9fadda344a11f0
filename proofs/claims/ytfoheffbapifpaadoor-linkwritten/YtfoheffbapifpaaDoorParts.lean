/-
  PROVED: contracts of link.Label, link.Dest and link.Title: the part at a place and how many bytes it has ('labP', 'destP', 'titleP'). Conditions: the text has at most 1000000 bytes.
-/
import Derived.Test.YtfoheffbapifpaaDoorEnc
namespace Go.Proofs.YtfoheffbapifpaaDoor
open Go.ChangeShapes Go.WideShapes Go.ChangeAt Go.RowKit Go.Sort
set_option linter.unusedVariables false

theorem encO_len (c e : UInt8) (o l t : List UInt8) (h : encO c e o l = some t) : t.length + 2 ≤ l.length := by
  cases l with
  | nil => cases h
  | cons x b =>
    simp only [encO] at h
    split at h
    · have := encG_len e o b t h
      rw [List.length_cons]; omega
    · cases h
set_option maxHeartbeats 8000000 in
theorem label_any (s : ByteArray) (a : Int) (hs : s.size ≤ 1000000) (w : World) : Calls Tryd.prog 8 #[.string s, .int .i64 a] w fun r w' => r = .returned (pairV (labP (frm s a))) ∧ Below w.heap.size w w' := by
  obtain ⟨T, hT, hTs, hF⟩ := from_any s a hs
  have HF := Lib.hid hF
  clear hF
  have hL := label_take (lst T)
  by_cases hc : T.size ≤ 1001
  · have q2 : min (T.size : Int) 1001 = T.size := by omega
    have hUl : lst T = (lst T).take 1001 := by rw [List.take_of_length_le (by rw [lst_size]; omega)]
    have hEn : ∀ W, Calls Tryd.prog 20 #[.string T, .string { data := #[91] }, .int .u8 93, .string { data := #[91] }] W fun r w' => r = .returned (encV (encO 91 93 [91] ((lst T).take 1001))) ∧ Below W.heap.size W w' := fun W => by
      rw [← hUl]
      exact enc_any T 91 93 { data := #[91] } (by omega) W
    cases hE : encO 91 93 [91] ((lst T).take 1001) with
    | none =>
      rw [hE, Option.bind_none] at hL
      have HV : Hid (labP (lst T) = ([], 0)) := show _ = _ from by unfold labP; rw [hL]
      have HE : Hid (∀ W, Calls Tryd.prog 20 #[.string T, .string { data := #[91] }, .int .u8 93, .string { data := #[91] }] W fun r w' => r = .returned (.tuple #[.string { data := #[] }, .bool false]) ∧ Below W.heap.size W w') := fun W => by
        have h := hEn W
        rw [hE] at h
        exact h
      rw [← hT, HV.out]
      clear hL hEn hE HV hT hUl
      go_enter Tryd.func8, Tryd.ntmps8
      go_wp2_with fail
      refine (HF.out _).mono ?_
      rintro e' y ⟨rfl, rfl⟩
      go_wp2_with fail
      refine (HE.out _).mono ?_
      rintro e' w1 ⟨rfl, hb⟩
      have B1 := Lib.hid hb
      clear hb
      go_wp2_with fail
      go_ret2
      exact ⟨rfl, B1.out⟩
    | some t =>
      obtain ⟨X, hX, hX2⟩ := made t
      have HE : Hid (∀ W, Calls Tryd.prog 20 #[.string T, .string { data := #[91] }, .int .u8 93, .string { data := #[91] }] W fun r w' => r = .returned (.tuple #[.string X, .bool true]) ∧ Below W.heap.size W w') := fun W => by
        have h := hEn W
        rw [hE] at h
        simp only [encV, hX2] at h
        exact h
      have hXs : X.size ≤ 1000000 := by
        rw [← lst_size, hX]
        have h := encO_len _ _ _ _ _ hE
        rw [List.length_take, lst_size] at h
        omega
      have HTr := Lib.hid (trim_any X hXs (someL t) (by rw [hX]))
      have HCl := Lib.hid (clone_any X hXs)
      rw [hE, Option.bind_some] at hL
      rw [← hT]
      cases hsm : someL t with
      | true =>
        rw [hsm, if_pos rfl] at hL
        have HV : Hid (pairV (labP (lst T)) = .tuple #[.string X, .int .i64 ((X.size : Int) + 2)]) := show _ = _ from by
          unfold labP pairV
          rw [hL]
          simp only []
          rw [hX2, ← hX, lst_size]
          rfl
        rw [hsm] at HTr
        rw [HV.out]
        clear hL hEn hE HV hT hX hX2 hsm hUl
        go_enter Tryd.func8, Tryd.ntmps8
        go_wp2_with fail
        refine (HF.out _).mono ?_
        rintro e' y ⟨rfl, rfl⟩
        go_wp2_with fail
        refine (HE.out _).mono ?_
        rintro e' w1 ⟨rfl, hb⟩
        have B1 := Lib.hid hb
        clear hb
        go_wp2_with fail
        refine (HTr.out _).mono ?_
        rintro e' w2 ⟨⟨t', rfl, hem⟩, hb⟩
        have B2 := Lib.hid hb
        clear hb
        change t'.toList.isEmpty = false at hem
        go_wp2_with fail
        refine (HCl.out _).mono ?_
        rintro e' w3 ⟨rfl, hb⟩
        have B3 := Lib.hid hb
        clear hb
        go_wp2_with fail
        go_ret2
        exact ⟨rfl, chain (Nat.le_refl _) (chain (Nat.le_refl _) B1.out B2.out) B3.out⟩
      | false =>
        rw [hsm, if_neg (by simp)] at hL
        have HV : Hid (labP (lst T) = ([], 0)) := show _ = _ from by unfold labP; rw [hL]
        rw [hsm] at HTr
        rw [HV.out]
        clear hL hEn hE HV hT hX hX2 hsm hUl
        go_enter Tryd.func8, Tryd.ntmps8
        go_wp2_with fail
        refine (HF.out _).mono ?_
        rintro e' y ⟨rfl, rfl⟩
        go_wp2_with fail
        refine (HE.out _).mono ?_
        rintro e' w1 ⟨rfl, hb⟩
        have B1 := Lib.hid hb
        clear hb
        go_wp2_with fail
        refine (HTr.out _).mono ?_
        rintro e' w2 ⟨⟨t', rfl, hem⟩, hb⟩
        have B2 := Lib.hid hb
        clear hb
        change t'.toList.isEmpty = true at hem
        go_wp2_with fail
        go_ret2
        exact ⟨rfl, chain (Nat.le_refl _) B1.out B2.out⟩
  · have q2 : min (T.size : Int) 1001 = 1001 := by omega
    obtain ⟨U, hU⟩ : ∃ U, U = T.extract 0 1001 := ⟨_, rfl⟩
    have hUl : lst U = (lst T).take 1001 := by rw [hU, lst_cut, List.drop_zero]
    have hUs : U.size ≤ 1000000 := by rw [← lst_size, hUl, List.length_take]; omega
    have hEn := fun W => enc_any U 91 93 { data := #[91] } hUs W
    rw [hUl, show lst { data := #[91] } = [91] from rfl] at hEn
    have HU : Hid (U = T.extract 0 1001) := hU
    clear hU
    cases hE : encO 91 93 [91] ((lst T).take 1001) with
    | none =>
      rw [hE, Option.bind_none] at hL
      have HV : Hid (labP (lst T) = ([], 0)) := show _ = _ from by unfold labP; rw [hL]
      have HE : Hid (∀ W, Calls Tryd.prog 20 #[.string U, .string { data := #[91] }, .int .u8 93, .string { data := #[91] }] W fun r w' => r = .returned (.tuple #[.string { data := #[] }, .bool false]) ∧ Below W.heap.size W w') := fun W => by
        have h := hEn W
        rw [hE] at h
        exact h
      rw [← hT, HV.out]
      clear hL hEn hE HV hT hUl hUs
      go_enter Tryd.func8, Tryd.ntmps8
      go_wp2_with fail
      refine (HF.out _).mono ?_
      rintro e' y ⟨rfl, rfl⟩
      go_wp2_with fail
      rw [← HU.out]
      clear HU
      refine (HE.out _).mono ?_
      rintro e' w1 ⟨rfl, hb⟩
      have B1 := Lib.hid hb
      clear hb
      go_wp2_with fail
      go_ret2
      exact ⟨rfl, B1.out⟩
    | some t =>
      obtain ⟨X, hX, hX2⟩ := made t
      have HE : Hid (∀ W, Calls Tryd.prog 20 #[.string U, .string { data := #[91] }, .int .u8 93, .string { data := #[91] }] W fun r w' => r = .returned (.tuple #[.string X, .bool true]) ∧ Below W.heap.size W w') := fun W => by
        have h := hEn W
        rw [hE] at h
        simp only [encV, hX2] at h
        exact h
      have hXs : X.size ≤ 1000000 := by
        rw [← lst_size, hX]
        have h := encO_len _ _ _ _ _ hE
        rw [List.length_take, lst_size] at h
        omega
      have HTr := Lib.hid (trim_any X hXs (someL t) (by rw [hX]))
      have HCl := Lib.hid (clone_any X hXs)
      rw [hE, Option.bind_some] at hL
      rw [← hT]
      cases hsm : someL t with
      | true =>
        rw [hsm, if_pos rfl] at hL
        have HV : Hid (pairV (labP (lst T)) = .tuple #[.string X, .int .i64 ((X.size : Int) + 2)]) := show _ = _ from by
          unfold labP pairV
          rw [hL]
          simp only []
          rw [hX2, ← hX, lst_size]
          rfl
        rw [hsm] at HTr
        rw [HV.out]
        clear hL hEn hE HV hT hX hX2 hsm hUl hUs
        go_enter Tryd.func8, Tryd.ntmps8
        go_wp2_with fail
        refine (HF.out _).mono ?_
        rintro e' y ⟨rfl, rfl⟩
        go_wp2_with fail
        rw [← HU.out]
        clear HU
        refine (HE.out _).mono ?_
        rintro e' w1 ⟨rfl, hb⟩
        have B1 := Lib.hid hb
        clear hb
        go_wp2_with fail
        refine (HTr.out _).mono ?_
        rintro e' w2 ⟨⟨t', rfl, hem⟩, hb⟩
        have B2 := Lib.hid hb
        clear hb
        change t'.toList.isEmpty = false at hem
        go_wp2_with fail
        refine (HCl.out _).mono ?_
        rintro e' w3 ⟨rfl, hb⟩
        have B3 := Lib.hid hb
        clear hb
        go_wp2_with fail
        go_ret2
        exact ⟨rfl, chain (Nat.le_refl _) (chain (Nat.le_refl _) B1.out B2.out) B3.out⟩
      | false =>
        rw [hsm, if_neg (by simp)] at hL
        have HV : Hid (labP (lst T) = ([], 0)) := show _ = _ from by unfold labP; rw [hL]
        rw [hsm] at HTr
        rw [HV.out]
        clear hL hEn hE HV hT hX hX2 hsm hUl hUs
        go_enter Tryd.func8, Tryd.ntmps8
        go_wp2_with fail
        refine (HF.out _).mono ?_
        rintro e' y ⟨rfl, rfl⟩
        go_wp2_with fail
        rw [← HU.out]
        clear HU
        refine (HE.out _).mono ?_
        rintro e' w1 ⟨rfl, hb⟩
        have B1 := Lib.hid hb
        clear hb
        go_wp2_with fail
        refine (HTr.out _).mono ?_
        rintro e' w2 ⟨⟨t', rfl, hem⟩, hb⟩
        have B2 := Lib.hid hb
        clear hb
        change t'.toList.isEmpty = true at hem
        go_wp2_with fail
        go_ret2
        exact ⟨rfl, chain (Nat.le_refl _) B1.out B2.out⟩

theorem enc_told (T : ByteArray) (c e : UInt8) (o : ByteArray) (hT : T.size ≤ 1000000) : ∃ (X : ByteArray) (b : Bool), (∀ W, Calls Tryd.prog 20 #[.string T, .string { data := #[c] }, .int .u8 e.toNat, .string o] W fun r w' => r = .returned (.tuple #[.string X, .bool b]) ∧ Below W.heap.size W w') ∧ (∀ W, Calls Tryd.prog 26 #[.string X, .bool b] W fun r w' => r = .returned (pairV (toldP (encO c e (lst o) (lst T)))) ∧ Below W.heap.size W w') := by
  have h := fun W => enc_any T c e o hT W
  cases hE : encO c e (lst o) (lst T) with
  | none =>
    rw [hE] at h
    exact ⟨_, _, h, told_no⟩
  | some t =>
    rw [hE] at h
    obtain ⟨X, hX, hX2⟩ := made t
    simp only [encV, hX2] at h
    refine ⟨_, _, h, fun W => ?_⟩
    have hl := encO_len _ _ _ _ _ hE
    rw [lst_size] at hl
    have h2 := told_yes X (by rw [← lst_size, hX]; omega) W
    rw [hX] at h2
    exact h2
theorem dest_lt (l : List UInt8) (h : l.head? = some 60) : destP l = toldP (encO 60 62 [60, 10] l) := by
  unfold destP
  rw [if_pos h, encO_cons 60 62 [60, 10] l (l.drop 1) h rfl]
theorem title_is (l : List UInt8) : titleP l = if l.head? = some 34 then toldP (encO 34 34 [] l) else if l.head? = some 39 then toldP (encO 39 39 [] l) else toldP (encO 40 41 [40] l) := by
  cases l with
  | nil => rfl
  | cons x b =>
    simp only [titleP, List.head?_cons, Option.some.injEq, encO]
    by_cases h1 : x = 34
    · rw [if_pos h1, if_pos h1, if_pos h1]
    rw [if_neg h1, if_neg h1]
    by_cases h2 : x = 39
    · rw [if_pos h2, if_pos h2, if_pos h2]
    rw [if_neg h2, if_neg h2]
    by_cases h3 : x = 40
    · rw [if_pos h3, if_pos h3]
    · rw [if_neg h3, if_neg h3]; rfl
theorem tup2 (q : List UInt8 × Nat) : ∃ (X : ByteArray) (n : Nat), pairV q = .tuple #[.string X, .int .i64 n] := ⟨_, _, rfl⟩

set_option maxHeartbeats 4000000 in
theorem dest_any (s : ByteArray) (a : Int) (hs : s.size ≤ 1000000) (w : World) : Calls Tryd.prog 10 #[.string s, .int .i64 a] w fun r w' => r = .returned (pairV (destP (frm s a))) ∧ Below w.heap.size w w' := by
  obtain ⟨T, hT, hTs, hF⟩ := from_any s a hs
  have HF := Lib.hid hF
  have HH := Lib.hid (has_any T 60)
  rw [← hT]
  clear hF hT
  by_cases hh : (lst T).head? = some 60
  · rw [decide_eq_true hh] at HH
    rw [dest_lt _ hh]
    clear hh
    obtain ⟨X, b, hE, hO⟩ := enc_told T 60 62 { data := #[60, 10] } (by omega)
    have HE : Hid (∀ W, Calls Tryd.prog 20 #[.string T, .string { data := #[60] }, .int .u8 62, .string { data := #[60, 10] }] W fun r w' => r = .returned (.tuple #[.string X, .bool b]) ∧ Below W.heap.size W w') := hE
    have HO := Lib.hid hO
    clear hE hO
    change Hid (∀ W, Calls Tryd.prog 26 #[.string X, .bool b] W fun r w' => r = .returned (pairV (toldP (encO 60 62 [60, 10] (lst T)))) ∧ Below W.heap.size W w') at HO
    obtain ⟨Y, n, hY⟩ := tup2 (toldP (encO 60 62 [60, 10] (lst T)))
    rw [hY] at HO ⊢
    clear hY
    go_enter Tryd.func10, Tryd.ntmps10
    go_wp2_with fail
    refine (HF.out _).mono ?_
    rintro e' y ⟨rfl, rfl⟩
    go_wp2_with fail
    refine (HH.out _).mono ?_
    rintro e' y ⟨rfl, rfl⟩
    go_wp2_with fail
    refine (HE.out _).mono ?_
    rintro e' w1 ⟨rfl, hb⟩
    have B1 := Lib.hid hb
    clear hb
    go_wp2_with fail
    refine (HO.out _).mono ?_
    rintro e' w2 ⟨rfl, hb⟩
    have B2 := Lib.hid hb
    clear hb
    go_wp2_with fail
    go_ret2
    exact ⟨rfl, chain (Nat.le_refl _) B1.out B2.out⟩
  · rw [decide_eq_false hh] at HH
    have HB := Lib.hid (bare_any T (by omega))
    have hle := bareL_le (lst T)
    rw [lst_size] at hle
    have HP : Hid (∀ W, Calls Tryd.prog 16 #[.string (T.extract 0 (bareL (lst T)))] W fun e w' => e = .returned (.string ⟨(destP (lst T)).1.toArray⟩) ∧ Below W.heap.size W w') := fun W => by
      have h := plain_text (T.extract 0 (bareL (lst T))) (by simp; omega) W
      rw [lst_cut, List.drop_zero] at h
      unfold destP
      rw [if_neg hh]
      exact h
    have HN : Hid ((destP (lst T)).2 = bareL (lst T)) := show _ = _ from by unfold destP; rw [if_neg hh]
    unfold pairV
    rw [HN.out]
    clear hh HN
    generalize bareL (lst T) = n at *
    generalize (destP (lst T)).1 = d at *
    go_enter Tryd.func10, Tryd.ntmps10
    go_wp2_with fail
    refine (HF.out _).mono ?_
    rintro e' y ⟨rfl, rfl⟩
    go_wp2_with fail
    refine (HH.out _).mono ?_
    rintro e' y ⟨rfl, rfl⟩
    go_wp2_with fail
    refine (HB.out _).mono ?_
    rintro e' w1 ⟨rfl, hb⟩
    have B1 := Lib.hid hb
    clear hb
    go_wp2_with fail
    refine (HP.out _).mono ?_
    rintro e' w2 ⟨rfl, hb⟩
    have B2 := Lib.hid hb
    clear hb
    go_wp2_with fail
    go_ret2
    exact ⟨rfl, chain (Nat.le_refl _) B1.out B2.out⟩

set_option maxHeartbeats 4000000 in
theorem title_any (s : ByteArray) (a : Int) (hs : s.size ≤ 1000000) (w : World) : Calls Tryd.prog 12 #[.string s, .int .i64 a] w fun r w' => r = .returned (pairV (titleP (frm s a))) ∧ Below w.heap.size w w' := by
  obtain ⟨T, hT, hTs, hF⟩ := from_any s a hs
  have HF := Lib.hid hF
  have H1 := Lib.hid (has_any T 34)
  have H2 := Lib.hid (has_any T 39)
  rw [← hT, title_is]
  clear hF hT
  by_cases hh : (lst T).head? = some 34
  · rw [decide_eq_true hh] at H1
    rw [if_pos hh]
    clear hh H2
    obtain ⟨X, b, hE, hO⟩ := enc_told T 34 34 { data := #[] } (by omega)
    have HE : Hid (∀ W, Calls Tryd.prog 20 #[.string T, .string { data := #[34] }, .int .u8 34, .string { data := #[] }] W fun r w' => r = .returned (.tuple #[.string X, .bool b]) ∧ Below W.heap.size W w') := hE
    have HO := Lib.hid hO
    clear hE hO
    change Hid (∀ W, Calls Tryd.prog 26 #[.string X, .bool b] W fun r w' => r = .returned (pairV (toldP (encO 34 34 [] (lst T)))) ∧ Below W.heap.size W w') at HO
    obtain ⟨Y, n, hY⟩ := tup2 (toldP (encO 34 34 [] (lst T)))
    rw [hY] at HO ⊢
    clear hY
    go_enter Tryd.func12, Tryd.ntmps12
    go_wp2_with fail
    refine (HF.out _).mono ?_
    rintro e' y ⟨rfl, rfl⟩
    go_wp2_with fail
    refine (H1.out _).mono ?_
    rintro e' y ⟨rfl, rfl⟩
    go_wp2_with fail
    refine (HE.out _).mono ?_
    rintro e' w1 ⟨rfl, hb⟩
    have B1 := Lib.hid hb
    clear hb
    go_wp2_with fail
    refine (HO.out _).mono ?_
    rintro e' w2 ⟨rfl, hb⟩
    have B2 := Lib.hid hb
    clear hb
    go_wp2_with fail
    go_ret2
    exact ⟨rfl, chain (Nat.le_refl _) B1.out B2.out⟩
  rw [decide_eq_false hh] at H1
  rw [if_neg hh]
  clear hh
  by_cases hh : (lst T).head? = some 39
  · rw [decide_eq_true hh] at H2
    rw [if_pos hh]
    clear hh
    obtain ⟨X, b, hE, hO⟩ := enc_told T 39 39 { data := #[] } (by omega)
    have HE : Hid (∀ W, Calls Tryd.prog 20 #[.string T, .string { data := #[39] }, .int .u8 39, .string { data := #[] }] W fun r w' => r = .returned (.tuple #[.string X, .bool b]) ∧ Below W.heap.size W w') := hE
    have HO := Lib.hid hO
    clear hE hO
    change Hid (∀ W, Calls Tryd.prog 26 #[.string X, .bool b] W fun r w' => r = .returned (pairV (toldP (encO 39 39 [] (lst T)))) ∧ Below W.heap.size W w') at HO
    obtain ⟨Y, n, hY⟩ := tup2 (toldP (encO 39 39 [] (lst T)))
    rw [hY] at HO ⊢
    clear hY
    go_enter Tryd.func12, Tryd.ntmps12
    go_wp2_with fail
    refine (HF.out _).mono ?_
    rintro e' y ⟨rfl, rfl⟩
    go_wp2_with fail
    refine (H1.out _).mono ?_
    rintro e' y ⟨rfl, rfl⟩
    go_wp2_with fail
    refine (H2.out _).mono ?_
    rintro e' y ⟨rfl, rfl⟩
    go_wp2_with fail
    refine (HE.out _).mono ?_
    rintro e' w1 ⟨rfl, hb⟩
    have B1 := Lib.hid hb
    clear hb
    go_wp2_with fail
    refine (HO.out _).mono ?_
    rintro e' w2 ⟨rfl, hb⟩
    have B2 := Lib.hid hb
    clear hb
    go_wp2_with fail
    go_ret2
    exact ⟨rfl, chain (Nat.le_refl _) B1.out B2.out⟩
  rw [decide_eq_false hh] at H2
  rw [if_neg hh]
  clear hh
  obtain ⟨X, b, hE, hO⟩ := enc_told T 40 41 { data := #[40] } (by omega)
  have HE : Hid (∀ W, Calls Tryd.prog 20 #[.string T, .string { data := #[40] }, .int .u8 41, .string { data := #[40] }] W fun r w' => r = .returned (.tuple #[.string X, .bool b]) ∧ Below W.heap.size W w') := hE
  have HO := Lib.hid hO
  clear hE hO
  change Hid (∀ W, Calls Tryd.prog 26 #[.string X, .bool b] W fun r w' => r = .returned (pairV (toldP (encO 40 41 [40] (lst T)))) ∧ Below W.heap.size W w') at HO
  obtain ⟨Y, n, hY⟩ := tup2 (toldP (encO 40 41 [40] (lst T)))
  rw [hY] at HO ⊢
  clear hY
  go_enter Tryd.func12, Tryd.ntmps12
  go_wp2_with fail
  refine (HF.out _).mono ?_
  rintro e' y ⟨rfl, rfl⟩
  go_wp2_with fail
  refine (H1.out _).mono ?_
  rintro e' y ⟨rfl, rfl⟩
  go_wp2_with fail
  refine (H2.out _).mono ?_
  rintro e' y ⟨rfl, rfl⟩
  go_wp2_with fail
  refine (HE.out _).mono ?_
  rintro e' w1 ⟨rfl, hb⟩
  have B1 := Lib.hid hb
  clear hb
  go_wp2_with fail
  refine (HO.out _).mono ?_
  rintro e' w2 ⟨rfl, hb⟩
  have B2 := Lib.hid hb
  clear hb
  go_wp2_with fail
  go_ret2
  exact ⟨rfl, chain (Nat.le_refl _) B1.out B2.out⟩
end Go.Proofs.YtfoheffbapifpaaDoor
