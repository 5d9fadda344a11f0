/-
  PROVED: contracts of the document's Has and Ends: Ends answers 'endsL', as tag.Ends does. Conditions: the text has at most 1000000 bytes.
-/
import Derived.Test.YtdnnjakggopdoaaDoorEnds
import Derived.Test.YtdnnjakggopdoaaDoorRefRaw
namespace Go.Proofs.YtdnnjakggopdoaaDoor
open Go.ChangeShapes Go.WideShapes Go.ChangeAt Go.RowKit Go.Sort
set_option linter.unusedVariables false
set_option linter.unusedSimpArgs false

theorem has_hit (l q : List UInt8) (j : Nat) (hj : j ≤ l.length) (h1 : ∀ i, 0 ≤ i → i < j → Lib.occAt l q i = false) (h2 : Lib.occAt l q j = true) : Lib.contains l q = true := by
  unfold Lib.contains
  rw [Lib.index_first hj h2 (fun i hi => h1 i (Nat.zero_le _) hi), decide_eq_true_iff]
  omega
theorem has_no (l q : List UInt8) (h1 : ∀ i, Lib.occAt l q i = false) : Lib.contains l q = false := by
  unfold Lib.contains
  rw [Lib.index_none (fun i _ => h1 i)]
  rfl
set_option maxHeartbeats 4000000 in
theorem refHas_any (s q : ByteArray) (hs : s.size ≤ 1000000) (hq : 0 < q.size) (hq2 : q.size ≤ 1000) (w : World) : Calls Tryd.prog 39 #[.string s, .string q] w fun e w' => e = .returned (.bool (Lib.contains (lst s) (lst q))) ∧ w' = w := by
  go_enter Tryd.func39, Tryd.ntmps39
  go_wp2_with fail
  go_loopw [5] (fun v wr => URel s q 0 v w wr) (fun v _ => s.size - (intOf v).toNat)
  case atStart => exact ⟨0, Nat.le_refl _, Nat.zero_le _, rfl, fun i h1 h2 => by omega, rfl⟩
  case round =>
    obtain ⟨j, hja, hj, rfl, hno, rfl⟩ := hrel
    have HO := Lib.hid hno
    clear hno
    by_cases hr : j + q.size ≤ s.size
    · have HC := Lib.hid (occ_cut s q j hr)
      cases ho : Lib.occAt (lst s) (lst q) j with
      | true =>
        have HV := Lib.hid (has_hit _ _ j (by rw [lst_size]; exact hj) HO.out ho)
        rw [ho] at HC
        have hc := HC.out
        clear ho HC
        go_wp2_with fail
        go_ret
        exact ⟨ret_bool (by rw [HV.out]), rfl⟩
      | false =>
        have HN : Hid (∀ i, 0 ≤ i → i < j + 1 → Lib.occAt (lst s) (lst q) i = false) := fun i h1 h2 => by
          by_cases e : i = j
          · rw [e]; exact ho
          · exact HO.out i h1 (by omega)
        rw [ho] at HC
        have hc := HC.out
        clear ho HC
        go_wp2_with fail
        go_roundw
        case rel => exact ⟨j + 1, by omega, by omega, by go_num, HN.out, rfl⟩
        case measure => simp [intOf]; omega
    · have HV : Hid (Lib.contains (lst s) (lst q) = false) := has_no _ _ (fun i => by
        by_cases e : i < j
        · exact HO.out i (Nat.zero_le _) e
        · exact occ_far s q hq i (by omega))
      go_wp2_with fail
      go_ret
      exact ⟨ret_bool (by rw [HV.out]), rfl⟩
theorem refHas_lit (s p : ByteArray) (q : List UInt8) (hq : lst p = q) (hs : s.size ≤ 1000000) (hp : 0 < p.size ∧ p.size ≤ 1000) (w : World) : Calls Tryd.prog 39 #[.string s, .string p] w fun e w' => e = .returned (.bool (Lib.contains (lst s) q)) ∧ w' = w := by subst hq; exact refHas_any s p hs hp.1 hp.2 w

set_option maxHeartbeats 8000000 in
theorem refEnds_any (s : ByteArray) (hs : s.size ≤ 1000000) (k : Int) (hk : -9223372036854775808 ≤ k ∧ k ≤ 9223372036854775807) (w : World) :
    Calls Tryd.prog 16 #[.string s, .int .i64 k] w fun e w' => e = .returned (.bool (endsL (lst s) k)) ∧ RowKit.Below w.heap.size w w' := by
  by_cases h1 : k = 1
  · subst h1
    obtain ⟨A, hA⟩ : ∃ A : ByteArray, A = ⟨((lst s).map lowb).toArray⟩ := ⟨_, rfl⟩
    have hAl : lst A = (lst s).map lowb := by rw [hA, lst_mk]
    have HS : Hid (∀ W, Calls Tryd.prog 35 #[.string s] W fun e w' => e = .returned (.string A) ∧ RowKit.Below W.heap.size W w') := fun W => by rw [hA]; exact refSmall_any s hs W
    have hAs : A.size ≤ 1000000 := by rw [← lst_size, hAl, List.length_map, lst_size]; exact hs
    have C0 : Hid (∀ W, Calls Tryd.prog 39 #[.string A, .string { data := #[60, 47, 112, 114, 101, 62] }] W fun e w' => e = .returned (.bool (isVe (lst s) 0)) ∧ w' = W) := fun W => by
      unfold isVe
      rw [← hAl]
      exact refHas_lit A ({ data := #[60, 47, 112, 114, 101, 62] } : ByteArray) (vend 0) rfl hAs ⟨by decide, by decide⟩ W
    have C1 : Hid (∀ W, Calls Tryd.prog 39 #[.string A, .string { data := #[60, 47, 115, 99, 114, 105, 112, 116, 62] }] W fun e w' => e = .returned (.bool (isVe (lst s) 1)) ∧ w' = W) := fun W => by
      unfold isVe
      rw [← hAl]
      exact refHas_lit A ({ data := #[60, 47, 115, 99, 114, 105, 112, 116, 62] } : ByteArray) (vend 1) rfl hAs ⟨by decide, by decide⟩ W
    have C2 : Hid (∀ W, Calls Tryd.prog 39 #[.string A, .string { data := #[60, 47, 115, 116, 121, 108, 101, 62] }] W fun e w' => e = .returned (.bool (isVe (lst s) 2)) ∧ w' = W) := fun W => by
      unfold isVe
      rw [← hAl]
      exact refHas_lit A ({ data := #[60, 47, 115, 116, 121, 108, 101, 62] } : ByteArray) (vend 2) rfl hAs ⟨by decide, by decide⟩ W
    have C3 : Hid (∀ W, Calls Tryd.prog 39 #[.string A, .string { data := #[60, 47, 116, 101, 120, 116, 97, 114, 101, 97, 62] }] W fun e w' => e = .returned (.bool (isVe (lst s) 3)) ∧ w' = W) := fun W => by
      unfold isVe
      rw [← hAl]
      exact refHas_lit A ({ data := #[60, 47, 116, 101, 120, 116, 97, 114, 101, 97, 62] } : ByteArray) (vend 3) rfl hAs ⟨by decide, by decide⟩ W
    have HV : Hid (endsL (lst s) 1 = (isVe (lst s) 0 || isVe (lst s) 1 || isVe (lst s) 2 || isVe (lst s) 3)) := rfl
    clear hA hAl hAs
    generalize endsL (lst s) 1 = v at *
    generalize isVe (lst s) 0 = b0 at *
    generalize isVe (lst s) 1 = b1 at *
    generalize isVe (lst s) 2 = b2 at *
    generalize isVe (lst s) 3 = b3 at *
    cases b0
    · cases b1
      · cases b2
        · skip
          go_enter Tryd.func16, Tryd.ntmps16
          go_wp2_with fail
          refine (HS.out _).mono ?_
          rintro e w1 ⟨rfl, hb⟩
          have B1 := Lib.hid hb
          clear hb
          go_wp2_with fail
          refine (C0.out _).mono ?_
          rintro e w2 ⟨rfl, rfl⟩
          go_wp2_with fail
          refine (C1.out _).mono ?_
          rintro e w2 ⟨rfl, rfl⟩
          go_wp2_with fail
          refine (C2.out _).mono ?_
          rintro e w2 ⟨rfl, rfl⟩
          go_wp2_with fail
          refine (C3.out _).mono ?_
          rintro e w2 ⟨rfl, rfl⟩
          go_wp2_with fail
          go_ret
          exact ⟨ret_bool (by rw [HV.out]; rfl), B1.out⟩
        · skip
          go_enter Tryd.func16, Tryd.ntmps16
          go_wp2_with fail
          refine (HS.out _).mono ?_
          rintro e w1 ⟨rfl, hb⟩
          have B1 := Lib.hid hb
          clear hb
          go_wp2_with fail
          refine (C0.out _).mono ?_
          rintro e w2 ⟨rfl, rfl⟩
          go_wp2_with fail
          refine (C1.out _).mono ?_
          rintro e w2 ⟨rfl, rfl⟩
          go_wp2_with fail
          refine (C2.out _).mono ?_
          rintro e w2 ⟨rfl, rfl⟩
          go_wp2_with fail
          go_ret
          exact ⟨ret_bool (by rw [HV.out]; rfl), B1.out⟩
      · skip
        go_enter Tryd.func16, Tryd.ntmps16
        go_wp2_with fail
        refine (HS.out _).mono ?_
        rintro e w1 ⟨rfl, hb⟩
        have B1 := Lib.hid hb
        clear hb
        go_wp2_with fail
        refine (C0.out _).mono ?_
        rintro e w2 ⟨rfl, rfl⟩
        go_wp2_with fail
        refine (C1.out _).mono ?_
        rintro e w2 ⟨rfl, rfl⟩
        go_wp2_with fail
        go_ret
        exact ⟨ret_bool (by rw [HV.out]; rfl), B1.out⟩
    · skip
      go_enter Tryd.func16, Tryd.ntmps16
      go_wp2_with fail
      refine (HS.out _).mono ?_
      rintro e w1 ⟨rfl, hb⟩
      have B1 := Lib.hid hb
      clear hb
      go_wp2_with fail
      refine (C0.out _).mono ?_
      rintro e w2 ⟨rfl, rfl⟩
      go_wp2_with fail
      go_ret
      exact ⟨ret_bool (by rw [HV.out]; rfl), B1.out⟩
  · have q1 : (k == 1) = false := by simpa using h1
    by_cases hk4 : k = 2 ∨ k = 3 ∨ k = 4 ∨ k = 5
    · clear h1 q1
      rcases hk4 with rfl | rfl | rfl | rfl
      · have HC : Hid (∀ W, Calls Tryd.prog 39 #[.string s, .string { data := #[45, 45, 62] }] W fun e w' => e = .returned (.bool (endsL (lst s) 2)) ∧ w' = W) := fun W => refHas_lit s ({ data := #[45, 45, 62] } : ByteArray) (oend 0) rfl hs ⟨by decide, by decide⟩ W
        generalize endsL (lst s) 2 = v at *
        go_enter Tryd.func16, Tryd.ntmps16
        go_wp2_with fail
        refine (HC.out _).mono ?_
        rintro e w1 ⟨rfl, rfl⟩
        go_wp2_with fail
        go_ret
        exact ⟨rfl, Below.refl _ _⟩
      · have HC : Hid (∀ W, Calls Tryd.prog 39 #[.string s, .string { data := #[63, 62] }] W fun e w' => e = .returned (.bool (endsL (lst s) 3)) ∧ w' = W) := fun W => refHas_lit s ({ data := #[63, 62] } : ByteArray) (oend 1) rfl hs ⟨by decide, by decide⟩ W
        generalize endsL (lst s) 3 = v at *
        go_enter Tryd.func16, Tryd.ntmps16
        go_wp2_with fail
        refine (HC.out _).mono ?_
        rintro e w1 ⟨rfl, rfl⟩
        go_wp2_with fail
        go_ret
        exact ⟨rfl, Below.refl _ _⟩
      · have HC : Hid (∀ W, Calls Tryd.prog 39 #[.string s, .string { data := #[62] }] W fun e w' => e = .returned (.bool (endsL (lst s) 4)) ∧ w' = W) := fun W => refHas_lit s ({ data := #[62] } : ByteArray) (oend 2) rfl hs ⟨by decide, by decide⟩ W
        generalize endsL (lst s) 4 = v at *
        go_enter Tryd.func16, Tryd.ntmps16
        go_wp2_with fail
        refine (HC.out _).mono ?_
        rintro e w1 ⟨rfl, rfl⟩
        go_wp2_with fail
        go_ret
        exact ⟨rfl, Below.refl _ _⟩
      · have HC : Hid (∀ W, Calls Tryd.prog 39 #[.string s, .string { data := #[93, 93, 62] }] W fun e w' => e = .returned (.bool (endsL (lst s) 5)) ∧ w' = W) := fun W => refHas_lit s ({ data := #[93, 93, 62] } : ByteArray) (oend 3) rfl hs ⟨by decide, by decide⟩ W
        generalize endsL (lst s) 5 = v at *
        go_enter Tryd.func16, Tryd.ntmps16
        go_wp2_with fail
        refine (HC.out _).mono ?_
        rintro e w1 ⟨rfl, rfl⟩
        go_wp2_with fail
        go_ret
        exact ⟨rfl, Below.refl _ _⟩
    · have HV : Hid (endsL (lst s) k = false) := show _ = _ from by unfold endsL; rw [if_neg h1, if_pos (by omega)]
      have q2 : (k == 2) = false := by simp; omega
      have q3 : (k == 3) = false := by simp; omega
      have q4 : (k == 4) = false := by simp; omega
      have q5 : (k == 5) = false := by simp; omega
      clear h1 hk4
      go_enter Tryd.func16, Tryd.ntmps16
      go_wp2_with fail
      go_ret
      exact ⟨ret_bool (by rw [HV.out]), Below.refl _ _⟩
end Go.Proofs.YtdnnjakggopdoaaDoor
