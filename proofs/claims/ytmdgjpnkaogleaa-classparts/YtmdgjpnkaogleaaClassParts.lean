/-
  PROVED: stetlaw03.ClassParts returns true for every two texts: two labels with a blank between fold to what both fold to, with one byte 32 between where neither is empty. Conditions: none beside the row's own.
-/
import Derived.Test.YtmdgjpnkaogleaaLabel
import Derived.WalkKit
import Derived.ProofKit
import Derived.OpenShut
import Derived.ShutString
namespace Go.Proofs.Ytmdgjpnkaogleaa.classParts
open Go.ChangeShapes Go.WideShapes Go.ChangeAt Go.RowKit
open Go.ChangeMaps (open_string shut_string)
set_option linter.unusedVariables false      -- a walk need not use every 'w<i>' (that an integer argument fits its kind)

theorem own : ownKnob Try.prog.godebug = none := by kernel_rfl

theorem two_arrays (X Y : List UInt8) : (ByteArray.mk X.toArray) ++ (ByteArray.mk Y.toArray) = ByteArray.mk (X ++ Y).toArray := by
  have h : ((ByteArray.mk X.toArray) ++ (ByteArray.mk Y.toArray)).data = (X ++ Y).toArray := by simp
  exact ByteArray.ext h
theorem not_empty (X : List UInt8) (h : X ≠ []) : (ByteArray.mk X.toArray).toList.isEmpty = false := by
  rw [Lib.toList_data]
  cases X with
  | nil => exact absurd rfl h
  | cons x X => rfl

set_option maxHeartbeats 1000000 in
theorem walk (a0 : ByteArray) (a1 : ByteArray) (w0 : a0.size ≤ maxLen) (w1 : a1.size ≤ maxLen) (w : World) :
    Calls Try.prog 7 #[.string a0, .string a1] w fun e w' => e = .returned (.bool true) ∧ Below w.heap.size w w' := by
  by_cases hl : 20000 < a0.size ∨ 20000 < a1.size
  · by_cases h1 : 20000 < a0.size
    · go_enter Try.func7, Try.ntmps7
      go_wp2_with fail
      refine (fold_list [65, 32, 66] (by decide) _ foldB_ab _).mono ?_
      rintro e w1 ⟨rfl, hb1⟩
      go_wp2_with fail
      go_ret
      exact ⟨rfl, hb1⟩
    · have h2 : 20000 < a1.size := by omega
      clear hl
      go_enter Try.func7, Try.ntmps7
      go_wp2_with fail
      refine (fold_list [65, 32, 66] (by decide) _ foldB_ab _).mono ?_
      rintro e w1 ⟨rfl, hb1⟩
      go_wp2_with fail
      go_ret
      exact ⟨rfl, hb1⟩
  · have h1 : a0.size ≤ 20000 := by omega
    have h2 : a1.size ≤ 20000 := by omega
    clear hl
    have z1 : (a0 ++ { data := #[10] } ++ a1).size ≤ 2000000 := by
      rw [app_size, app_size]
      have : (ByteArray.mk #[10]).size = 1 := rfl
      omega
    have e1 : foldB (a0 ++ { data := #[10] } ++ a1).data.toList = if foldB a0.data.toList = [] ∨ foldB a1.data.toList = [] then foldB a0.data.toList ++ foldB a1.data.toList else foldB a0.data.toList ++ 32 :: foldB a1.data.toList := by
      rw [app_list, app_list, ← foldB_two]; simp
    have H1 := Lib.hid (fold_text a0 (by omega) _ rfl)
    have H2 := Lib.hid (fold_text a1 (by omega) _ rfl)
    have lX : (foldB a0.data.toList).length ≤ 100000 := by
      refine Nat.le_trans (foldB_len _) ?_
      rw [len_list]; omega
    have lY : (foldB a1.data.toList).length ≤ 100000 := by
      refine Nat.le_trans (foldB_len _) ?_
      rw [len_list]; omega
    by_cases hx : foldB a0.data.toList = [] ∨ foldB a1.data.toList = []
    · rw [if_pos hx] at e1
      have H3 := Lib.hid (fold_text (a0 ++ { data := #[10] } ++ a1) z1 _ e1)
      clear e1 z1
      generalize foldB a0.data.toList = X at *
      generalize foldB a1.data.toList = Y at *
      have HE : Hid ((ByteArray.mk X.toArray) ++ (ByteArray.mk Y.toArray) = ByteArray.mk (X ++ Y).toArray) := two_arrays X Y
      have zX : (ByteArray.mk X.toArray).size ≤ 100000 := by show X.toArray.size ≤ 100000; simpa using lX
      have zY : (ByteArray.mk Y.toArray).size ≤ 100000 := by show Y.toArray.size ≤ 100000; simpa using lY
      rw [← HE.out] at H3
      rcases hx with rfl | rfl
      · generalize ByteArray.mk Y.toArray = Y at *
        go_enter Try.func7, Try.ntmps7
        go_wp2_with fail
        refine (fold_list [65, 32, 66] (by decide) _ foldB_ab _).mono ?_
        rintro e w1 ⟨rfl, hb1⟩
        go_wp2_with fail
        refine (H1.out _).mono ?_
        rintro e w2 ⟨rfl, hb2⟩
        have hB := chain (Nat.le_refl _) hb1 hb2
        clear hb1 hb2
        go_wp2_with fail
        refine (H2.out _).mono ?_
        rintro e w3 ⟨rfl, hb3⟩
        have hB := chain (Nat.le_refl _) hB hb3
        clear hb3
        go_wp2_with fail
        refine (H3.out _).mono ?_
        rintro e w4 ⟨rfl, hb4⟩
        have hB := chain (Nat.le_refl _) hB hb4
        clear hb4 H1 H2 H3
        go_wp2_with fail
        go_ret
        exact ⟨rfl, hB⟩
      · generalize ByteArray.mk X.toArray = X at *
        cases hne : X.toList.isEmpty with
        | true =>
          go_enter Try.func7, Try.ntmps7
          go_wp2_with fail
          refine (fold_list [65, 32, 66] (by decide) _ foldB_ab _).mono ?_
          rintro e w1 ⟨rfl, hb1⟩
          go_wp2_with fail
          refine (H1.out _).mono ?_
          rintro e w2 ⟨rfl, hb2⟩
          have hB := chain (Nat.le_refl _) hb1 hb2
          clear hb1 hb2
          go_wp2_with fail
          refine (H2.out _).mono ?_
          rintro e w3 ⟨rfl, hb3⟩
          have hB := chain (Nat.le_refl _) hB hb3
          clear hb3
          go_wp2_with fail
          refine (H3.out _).mono ?_
          rintro e w4 ⟨rfl, hb4⟩
          have hB := chain (Nat.le_refl _) hB hb4
          clear hb4 H1 H2 H3
          go_wp2_with fail
          go_ret
          exact ⟨rfl, hB⟩
        | false =>
          go_enter Try.func7, Try.ntmps7
          go_wp2_with fail
          refine (fold_list [65, 32, 66] (by decide) _ foldB_ab _).mono ?_
          rintro e w1 ⟨rfl, hb1⟩
          go_wp2_with fail
          refine (H1.out _).mono ?_
          rintro e w2 ⟨rfl, hb2⟩
          have hB := chain (Nat.le_refl _) hb1 hb2
          clear hb1 hb2
          go_wp2_with fail
          refine (H2.out _).mono ?_
          rintro e w3 ⟨rfl, hb3⟩
          have hB := chain (Nat.le_refl _) hB hb3
          clear hb3
          go_wp2_with fail
          refine (H3.out _).mono ?_
          rintro e w4 ⟨rfl, hb4⟩
          have hB := chain (Nat.le_refl _) hB hb4
          clear hb4 H1 H2 H3
          go_wp2_with fail
          go_ret
          exact ⟨rfl, hB⟩
    · rw [if_neg hx] at e1
      have H3 := Lib.hid (fold_text (a0 ++ { data := #[10] } ++ a1) z1 _ e1)
      clear e1 z1
      generalize foldB a0.data.toList = X at *
      generalize foldB a1.data.toList = Y at *
      have HE : Hid ((ByteArray.mk X.toArray) ++ { data := #[32] } ++ (ByteArray.mk Y.toArray) = ByteArray.mk (X ++ 32 :: Y).toArray) := show (ByteArray.mk X.toArray) ++ { data := #[32] } ++ (ByteArray.mk Y.toArray) = ByteArray.mk (X ++ 32 :: Y).toArray from by
        rw [show (ByteArray.mk #[32]) = ByteArray.mk [32].toArray from rfl, two_arrays, two_arrays]; simp
      have zX : (ByteArray.mk X.toArray).size ≤ 100000 := by show X.toArray.size ≤ 100000; simpa using lX
      have zY : (ByteArray.mk Y.toArray).size ≤ 100000 := by show Y.toArray.size ≤ 100000; simpa using lY
      have nX : (ByteArray.mk X.toArray).toList.isEmpty = false := not_empty X (fun h => hx (Or.inl h))
      have nY : (ByteArray.mk Y.toArray).toList.isEmpty = false := not_empty Y (fun h => hx (Or.inr h))
      rw [← HE.out] at H3
      clear HE hx lX lY
      generalize ByteArray.mk Y.toArray = Y at *
      generalize ByteArray.mk X.toArray = X at *
      go_enter Try.func7, Try.ntmps7
      go_wp2_with fail
      refine (fold_list [65, 32, 66] (by decide) _ foldB_ab _).mono ?_
      rintro e w1 ⟨rfl, hb1⟩
      go_wp2_with fail
      refine (H1.out _).mono ?_
      rintro e w2 ⟨rfl, hb2⟩
      have hB := chain (Nat.le_refl _) hb1 hb2
      clear hb1 hb2
      go_wp2_with fail
      refine (H2.out _).mono ?_
      rintro e w3 ⟨rfl, hb3⟩
      have hB := chain (Nat.le_refl _) hB hb3
      clear hb3
      go_wp2_with fail
      refine (H3.out _).mono ?_
      rintro e w4 ⟨rfl, hb4⟩
      have hB := chain (Nat.le_refl _) hB hb4
      clear hb4 H1 H2 H3
      go_wp2_with fail
      go_ret
      exact ⟨rfl, hB⟩

set_option maxRecDepth 100000 in
theorem lifted (os : Os) (started : os.Started) (H : Type) (enc : TypeId × Value → H) :
    ReturnsInHanded {} Try.checked os 7 .any (Rows.classPartsSpec.pre6 enc Try.prog Try.f7 Rows.classPartsRow.domain false) (Rows.classPartsSpec.post enc Try.prog Try.f7 false true false false) := by
  refine returnsInHanded_of_change (C := Try.checked) own started (by kernel_rfl) Try.func7
    (ChangeSpec.witness6 (enc := enc) (C := Try.checked) false ⟨#[], #[.string ByteArray.empty, .string ByteArray.empty], []⟩ 8 (by kernel_rfl) (by kernel_rfl) (by kernel_rfl) (by kernel_rfl)) ?_
  intro W base args ds gs before hval0 hW hcnd _
  have hval : ∀ (j : Nat) t v, Try.f7.params[j]? = some t → args[j]? = some v → Value.okWide Try.prog W .any base t v := hval0
  have hW' := hW
  obtain ⟨p, q, hA0, hV, rfl, hfz, hnd⟩ := hW
  have hA : DataW.TrodAll enc Try.prog W 0 (fun _ => true) true Try.f7.params.toList args.toList ds p := hA0
  rw [Try.params7] at hA hval
  obtain ⟨v0, vs0, d0, ds0, p0, q0, hargs, rfl, rfl, h0, r0⟩ := trodAll_cons hA
  obtain ⟨v1, vs1, d1, ds1, p1, q1, rfl, rfl, rfl, h1, r1⟩ := trodAll_cons r0
  obtain ⟨rfl, rfl, rfl⟩ := trodAll_nil r1
  obtain rfl : args = #[v0, v1] := by cases args; simp_all
  obtain ⟨rfl, rfl⟩ := trodVars_none hV
  obtain ⟨a0, rfl, rfl, rfl, w0⟩ := open_string Try.underlying9 (hval 0 9 v0 rfl rfl) h0
  obtain ⟨a1, rfl, rfl, rfl, w1⟩ := open_string Try.underlying9 (hval 1 9 v1 rfl rfl) h1
  clear hA0 hval0
  simp only [List.append_nil] at hW'
  refine (walk a0 a1 w0 w1 W).mono fun e W' ⟨he, hg⟩ => ?_
  subst he
  exact ⟨_, rfl, _, _, _, [], [], [], hW', (trodAll_cons_mk (shut_bool Try.underlying4 _) trodAll_mk0), (trodAll_cons_mk (shut_string Try.underlying9 w0) (trodAll_cons_mk (shut_string Try.underlying9 w1) trodAll_mk0)), rfl, hg.frame _, fun h => by cases h⟩

theorem over : Rows.classPartsRow.holds Try.pinned (OpenSpec.ofChange Rows.classPartsSpec) :=
  OpenClaim.holds_of_wide 7 Try.f7 rfl rfl rfl rfl rfl rfl rfl ⟨rfl, rfl, rfl, rfl, rfl⟩ rfl rfl rfl rfl rfl (by kernel_rfl) Try.func7 (by kernel_rfl)
    (of_decide_eq_true (by kernel_rfl)) (by unfold Func.isWrapper; first | (rw [if_pos (by decide +kernel)]; kernel_rfl) | (rw [if_neg (by decide +kernel)]; exact ⟨rfl, rfl⟩))
    (fun os started H enc _ => lifted os started H enc)

theorem proved : Rows.ClassPartsSaid :=
  over
#print axioms proved
end Go.Proofs.Ytmdgjpnkaogleaa.classParts
