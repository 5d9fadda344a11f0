/-
  PROVED: stetlaw03.ClassAgain returns true for every two texts: a folded label folds to itself; blanks at the ends, and more of them between, make no difference; a folded label that is cleaned folds to itself. Conditions: none beside the row's own.
-/
import Derived.Test.YtmdgjpnkaogleaaLabel
import Derived.Test.YtmdgjpnkaogleaaClean
import Derived.WalkKit
import Derived.ProofKit
import Derived.OpenShut
import Derived.ShutString
namespace Go.Proofs.Ytmdgjpnkaogleaa.classAgain
open Go.ChangeShapes Go.WideShapes Go.ChangeAt Go.RowKit
open Go.ChangeMaps (open_string shut_string)
set_option linter.unusedVariables false      -- a walk need not use every 'w<i>' (that an integer argument fits its kind)

theorem own : ownKnob Try.prog.godebug = none := by kernel_rfl

set_option maxHeartbeats 1000000 in
theorem walk (a0 : ByteArray) (a1 : ByteArray) (w0 : a0.size ≤ maxLen) (w1 : a1.size ≤ maxLen) (w : World) :
    Calls Try.prog 5 #[.string a0, .string a1] w fun e w' => e = .returned (.bool true) ∧ Below w.heap.size w w' := by
  by_cases hl : 20000 < a0.size ∨ 20000 < a1.size
  · by_cases h1 : 20000 < a0.size
    · go_enter Try.func5, Try.ntmps5
      go_wp2_with fail
      refine (fold_list [65] (by decide) _ foldB_a _).mono ?_
      rintro e w1 ⟨rfl, hb1⟩
      go_wp2_with fail
      go_ret
      exact ⟨rfl, hb1⟩
    · have h2 : 20000 < a1.size := by omega
      clear hl
      go_enter Try.func5, Try.ntmps5
      go_wp2_with fail
      refine (fold_list [65] (by decide) _ foldB_a _).mono ?_
      rintro e w1 ⟨rfl, hb1⟩
      go_wp2_with fail
      go_ret
      exact ⟨rfl, hb1⟩
  · have h1 : a0.size ≤ 20000 := by omega
    have h2 : a1.size ≤ 20000 := by omega
    clear hl
    obtain ⟨F, hF⟩ : ∃ F, F = foldB (a0.data.toList ++ 32 :: a1.data.toList) := ⟨_, rfl⟩
    obtain ⟨C, hC⟩ : ∃ C, C = cleanB F := ⟨_, rfl⟩
    have lF : F.length ≤ 200005 := by
      rw [hF]
      refine Nat.le_trans (foldB_len _) ?_
      rw [List.length_append, List.length_cons, len_list, len_list]
      omega
    have lC : C.length ≤ 1000000 := by rw [hC]; exact Nat.le_trans (cleanB_len _) (by omega)
    have z1 : (a0 ++ { data := #[32] } ++ a1).size ≤ 2000000 := by
      rw [app_size, app_size]
      have : (ByteArray.mk #[32]).size = 1 := rfl
      omega
    have z2 : (({ data := #[10, 32] } : ByteArray) ++ a0 ++ { data := #[9, 32, 13, 10] } ++ a1 ++ { data := #[32] }).size ≤ 2000000 := by
      rw [app_size, app_size, app_size, app_size]
      have e1 : (ByteArray.mk #[10, 32]).size = 2 := rfl
      have e2 : (ByteArray.mk #[9, 32, 13, 10]).size = 4 := rfl
      have e3 : (ByteArray.mk #[32]).size = 1 := rfl
      omega
    have H1 := Lib.hid (fold_text (a0 ++ { data := #[32] } ++ a1) z1 F (by rw [app_list, app_list, hF]; simp))
    have H2 := Lib.hid (fold_list F (by omega) F (by rw [hF]; exact foldB_again _))
    have H3 := Lib.hid (fold_text ({ data := #[10, 32] } ++ a0 ++ { data := #[9, 32, 13, 10] } ++ a1 ++ { data := #[32] }) z2 F (by
      rw [app_list, app_list, app_list, app_list, hF, ← foldB_more a0.data.toList a1.data.toList]; simp))
    have H4 : Hid (∀ w, Calls Try.prog 16 #[.string ⟨F.toArray⟩] w fun e w' => e = .returned (.string ⟨C.toArray⟩) ∧ Below w.heap.size w w') := fun w => by
      have h := clean_any ⟨F.toArray⟩ (by show F.toArray.size ≤ 2000000; simp; omega) w
      rw [cleanF_is] at h
      rw [hC]
      simpa using h
    have H5 := Lib.hid (fold_list C (by omega) C (by rw [hC, hF]; exact foldB_clean _))
    clear z1 z2 hC hF lF lC
    generalize F.toArray = F at *
    generalize C.toArray = C at *
    go_enter Try.func5, Try.ntmps5
    go_wp2_with fail
    refine (fold_list [65] (by decide) _ foldB_a _).mono ?_
    rintro e w1 ⟨rfl, hb1⟩
    go_wp2_with fail
    refine (H1.out _).mono ?_
    rintro e w2 ⟨rfl, hb2⟩
    have hB := chain (Nat.le_refl _) hb1 hb2
    clear hb1 hb2 H1
    go_wp2_with fail
    refine (H2.out _).mono ?_
    rintro e w3 ⟨rfl, hb3⟩
    have hB := chain (Nat.le_refl _) hB hb3
    clear hb3 H2
    go_wp2_with fail
    refine (H3.out _).mono ?_
    rintro e w4 ⟨rfl, hb4⟩
    have hB := chain (Nat.le_refl _) hB hb4
    clear hb4 H3
    go_wp2_with fail
    refine (H4.out _).mono ?_
    rintro e w5 ⟨rfl, hb5⟩
    have hB := chain (Nat.le_refl _) hB hb5
    clear hb5
    go_wp2_with fail
    refine (H5.out _).mono ?_
    rintro e w6 ⟨rfl, hb6⟩
    have hB := chain (Nat.le_refl _) hB hb6
    clear hb6 H5
    go_wp2_with fail
    refine (H4.out _).mono ?_
    rintro e w7 ⟨rfl, hb7⟩
    have hB := chain (Nat.le_refl _) hB hb7
    clear hb7 H4
    go_wp2_with fail
    go_ret
    exact ⟨rfl, hB⟩

set_option maxRecDepth 100000 in
theorem lifted (os : Os) (started : os.Started) (H : Type) (enc : TypeId × Value → H) :
    ReturnsInHanded {} Try.checked os 5 .any (Rows.classAgainSpec.pre6 enc Try.prog Try.f5 Rows.classAgainRow.domain false) (Rows.classAgainSpec.post enc Try.prog Try.f5 false true false false) := by
  refine returnsInHanded_of_change (C := Try.checked) own started (by kernel_rfl) Try.func5
    (ChangeSpec.witness6 (enc := enc) (C := Try.checked) false ⟨#[], #[.string ByteArray.empty, .string ByteArray.empty], []⟩ 8 (by kernel_rfl) (by kernel_rfl) (by kernel_rfl) (by kernel_rfl)) ?_
  intro W base args ds gs before hval0 hW hcnd _
  have hval : ∀ (j : Nat) t v, Try.f5.params[j]? = some t → args[j]? = some v → Value.okWide Try.prog W .any base t v := hval0
  have hW' := hW
  obtain ⟨p, q, hA0, hV, rfl, hfz, hnd⟩ := hW
  have hA : DataW.TrodAll enc Try.prog W 0 (fun _ => true) true Try.f5.params.toList args.toList ds p := hA0
  rw [Try.params5] at hA hval
  obtain ⟨v0, vs0, d0, ds0, p0, q0, hargs, rfl, rfl, h0, r0⟩ := trodAll_cons hA
  obtain ⟨v1, vs1, d1, ds1, p1, q1, rfl, rfl, rfl, h1, r1⟩ := trodAll_cons r0
  obtain ⟨rfl, rfl, rfl⟩ := trodAll_nil r1
  obtain rfl : args = #[v0, v1] := by cases args; simp_all
  obtain ⟨rfl, rfl⟩ := trodVars_none hV
  obtain ⟨a0, rfl, rfl, rfl, w0⟩ := open_string Try.underlying9 (hval 0 9 v0 rfl rfl) h0
  obtain ⟨a1, rfl, rfl, rfl, w1⟩ := open_string Try.underlying9 (hval 1 9 v1 rfl rfl) h1
  clear hA0 hval0
  simp only [List.append_nil] at hW'
  refine (walk a0 a1 w0 w1 W).mono fun e W' ⟨he, hg⟩ => ?_
  subst he
  exact ⟨_, rfl, _, _, _, [], [], [], hW', (trodAll_cons_mk (shut_bool Try.underlying4 _) trodAll_mk0), (trodAll_cons_mk (shut_string Try.underlying9 w0) (trodAll_cons_mk (shut_string Try.underlying9 w1) trodAll_mk0)), rfl, hg.frame _, fun h => by cases h⟩

theorem over : Rows.classAgainRow.holds Try.pinned (OpenSpec.ofChange Rows.classAgainSpec) :=
  OpenClaim.holds_of_wide 5 Try.f5 rfl rfl rfl rfl rfl rfl rfl ⟨rfl, rfl, rfl, rfl, rfl⟩ rfl rfl rfl rfl rfl (by kernel_rfl) Try.func5 (by kernel_rfl)
    (of_decide_eq_true (by kernel_rfl)) (by unfold Func.isWrapper; first | (rw [if_pos (by decide +kernel)]; kernel_rfl) | (rw [if_neg (by decide +kernel)]; exact ⟨rfl, rfl⟩))
    (fun os started H enc _ => lifted os started H enc)

theorem proved : Rows.ClassAgainSaid :=
  over
#print axioms proved
end Go.Proofs.Ytmdgjpnkaogleaa.classAgain
