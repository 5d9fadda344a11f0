/-
  PROVED: stetlaw03.ClassAnswers returns true for every number and every byte: class.Blank, Mark and Plain answer what the document's own answer; no character is a blank and a mark; a byte is a plain mark just if it is a mark below 128. Conditions: none beside the row's own.
-/
import Derived.Test.YtmdgjpnkaogleaaRefMark
import Derived.WalkKit
import Derived.ProofKit
import Derived.OpenShut
import Derived.ShutString
namespace Go.Proofs.Ytmdgjpnkaogleaa.classAnswers
open Go.ChangeShapes Go.WideShapes Go.ChangeAt Go.RowKit
open Go.ChangeMaps (open_string shut_string)
set_option linter.unusedVariables false      -- a walk need not use every 'w<i>' (that an integer argument fits its kind)

theorem own : ownKnob Try.prog.godebug = none := by kernel_rfl

theorem blank_b (r : Int) (w : World) : Calls Try.prog 8 #[.int .i64 r] w fun e w' => e = .returned (.bool (isBlank r)) ∧ Below w.heap.size w w' := (blank_any r w).mono fun e w' h => h.below
theorem mark_b (r : Int) (w : World) : Calls Try.prog 9 #[.int .i64 r] w fun e w' => e = .returned (.bool (isMark r)) ∧ Below w.heap.size w w' := (mark_any r w).mono fun e w' h => h.below
theorem plain_b (b : Int) (h0 : 0 ≤ b) (h1 : b < 256) (w : World) : Calls Try.prog 12 #[.int .u8 b] w fun e w' => e = .returned (.bool (inSps b plainL)) ∧ Below w.heap.size w w' := (plain_any b h0 h1 w).mono fun e w' h => h.below
theorem same_world {e e' : Ending} {w w' : World} (h : e = e' ∧ w' = w) : e = e' ∧ Below w.heap.size w w' := ⟨h.1, by rw [h.2]; exact Below.refl _ _⟩
theorem is32 : isBlank 32 = true := (isBlank_iff 32).2 (by omega)
theorem is33 : isMark 33 = true := (isMark_iff 33).2 (by omega)
theorem is97 : isMark 97 = false := (bool_of (isMark_iff 97)).2 (by omega)
theorem apart (r : Int) (h : isBlank r = true) : isMark r = false := by
  have h1 := (isBlank_iff r).1 h
  exact (bool_of (isMark_iff r)).2 (by omega)
theorem is_low (b : Int) (h : b < 128) : isMark b = inSps b plainL := by unfold isMark; rw [if_pos h]
theorem is_high (b : Int) (h : ¬ b < 128) : inSps b plainL = false := (bool_of (isPlain_iff b)).2 (by omega)

set_option maxHeartbeats 2000000 in
theorem walk (a0 : Int) (a1 : Int) (w0 : (Lit.int .i64 a0).wf = true) (w1 : (Lit.int .u8 a1).wf = true) (w : World) :
    Calls Try.prog 3 #[.int .i64 a0, .int .u8 a1] w fun e w' => e = .returned (.bool true) ∧ Below w.heap.size w w' := by
  have B32 := Lib.hid (fun W => blank_b 32 W)
  have M33 := Lib.hid (fun W => mark_b 33 W)
  have M97 := Lib.hid (fun W => mark_b 97 W)
  rw [is32] at B32
  rw [is33] at M33
  rw [is97] at M97
  have b0 : 0 ≤ a1 ∧ a1 < 256 := by
    obtain ⟨u, v⟩ := bounds_u8 w1
    exact ⟨u, by omega⟩
  have HB := Lib.hid (fun W => blank_b a0 W)
  have HRB := Lib.hid (fun W => (refBlank_any a0 W).mono fun e w' h => same_world h)
  have HM := Lib.hid (fun W => mark_b a0 W)
  have HRM := Lib.hid (fun W => (refMark_any a0 W).mono fun e w' h => same_world h)
  have HP := Lib.hid (fun W => plain_b a1 b0.1 b0.2 W)
  have HRP := Lib.hid (fun W => (refPlain_any a1 W).mono fun e w' h => same_world h)
  have HMB := Lib.hid (fun W => mark_b a1 W)
  obtain ⟨b1, b2⟩ := b0
  cases hbl : isBlank a0 with
  | true =>
    rw [hbl] at HB HRB
    rw [apart a0 hbl] at HM HRM
    clear hbl
    by_cases hlo : a1 < 128
    · rw [is_low a1 hlo] at HMB
      generalize inSps a1 plainL = pl at HP HRP HMB
      go_enter Try.func3, Try.ntmps3
      go_wp2_with fail
      refine (B32.out _).mono ?_
      rintro e v1 ⟨rfl, hb1⟩
      have hB := hb1
      clear hb1
      go_wp2_with fail
      refine (M33.out _).mono ?_
      rintro e v2 ⟨rfl, hb2⟩
      have hB := chain (Nat.le_refl _) hB hb2
      clear hb2
      go_wp2_with fail
      refine (M97.out _).mono ?_
      rintro e v3 ⟨rfl, hb3⟩
      have hB := chain (Nat.le_refl _) hB hb3
      clear hb3
      go_wp2_with fail
      refine (HB.out _).mono ?_
      rintro e v4 ⟨rfl, hb4⟩
      have hB := chain (Nat.le_refl _) hB hb4
      clear hb4
      go_wp2_with fail
      refine (HRB.out _).mono ?_
      rintro e v5 ⟨rfl, hb5⟩
      have hB := chain (Nat.le_refl _) hB hb5
      clear hb5
      go_wp2_with fail
      refine (HM.out _).mono ?_
      rintro e v6 ⟨rfl, hb6⟩
      have hB := chain (Nat.le_refl _) hB hb6
      clear hb6
      go_wp2_with fail
      refine (HRM.out _).mono ?_
      rintro e v7 ⟨rfl, hb7⟩
      have hB := chain (Nat.le_refl _) hB hb7
      clear hb7
      go_wp2_with fail
      refine (HP.out _).mono ?_
      rintro e v8 ⟨rfl, hb8⟩
      have hB := chain (Nat.le_refl _) hB hb8
      clear hb8
      go_wp2_with fail
      refine (HRP.out _).mono ?_
      rintro e v9 ⟨rfl, hb9⟩
      have hB := chain (Nat.le_refl _) hB hb9
      clear hb9
      go_wp2_with fail
      refine (HB.out _).mono ?_
      rintro e v10 ⟨rfl, hb10⟩
      have hB := chain (Nat.le_refl _) hB hb10
      clear hb10
      go_wp2_with fail
      refine (HM.out _).mono ?_
      rintro e v11 ⟨rfl, hb11⟩
      have hB := chain (Nat.le_refl _) hB hb11
      clear hb11
      go_wp2_with fail
      refine (HP.out _).mono ?_
      rintro e v12 ⟨rfl, hb12⟩
      have hB := chain (Nat.le_refl _) hB hb12
      clear hb12
      go_wp2_with fail
      refine (HMB.out _).mono ?_
      rintro e v13 ⟨rfl, hb13⟩
      have hB := chain (Nat.le_refl _) hB hb13
      clear hb13
      go_wp2_with fail
      go_ret
      exact ⟨rfl, hB⟩
    · rw [is_high a1 hlo] at HP HRP
      clear HMB
      go_enter Try.func3, Try.ntmps3
      go_wp2_with fail
      refine (B32.out _).mono ?_
      rintro e v1 ⟨rfl, hb1⟩
      have hB := hb1
      clear hb1
      go_wp2_with fail
      refine (M33.out _).mono ?_
      rintro e v2 ⟨rfl, hb2⟩
      have hB := chain (Nat.le_refl _) hB hb2
      clear hb2
      go_wp2_with fail
      refine (M97.out _).mono ?_
      rintro e v3 ⟨rfl, hb3⟩
      have hB := chain (Nat.le_refl _) hB hb3
      clear hb3
      go_wp2_with fail
      refine (HB.out _).mono ?_
      rintro e v4 ⟨rfl, hb4⟩
      have hB := chain (Nat.le_refl _) hB hb4
      clear hb4
      go_wp2_with fail
      refine (HRB.out _).mono ?_
      rintro e v5 ⟨rfl, hb5⟩
      have hB := chain (Nat.le_refl _) hB hb5
      clear hb5
      go_wp2_with fail
      refine (HM.out _).mono ?_
      rintro e v6 ⟨rfl, hb6⟩
      have hB := chain (Nat.le_refl _) hB hb6
      clear hb6
      go_wp2_with fail
      refine (HRM.out _).mono ?_
      rintro e v7 ⟨rfl, hb7⟩
      have hB := chain (Nat.le_refl _) hB hb7
      clear hb7
      go_wp2_with fail
      refine (HP.out _).mono ?_
      rintro e v8 ⟨rfl, hb8⟩
      have hB := chain (Nat.le_refl _) hB hb8
      clear hb8
      go_wp2_with fail
      refine (HRP.out _).mono ?_
      rintro e v9 ⟨rfl, hb9⟩
      have hB := chain (Nat.le_refl _) hB hb9
      clear hb9
      go_wp2_with fail
      refine (HB.out _).mono ?_
      rintro e v10 ⟨rfl, hb10⟩
      have hB := chain (Nat.le_refl _) hB hb10
      clear hb10
      go_wp2_with fail
      refine (HM.out _).mono ?_
      rintro e v11 ⟨rfl, hb11⟩
      have hB := chain (Nat.le_refl _) hB hb11
      clear hb11
      go_wp2_with fail
      refine (HP.out _).mono ?_
      rintro e v12 ⟨rfl, hb12⟩
      have hB := chain (Nat.le_refl _) hB hb12
      clear hb12
      go_wp2_with fail
      go_ret
      exact ⟨rfl, hB⟩
  | false =>
    rw [hbl] at HB HRB
    clear hbl
    generalize isMark a0 = mk at HM HRM
    by_cases hlo : a1 < 128
    · rw [is_low a1 hlo] at HMB
      generalize inSps a1 plainL = pl at HP HRP HMB
      go_enter Try.func3, Try.ntmps3
      go_wp2_with fail
      refine (B32.out _).mono ?_
      rintro e v1 ⟨rfl, hb1⟩
      have hB := hb1
      clear hb1
      go_wp2_with fail
      refine (M33.out _).mono ?_
      rintro e v2 ⟨rfl, hb2⟩
      have hB := chain (Nat.le_refl _) hB hb2
      clear hb2
      go_wp2_with fail
      refine (M97.out _).mono ?_
      rintro e v3 ⟨rfl, hb3⟩
      have hB := chain (Nat.le_refl _) hB hb3
      clear hb3
      go_wp2_with fail
      refine (HB.out _).mono ?_
      rintro e v4 ⟨rfl, hb4⟩
      have hB := chain (Nat.le_refl _) hB hb4
      clear hb4
      go_wp2_with fail
      refine (HRB.out _).mono ?_
      rintro e v5 ⟨rfl, hb5⟩
      have hB := chain (Nat.le_refl _) hB hb5
      clear hb5
      go_wp2_with fail
      refine (HM.out _).mono ?_
      rintro e v6 ⟨rfl, hb6⟩
      have hB := chain (Nat.le_refl _) hB hb6
      clear hb6
      go_wp2_with fail
      refine (HRM.out _).mono ?_
      rintro e v7 ⟨rfl, hb7⟩
      have hB := chain (Nat.le_refl _) hB hb7
      clear hb7
      go_wp2_with fail
      refine (HP.out _).mono ?_
      rintro e v8 ⟨rfl, hb8⟩
      have hB := chain (Nat.le_refl _) hB hb8
      clear hb8
      go_wp2_with fail
      refine (HRP.out _).mono ?_
      rintro e v9 ⟨rfl, hb9⟩
      have hB := chain (Nat.le_refl _) hB hb9
      clear hb9
      go_wp2_with fail
      refine (HB.out _).mono ?_
      rintro e v10 ⟨rfl, hb10⟩
      have hB := chain (Nat.le_refl _) hB hb10
      clear hb10
      go_wp2_with fail
      refine (HP.out _).mono ?_
      rintro e v11 ⟨rfl, hb11⟩
      have hB := chain (Nat.le_refl _) hB hb11
      clear hb11
      go_wp2_with fail
      refine (HMB.out _).mono ?_
      rintro e v12 ⟨rfl, hb12⟩
      have hB := chain (Nat.le_refl _) hB hb12
      clear hb12
      go_wp2_with fail
      go_ret
      exact ⟨rfl, hB⟩
    · rw [is_high a1 hlo] at HP HRP
      clear HMB
      go_enter Try.func3, Try.ntmps3
      go_wp2_with fail
      refine (B32.out _).mono ?_
      rintro e v1 ⟨rfl, hb1⟩
      have hB := hb1
      clear hb1
      go_wp2_with fail
      refine (M33.out _).mono ?_
      rintro e v2 ⟨rfl, hb2⟩
      have hB := chain (Nat.le_refl _) hB hb2
      clear hb2
      go_wp2_with fail
      refine (M97.out _).mono ?_
      rintro e v3 ⟨rfl, hb3⟩
      have hB := chain (Nat.le_refl _) hB hb3
      clear hb3
      go_wp2_with fail
      refine (HB.out _).mono ?_
      rintro e v4 ⟨rfl, hb4⟩
      have hB := chain (Nat.le_refl _) hB hb4
      clear hb4
      go_wp2_with fail
      refine (HRB.out _).mono ?_
      rintro e v5 ⟨rfl, hb5⟩
      have hB := chain (Nat.le_refl _) hB hb5
      clear hb5
      go_wp2_with fail
      refine (HM.out _).mono ?_
      rintro e v6 ⟨rfl, hb6⟩
      have hB := chain (Nat.le_refl _) hB hb6
      clear hb6
      go_wp2_with fail
      refine (HRM.out _).mono ?_
      rintro e v7 ⟨rfl, hb7⟩
      have hB := chain (Nat.le_refl _) hB hb7
      clear hb7
      go_wp2_with fail
      refine (HP.out _).mono ?_
      rintro e v8 ⟨rfl, hb8⟩
      have hB := chain (Nat.le_refl _) hB hb8
      clear hb8
      go_wp2_with fail
      refine (HRP.out _).mono ?_
      rintro e v9 ⟨rfl, hb9⟩
      have hB := chain (Nat.le_refl _) hB hb9
      clear hb9
      go_wp2_with fail
      refine (HB.out _).mono ?_
      rintro e v10 ⟨rfl, hb10⟩
      have hB := chain (Nat.le_refl _) hB hb10
      clear hb10
      go_wp2_with fail
      refine (HP.out _).mono ?_
      rintro e v11 ⟨rfl, hb11⟩
      have hB := chain (Nat.le_refl _) hB hb11
      clear hb11
      go_wp2_with fail
      go_ret
      exact ⟨rfl, hB⟩

set_option maxRecDepth 100000 in
theorem lifted (os : Os) (started : os.Started) (H : Type) (enc : TypeId × Value → H) :
    ReturnsInHanded {} Try.checked os 3 .any (Rows.classAnswersSpec.pre6 enc Try.prog Try.f3 Rows.classAnswersRow.domain false) (Rows.classAnswersSpec.post enc Try.prog Try.f3 false true false false) := by
  refine returnsInHanded_of_change (C := Try.checked) own started (by kernel_rfl) Try.func3
    (ChangeSpec.witness6 (enc := enc) (C := Try.checked) false ⟨#[], #[.int .i64 0, .int .u8 0], []⟩ 8 (by kernel_rfl) (by kernel_rfl) (by kernel_rfl) (by kernel_rfl)) ?_
  intro W base args ds gs before hval0 hW hcnd _
  have hval : ∀ (j : Nat) t v, Try.f3.params[j]? = some t → args[j]? = some v → Value.okWide Try.prog W .any base t v := hval0
  have hW' := hW
  obtain ⟨p, q, hA0, hV, rfl, hfz, hnd⟩ := hW
  have hA : DataW.TrodAll enc Try.prog W 0 (fun _ => true) true Try.f3.params.toList args.toList ds p := hA0
  rw [Try.params3] at hA hval
  obtain ⟨v0, vs0, d0, ds0, p0, q0, hargs, rfl, rfl, h0, r0⟩ := trodAll_cons hA
  obtain ⟨v1, vs1, d1, ds1, p1, q1, rfl, rfl, rfl, h1, r1⟩ := trodAll_cons r0
  obtain ⟨rfl, rfl, rfl⟩ := trodAll_nil r1
  obtain rfl : args = #[v0, v1] := by cases args; simp_all
  obtain ⟨rfl, rfl⟩ := trodVars_none hV
  obtain ⟨a0, rfl, rfl, rfl, w0⟩ := open_int Try.underlying3 (hval 0 3 v0 rfl rfl) h0
  obtain ⟨a1, rfl, rfl, rfl, w1⟩ := open_int Try.underlying5 (hval 1 5 v1 rfl rfl) h1
  clear hA0 hval0
  simp only [List.append_nil] at hW'
  refine (walk a0 a1 w0 w1 W).mono fun e W' ⟨he, hg⟩ => ?_
  subst he
  exact ⟨_, rfl, _, _, _, [], [], [], hW', (trodAll_cons_mk (shut_bool Try.underlying4 _) trodAll_mk0), (trodAll_cons_mk (shut_int Try.underlying3 w0) (trodAll_cons_mk (shut_int Try.underlying5 w1) trodAll_mk0)), rfl, hg.frame _, fun h => by cases h⟩

theorem over : Rows.classAnswersRow.holds Try.pinned (OpenSpec.ofChange Rows.classAnswersSpec) :=
  OpenClaim.holds_of_wide 3 Try.f3 rfl rfl rfl rfl rfl rfl rfl ⟨rfl, rfl, rfl, rfl, rfl⟩ rfl rfl rfl rfl rfl (by kernel_rfl) Try.func3 (by kernel_rfl)
    (of_decide_eq_true (by kernel_rfl)) (by unfold Func.isWrapper; first | (rw [if_pos (by decide +kernel)]; kernel_rfl) | (rw [if_neg (by decide +kernel)]; exact ⟨rfl, rfl⟩))
    (fun os started H enc _ => lifted os started H enc)

theorem proved : Rows.ClassAnswersSaid :=
  over
#print axioms proved
end Go.Proofs.Ytmdgjpnkaogleaa.classAnswers
