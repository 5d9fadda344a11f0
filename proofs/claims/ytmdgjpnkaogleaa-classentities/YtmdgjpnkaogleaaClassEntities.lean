/-
  PROVED: stetlaw03.ClassEntities returns true for every name: class.Entity answers the number that the document's own Entity answers, and whether there is one; a number that there is lies above 0 and below 55296. Conditions: none beside the row's own.
-/
import Derived.Test.YtmdgjpnkaogleaaRefEntity
import Derived.WalkKit
import Derived.ProofKit
import Derived.OpenShut
import Derived.ShutString
namespace Go.Proofs.Ytmdgjpnkaogleaa.classEntities
open Go.ChangeShapes Go.WideShapes Go.ChangeAt Go.RowKit
open Go.ChangeMaps (open_string shut_string)
set_option linter.unusedVariables false      -- a walk need not use every 'w<i>' (that an integer argument fits its kind)

theorem own : ownKnob Try.prog.godebug = none := by kernel_rfl

theorem entity_copy (w : World) : Calls Try.prog 17 #[.string { data := #[99, 111, 112, 121] }] w fun e w' => e = .returned (.tuple #[.int .i64 169, .bool true]) ∧ Below w.heap.size w w' := by
  have h := entity_any { data := #[99, 111, 112, 121] } (by decide) w
  unfold EntVal at h
  have e : look entL (ByteArray.mk #[99, 111, 112, 121]).data.toList = some 169 := by decide +kernel
  rw [e] at h
  exact h

set_option maxHeartbeats 1000000 in
theorem walk (a0 : ByteArray) (w0 : a0.size ≤ maxLen) (w : World) :
    Calls Try.prog 6 #[.string a0] w fun e w' => e = .returned (.bool true) ∧ Below w.heap.size w w' := by
  have H1 := Lib.hid (fun W => entity_any a0 w0 W)
  have H2 := Lib.hid (fun W => refEntity_any a0 W)
  unfold EntVal at H1 H2
  cases hl : look entL a0.data.toList with
  | none =>
    rw [hl] at H1 H2
    clear hl
    simp only [Option.getD_none, Option.isSome_none] at H1 H2
    go_enter Try.func6, Try.ntmps6
    go_wp2_with fail
    refine (entity_copy _).mono ?_
    rintro e w1 ⟨rfl, hb1⟩
    go_wp2_with fail
    refine (H1.out _).mono ?_
    rintro e w2 ⟨rfl, hb2⟩
    have hB := chain (Nat.le_refl _) hb1 hb2
    clear hb1 hb2 H1
    go_wp2_with fail
    refine (H2.out _).mono ?_
    rintro e w3 ⟨rfl, hb3⟩
    have hB := chain (Nat.le_refl _) hB hb3
    clear hb3 H2
    go_wp2_with fail
    go_ret
    exact ⟨rfl, hB⟩
  | some c =>
    obtain ⟨p1, p2⟩ := look_bd _ _ hl
    rw [hl] at H1 H2
    clear hl
    simp only [Option.getD_some, Option.isSome_some] at H1 H2
    go_enter Try.func6, Try.ntmps6
    go_wp2_with fail
    refine (entity_copy _).mono ?_
    rintro e w1 ⟨rfl, hb1⟩
    go_wp2_with fail
    refine (H1.out _).mono ?_
    rintro e w2 ⟨rfl, hb2⟩
    have hB := chain (Nat.le_refl _) hb1 hb2
    clear hb1 hb2 H1
    go_wp2_with fail
    refine (H2.out _).mono ?_
    rintro e w3 ⟨rfl, hb3⟩
    have hB := chain (Nat.le_refl _) hB hb3
    clear hb3 H2
    go_wp2_with fail
    go_ret
    exact ⟨rfl, hB⟩

set_option maxRecDepth 100000 in
theorem lifted (os : Os) (started : os.Started) (H : Type) (enc : TypeId × Value → H) :
    ReturnsInHanded {} Try.checked os 6 .any (Rows.classEntitiesSpec.pre6 enc Try.prog Try.f6 Rows.classEntitiesRow.domain false) (Rows.classEntitiesSpec.post enc Try.prog Try.f6 false true false false) := by
  refine returnsInHanded_of_change (C := Try.checked) own started (by kernel_rfl) Try.func6
    (ChangeSpec.witness6 (enc := enc) (C := Try.checked) false ⟨#[], #[.string ByteArray.empty], []⟩ 8 (by kernel_rfl) (by kernel_rfl) (by kernel_rfl) (by kernel_rfl)) ?_
  intro W base args ds gs before hval0 hW hcnd _
  have hval : ∀ (j : Nat) t v, Try.f6.params[j]? = some t → args[j]? = some v → Value.okWide Try.prog W .any base t v := hval0
  have hW' := hW
  obtain ⟨p, q, hA0, hV, rfl, hfz, hnd⟩ := hW
  have hA : DataW.TrodAll enc Try.prog W 0 (fun _ => true) true Try.f6.params.toList args.toList ds p := hA0
  rw [Try.params6] at hA hval
  obtain ⟨v0, vs0, d0, ds0, p0, q0, hargs, rfl, rfl, h0, r0⟩ := trodAll_cons hA
  obtain ⟨rfl, rfl, rfl⟩ := trodAll_nil r0
  obtain rfl : args = #[v0] := by cases args; simp_all
  obtain ⟨rfl, rfl⟩ := trodVars_none hV
  obtain ⟨a0, rfl, rfl, rfl, w0⟩ := open_string Try.underlying9 (hval 0 9 v0 rfl rfl) h0
  clear hA0 hval0
  simp only [List.append_nil] at hW'
  refine (walk a0 w0 W).mono fun e W' ⟨he, hg⟩ => ?_
  subst he
  exact ⟨_, rfl, _, _, _, [], [], [], hW', (trodAll_cons_mk (shut_bool Try.underlying4 _) trodAll_mk0), (trodAll_cons_mk (shut_string Try.underlying9 w0) trodAll_mk0), rfl, hg.frame _, fun h => by cases h⟩

theorem over : Rows.classEntitiesRow.holds Try.pinned (OpenSpec.ofChange Rows.classEntitiesSpec) :=
  OpenClaim.holds_of_wide 6 Try.f6 rfl rfl rfl rfl rfl rfl rfl ⟨rfl, rfl, rfl, rfl, rfl⟩ rfl rfl rfl rfl rfl (by kernel_rfl) Try.func6 (by kernel_rfl)
    (of_decide_eq_true (by kernel_rfl)) (by unfold Func.isWrapper; first | (rw [if_pos (by decide +kernel)]; kernel_rfl) | (rw [if_neg (by decide +kernel)]; exact ⟨rfl, rfl⟩))
    (fun os started H enc _ => lifted os started H enc)

theorem proved : Rows.ClassEntitiesSaid :=
  over
#print axioms proved
end Go.Proofs.Ytmdgjpnkaogleaa.classEntities
