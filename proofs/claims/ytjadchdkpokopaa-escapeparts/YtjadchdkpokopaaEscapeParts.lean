/-
  PROVED: stetlaw07.EscapeParts returns true for every two texts: the HTML of two clean texts together is the HTML of each, one behind the other. Conditions: none beside the row's own.
-/
import Derived.Test.YtjadchdkpokopaaAlive
import Derived.WalkKit
import Derived.ProofKit
import Derived.OpenShut
import Derived.ShutString
namespace Go.Proofs.Ytjadchdkpokopaa.escapeParts
open Go.ChangeShapes Go.WideShapes Go.ChangeAt Go.RowKit
open Go.ChangeMaps (open_string shut_string)
set_option linter.unusedVariables false      -- a walk need not use every 'w<i>' (that an integer argument fits its kind)

theorem own : ownKnob Try.prog.godebug = none := by kernel_rfl

theorem app_list (a b : ByteArray) : lst (a ++ b) = lst a ++ lst b := by simp [lst]
theorem app_size (a b : ByteArray) : (a ++ b).size = a.size + b.size := ByteArray.size_append
set_option maxHeartbeats 4000000 in
theorem walk (a0 : ByteArray) (a1 : ByteArray) (w0 : a0.size ≤ maxLen) (w1 : a1.size ≤ maxLen) (w : World) :
    Calls Try.prog 8 #[.string a0, .string a1] w fun e w' => e = .returned (.bool true) ∧ Below w.heap.size w w' := by
  by_cases hl : 10000 < a0.size ∨ 10000 < a1.size
  · by_cases h1 : 10000 < a0.size
    · go_enter Try.func8, Try.ntmps8
      go_wp2_with fail
      refine (alive_any _).mono ?_
      rintro e w1 ⟨rfl, hb⟩
      have B1 := Lib.hid hb
      have z1 := hb.size
      clear hb
      go_wp2_with fail
      go_ret
      exact ⟨rfl, B1.out⟩
    · have h2 : 10000 < a1.size := by omega
      clear hl
      go_enter Try.func8, Try.ntmps8
      go_wp2_with fail
      refine (alive_any _).mono ?_
      rintro e w1 ⟨rfl, hb⟩
      have B1 := Lib.hid hb
      have z1 := hb.size
      clear hb
      go_wp2_with fail
      go_ret
      exact ⟨rfl, B1.out⟩
  · have h1 : a0.size ≤ 10000 := by omega
    have h2 : a1.size ≤ 10000 := by omega
    clear hl
    obtain ⟨X, hX, _, hcX⟩ := clean_text a0 (by omega)
    obtain ⟨Y, hY, _, hcY⟩ := clean_text a1 (by omega)
    have zX : X.size ≤ 40000 := by
      rw [← lst_size, hX]
      have := clean_len (lst a0)
      rw [lst_size] at this
      omega
    have zY : Y.size ≤ 40000 := by
      rw [← lst_size, hY]
      have := clean_len (lst a1)
      rw [lst_size] at this
      omega
    have zXY : (X ++ Y).size ≤ 80000 := by rw [app_size]; omega
    obtain ⟨P, hP, hP2⟩ := made (htmlL (lst X))
    obtain ⟨Q, hQ, hQ2⟩ := made (htmlL (lst Y))
    have eX : cleanB (lst X) = lst X := by rw [hX]; exact clean_clean _
    have eY : cleanB (lst Y) = lst Y := by rw [hY]; exact clean_clean _
    have eXY : cleanB (lst (X ++ Y)) = lst X ++ lst Y := by rw [app_list, hX, hY]; exact clean_two _ _
    have H1 := Lib.hid hcX
    have H2 := Lib.hid hcY
    have H3 : Hid (∀ W, Calls Try.prog 14 #[.string (X ++ Y)] W fun e w' => e = .returned (.string (P ++ Q)) ∧ Below W.heap.size W w') := fun W => by
      have h := html_text (X ++ Y) (by omega) W
      rw [eXY, htmlL_app, ← hP, ← hQ, ← app_list, ← of_lst (P ++ Q) _ rfl] at h
      exact h
    have H4 : Hid (∀ W, Calls Try.prog 14 #[.string X] W fun e w' => e = .returned (.string P) ∧ Below W.heap.size W w') := fun W => by
      have h := html_text X (by omega) W
      rw [eX, hP2] at h
      exact h
    have H5 : Hid (∀ W, Calls Try.prog 14 #[.string Y] W fun e w' => e = .returned (.string Q) ∧ Below W.heap.size W w') := fun W => by
      have h := html_text Y (by omega) W
      rw [eY, hQ2] at h
      exact h
    have zP : P.size ≤ 240000 := by
      rw [← lst_size, hP]
      have := htmlL_len (lst X)
      rw [lst_size] at this
      omega
    have zQ : Q.size ≤ 240000 := by
      rw [← lst_size, hQ]
      have := htmlL_len (lst Y)
      rw [lst_size] at this
      omega
    clear hcX hcY hX hY hP hP2 hQ hQ2 eX eY eXY zXY
    go_enter Try.func8, Try.ntmps8
    go_wp2_with fail
    refine (alive_any _).mono ?_
    rintro e w1 ⟨rfl, hb⟩
    have B1 := Lib.hid hb
    have z1 := hb.size
    clear hb
    go_wp2_with fail
    refine (H1.out _).mono ?_
    rintro e w2 ⟨rfl, hb⟩
    have B2 := Lib.hid (chain (Nat.le_refl _) B1.out hb)
    clear hb B1 H1
    go_wp2_with fail
    refine (H2.out _).mono ?_
    rintro e w3 ⟨rfl, hb⟩
    have B3 := Lib.hid (chain (Nat.le_refl _) B2.out hb)
    clear hb B2 H2
    go_wp2_with fail
    refine (H3.out _).mono ?_
    rintro e w4 ⟨rfl, hb⟩
    have B4 := Lib.hid (chain (Nat.le_refl _) B3.out hb)
    clear hb B3 H3
    go_wp2_with fail
    refine (H4.out _).mono ?_
    rintro e w5 ⟨rfl, hb⟩
    have B5 := Lib.hid (chain (Nat.le_refl _) B4.out hb)
    clear hb B4 H4
    go_wp2_with fail
    refine (H5.out _).mono ?_
    rintro e w6 ⟨rfl, hb⟩
    have B6 := Lib.hid (chain (Nat.le_refl _) B5.out hb)
    clear hb B5 H5
    go_wp2_with fail
    go_ret
    exact ⟨rfl, B6.out⟩

set_option maxRecDepth 100000 in
theorem lifted (os : Os) (started : os.Started) (H : Type) (enc : TypeId × Value → H) :
    ReturnsInHanded {} Try.checked os 8 .any (Rows.escapePartsSpec.pre6 enc Try.prog Try.f8 Rows.escapePartsRow.domain false) (Rows.escapePartsSpec.post enc Try.prog Try.f8 false true false false) := by
  refine returnsInHanded_of_change (C := Try.checked) own started (by kernel_rfl) Try.func8
    (ChangeSpec.witness6 (enc := enc) (C := Try.checked) false ⟨#[], #[.string ByteArray.empty, .string ByteArray.empty], []⟩ 8 (by kernel_rfl) (by kernel_rfl) (by kernel_rfl) (by kernel_rfl)) ?_
  intro W base args ds gs before hval0 hW hcnd _
  have hval : ∀ (j : Nat) t v, Try.f8.params[j]? = some t → args[j]? = some v → Value.okWide Try.prog W .any base t v := hval0
  have hW' := hW
  obtain ⟨p, q, hA0, hV, rfl, hfz, hnd⟩ := hW
  have hA : DataW.TrodAll enc Try.prog W 0 (fun _ => true) true Try.f8.params.toList args.toList ds p := hA0
  rw [Try.params8] at hA hval
  obtain ⟨v0, vs0, d0, ds0, p0, q0, hargs, rfl, rfl, h0, r0⟩ := trodAll_cons hA
  obtain ⟨v1, vs1, d1, ds1, p1, q1, rfl, rfl, rfl, h1, r1⟩ := trodAll_cons r0
  obtain ⟨rfl, rfl, rfl⟩ := trodAll_nil r1
  obtain rfl : args = #[v0, v1] := by cases args; simp_all
  obtain ⟨rfl, rfl⟩ := trodVars_none hV
  obtain ⟨a0, rfl, rfl, rfl, w0⟩ := open_string Try.underlying9 (hval 0 9 v0 rfl rfl) h0
  obtain ⟨a1, rfl, rfl, rfl, w1⟩ := open_string Try.underlying9 (hval 1 9 v1 rfl rfl) h1
  clear hA0 hval0
  simp only [List.append_nil] at hW'
  refine (walk a0 a1 w0 w1 W).mono fun e W' ⟨he, hg⟩ => ?_
  subst he
  exact ⟨_, rfl, _, _, _, [], [], [], hW', (trodAll_cons_mk (shut_bool Try.underlying4 _) trodAll_mk0), (trodAll_cons_mk (shut_string Try.underlying9 w0) (trodAll_cons_mk (shut_string Try.underlying9 w1) trodAll_mk0)), rfl, hg.frame _, fun h => by cases h⟩

theorem over : Rows.escapePartsRow.holds Try.pinned (OpenSpec.ofChange Rows.escapePartsSpec) :=
  OpenClaim.holds_of_wide 8 Try.f8 rfl rfl rfl rfl rfl rfl rfl ⟨rfl, rfl, rfl, rfl, rfl⟩ rfl rfl rfl rfl rfl (by kernel_rfl) Try.func8 (by kernel_rfl)
    (of_decide_eq_true (by kernel_rfl)) (by unfold Func.isWrapper; first | (rw [if_pos (by decide +kernel)]; kernel_rfl) | (rw [if_neg (by decide +kernel)]; exact ⟨rfl, rfl⟩))
    (fun os started H enc _ => lifted os started H enc)

theorem proved : Rows.EscapePartsSaid :=
  over
#print axioms proved
end Go.Proofs.Ytjadchdkpokopaa.escapeParts
