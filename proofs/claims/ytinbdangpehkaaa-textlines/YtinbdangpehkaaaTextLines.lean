/-
  PROVED: stetlaw01.TextLines returns true for every text: text.Lines answers the lines that the document's own Lines answers. Conditions: none beside the row's own.
-/
import Derived.Test.YtinbdangpehkaaaSame
import Derived.WalkKit
import Derived.ProofKit
import Derived.OpenShut
import Derived.ShutString
namespace Go.Proofs.Ytinbdangpehkaaa.textLines
open Go.ChangeShapes Go.WideShapes Go.ChangeAt Go.RowKit
open Go.ChangeMaps (open_string shut_string)
set_option linter.unusedVariables false      -- a walk need not use every 'w<i>' (that an integer argument fits its kind)

theorem own : ownKnob Try.prog.godebug = none := by kernel_rfl

theorem two_lines : (linesF { data := #[97, 13, 10, 98, 13] } 0).length = 2 := by
  have t0 : lineTo { data := #[97, 13, 10, 98, 13] } 0 = 1 := by rw [lineTo_go _ 0 (by decide) (by decide), lineTo_stop _ (0 + 1) (by decide)]
  have t1 : lineTo { data := #[97, 13, 10, 98, 13] } 3 = 4 := by rw [lineTo_go _ 3 (by decide) (by decide), lineTo_stop _ (3 + 1) (by decide)]
  have e0 : lineEnd { data := #[97, 13, 10, 98, 13] } 0 = 3 := by unfold lineEnd; rw [t0]; decide
  have e1 : lineEnd { data := #[97, 13, 10, 98, 13] } 3 = 5 := by unfold lineEnd; rw [t1]; decide
  rw [linesF_go _ 0 (by decide), e0, linesF_go _ 3 (by decide), e1, linesF_out _ 5 (by decide)]
  rfl
theorem lines_two (w : World) : Calls Try.prog 14 #[.string { data := #[97, 13, 10, 98, 13] }] w fun e w' => ∃ A c, e = .returned (.slice A 2 c) ∧ Below w.heap.size w w' := by
  refine (lines_any { data := #[97, 13, 10, 98, 13] } (by decide) w).mono ?_
  rintro e w' ⟨v, rfl, ho, hb⟩
  obtain ⟨A, c, rfl, -⟩ := own_lines ho
  exact ⟨A, c, by rw [two_lines], hb⟩
theorem chain {B : Nat} {a b c : World} (hB : B ≤ a.heap.size) (h : Below B a b) (k : Below b.heap.size b c) : Below B a c := h.trans (k.mono (Nat.le_trans hB h.size))

set_option maxHeartbeats 400000 in
theorem walk (a0 : ByteArray) (w0 : a0.size ≤ maxLen) (w : World) :
    Calls Try.prog 4 #[.string a0] w fun e w' => e = .returned (.bool true) ∧ Below w.heap.size w w' := by
  have hs := w0
  unfold maxLen at hs
  by_cases hl : 100000 < a0.size
  · go_enter Try.func4, Try.ntmps4
    go_wp2_with fail
    refine (lines_two _).mono ?_
    rintro e w1 ⟨A, c, rfl, hb1⟩
    go_wp2_with fail
    go_ret
    exact ⟨rfl, hb1⟩
  · have hlen := linesF_len a0 a0.size 0 (by omega)
    go_enter Try.func4, Try.ntmps4
    go_wp2_with fail
    refine (lines_two _).mono ?_
    rintro e w1 ⟨A, c, rfl, hb1⟩
    go_wp2_with fail
    refine (lines_any a0 (by omega) _).mono ?_
    rintro e w2 ⟨v2, rfl, ho2, hb2⟩
    obtain ⟨A2, c2, rfl, -, hr2, hl2⟩ := own_lines ho2
    clear ho2
    have HR2 := Lib.hid hr2
    have HL2 := Lib.hid hl2
    clear hr2 hl2
    go_wp2_with fail
    refine (refLines_any a0 (by omega) _).mono ?_
    rintro e w3 ⟨v3, rfl, ho3, hb3⟩
    obtain ⟨A3, c3, rfl, -, hr3, -⟩ := own_lines ho3
    clear ho3
    have HR3 := Lib.hid hr3
    clear hr3
    go_wp2_with fail
    refine (same_yes A2 A3 c2 c3 (linesF a0 0) (by omega) _ (HR2.out.below hb3 fun b o k e => (HL2.out b o k e).2) HR3.out).mono ?_
    rintro e w4 ⟨rfl, n, rfl⟩
    go_wp2_with fail
    go_ret
    exact ⟨rfl, below_drewN (chain (Nat.le_refl _) (chain (Nat.le_refl _) hb1 hb2) hb3) n⟩

set_option maxRecDepth 100000 in
theorem lifted (os : Os) (started : os.Started) (H : Type) (enc : TypeId × Value → H) :
    ReturnsInHanded {} Try.checked os 4 .any (Rows.textLinesSpec.pre6 enc Try.prog Try.f4 Rows.textLinesRow.domain false) (Rows.textLinesSpec.post enc Try.prog Try.f4 false true false false) := by
  refine returnsInHanded_of_change (C := Try.checked) own started (by kernel_rfl) Try.func4
    (ChangeSpec.witness6 (enc := enc) (C := Try.checked) false ⟨#[], #[.string ByteArray.empty], []⟩ 8 (by kernel_rfl) (by kernel_rfl) (by kernel_rfl) (by kernel_rfl)) ?_
  intro W base args ds gs before hval0 hW hcnd _
  have hval : ∀ (j : Nat) t v, Try.f4.params[j]? = some t → args[j]? = some v → Value.okWide Try.prog W .any base t v := hval0
  have hW' := hW
  obtain ⟨p, q, hA0, hV, rfl, hfz, hnd⟩ := hW
  have hA : DataW.TrodAll enc Try.prog W 0 (fun _ => true) true Try.f4.params.toList args.toList ds p := hA0
  rw [Try.params4] at hA hval
  obtain ⟨v0, vs0, d0, ds0, p0, q0, hargs, rfl, rfl, h0, r0⟩ := trodAll_cons hA
  obtain ⟨rfl, rfl, rfl⟩ := trodAll_nil r0
  obtain rfl : args = #[v0] := by cases args; simp_all
  obtain ⟨rfl, rfl⟩ := trodVars_none hV
  obtain ⟨a0, rfl, rfl, rfl, w0⟩ := open_string Try.underlying9 (hval 0 9 v0 rfl rfl) h0
  clear hA0 hval0
  simp only [List.append_nil] at hW'
  refine (walk a0 w0 W).mono fun e W' ⟨he, hg⟩ => ?_
  subst he
  exact ⟨_, rfl, _, _, _, [], [], [], hW', (trodAll_cons_mk (shut_bool Try.underlying4 _) trodAll_mk0), (trodAll_cons_mk (shut_string Try.underlying9 w0) trodAll_mk0), rfl, hg.frame _, fun h => by cases h⟩

theorem over : Rows.textLinesRow.holds Try.pinned (OpenSpec.ofChange Rows.textLinesSpec) :=
  OpenClaim.holds_of_wide 4 Try.f4 rfl rfl rfl rfl rfl rfl rfl ⟨rfl, rfl, rfl, rfl, rfl⟩ rfl rfl rfl rfl rfl (by kernel_rfl) Try.func4 (by kernel_rfl)
    (of_decide_eq_true (by kernel_rfl)) (by unfold Func.isWrapper; first | (rw [if_pos (by decide +kernel)]; kernel_rfl) | (rw [if_neg (by decide +kernel)]; exact ⟨rfl, rfl⟩))
    (fun os started H enc _ => lifted os started H enc)

theorem proved : Rows.TextLinesSaid :=
  over
#print axioms proved
end Go.Proofs.Ytinbdangpehkaaa.textLines
