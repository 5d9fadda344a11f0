/-
  PROVED: stetlaw01.TextCleans returns true for every text: text.Clean answers the text that the document's own Clean answers, and a clean text is clean already. Conditions: none beside the row's own.
-/
import Derived.Test.YtinbdangpehkaaaClean
import Derived.Test.YtinbdangpehkaaaRefClean
import Derived.WalkKit
import Derived.ProofKit
import Derived.OpenShut
import Derived.ShutString
namespace Go.Proofs.Ytinbdangpehkaaa.textCleans
open Go.ChangeShapes Go.WideShapes Go.ChangeAt Go.RowKit
open Go.ChangeMaps (open_string shut_string)
set_option linter.unusedVariables false      -- a walk need not use every 'w<i>' (that an integer argument fits its kind)

theorem own : ownKnob Try.prog.godebug = none := by kernel_rfl

theorem clean_ab (w : World) : Calls Try.prog 12 #[.string { data := #[97, 255, 98] }] w fun e w' => e = .returned (.string { data := #[97, 239, 191, 189, 98] }) ∧ Below w.heap.size w w' := by
  have h := clean_any { data := #[97, 255, 98] } (by decide) w
  have e : cleanF { data := #[97, 255, 98] } 0 = [97, 239, 191, 189, 98] := by
    have w0 : wd { data := #[97, 255, 98] } 0 = 1 := by decide
    have w1 : wd { data := #[97, 255, 98] } 1 = 1 := by decide
    have w2 : wd { data := #[97, 255, 98] } 2 = 1 := by decide
    have p0 : enc1 (Utf8.decode { data := #[97, 255, 98] } 0).1 = [97] := by decide
    have p1 : enc1 (Utf8.decode { data := #[97, 255, 98] } 1).1 = [239, 191, 189] := by decide
    have p2 : enc1 (Utf8.decode { data := #[97, 255, 98] } 2).1 = [98] := by decide
    rw [cleanF_go _ 0 (by decide), w0, p0, cleanF_go _ (0 + 1) (by decide), w1, p1, cleanF_go _ (0 + 1 + 1) (by decide), w2, p2, cleanF_out _ (0 + 1 + 1 + 1) (by decide)]
    rfl
  rw [e] at h
  exact h
theorem clean_zero (w : World) : Calls Try.prog 12 #[.string { data := #[0] }] w fun e w' => e = .returned (.string { data := #[239, 191, 189] }) ∧ Below w.heap.size w w' := by
  have h := clean_any { data := #[0] } (by decide) w
  have e : cleanF { data := #[0] } 0 = [239, 191, 189] := by
    have w0 : wd { data := #[0] } 0 = 1 := by decide
    have p0 : enc1 (Utf8.decode { data := #[0] } 0).1 = [239, 191, 189] := by decide
    rw [cleanF_go _ 0 (by decide), w0, p0, cleanF_out _ (0 + 1) (by decide)]
    rfl
  rw [e] at h
  exact h
theorem chain {B : Nat} {a b c : World} (hB : B ≤ a.heap.size) (h : Below B a b) (k : Below b.heap.size b c) : Below B a c := h.trans (k.mono (Nat.le_trans hB h.size))

set_option maxHeartbeats 1000000 in
theorem walk (a0 : ByteArray) (w0 : a0.size ≤ maxLen) (w : World) :
    Calls Try.prog 3 #[.string a0] w fun e w' => e = .returned (.bool true) ∧ Below w.heap.size w w' := by
  by_cases hl : 100000 < a0.size
  · go_enter Try.func3, Try.ntmps3
    go_wp2_with fail
    refine (clean_ab _).mono ?_
    rintro e w1 ⟨rfl, hb1⟩
    go_wp2_with fail
    refine (clean_zero _).mono ?_
    rintro e w2 ⟨rfl, hb2⟩
    go_wp2_with fail
    go_ret
    exact ⟨rfl, chain (Nat.le_refl _) hb1 hb2⟩
  · have hlen := cleanF_len a0 _ 0 (Nat.le_refl _)
    have h1 := clean_any a0 (by omega)
    have h2 := refClean_any a0 (by omega)
    have h3 := clean_any ⟨(cleanF a0 0).toArray⟩ (by show (cleanF a0 0).toArray.size ≤ 2000000; simp; omega)
    rw [clean_again] at h3
    generalize (cleanF a0 0).toArray = c at *
    have H1 := Lib.hid h1
    have H2 := Lib.hid h2
    have H3 := Lib.hid h3
    clear h1 h2 h3
    go_enter Try.func3, Try.ntmps3
    go_wp2_with fail
    refine (clean_ab _).mono ?_
    rintro e w1 ⟨rfl, hb1⟩
    go_wp2_with fail
    refine (clean_zero _).mono ?_
    rintro e w2 ⟨rfl, hb2⟩
    go_wp2_with fail
    refine (H1.out _).mono ?_
    rintro e w3 ⟨rfl, hb3⟩
    go_wp2_with fail
    refine (H2.out _).mono ?_
    rintro e w4 ⟨rfl, hb4⟩
    go_wp2_with fail
    refine (H3.out _).mono ?_
    rintro e w5 ⟨rfl, hb5⟩
    go_wp2_with fail
    go_ret
    exact ⟨rfl, chain (Nat.le_refl _) (chain (Nat.le_refl _) (chain (Nat.le_refl _) (chain (Nat.le_refl _) hb1 hb2) hb3) hb4) hb5⟩

set_option maxRecDepth 100000 in
theorem lifted (os : Os) (started : os.Started) (H : Type) (enc : TypeId × Value → H) :
    ReturnsInHanded {} Try.checked os 3 .any (Rows.textCleansSpec.pre6 enc Try.prog Try.f3 Rows.textCleansRow.domain false) (Rows.textCleansSpec.post enc Try.prog Try.f3 false true false false) := by
  refine returnsInHanded_of_change (C := Try.checked) own started (by kernel_rfl) Try.func3
    (ChangeSpec.witness6 (enc := enc) (C := Try.checked) false ⟨#[], #[.string ByteArray.empty], []⟩ 8 (by kernel_rfl) (by kernel_rfl) (by kernel_rfl) (by kernel_rfl)) ?_
  intro W base args ds gs before hval0 hW hcnd _
  have hval : ∀ (j : Nat) t v, Try.f3.params[j]? = some t → args[j]? = some v → Value.okWide Try.prog W .any base t v := hval0
  have hW' := hW
  obtain ⟨p, q, hA0, hV, rfl, hfz, hnd⟩ := hW
  have hA : DataW.TrodAll enc Try.prog W 0 (fun _ => true) true Try.f3.params.toList args.toList ds p := hA0
  rw [Try.params3] at hA hval
  obtain ⟨v0, vs0, d0, ds0, p0, q0, hargs, rfl, rfl, h0, r0⟩ := trodAll_cons hA
  obtain ⟨rfl, rfl, rfl⟩ := trodAll_nil r0
  obtain rfl : args = #[v0] := by cases args; simp_all
  obtain ⟨rfl, rfl⟩ := trodVars_none hV
  obtain ⟨a0, rfl, rfl, rfl, w0⟩ := open_string Try.underlying9 (hval 0 9 v0 rfl rfl) h0
  clear hA0 hval0
  simp only [List.append_nil] at hW'
  refine (walk a0 w0 W).mono fun e W' ⟨he, hg⟩ => ?_
  subst he
  exact ⟨_, rfl, _, _, _, [], [], [], hW', (trodAll_cons_mk (shut_bool Try.underlying4 _) trodAll_mk0), (trodAll_cons_mk (shut_string Try.underlying9 w0) trodAll_mk0), rfl, hg.frame _, fun h => by cases h⟩

theorem over : Rows.textCleansRow.holds Try.pinned (OpenSpec.ofChange Rows.textCleansSpec) :=
  OpenClaim.holds_of_wide 3 Try.f3 rfl rfl rfl rfl rfl rfl rfl ⟨rfl, rfl, rfl, rfl, rfl⟩ rfl rfl rfl rfl rfl (by kernel_rfl) Try.func3 (by kernel_rfl)
    (of_decide_eq_true (by kernel_rfl)) (by unfold Func.isWrapper; first | (rw [if_pos (by decide +kernel)]; kernel_rfl) | (rw [if_neg (by decide +kernel)]; exact ⟨rfl, rfl⟩))
    (fun os started H enc _ => lifted os started H enc)

theorem proved : Rows.TextCleansSaid :=
  over
#print axioms proved
end Go.Proofs.Ytinbdangpehkaaa.textCleans
