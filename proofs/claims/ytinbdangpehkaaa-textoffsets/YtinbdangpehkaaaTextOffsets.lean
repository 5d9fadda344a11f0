/-
  PROVED: stetlaw01.TextOffsets returns true for every text and every place: text.Offset answers the offset that the document's own Offset answers, or ErrPlace as it does. Conditions: none beside the row's own.
-/
import Derived.Test.YtinbdangpehkaaaRefOffset
import Derived.WalkKit
import Derived.ProofKit
import Derived.OpenShut
import Derived.ShutString
import Derived.Lib.SmallJoins
namespace Go.Proofs.Ytinbdangpehkaaa.textOffsets
open Go.ChangeShapes Go.WideShapes Go.ChangeAt Go.RowKit Go.Joins
open Go.ChangeMaps (open_string shut_string)
set_option linter.unusedVariables false

theorem own : ownKnob Try.prog.godebug = none := by kernel_rfl
theorem cells30 : Try.prog.cellsOf 30 = 2 := by kernel_rfl

theorem abcd_t0 : lineTo { data := #[97, 98, 10, 99, 100] } 0 = 2 := by rw [lineTo_go _ 0 (by decide) (by decide), lineTo_go _ (0 + 1) (by decide) (by decide), lineTo_stop _ (0 + 1 + 1) (by decide)]
theorem abcd_e0 : lineEnd { data := #[97, 98, 10, 99, 100] } 0 = 3 := by unfold lineEnd; rw [abcd_t0]; decide
theorem abcd_t1 : lineTo { data := #[97, 98, 10, 99, 100] } 3 = 5 := by rw [lineTo_go _ 3 (by decide) (by decide), lineTo_go _ (3 + 1) (by decide) (by decide), lineTo_out _ (3 + 1 + 1) (by decide)]
theorem abcd_e1 : lineEnd { data := #[97, 98, 10, 99, 100] } 3 = 5 := by unfold lineEnd; rw [abcd_t1]; decide
theorem off_abcd (w : World) : Calls Try.prog 19 #[.string { data := #[97, 98, 10, 99, 100] }, .agg #[.int .i64 2, .int .i64 2]] w fun e w' => e = .returned (.tuple #[.int .i64 4, .int .i64 0]) ∧ Below w.heap.size w w' := by
  have h := offset_any { data := #[97, 98, 10, 99, 100] } 2 2 (by decide) (by decide) (by decide) w
  have hv : offV { data := #[97, 98, 10, 99, 100] } 2 2 = (4, 0) := by
    refine offV_some _ 2 2 (by decide) (by decide) (j := 4) ?_
    have hw : walkTo { data := #[97, 98, 10, 99, 100] } 1 0 = some 3 := by
      unfold walkTo
      rw [if_pos (by unfold ended; rw [abcd_t0, abcd_e0]; decide), abcd_e0]
      rfl
    show offOf _ 1 1 = some 4
    unfold offOf
    rw [hw]
    show offIn _ 3 1 = some 4
    unfold offIn
    rw [if_neg (by decide), abcd_e1, leastB_one _ 5 3 (by decide)]
    show (if ended _ 3 ∧ 3 + 1 = 5 then none else some (3 + 1)) = some 4
    rw [if_neg (by omega)]
  rw [hv] at h
  exact h
theorem chain {B : Nat} {a b c : World} (hB : B ≤ a.heap.size) (h : Below B a b) (k : Below b.heap.size b c) : Below B a c := h.trans (k.mono (Nat.le_trans hB h.size))

set_option maxHeartbeats 1000000 in
theorem walk (a0 : ByteArray) (ln col : Int) (w0 : a0.size ≤ maxLen) (w1 : (Lit.int .i64 ln).wf = true) (w2 : (Lit.int .i64 col).wf = true) (w : World) :
    Calls Try.prog 7 #[.string a0, .agg #[.int .i64 ln, .int .i64 col]] w fun e w' => e = .returned (.bool true) ∧ Below w.heap.size w w' := by
  have hl1 : ln ≤ 2 ^ 63 - 1 := by have := bounds_i64 w1; omega
  have hl2 : col ≤ 2 ^ 63 - 1 := by have := bounds_i64 w2; omega
  by_cases hl : 400 < a0.size
  · go_enter Try.func7, Try.ntmps7
    go_wp2_with fail
    refine (off_abcd _).mono ?_
    rintro e w3 ⟨rfl, hb1⟩
    go_wp2_with fail
    go_ret
    exact ⟨rfl, chain (Nat.le_refl _) ((Below.refl _ _).alloc (Nat.le_refl _) _) hb1⟩
  · generalize hv : offV a0 ln col = v
    obtain ⟨x, y⟩ := v
    have HV := Lib.hid hv
    clear hv
    go_enter Try.func7, Try.ntmps7
    go_wp2_with fail
    refine (off_abcd _).mono ?_
    rintro e w3 ⟨rfl, hb1⟩
    have hH : Holds w3 w.heap.size 30 #[.int .i64 ln, .int .i64 col] := Holds.under (Holds.made w 30 _) hb1 (by simp)
    have c0 : w3.cell? ⟨w.heap.size, 0, none⟩ = some (.int .i64 ln) := hH.at 0
    have c1 : w3.cell? ⟨w.heap.size, 1, none⟩ = some (.int .i64 col) := hH.at 1
    have hz := hH.lt
    go_wp2_with fail
    refine (offset_any a0 ln col hl1 hl2 (by omega) _).mono ?_
    rw [HV.out]
    rintro e w4 ⟨rfl, hb2⟩
    have hH2 := hH.under hb2 hz
    have d0 : w4.cell? ⟨w.heap.size, 0, none⟩ = some (.int .i64 ln) := hH2.at 0
    have d1 : w4.cell? ⟨w.heap.size, 1, none⟩ = some (.int .i64 col) := hH2.at 1
    clear hH hH2
    go_wp2_with fail
    refine (refOffset_any a0 ln col (by omega) _).mono ?_
    rw [HV.out]
    rintro e w5 ⟨rfl, hb3⟩
    go_wp2_with fail
    go_ret
    have B0 := chain (Nat.le_refl _) ((Below.refl _ _).alloc (Nat.le_refl _) _) hb1
    exact ⟨rfl, chain (Nat.le_refl _) (chain (Nat.le_refl _) B0 hb2) hb3⟩

set_option maxRecDepth 100000 in
theorem lifted (os : Os) (started : os.Started) (H : Type) (enc : TypeId × Value → H) :
    ReturnsInHanded {} Try.checked os 7 .any (Rows.textOffsetsSpec.pre6 enc Try.prog Try.f7 Rows.textOffsetsRow.domain false) (Rows.textOffsetsSpec.post enc Try.prog Try.f7 false true false false) := by
  refine returnsInHanded_of_change (C := Try.checked) own started (by kernel_rfl) Try.func7
    (ChangeSpec.witness6 (enc := enc) (C := Try.checked) false ⟨#[], #[.string ByteArray.empty, .agg #[.int .i64 0, .int .i64 0]], []⟩ 8 (by kernel_rfl) (by kernel_rfl) (by kernel_rfl) (by kernel_rfl)) ?_
  intro W base args ds gs before hval0 hW hcnd _
  have hval : ∀ (j : Nat) t v, Try.f7.params[j]? = some t → args[j]? = some v → Value.okWide Try.prog W .any base t v := hval0
  have hW' := hW
  obtain ⟨p, q, hA0, hV, rfl, hfz, hnd⟩ := hW
  have hA : DataW.TrodAll enc Try.prog W 0 (fun _ => true) true Try.f7.params.toList args.toList ds p := hA0
  rw [Try.params7] at hA hval
  obtain ⟨v0, vs0, d0, ds0, p0, q0, hargs, rfl, rfl, h0, r0⟩ := trodAll_cons hA
  obtain ⟨v1, vs1, d1, ds1, p1, q1, rfl, rfl, rfl, h1, r1⟩ := trodAll_cons r0
  obtain ⟨rfl, rfl, rfl⟩ := trodAll_nil r1
  obtain rfl : args = #[v0, v1] := by cases args; simp_all
  obtain ⟨rfl, rfl⟩ := trodVars_none hV
  obtain ⟨a0, rfl, rfl, rfl, w0⟩ := open_string Try.underlying9 (hval 0 9 v0 rfl rfl) h0
  obtain ⟨c0, c1, y0, y1, m, rfl, rfl, rfl, hy0, hy1⟩ := open_agg2 Try.underlying30 (by kernel_rfl) cells30 (hval 1 30 v1 rfl rfl) h1
  obtain ⟨ln, e0, rfl, w1⟩ := DataW.trod_int Try.underlying3 hy0
  obtain ⟨col, e1, rfl, w2⟩ := DataW.trod_int Try.underlying3 hy1
  simp at e0 e1
  subst e0 e1
  clear hA0 hval0
  simp only [List.append_nil] at hW'
  refine (walk a0 ln col w0 w1 w2 W).mono fun e W' ⟨he, hg⟩ => ?_
  subst he
  exact ⟨_, rfl, _, _, _, [], [], [], hW', (trodAll_cons_mk (shut_bool Try.underlying4 _) trodAll_mk0), (trodAll_cons_mk (shut_string Try.underlying9 w0) (trodAll_cons_mk (shut_agg2 (y0 := (.lit (.int .i64 ln), [])) (y1 := (.lit (.int .i64 col), [])) Try.underlying30 (by kernel_rfl) cells30 ⟨1, by simp [DataW.trod, Try.underlying3, w1]⟩ ⟨1, by simp [DataW.trod, Try.underlying3, w2]⟩) trodAll_mk0)), rfl, hg.frame _, fun h => by cases h⟩

theorem over : Rows.textOffsetsRow.holds Try.pinned (OpenSpec.ofChange Rows.textOffsetsSpec) :=
  OpenClaim.holds_of_wide 7 Try.f7 rfl rfl rfl rfl rfl rfl rfl ⟨rfl, rfl, rfl, rfl, rfl⟩ rfl rfl rfl rfl rfl (by kernel_rfl) Try.func7 (by kernel_rfl)
    (of_decide_eq_true (by kernel_rfl)) (by unfold Func.isWrapper; first | (rw [if_pos (by decide +kernel)]; kernel_rfl) | (rw [if_neg (by decide +kernel)]; exact ⟨rfl, rfl⟩))
    (fun os started H enc _ => lifted os started H enc)

theorem proved : Rows.TextOffsetsSaid :=
  over
#print axioms proved
end Go.Proofs.Ytinbdangpehkaaa.textOffsets
