/-
  PROVED: stetlaw01.TextPlaces returns true for every text and every offset: text.At answers the place that the document's own At answers, or ErrPlace as it does. Conditions: none beside the row's own.
-/
import Derived.Test.YtinbdangpehkaaaRefAt
import Derived.WalkKit
import Derived.ProofKit
import Derived.OpenShut
import Derived.ShutString
namespace Go.Proofs.Ytinbdangpehkaaa.textPlaces
open Go.ChangeShapes Go.WideShapes Go.ChangeAt Go.RowKit
open Go.ChangeMaps (open_string shut_string)
set_option linter.unusedVariables false      -- a walk need not use every 'w<i>' (that an integer argument fits its kind)

theorem own : ownKnob Try.prog.godebug = none := by kernel_rfl

theorem at_abcd (w : World) : Calls Try.prog 17 #[.string { data := #[97, 98, 10, 99, 100] }, .int .i64 4] w fun e w' => e = .returned (.tuple #[.agg #[.int .i64 2, .int .i64 2], .int .i64 0]) ∧ Below w.heap.size w w' := by
  have h := at_in { data := #[97, 98, 10, 99, 100] } 4 (by decide) (by decide) w
  have t0 : lineTo { data := #[97, 98, 10, 99, 100] } 0 = 2 := by rw [lineTo_go _ 0 (by decide) (by decide), lineTo_go _ (0 + 1) (by decide) (by decide), lineTo_stop _ (0 + 1 + 1) (by decide)]
  have e0 : lineEnd { data := #[97, 98, 10, 99, 100] } 0 = 3 := by unfold lineEnd; rw [t0]; decide
  have t1 : lineTo { data := #[97, 98, 10, 99, 100] } 3 = 5 := by rw [lineTo_go _ 3 (by decide) (by decide), lineTo_go _ (3 + 1) (by decide) (by decide), lineTo_out _ (3 + 1 + 1) (by decide)]
  have e1 : lineEnd { data := #[97, 98, 10, 99, 100] } 3 = 5 := by unfold lineEnd; rw [t1]; decide
  have hl : loc { data := #[97, 98, 10, 99, 100] } 4 1 0 = (2, 3) := by
    rw [loc_go _ 4 1 0 ⟨by unfold ended; rw [t0, e0]; decide, by rw [e0]; decide⟩, e0, loc_out _ 4 _ 3 (fun hh => by rw [e1] at hh; omega)]
  have p1 : placeL { data := #[97, 98, 10, 99, 100] } 4 = 2 := by unfold placeL; rw [hl]
  have p2 : placeC { data := #[97, 98, 10, 99, 100] } 4 = 2 := by
    unfold placeC
    rw [hl]
    show 1 + cnt _ 3 4 = 2
    rw [cnt_go _ 3 4 (by decide), cnt_out _ _ 4 (by decide)]
  rw [p1, p2] at h
  exact h
theorem chain {B : Nat} {a b c : World} (hB : B ≤ a.heap.size) (h : Below B a b) (k : Below b.heap.size b c) : Below B a c := h.trans (k.mono (Nat.le_trans hB h.size))

set_option maxHeartbeats 1000000 in
theorem walk (a0 : ByteArray) (a1 : Int) (w0 : a0.size ≤ maxLen) (w1 : (Lit.int .i64 a1).wf = true) (w : World) :
    Calls Try.prog 6 #[.string a0, .int .i64 a1] w fun e w' => e = .returned (.bool true) ∧ Below w.heap.size w w' := by
  by_cases hl : 20000 < a0.size
  · go_enter Try.func6, Try.ntmps6
    go_wp2_with fail
    refine (at_abcd _).mono ?_
    rintro e w1 ⟨rfl, hb1⟩
    go_wp2_with fail
    go_ret
    exact ⟨rfl, hb1.alloc hb1.size _⟩
  · have hv : ∃ x y z : Int, atV a0 a1 = .tuple #[.agg #[.int .i64 x, .int .i64 y], .int .i64 z] := by
      unfold atV
      split
      · exact ⟨_, _, _, rfl⟩
      · exact ⟨_, _, _, rfl⟩
    obtain ⟨x, y, z, hv⟩ := hv
    have HV := Lib.hid hv
    clear hv
    go_enter Try.func6, Try.ntmps6
    go_wp2_with fail
    refine (at_abcd _).mono ?_
    rintro e w2 ⟨rfl, hb1⟩
    go_wp2_with fail
    refine (at_any a0 a1 (by omega) _).mono ?_
    rw [HV.out]
    rintro e w3 ⟨rfl, hb2⟩
    go_wp2_with fail
    refine (refAt_any a0 a1 (by omega) _).mono ?_
    rw [HV.out]
    rintro e w4 ⟨rfl, hb3⟩
    have hH : Holds w4 w3.heap.size 30 #[.int .i64 x, .int .i64 y] := Holds.under (Holds.made w3 30 _) hb3 (by simp)
    have c0 : w4.cell? ⟨w3.heap.size, 0, none⟩ = some (.int .i64 x) := hH.at 0
    have c1 : w4.cell? ⟨w3.heap.size, 1, none⟩ = some (.int .i64 y) := hH.at 1
    have hz := hH.lt
    clear hH
    go_wp2_with fail
    go_ret
    have B0 := chain (Nat.le_refl _) (hb1.alloc hb1.size _) hb2
    have B1 := chain (Nat.le_refl _) (B0.alloc B0.size _) hb3
    exact ⟨rfl, B1.alloc B1.size _⟩

set_option maxRecDepth 100000 in
theorem lifted (os : Os) (started : os.Started) (H : Type) (enc : TypeId × Value → H) :
    ReturnsInHanded {} Try.checked os 6 .any (Rows.textPlacesSpec.pre6 enc Try.prog Try.f6 Rows.textPlacesRow.domain false) (Rows.textPlacesSpec.post enc Try.prog Try.f6 false true false false) := by
  refine returnsInHanded_of_change (C := Try.checked) own started (by kernel_rfl) Try.func6
    (ChangeSpec.witness6 (enc := enc) (C := Try.checked) false ⟨#[], #[.string ByteArray.empty, .int .i64 0], []⟩ 8 (by kernel_rfl) (by kernel_rfl) (by kernel_rfl) (by kernel_rfl)) ?_
  intro W base args ds gs before hval0 hW hcnd _
  have hval : ∀ (j : Nat) t v, Try.f6.params[j]? = some t → args[j]? = some v → Value.okWide Try.prog W .any base t v := hval0
  have hW' := hW
  obtain ⟨p, q, hA0, hV, rfl, hfz, hnd⟩ := hW
  have hA : DataW.TrodAll enc Try.prog W 0 (fun _ => true) true Try.f6.params.toList args.toList ds p := hA0
  rw [Try.params6] at hA hval
  obtain ⟨v0, vs0, d0, ds0, p0, q0, hargs, rfl, rfl, h0, r0⟩ := trodAll_cons hA
  obtain ⟨v1, vs1, d1, ds1, p1, q1, rfl, rfl, rfl, h1, r1⟩ := trodAll_cons r0
  obtain ⟨rfl, rfl, rfl⟩ := trodAll_nil r1
  obtain rfl : args = #[v0, v1] := by cases args; simp_all
  obtain ⟨rfl, rfl⟩ := trodVars_none hV
  obtain ⟨a0, rfl, rfl, rfl, w0⟩ := open_string Try.underlying9 (hval 0 9 v0 rfl rfl) h0
  obtain ⟨a1, rfl, rfl, rfl, w1⟩ := open_int Try.underlying3 (hval 1 3 v1 rfl rfl) h1
  clear hA0 hval0
  simp only [List.append_nil] at hW'
  refine (walk a0 a1 w0 w1 W).mono fun e W' ⟨he, hg⟩ => ?_
  subst he
  exact ⟨_, rfl, _, _, _, [], [], [], hW', (trodAll_cons_mk (shut_bool Try.underlying4 _) trodAll_mk0), (trodAll_cons_mk (shut_string Try.underlying9 w0) (trodAll_cons_mk (shut_int Try.underlying3 w1) trodAll_mk0)), rfl, hg.frame _, fun h => by cases h⟩

theorem over : Rows.textPlacesRow.holds Try.pinned (OpenSpec.ofChange Rows.textPlacesSpec) :=
  OpenClaim.holds_of_wide 6 Try.f6 rfl rfl rfl rfl rfl rfl rfl ⟨rfl, rfl, rfl, rfl, rfl⟩ rfl rfl rfl rfl rfl (by kernel_rfl) Try.func6 (by kernel_rfl)
    (of_decide_eq_true (by kernel_rfl)) (by unfold Func.isWrapper; first | (rw [if_pos (by decide +kernel)]; kernel_rfl) | (rw [if_neg (by decide +kernel)]; exact ⟨rfl, rfl⟩))
    (fun os started H enc _ => lifted os started H enc)

theorem proved : Rows.TextPlacesSaid :=
  over
#print axioms proved
end Go.Proofs.Ytinbdangpehkaaa.textPlaces
