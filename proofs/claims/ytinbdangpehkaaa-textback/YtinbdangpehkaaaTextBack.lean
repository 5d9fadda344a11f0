/-
  PROVED: stetlaw01.TextBack returns true for every text and every offset: the place of an offset leads to an offset of the same place, at most three ahead of it. Conditions: none beside the row's own.
-/
import Derived.Test.YtinbdangpehkaaaRefOffset
import Derived.WalkKit
import Derived.ProofKit
import Derived.OpenShut
import Derived.ShutString
namespace Go.Proofs.Ytinbdangpehkaaa.textBack
open Go.ChangeShapes Go.WideShapes Go.ChangeAt Go.RowKit
open Go.ChangeMaps (open_string shut_string)
set_option linter.unusedVariables false      -- a walk need not use every 'w<i>' (that an integer argument fits its kind)

theorem own : ownKnob Try.prog.godebug = none := by kernel_rfl

theorem abcd_t0 : lineTo { data := #[97, 98, 10, 99, 100] } 0 = 2 := by rw [lineTo_go _ 0 (by decide) (by decide), lineTo_go _ (0 + 1) (by decide) (by decide), lineTo_stop _ (0 + 1 + 1) (by decide)]
theorem abcd_e0 : lineEnd { data := #[97, 98, 10, 99, 100] } 0 = 3 := by unfold lineEnd; rw [abcd_t0]; decide
theorem abcd_t1 : lineTo { data := #[97, 98, 10, 99, 100] } 3 = 5 := by rw [lineTo_go _ 3 (by decide) (by decide), lineTo_go _ (3 + 1) (by decide) (by decide), lineTo_out _ (3 + 1 + 1) (by decide)]
theorem abcd_e1 : lineEnd { data := #[97, 98, 10, 99, 100] } 3 = 5 := by unfold lineEnd; rw [abcd_t1]; decide
theorem off_abcd (w : World) : Calls Try.prog 19 #[.string { data := #[97, 98, 10, 99, 100] }, .agg #[.int .i64 1, .int .i64 3]] w fun e w' => e = .returned (.tuple #[.int .i64 2, .int .i64 0]) ∧ Below w.heap.size w w' := by
  have h := offset_any { data := #[97, 98, 10, 99, 100] } 1 3 (by decide) (by decide) (by decide) w
  have hv : offV { data := #[97, 98, 10, 99, 100] } 1 3 = (2, 0) := by
    refine offV_some _ 1 3 (by decide) (by decide) (j := 2) ?_
    show offIn _ 0 2 = some 2
    unfold offIn
    have hw : wd { data := #[97, 98, 10, 99, 100] } 0 = 1 := by decide
    rw [if_neg (by decide), abcd_e0, leastB_go _ 3 0 0 (by decide), hw, leastB_one _ 3 (0 + 1) (by decide)]
    show (if ended _ 0 ∧ 2 = 3 then none else some 2) = some 2
    rw [if_neg (by omega)]
  rw [hv] at h
  exact h
theorem walkTo_far (s : ByteArray) : ∀ (k f g : Nat), walkTo s k f = some g → f + k ≤ g
  | 0, f, g, h => by injection h with h; omega
  | k + 1, f, g, h => by
    unfold walkTo at h
    by_cases he : ended s f
    · rw [if_pos he] at h
      have h1 := ended_lt s f he
      have := walkTo_far s k (lineEnd s f) g h
      omega
    · rw [if_neg he] at h; cases h
theorem place_bd (s : ByteArray) (i : Nat) : placeL s i ≤ i + 1 ∧ placeC s i ≤ i + 1 := by
  obtain ⟨k, g, h1, h2, h3, h4, h5⟩ := place_is s i
  have a1 := walkTo_far s k 0 g h1
  have a2 := cnt_le s i _ g (Nat.le_refl _)
  omega
theorem chain {B : Nat} {a b c : World} (hB : B ≤ a.heap.size) (h : Below B a b) (k : Below b.heap.size b c) : Below B a c := h.trans (k.mono (Nat.le_trans hB h.size))

set_option maxHeartbeats 2000000 in
theorem walk (a0 : ByteArray) (a1 : Int) (w0 : a0.size ≤ maxLen) (w1 : (Lit.int .i64 a1).wf = true) (w : World) :
    Calls Try.prog 8 #[.string a0, .int .i64 a1] w fun e w' => e = .returned (.bool true) ∧ Below w.heap.size w w' := by
  by_cases hl : 20000 < a0.size
  · go_enter Try.func8, Try.ntmps8
    go_wp2_with fail
    refine (off_abcd _).mono ?_
    rintro e w2 ⟨rfl, hb1⟩
    go_wp2_with fail
    go_ret
    exact ⟨rfl, hb1⟩
  by_cases hout : a1 < 0 ∨ (a0.size : Int) < a1
  · have HO := Lib.hid hout
    by_cases h0 : a1 < 0
    · have d0 : decide (a1 < 0) = true := by simpa using h0
      clear hout
      go_enter Try.func8, Try.ntmps8
      go_wp2_with fail
      refine (off_abcd _).mono ?_
      rintro e w2 ⟨rfl, hb1⟩
      go_wp2_with fail
      refine (at_out a0 a1 HO.out (by omega) _).mono ?_
      rintro e w3 ⟨rfl, hb2⟩
      go_wp2_with fail
      go_ret
      have B0 := chain (Nat.le_refl _) hb1 hb2
      exact ⟨rfl, B0.alloc B0.size _⟩
    · have h1 : (a0.size : Int) < a1 := by omega
      have d0 : decide (a1 < 0) = false := by simpa using h0
      have d1 : decide ((a0.size : Int) < a1) = true := by simpa using h1
      clear hout
      go_enter Try.func8, Try.ntmps8
      go_wp2_with fail
      refine (off_abcd _).mono ?_
      rintro e w2 ⟨rfl, hb1⟩
      go_wp2_with fail
      refine (at_out a0 a1 HO.out (by omega) _).mono ?_
      rintro e w3 ⟨rfl, hb2⟩
      go_wp2_with fail
      go_ret
      have B0 := chain (Nat.le_refl _) hb1 hb2
      exact ⟨rfl, B0.alloc B0.size _⟩
  · obtain ⟨i, rfl⟩ : ∃ i : Nat, a1 = i := ⟨a1.toNat, by omega⟩
    have hi : i ≤ a0.size := by omega
    have p1 := placeL_pos a0 i
    have p2 := placeC_pos a0 i
    obtain ⟨j, hj⟩ := back_there a0 i (placeL a0 i - 1) (placeC a0 i - 1) hi (by omega) (by omega)
    obtain ⟨n1, n2⟩ := back_near a0 i j _ _ hi hj (by omega) (by omega)
    obtain ⟨a2, a3, a4, -⟩ := offOf_some a0 _ _ j hj
    have HL : Hid (placeL a0 j = placeL a0 i) := show placeL a0 j = placeL a0 i from by omega
    have HC : Hid (placeC a0 j = placeC a0 i) := show placeC a0 j = placeC a0 i from by omega
    have hbd := place_bd a0 i
    have hbl : placeL a0 i ≤ 20001 := by omega
    have hbc : placeC a0 i ≤ 20001 := by omega
    have t1 : decide (1 ≤ (placeL a0 i : Int)) = true := by simp; omega
    have t2 : decide (1 ≤ (placeC a0 i : Int)) = true := by simp; omega
    have t3 : decide (j ≤ i) = true := by simp; omega
    have t4 : decide ((i : Int) - (j : Int) < 4) = true := by simp; omega
    clear hbd
    have HV : Hid (offV a0 (placeL a0 i) (placeC a0 i) = ((j : Int), 0)) := offV_some a0 _ _ (by omega) (by omega) (by rw [show ((placeL a0 i : Int).toNat - 1) = placeL a0 i - 1 from by omega, show ((placeC a0 i : Int).toNat - 1) = placeC a0 i - 1 from by omega]; exact hj)
    clear hj a3 a4 hout
    go_enter Try.func8, Try.ntmps8
    go_wp2_with fail
    refine (off_abcd _).mono ?_
    rintro e w2 ⟨rfl, hb1⟩
    go_wp2_with fail
    refine (at_in a0 i hi (by omega) _).mono ?_
    rintro e w3 ⟨rfl, hb2⟩
    go_wp2_with fail
    refine (offset_any a0 (placeL a0 i) (placeC a0 i) (by omega) (by omega) (by omega) _).mono ?_
    rw [HV.out]
    rintro e w4 ⟨rfl, hb3⟩
    go_wp2_with fail
    refine (at_in a0 j a2 (by omega) _).mono ?_
    rw [HL.out, HC.out]
    rintro e w5 ⟨rfl, hb4⟩
    have hH : Holds w4 w3.heap.size 30 #[.int .i64 (placeL a0 i), .int .i64 (placeC a0 i)] := Holds.under (Holds.made w3 30 _) hb3 (by simp)
    have hH5 := hH.under hb4 hH.lt
    have c0 : w5.cell? ⟨w3.heap.size, 0, none⟩ = some (.int .i64 (placeL a0 i)) := hH5.at 0
    have c1 : w5.cell? ⟨w3.heap.size, 1, none⟩ = some (.int .i64 (placeC a0 i)) := hH5.at 1
    have hz := hH5.lt
    clear hH hH5
    go_wp2_with fail
    go_ret
    have B0 := chain (Nat.le_refl _) hb1 hb2
    have B1 := chain (Nat.le_refl _) (B0.alloc B0.size _) hb3
    have B2 := chain (Nat.le_refl _) B1 hb4
    exact ⟨rfl, B2.alloc B2.size _⟩

set_option maxRecDepth 100000 in
theorem lifted (os : Os) (started : os.Started) (H : Type) (enc : TypeId × Value → H) :
    ReturnsInHanded {} Try.checked os 8 .any (Rows.textBackSpec.pre6 enc Try.prog Try.f8 Rows.textBackRow.domain false) (Rows.textBackSpec.post enc Try.prog Try.f8 false true false false) := by
  refine returnsInHanded_of_change (C := Try.checked) own started (by kernel_rfl) Try.func8
    (ChangeSpec.witness6 (enc := enc) (C := Try.checked) false ⟨#[], #[.string ByteArray.empty, .int .i64 0], []⟩ 8 (by kernel_rfl) (by kernel_rfl) (by kernel_rfl) (by kernel_rfl)) ?_
  intro W base args ds gs before hval0 hW hcnd _
  have hval : ∀ (j : Nat) t v, Try.f8.params[j]? = some t → args[j]? = some v → Value.okWide Try.prog W .any base t v := hval0
  have hW' := hW
  obtain ⟨p, q, hA0, hV, rfl, hfz, hnd⟩ := hW
  have hA : DataW.TrodAll enc Try.prog W 0 (fun _ => true) true Try.f8.params.toList args.toList ds p := hA0
  rw [Try.params8] at hA hval
  obtain ⟨v0, vs0, d0, ds0, p0, q0, hargs, rfl, rfl, h0, r0⟩ := trodAll_cons hA
  obtain ⟨v1, vs1, d1, ds1, p1, q1, rfl, rfl, rfl, h1, r1⟩ := trodAll_cons r0
  obtain ⟨rfl, rfl, rfl⟩ := trodAll_nil r1
  obtain rfl : args = #[v0, v1] := by cases args; simp_all
  obtain ⟨rfl, rfl⟩ := trodVars_none hV
  obtain ⟨a0, rfl, rfl, rfl, w0⟩ := open_string Try.underlying9 (hval 0 9 v0 rfl rfl) h0
  obtain ⟨a1, rfl, rfl, rfl, w1⟩ := open_int Try.underlying3 (hval 1 3 v1 rfl rfl) h1
  clear hA0 hval0
  simp only [List.append_nil] at hW'
  refine (walk a0 a1 w0 w1 W).mono fun e W' ⟨he, hg⟩ => ?_
  subst he
  exact ⟨_, rfl, _, _, _, [], [], [], hW', (trodAll_cons_mk (shut_bool Try.underlying4 _) trodAll_mk0), (trodAll_cons_mk (shut_string Try.underlying9 w0) (trodAll_cons_mk (shut_int Try.underlying3 w1) trodAll_mk0)), rfl, hg.frame _, fun h => by cases h⟩

theorem over : Rows.textBackRow.holds Try.pinned (OpenSpec.ofChange Rows.textBackSpec) :=
  OpenClaim.holds_of_wide 8 Try.f8 rfl rfl rfl rfl rfl rfl rfl ⟨rfl, rfl, rfl, rfl, rfl⟩ rfl rfl rfl rfl rfl (by kernel_rfl) Try.func8 (by kernel_rfl)
    (of_decide_eq_true (by kernel_rfl)) (by unfold Func.isWrapper; first | (rw [if_pos (by decide +kernel)]; kernel_rfl) | (rw [if_neg (by decide +kernel)]; exact ⟨rfl, rfl⟩))
    (fun os started H enc _ => lifted os started H enc)

theorem proved : Rows.TextBackSaid :=
  over
#print axioms proved
end Go.Proofs.Ytinbdangpehkaaa.textBack
