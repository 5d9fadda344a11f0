/-
  PROVED: a contract of the statements' own 'alive': it answers true. Conditions: none.
-/
import Derived.Test.YthlcjlikeipdlaaIndents
import Derived.Test.YthlcjlikeipdlaaDrops
namespace Go.Proofs.Ythlcjlikeipdlaa
open Go.ChangeShapes Go.WideShapes Go.ChangeAt Go.RowKit
set_option linter.unusedVariables false

theorem i64_bd {a : Int} (h : (Lit.int .i64 a).wf = true) : -9223372036854775808 ≤ a ∧ a ≤ 9223372036854775807 := by
  unfold Lit.wf at h
  rw [Bool.and_eq_true, decide_eq_true_iff, decide_eq_true_iff] at h
  exact h

theorem indent_tab (w : World) : Calls Try.prog 8 #[.string { data := #[9, 32, 120] }, .int .i64 2] w fun e w' => e = .returned (.tuple #[.int .i64 3, .int .i64 2]) ∧ w = w' := by
  have h := indent_any { data := #[9, 32, 120] } 2 (by decide) (by decide) (by decide) w
  have e1 : bnd 2 = 2 := by decide
  have e2 : col { data := #[9, 32, 120] } 0 2 = 5 := by
    rw [col_in _ _ _ (by decide), col_in _ _ _ (by decide), col_out _ _ _ (by decide)]; decide
  have e3 : ind { data := #[9, 32, 120] } 0 = 2 := by
    rw [ind_in _ _ (by decide), ind_in _ _ (by decide), ind_out _ _ (by decide)]
  rw [e1, e2, e3] at h
  exact h
theorem drop_tab (w : World) : Calls Try.prog 10 #[.string { data := #[9, 120] }, .int .i64 0, .int .i64 1] w fun e w' => e = .returned (.tuple #[.int .i64 0, .int .i64 1, .int .i64 3]) ∧ w = w' := by
  have h := drop_any { data := #[9, 120] } 0 1 (by decide) (by decide) (by decide) (by decide) (by decide) w
  have e1 : bnd 0 = 0 := by decide
  have e2 : drp { data := #[9, 120] } 0 0 (1 : Int).toNat = (0, 1, 3) := by
    rw [drp_part _ _ _ _ (by decide) (by decide)]; decide
  rw [e1, e2] at h
  exact h
theorem width_tab (w : World) : Calls Try.prog 12 #[.string { data := #[97, 9, 98] }, .int .i64 0] w fun e w' => e = .returned (.int .i64 5) ∧ w = w' := by
  have h := width_any { data := #[97, 9, 98] } 0 (by decide) (by decide) (by decide) w
  have e1 : bnd 0 = 0 := by decide
  have e2 : wid { data := #[97, 9, 98] } 0 0 = 5 := by
    rw [wid_in _ _ _ (by decide), wid_in _ _ _ (by decide), wid_in _ _ _ (by decide), wid_out _ _ _ (by decide)]; decide
  rw [e1, e2] at h
  exact h
theorem alive_any (w : World) : Calls Try.prog 7 #[] w fun e w' => e = .returned (.bool true) ∧ w = w' := by
  go_enter Try.func7, Try.ntmps7
  go_wp2_with fail
  refine (indent_tab _).mono ?_
  rintro e w1 ⟨rfl, rfl⟩
  go_wp2_with fail
  refine (drop_tab _).mono ?_
  rintro e w1 ⟨rfl, rfl⟩
  go_wp2_with fail
  refine (width_tab _).mono ?_
  rintro e w1 ⟨rfl, rfl⟩
  go_wp2_with fail
  go_ret
  exact ⟨rfl, rfl⟩
end Go.Proofs.Ythlcjlikeipdlaa
