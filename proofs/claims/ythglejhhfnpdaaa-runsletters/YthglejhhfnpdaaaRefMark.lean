/-
  PROVED: contract of the document's own Mark: whether the number lies in one of the chapter's spans. Conditions: none.
-/
import Derived.Test.YthglejhhfnpdaaaMarks
namespace Go.Proofs.Ythglejhhfnpdaaa
open Go.ChangeShapes Go.WideShapes Go.ChangeAt Go.RowKit Go.Sort
set_option linter.unusedVariables false

set_option maxHeartbeats 2000000 in
theorem refMark_any (r : Int) (w : World) : Calls Try.prog 17 #[.int .i64 r] w fun e w' => e = .returned (.bool (isMark r)) ∧ w' = w := by
  have HI := Lib.hid (isMark_iff r)
  by_cases h : 0 ≤ r ∧ r < 128
  · obtain ⟨h0, h1⟩ := h
    have HV : Hid (isMark r = inSps r plainL) := show isMark r = inSps r plainL from by unfold isMark; rw [if_pos h1]
    rw [HV.out]
    have hu := toU8 r h0 (by omega)
    go_enter Try.func17, Try.ntmps17
    go_wp2_with fail
    refine (refPlain_any r w).mono ?_
    rintro e w' ⟨rfl, rfl⟩
    go_wp2_with fail
    go_ret
    exact ⟨rfl, rfl⟩
  · generalize isMark r = v at HI ⊢
    go_enter Try.func17, Try.ntmps17
    go_wp2_with fail
    all_goals (go_ret; refine ⟨congrArg (fun b => Ending.returned (Value.bool b)) (?_ : _ = v), rfl⟩; rw [Bool.eq_iff_iff, HI.out]; clear HI; try simp only [Bool.or_eq_true, beq_iff_eq, beq_eq_false_iff_ne, decide_eq_true_eq, ne_eq, true_iff, false_iff, Bool.false_eq_true] at *; try omega)

end Go.Proofs.Ythglejhhfnpdaaa
