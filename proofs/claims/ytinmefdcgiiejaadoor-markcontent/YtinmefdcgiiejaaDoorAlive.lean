/-
  PROVED: stetlaw05.alive returns true; and a world in which the two tables of unicode/utf8 hold what the rows list. Conditions: none.
-/
import Derived.Test.YtinmefdcgiiejaaDoorFences
import Derived.Test.YtinmefdcgiiejaaDoorItems
import Derived.LaidMore
import Derived.Stop.Joined
import Derived.MakeChecks
import Derived.PinnedBridge
import Derived.Lib.LaidIn
import Derived.Lib.LaidU8
namespace Go.Proofs.YtinmefdcgiiejaaDoor
open Go.ChangeShapes Go.WideShapes Go.ChangeAt Go.RowKit
set_option linter.unusedVariables false

theorem own : ownKnob Tryd.prog.godebug = none := by kernel_rfl
/-- What the rows list. -/
def laid2 : List (String × DataW Unit) := [("unicode/utf8.acceptRanges", Rows.laid_unicode_utf8_acceptRanges), ("unicode/utf8.first", Rows.laid_unicode_utf8_first)]
/-- A world that meets the condition: the settled one, the two variables' cells laid. -/
noncomputable def laidWorld (os : Os) : World :=
  let w0 := World.holding Tryd.prog os ⟨#[], #[], []⟩
  let put (h : Array Obj) (g : Nat) (cs : Array Value) : Array Obj := h.modify g fun
    | .cells _ t frozen => .cells cs t frozen
    | o => o
  let h1 := put w0.heap 1 (Lib.firstTab.map fun z => Value.int .u8 z).toArray
  let h2 := put h1 2 ((List.range 16).flatMap fun i => [Value.int .u8 (Lib.accLo i), Value.int .u8 (Lib.accHi i)]).toArray
  { w0 with heap := h2 }
theorem laid_in (os : Os) (args : Array Value) : LaidIn Tryd.prog ((laidWorld os).forCall (fun _ _ => 0) ⟨#[], args, []⟩).memory laid2 [1, 2] :=
  LaidIn.of_run [1, 2] 8 (by kernel_rfl) (by kernel_rfl) (by kernel_rfl) (by kernel_rfl)
theorem laid_met (os : Os) (args : Array Value) : laidMetH Tryd.prog laid2 ((laidWorld os).forCall (fun _ _ => 0) ⟨#[], args, []⟩).memory := by
  rw [MakeChecks.laidMetH_plain _ _ _ (by kernel_rfl)]
  exact (laid_in os args).met

theorem i64_bd {a : Int} (h : (Lit.int .i64 a).wf = true) : -9223372036854775808 ≤ a ∧ a ≤ 9223372036854775807 := by
  unfold Lit.wf at h
  rw [Bool.and_eq_true, decide_eq_true_iff, decide_eq_true_iff] at h
  exact h
theorem u8_open {a : Int} (h : (Lit.int .u8 a).wf = true) : ∃ c : UInt8, a = (c.toNat : Int) := by
  unfold Lit.wf at h
  rw [Bool.and_eq_true, decide_eq_true_iff, decide_eq_true_iff] at h
  have h1 : (0 : Int) ≤ a := h.1
  have h2 : a ≤ (255 : Int) := h.2
  refine ⟨UInt8.ofNat a.toNat, ?_⟩
  rw [UInt8.toNat_ofNat']
  omega

theorem head_lit (w : World) : Calls Tryd.prog 16 #[.string { data := #[35, 35, 32, 97, 32, 98, 32, 35, 35] }] w fun e w' => e = .returned (.tuple #[.int .i64 2, .int .i64 3, .int .i64 6]) ∧ Below w.heap.size w w' := by
  have h := head_any { data := #[35, 35, 32, 97, 32, 98, 32, 35, 35] } (by decide) w
  rw [show headV (lst { data := #[35, 35, 32, 97, 32, 98, 32, 35, 35] }) = .tuple #[.int .i64 2, .int .i64 3, .int .i64 6] from by
    unfold headV
    rw [show headL (lst { data := #[35, 35, 32, 97, 32, 98, 32, 35, 35] }) = (2, 3, 6) from by decide]
    rfl] at h
  exact h
theorem fence_lit (w : World) : Calls Tryd.prog 18 #[.string { data := #[126, 126, 126, 32, 103, 111] }] w fun e w' => e = .returned (.tuple #[.int .u8 126, .int .i64 3, .string { data := #[103, 111] }]) ∧ Below w.heap.size w w' := by
  have h := fence_any { data := #[126, 126, 126, 32, 103, 111] } (by decide) w
  rw [show fenceV (lst { data := #[126, 126, 126, 32, 103, 111] }) = .tuple #[.int .u8 126, .int .i64 3, .string { data := #[103, 111] }] from by
    unfold fenceV
    rw [show fenceL (lst { data := #[126, 126, 126, 32, 103, 111] }) = (126, 3, [103, 111]) from by decide]
    rfl] at h
  exact h
theorem item_lit (w : World) : Calls Tryd.prog 22 #[.string { data := #[49, 50, 41, 32, 120] }] w fun e w' => e = .returned (.tuple #[.int .u8 41, .int .i64 12, .int .i64 3]) ∧ w' = w := by
  have h := item_any { data := #[49, 50, 41, 32, 120] } (by decide) w
  rw [show itemV (lst { data := #[49, 50, 41, 32, 120] }) = .tuple #[.int .u8 41, .int .i64 12, .int .i64 3] from by
    unfold itemV
    rw [show itemL (lst { data := #[49, 50, 41, 32, 120] }) = (41, 12, 3) from by decide]
    rfl] at h
  exact h
theorem rule_lit (w : World) : Calls Tryd.prog 10 #[.string { data := #[42, 32, 42, 32, 42] }] w fun e w' => e = .returned (.bool true) ∧ Below w.heap.size w w' := by
  have h := rule_any { data := #[42, 32, 42, 32, 42] } (by decide) w
  rw [show ruleL (lst { data := #[42, 32, 42, 32, 42] }) = true from by decide] at h
  exact h
theorem under_lit (w : World) : Calls Tryd.prog 12 #[.string { data := #[61, 61, 32] }] w fun e w' => e = .returned (.int .i64 1) ∧ Below w.heap.size w w' := by
  have h := under_any { data := #[61, 61, 32] } (by decide) w
  rw [show underL (lst { data := #[61, 61, 32] }) = 1 from by decide] at h
  exact h
theorem quote_lit (w : World) : Calls Tryd.prog 14 #[.string { data := #[62] }] w fun e w' => e = .returned (.bool true) ∧ w' = w := quote_any { data := #[62] } w
theorem closes_lit (w : World) : Calls Tryd.prog 20 #[.string { data := #[126, 126, 126, 126, 32] }, .int .u8 126, .int .i64 3] w fun e w' => e = .returned (.bool true) ∧ Below w.heap.size w w' := by
  have h := closes_any { data := #[126, 126, 126, 126, 32] } 126 3 (by decide) w
  rw [show closesL (lst { data := #[126, 126, 126, 126, 32] }) 126 3 = true from by decide] at h
  exact h

set_option maxHeartbeats 4000000 in
theorem alive_any (w : World) : Calls Tryd.prog 9 #[] w fun e w' => e = .returned (.bool true) ∧ Below w.heap.size w w' := by
  go_enter Tryd.func9, Tryd.ntmps9
  go_wp2_with fail
  refine (head_lit _).mono ?_
  rintro e w1 ⟨rfl, hb1⟩
  have B1 := Lib.hid hb1
  clear hb1
  go_wp2_with fail
  refine (fence_lit _).mono ?_
  rintro e w2 ⟨rfl, hb2⟩
  have B2 := Lib.hid hb2
  clear hb2
  go_wp2_with fail
  refine (item_lit _).mono ?_
  rintro e w3 ⟨rfl, rfl⟩
  go_wp2_with fail
  refine (rule_lit _).mono ?_
  rintro e w4 ⟨rfl, hb4⟩
  have B4 := Lib.hid hb4
  clear hb4
  go_wp2_with fail
  refine (under_lit _).mono ?_
  rintro e w5 ⟨rfl, hb5⟩
  have B5 := Lib.hid hb5
  clear hb5
  go_wp2_with fail
  refine (quote_lit _).mono ?_
  rintro e w6 ⟨rfl, rfl⟩
  go_wp2_with fail
  refine (closes_lit _).mono ?_
  rintro e w7 ⟨rfl, hb7⟩
  have B7 := Lib.hid hb7
  clear hb7
  go_wp2_with fail
  go_ret
  exact ⟨rfl, chain (Nat.le_refl _) (chain (Nat.le_refl _) (chain (Nat.le_refl _) (chain (Nat.le_refl _) B1.out B2.out) B4.out) B5.out) B7.out⟩
end Go.Proofs.YtinmefdcgiiejaaDoor
