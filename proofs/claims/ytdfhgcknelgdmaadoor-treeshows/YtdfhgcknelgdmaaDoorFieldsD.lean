/-
  PROVED: contract of the document's fields, at some kinds: the node's fields fit. Conditions: none.
-/
import Derived.Test.YtdfhgcknelgdmaaDoorFits
namespace Go.Proofs.YtdfhgcknelgdmaaDoor
open Go.ChangeShapes Go.WideShapes Go.ChangeAt Go.RowKit Go.Sort
set_option linter.unusedVariables false
set_option linter.unusedSimpArgs false

set_option maxRecDepth 100000 in
set_option maxHeartbeats 8000000 in
theorem fields_9 (f t l : Int) (x u h : ByteArray) (g : Bool) (K P : Nat) (KA PA : Option Addr) (kc pc : Nat) (w : World) : Calls Tryd.prog 38 #[.agg #[.int .i64 9, .int .i64 f, .int .i64 t, .int .i64 l, .string x, .string u, .string h, .bool g, .slice KA K kc, .slice PA P pc]] w (Grows (.bool (fitV 9 f t l x u h g K P)) w) := by
  go_enter Tryd.func38, Tryd.ntmps38
  go_wp2_with fail
  all_goals go_ret
  all_goals refine ⟨retB ?_, grown_alloc _ _⟩
  all_goals (simp_all [fitV, lvB, txB, sgB, isE, lnB, tiB, tgB] <;> first | done | omega | (rw [Bool.eq_iff_iff]; simp; done) | (rw [Bool.eq_iff_iff]; simp; omega) | (rw [Bool.eq_iff_iff]; simp_all; done))

set_option maxRecDepth 100000 in
set_option maxHeartbeats 8000000 in
theorem fields_13 (f t l : Int) (x u h : ByteArray) (g : Bool) (K P : Nat) (KA PA : Option Addr) (kc pc : Nat) (w : World) : Calls Tryd.prog 38 #[.agg #[.int .i64 13, .int .i64 f, .int .i64 t, .int .i64 l, .string x, .string u, .string h, .bool g, .slice KA K kc, .slice PA P pc]] w (Grows (.bool (fitV 13 f t l x u h g K P)) w) := by
  go_enter Tryd.func38, Tryd.ntmps38
  go_wp2_with fail
  all_goals go_ret
  all_goals refine ⟨retB ?_, grown_alloc _ _⟩
  all_goals (simp_all [fitV, lvB, txB, sgB, isE, lnB, tiB, tgB] <;> first | done | omega | (rw [Bool.eq_iff_iff]; simp; done) | (rw [Bool.eq_iff_iff]; simp; omega) | (rw [Bool.eq_iff_iff]; simp_all; done))

set_option maxRecDepth 100000 in
set_option maxHeartbeats 8000000 in
theorem fields_18 (f t l : Int) (x u h : ByteArray) (g : Bool) (K P : Nat) (KA PA : Option Addr) (kc pc : Nat) (w : World) : Calls Tryd.prog 38 #[.agg #[.int .i64 18, .int .i64 f, .int .i64 t, .int .i64 l, .string x, .string u, .string h, .bool g, .slice KA K kc, .slice PA P pc]] w (Grows (.bool (fitV 18 f t l x u h g K P)) w) := by
  go_enter Tryd.func38, Tryd.ntmps38
  go_wp2_with fail
  all_goals go_ret
  all_goals refine ⟨retB ?_, grown_alloc _ _⟩
  all_goals (simp_all [fitV, lvB, txB, sgB, isE, lnB, tiB, tgB] <;> first | done | omega | (rw [Bool.eq_iff_iff]; simp; done) | (rw [Bool.eq_iff_iff]; simp; omega) | (rw [Bool.eq_iff_iff]; simp_all; done))

end Go.Proofs.YtdfhgcknelgdmaaDoor
