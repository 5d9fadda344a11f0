/-
  PROVED: contract of the document's fields, at some kinds: the node's fields fit. Conditions: none.
-/
import Derived.Test.YtdfhgcknelgdmaaDoorFits
namespace Go.Proofs.YtdfhgcknelgdmaaDoor
open Go.ChangeShapes Go.WideShapes Go.ChangeAt Go.RowKit Go.Sort
set_option linter.unusedVariables false
set_option linter.unusedSimpArgs false

set_option maxRecDepth 100000 in
set_option maxHeartbeats 8000000 in
theorem fields_10 (f t l : Int) (x u h : ByteArray) (g : Bool) (K P : Nat) (KA PA : Option Addr) (kc pc : Nat) (w : World) : Calls Tryd.prog 38 #[.agg #[.int .i64 10, .int .i64 f, .int .i64 t, .int .i64 l, .string x, .string u, .string h, .bool g, .slice KA K kc, .slice PA P pc]] w (Grows (.bool (fitV 10 f t l x u h g K P)) w) := by
  go_enter Tryd.func38, Tryd.ntmps38
  go_wp2_with fail
  all_goals go_ret
  all_goals refine ⟨retB ?_, grown_alloc _ _⟩
  all_goals (simp_all [fitV, lvB, txB, sgB, isE, lnB, tiB, tgB] <;> first | done | omega | (rw [Bool.eq_iff_iff]; simp; done) | (rw [Bool.eq_iff_iff]; simp; omega) | (rw [Bool.eq_iff_iff]; simp_all; done))

set_option maxRecDepth 100000 in
set_option maxHeartbeats 8000000 in
theorem fields_8 (f t l : Int) (x u h : ByteArray) (g : Bool) (K P : Nat) (KA PA : Option Addr) (kc pc : Nat) (w : World) : Calls Tryd.prog 38 #[.agg #[.int .i64 8, .int .i64 f, .int .i64 t, .int .i64 l, .string x, .string u, .string h, .bool g, .slice KA K kc, .slice PA P pc]] w (Grows (.bool (fitV 8 f t l x u h g K P)) w) := by
  go_enter Tryd.func38, Tryd.ntmps38
  go_wp2_with fail
  all_goals go_ret
  all_goals refine ⟨retB ?_, grown_alloc _ _⟩
  all_goals (simp_all [fitV, lvB, txB, sgB, isE, lnB, tiB, tgB] <;> first | done | omega | (rw [Bool.eq_iff_iff]; simp; done) | (rw [Bool.eq_iff_iff]; simp; omega) | (rw [Bool.eq_iff_iff]; simp_all; done))

set_option maxRecDepth 100000 in
set_option maxHeartbeats 8000000 in
theorem fields_o (k f t l : Int) (x u h : ByteArray) (g : Bool) (K P : Nat) (KA PA : Option Addr) (kc pc : Nat) (h0 : 1 ≤ k) (h1 : k ≤ 18) (h3 : k ≠ 3) (h6 : k ≠ 6) (h8 : k ≠ 8) (h9 : k ≠ 9) (h10 : k ≠ 10) (h13 : k ≠ 13) (h16 : k ≠ 16) (h17 : k ≠ 17) (h18 : k ≠ 18) (w : World) : Calls Tryd.prog 38 #[.agg #[.int .i64 k, .int .i64 f, .int .i64 t, .int .i64 l, .string x, .string u, .string h, .bool g, .slice KA K kc, .slice PA P pc]] w (Grows (.bool (fitV k f t l x u h g K P)) w) := by
  have q0 : ¬ k < 1 := by omega
  have q1 : ¬ 18 < k := by omega
  go_enter Tryd.func38, Tryd.ntmps38
  go_wp2_with fail
  all_goals go_ret
  all_goals refine ⟨retB ?_, grown_alloc _ _⟩
  all_goals (simp_all [fitV, lvB, txB, sgB, isE, lnB, tiB, tgB] <;> first | done | omega | (rw [Bool.eq_iff_iff]; simp; done) | (rw [Bool.eq_iff_iff]; simp; omega) | (rw [Bool.eq_iff_iff]; simp_all; done))

set_option maxRecDepth 100000 in
set_option maxHeartbeats 8000000 in
theorem fields_out (k f t l : Int) (x u h : ByteArray) (g : Bool) (K P : Nat) (KA PA : Option Addr) (kc pc : Nat) (h0 : k < 1 ∨ 18 < k) (w : World) : Calls Tryd.prog 38 #[.agg #[.int .i64 k, .int .i64 f, .int .i64 t, .int .i64 l, .string x, .string u, .string h, .bool g, .slice KA K kc, .slice PA P pc]] w (Grows (.bool false) w) := by
  by_cases q0 : k < 1
  · go_enter Tryd.func38, Tryd.ntmps38
    go_wp2_with fail
    go_ret
    exact ⟨rfl, grown_alloc _ _⟩
  · have q1 : 18 < k := by omega
    go_enter Tryd.func38, Tryd.ntmps38
    go_wp2_with fail
    go_ret
    exact ⟨rfl, grown_alloc _ _⟩

end Go.Proofs.YtdfhgcknelgdmaaDoor
