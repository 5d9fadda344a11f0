/-
  PROVED: contract of the document's fields: a node's kind is one, and its fields fit. Conditions: none.
-/
import Derived.Test.YtdfhgcknelgdmaaDoorFieldsA
import Derived.Test.YtdfhgcknelgdmaaDoorFieldsB
import Derived.Test.YtdfhgcknelgdmaaDoorFieldsC
import Derived.Test.YtdfhgcknelgdmaaDoorFieldsD
namespace Go.Proofs.YtdfhgcknelgdmaaDoor
open Go.ChangeShapes Go.WideShapes Go.ChangeAt Go.RowKit Go.Sort
set_option linter.unusedVariables false

theorem fields_any (n : Nd) (KA PA : Option Addr) (kc pc : Nat) (w : World) : Calls Tryd.prog 38 #[nagg n (.slice KA n.ks.length kc) (.slice PA n.ps.length pc)] w (Grows (.bool (decide (1 ≤ n.k) && (decide (n.k ≤ 18) && fitB n))) w) := by
  obtain ⟨k, f, t, l, x, u, h, g, ks, ps⟩ := n
  by_cases h0 : 1 ≤ k
  · by_cases h1 : k ≤ 18
    · simp only [decide_eq_true h0, decide_eq_true h1, Bool.true_and]
      show Calls Tryd.prog 38 #[.agg #[.int .i64 k, .int .i64 f, .int .i64 t, .int .i64 l, .string x, .string u, .string h, .bool g, .slice KA ks.length kc, .slice PA ps.length pc]] w (Grows (.bool (fitV k f t l x u h g ks.length ps.length)) w)
      by_cases h23 : k = 3
      · subst h23; exact fields_3 f t l x u h g _ _ KA PA kc pc w
      by_cases h26 : k = 6
      · subst h26; exact fields_6 f t l x u h g _ _ KA PA kc pc w
      by_cases h28 : k = 8
      · subst h28; exact fields_8 f t l x u h g _ _ KA PA kc pc w
      by_cases h29 : k = 9
      · subst h29; exact fields_9 f t l x u h g _ _ KA PA kc pc w
      by_cases h30 : k = 10
      · subst h30; exact fields_10 f t l x u h g _ _ KA PA kc pc w
      by_cases h33 : k = 13
      · subst h33; exact fields_13 f t l x u h g _ _ KA PA kc pc w
      by_cases h36 : k = 16
      · subst h36; exact fields_16 f t l x u h g _ _ KA PA kc pc w
      by_cases h37 : k = 17
      · subst h37; exact fields_17 f t l x u h g _ _ KA PA kc pc w
      by_cases h38 : k = 18
      · subst h38; exact fields_18 f t l x u h g _ _ KA PA kc pc w
      exact fields_o k f t l x u h g _ _ KA PA kc pc h0 h1 h23 h26 h28 h29 h30 h33 h36 h37 h38 w
    · simp only [decide_eq_false h1, Bool.false_and, Bool.and_false]
      exact fields_out k f t l x u h g _ _ KA PA kc pc (Or.inr (by omega)) w
  · simp only [decide_eq_false h0, Bool.false_and]
    exact fields_out k f t l x u h g _ _ KA PA kc pc (Or.inl (by omega)) w
end Go.Proofs.YtdfhgcknelgdmaaDoor
