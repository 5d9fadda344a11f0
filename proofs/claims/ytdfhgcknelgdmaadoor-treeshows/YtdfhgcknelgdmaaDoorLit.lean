/-
  PROVED: a law of the walk for an array literal that is laid into a variable of its own: the region's three operations (build, alloc, store) leave a new block with the literal's cells. Conditions: the literal's cells, as the program's table of types tells them.
-/
import Derived.Test.YtdfhgcknelgdmaaDoorFits
import Derived.Laws.Tables
namespace Go.Proofs.YtdfhgcknelgdmaaDoor
open Go.ChangeShapes Go.WideShapes Go.ChangeAt Go.RowKit Go.Sort
set_option linter.unusedVariables false

theorem setRow_alloc (w : World) (old cs : Array Value) (t : TypeId) : (w.alloc (.cells old t)).setRow w.heap.size cs = w.alloc (.cells cs t) := by
  unfold World.setRow World.alloc
  congr 1
  apply Array.ext
  · simp
  · intro i h1 h2
    simp only [Array.getElem_modify]
    by_cases hi : i < w.heap.size
    · rw [if_neg (by omega)]
      simp [Array.getElem_push, hi]
    · have he : w.heap.size = i := by simp at h1; omega
      rw [if_pos he]
      subst he
      simp [Array.getElem_push]

/-- An array literal in a variable of its own. -/
theorem wpList_lit {P : Program} {ops : Array Oper} {rest : List Oper} {o1 o2 o3 : Oper} {a : Act} {w : World} {Q : Exit → Act → World → Prop} (T : TypeId) (parts : Array (Nat × Operand)) (d1 d2 : Nat) (cells : Array Value)
    (g1 : o1.guard = none) (g2 : o2.guard = none) (g3 : o3.guard = none) (p1 : o1.op = .build T parts) (p2 : o2.op = .alloc T) (p3 : o3.op = .store T (.tmp d2) (.tmp d1)) (s1 : o1.dst = some d1) (s2 : o2.dst = some d2)
    (hb : P.built T (parts.map fun (i, x) => (i, a.eval x)).toList = some cells) (z : Value) (hz : ∀ w, (zeroValue T).run P w = .ok z w) (hzs : z.cells.size = cells.size) (hi : (P.info? T).map (·.size) = some cells.size) (h1 : cells.all (·.oneCell') = true)
    (e1 : ∀ v, ((a.put (some d1) (.agg cells)).put (some d2) v).eval (.tmp d1) = .agg cells) (e2 : ∀ v, ((a.put (some d1) (.agg cells)).put (some d2) v).eval (.tmp d2) = v)
    (h : wpList P ops Q rest (((a.put (some d1) (.agg cells)).put (some d2) (.pointer (some ⟨w.heap.size, 0, none⟩))).put o3.dst undef) (w.alloc (.cells cells T))) : wpList P ops Q (o1 :: o2 :: o3 :: rest) a w := by
  refine wpList_build g1 T parts p1 (by rw [hb]; rfl) ?_
  rw [hb, s1]
  refine wpList_plain g2 fun K hK => ?_
  have hrun : (Instr.alloc T true (.tuple #[])).run P w = .ok (.pointer (some ⟨w.heap.size, 0, none⟩)) (w.alloc (.cells z.cells T)) := by
    simp [Instr.alloc, hz, newVar, newRow, newObj]
    rfl
  unfold Oper.wp execOp
  simp only [p2, Sem.run_bind, hrun, Result.andThen_ok]
  refine hK _ _ ?_
  rw [s2]
  refine wpList_store_row g3 T (.tmp d2) (.tmp d1) p3 w.heap.size cells (e2 _) (e1 _) T z.cells (heap_alloc_new w _) hi hzs h1 ?_
  rw [setRow_alloc]
  exact h
end Go.Proofs.YtdfhgcknelgdmaaDoor
