/-
  PROVED: what a search reads as where it is a map's key. Conditions: none.
-/
import Derived.Test.YtldillhgpjmjpaaSmall
import Derived.DeepKeys4
import Derived.Maps.OwnOps
import Derived.Maps.OwnSet
namespace Go.Proofs.Ytldillhgpjmjpaa
open Go.ChangeShapes Go.WideShapes Go.ChangeAt Go.RowKit Go.Sort
open Go.Maps (Keyed)
open Go.WideMaps (KeyLaw)
set_option linter.unusedVariables false

/-! ### the map's keys -/
theorem Try.laidOut : laidOutB Try.prog = true := by kernel_rfl
theorem Try.row60 : (60 : TypeId) < Try.prog.types.size := of_decide_eq_true (by kernel_rfl)
theorem Try.cells60 : Try.prog.cellsOf 60 = 3 := by kernel_rfl
theorem Try.wide60 : (match Try.prog.underlying 60 with | some (.array _ _) | some (.struct _) => true | _ => false) = true := by rw [Try.underlying60]
theorem Try.law60 : KeyLaw Try.prog 60 := deep_law_laid Try.laidOut (m := 2) (by omega) Try.row60 (by kernel_rfl) Try.wide60
theorem Try.keyed : Keyed Try.prog 60 := Keyed.of_law Try.law60
theorem Try.keyT60 : Try.prog.keyType 60 = true := by kernel_rfl
theorem Try.zero3 (w : World) : (zeroValue 3).run Try.prog w = .ok (.int .i64 0) w := by kernel_rfl
theorem Try.cells3 : Try.prog.cellsOf 3 = 1 := by kernel_rfl
theorem Try.cells4 : Try.prog.cellsOf 4 = 1 := by kernel_rfl
theorem Try.cells5 : Try.prog.cellsOf 5 = 1 := by kernel_rfl
/-- A search is a key. -/
theorem skey_of (m r : Int) (o : Bool) (hm : (Lit.int .u8 m).wf = true) (hr : (Lit.int .i64 r).wf = true) : ∃ kl, keyOf Try.prog 60 (skey m r o) = some kl := by
  have hf : (skey m r o).formed Try.prog 60 = true := by simp [Value.formed, Try.underlying60, Try.cells60]
  have hk : Try.prog.keyLits (Try.prog.types.size + 1) 60 (skey m r o).cells.toList = some [.int .u8 m, .int .i64 r, .bool o] := by
    have h60 : 60 < Try.prog.types.size := Try.row60
    obtain ⟨d, hd⟩ : ∃ d, Try.prog.types.size = d + 1 := ⟨Try.prog.types.size - 1, by omega⟩
    rw [hd]
    simp [Program.keyLits, Try.underlying60, Try.underlying3, Try.underlying4, Try.underlying5, Value.cells, Try.cells60, Try.cells3, Try.cells4, Try.cells5, hm, hr]
  unfold keyOf
  rw [Try.underlying60]
  simp only [Try.keyT60, hf, hk, Bool.and_self, if_true, Option.map_some]
  exact ⟨_, rfl⟩
end Go.Proofs.Ytldillhgpjmjpaa
