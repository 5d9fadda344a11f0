/-
  PROVED: what the tables of package tag hold, cell by cell ('Glob'), stays so while a call makes memory of its own; and what an index into one of them gives. Conditions: none.
-/
import Derived.Test.YtdnnjakggopdoaaDoorScan
import Derived.Lib.LaidU8
import Derived.Shelf.Strings.MapGrows
namespace Go.Proofs.YtdnnjakggopdoaaDoor
open Go.ChangeShapes Go.WideShapes Go.ChangeAt Go.RowKit
set_option linter.unusedVariables false

/-- What HTML that is no tag begins and ends with. -/
def obeg : Nat → List UInt8
  | 0 => [60, 33, 45, 45]
  | 1 => [60, 63]
  | 2 => [60, 33]
  | _ => [60, 33, 91, 67, 68, 65, 84, 65, 91]
def oend : Nat → List UInt8
  | 0 => [45, 45, 62]
  | 1 => [63, 62]
  | 2 => [62]
  | _ => [93, 93, 62]
/-- The tags whose blocks hold all up to an end. -/
def vbeg : Nat → List UInt8
  | 0 => [60, 112, 114, 101]
  | 1 => [60, 115, 99, 114, 105, 112, 116]
  | 2 => [60, 115, 116, 121, 108, 101]
  | _ => [60, 116, 101, 120, 116, 97, 114, 101, 97]
def vend : Nat → List UInt8
  | 0 => [60, 47, 112, 114, 101, 62]
  | 1 => [60, 47, 115, 99, 114, 105, 112, 116, 62]
  | 2 => [60, 47, 115, 116, 121, 108, 101, 62]
  | _ => [60, 47, 116, 101, 120, 116, 97, 114, 101, 97, 62]
/-- The tables of the package, and what the library's search asks for. -/
structure Glob (w : World) : Prop where
  c0 : w.cell? ⟨0, 0, none⟩ = some (.string { data := #[60, 33, 45, 45, 62] })
  c1 : w.cell? ⟨0, 1, none⟩ = some (.string { data := #[60, 33, 45, 45, 45, 62] })
  o0 : w.cell? ⟨1, 0, none⟩ = some (.string { data := #[60, 33, 45, 45] })
  o1 : w.cell? ⟨1, 1, none⟩ = some (.bool false)
  o2 : w.cell? ⟨1, 2, none⟩ = some (.string { data := #[45, 45, 62] })
  o3 : w.cell? ⟨1, 3, none⟩ = some (.string { data := #[60, 63] })
  o4 : w.cell? ⟨1, 4, none⟩ = some (.bool false)
  o5 : w.cell? ⟨1, 5, none⟩ = some (.string { data := #[63, 62] })
  o6 : w.cell? ⟨1, 6, none⟩ = some (.string { data := #[60, 33] })
  o7 : w.cell? ⟨1, 7, none⟩ = some (.bool true)
  o8 : w.cell? ⟨1, 8, none⟩ = some (.string { data := #[62] })
  o9 : w.cell? ⟨1, 9, none⟩ = some (.string { data := #[60, 33, 91, 67, 68, 65, 84, 65, 91] })
  o10 : w.cell? ⟨1, 10, none⟩ = some (.bool false)
  o11 : w.cell? ⟨1, 11, none⟩ = some (.string { data := #[93, 93, 62] })
  v0 : w.cell? ⟨2, 0, none⟩ = some (.string { data := #[60, 112, 114, 101] })
  v1 : w.cell? ⟨2, 1, none⟩ = some (.bool false)
  v2 : w.cell? ⟨2, 2, none⟩ = some (.string { data := #[60, 47, 112, 114, 101, 62] })
  v3 : w.cell? ⟨2, 3, none⟩ = some (.string { data := #[60, 115, 99, 114, 105, 112, 116] })
  v4 : w.cell? ⟨2, 4, none⟩ = some (.bool false)
  v5 : w.cell? ⟨2, 5, none⟩ = some (.string { data := #[60, 47, 115, 99, 114, 105, 112, 116, 62] })
  v6 : w.cell? ⟨2, 6, none⟩ = some (.string { data := #[60, 115, 116, 121, 108, 101] })
  v7 : w.cell? ⟨2, 7, none⟩ = some (.bool false)
  v8 : w.cell? ⟨2, 8, none⟩ = some (.string { data := #[60, 47, 115, 116, 121, 108, 101, 62] })
  v9 : w.cell? ⟨2, 9, none⟩ = some (.string { data := #[60, 116, 101, 120, 116, 97, 114, 101, 97] })
  v10 : w.cell? ⟨2, 10, none⟩ = some (.bool false)
  v11 : w.cell? ⟨2, 11, none⟩ = some (.string { data := #[60, 47, 116, 101, 120, 116, 97, 114, 101, 97, 62] })
  m : ∃ m : Int, w.cell? ⟨3, 0, none⟩ = some (.int .i64 m)
  u : Lib.Utf8Tabs 4 5 w
  size : 6 ≤ w.heap.size

theorem tabs_below {w w' : World} (h : Lib.Utf8Tabs 4 5 w) (hb : Below w.heap.size w w') : Lib.Utf8Tabs 4 5 w' := by
  exact Go.Proofs.Utf8Tabs_below h hb
theorem Glob.under {w w' : World} (h : Glob w) (hb : Below w.heap.size w w') : Glob w' where
  c0 := (hb.cell (Nat.lt_of_lt_of_le (by decide) h.size)).trans h.c0
  c1 := (hb.cell (Nat.lt_of_lt_of_le (by decide) h.size)).trans h.c1
  o0 := (hb.cell (Nat.lt_of_lt_of_le (by decide) h.size)).trans h.o0
  o1 := (hb.cell (Nat.lt_of_lt_of_le (by decide) h.size)).trans h.o1
  o2 := (hb.cell (Nat.lt_of_lt_of_le (by decide) h.size)).trans h.o2
  o3 := (hb.cell (Nat.lt_of_lt_of_le (by decide) h.size)).trans h.o3
  o4 := (hb.cell (Nat.lt_of_lt_of_le (by decide) h.size)).trans h.o4
  o5 := (hb.cell (Nat.lt_of_lt_of_le (by decide) h.size)).trans h.o5
  o6 := (hb.cell (Nat.lt_of_lt_of_le (by decide) h.size)).trans h.o6
  o7 := (hb.cell (Nat.lt_of_lt_of_le (by decide) h.size)).trans h.o7
  o8 := (hb.cell (Nat.lt_of_lt_of_le (by decide) h.size)).trans h.o8
  o9 := (hb.cell (Nat.lt_of_lt_of_le (by decide) h.size)).trans h.o9
  o10 := (hb.cell (Nat.lt_of_lt_of_le (by decide) h.size)).trans h.o10
  o11 := (hb.cell (Nat.lt_of_lt_of_le (by decide) h.size)).trans h.o11
  v0 := (hb.cell (Nat.lt_of_lt_of_le (by decide) h.size)).trans h.v0
  v1 := (hb.cell (Nat.lt_of_lt_of_le (by decide) h.size)).trans h.v1
  v2 := (hb.cell (Nat.lt_of_lt_of_le (by decide) h.size)).trans h.v2
  v3 := (hb.cell (Nat.lt_of_lt_of_le (by decide) h.size)).trans h.v3
  v4 := (hb.cell (Nat.lt_of_lt_of_le (by decide) h.size)).trans h.v4
  v5 := (hb.cell (Nat.lt_of_lt_of_le (by decide) h.size)).trans h.v5
  v6 := (hb.cell (Nat.lt_of_lt_of_le (by decide) h.size)).trans h.v6
  v7 := (hb.cell (Nat.lt_of_lt_of_le (by decide) h.size)).trans h.v7
  v8 := (hb.cell (Nat.lt_of_lt_of_le (by decide) h.size)).trans h.v8
  v9 := (hb.cell (Nat.lt_of_lt_of_le (by decide) h.size)).trans h.v9
  v10 := (hb.cell (Nat.lt_of_lt_of_le (by decide) h.size)).trans h.v10
  v11 := (hb.cell (Nat.lt_of_lt_of_le (by decide) h.size)).trans h.v11
  m := by
    obtain ⟨m, hm⟩ := h.m
    exact ⟨m, (hb.cell (Nat.lt_of_lt_of_le (by decide) h.size)).trans hm⟩
  u := tabs_below h.u hb
  size := Nat.le_trans h.size hb.size
theorem idx_o0 (W : World) : (Instr.index 33 (.agg #[.string { data := #[60, 33, 45, 45] }, .bool false, .string { data := #[45, 45, 62] }, .string { data := #[60, 63] }, .bool false, .string { data := #[63, 62] }, .string { data := #[60, 33] }, .bool true, .string { data := #[62] }, .string { data := #[60, 33, 91, 67, 68, 65, 84, 65, 91] }, .bool false, .string { data := #[93, 93, 62] }]) (.int .i64 0)).run Tryd.prog W = .ok (.agg #[.string { data := #[60, 33, 45, 45] }, .bool false, .string { data := #[45, 45, 62] }]) W := by kernel_rfl
theorem idx_o1 (W : World) : (Instr.index 33 (.agg #[.string { data := #[60, 33, 45, 45] }, .bool false, .string { data := #[45, 45, 62] }, .string { data := #[60, 63] }, .bool false, .string { data := #[63, 62] }, .string { data := #[60, 33] }, .bool true, .string { data := #[62] }, .string { data := #[60, 33, 91, 67, 68, 65, 84, 65, 91] }, .bool false, .string { data := #[93, 93, 62] }]) (.int .i64 1)).run Tryd.prog W = .ok (.agg #[.string { data := #[60, 63] }, .bool false, .string { data := #[63, 62] }]) W := by kernel_rfl
theorem idx_o2 (W : World) : (Instr.index 33 (.agg #[.string { data := #[60, 33, 45, 45] }, .bool false, .string { data := #[45, 45, 62] }, .string { data := #[60, 63] }, .bool false, .string { data := #[63, 62] }, .string { data := #[60, 33] }, .bool true, .string { data := #[62] }, .string { data := #[60, 33, 91, 67, 68, 65, 84, 65, 91] }, .bool false, .string { data := #[93, 93, 62] }]) (.int .i64 2)).run Tryd.prog W = .ok (.agg #[.string { data := #[60, 33] }, .bool true, .string { data := #[62] }]) W := by kernel_rfl
theorem idx_o3 (W : World) : (Instr.index 33 (.agg #[.string { data := #[60, 33, 45, 45] }, .bool false, .string { data := #[45, 45, 62] }, .string { data := #[60, 63] }, .bool false, .string { data := #[63, 62] }, .string { data := #[60, 33] }, .bool true, .string { data := #[62] }, .string { data := #[60, 33, 91, 67, 68, 65, 84, 65, 91] }, .bool false, .string { data := #[93, 93, 62] }]) (.int .i64 3)).run Tryd.prog W = .ok (.agg #[.string { data := #[60, 33, 91, 67, 68, 65, 84, 65, 91] }, .bool false, .string { data := #[93, 93, 62] }]) W := by kernel_rfl
theorem idx_v0 (W : World) : (Instr.index 33 (.agg #[.string { data := #[60, 112, 114, 101] }, .bool false, .string { data := #[60, 47, 112, 114, 101, 62] }, .string { data := #[60, 115, 99, 114, 105, 112, 116] }, .bool false, .string { data := #[60, 47, 115, 99, 114, 105, 112, 116, 62] }, .string { data := #[60, 115, 116, 121, 108, 101] }, .bool false, .string { data := #[60, 47, 115, 116, 121, 108, 101, 62] }, .string { data := #[60, 116, 101, 120, 116, 97, 114, 101, 97] }, .bool false, .string { data := #[60, 47, 116, 101, 120, 116, 97, 114, 101, 97, 62] }]) (.int .i64 0)).run Tryd.prog W = .ok (.agg #[.string { data := #[60, 112, 114, 101] }, .bool false, .string { data := #[60, 47, 112, 114, 101, 62] }]) W := by kernel_rfl
theorem idx_v1 (W : World) : (Instr.index 33 (.agg #[.string { data := #[60, 112, 114, 101] }, .bool false, .string { data := #[60, 47, 112, 114, 101, 62] }, .string { data := #[60, 115, 99, 114, 105, 112, 116] }, .bool false, .string { data := #[60, 47, 115, 99, 114, 105, 112, 116, 62] }, .string { data := #[60, 115, 116, 121, 108, 101] }, .bool false, .string { data := #[60, 47, 115, 116, 121, 108, 101, 62] }, .string { data := #[60, 116, 101, 120, 116, 97, 114, 101, 97] }, .bool false, .string { data := #[60, 47, 116, 101, 120, 116, 97, 114, 101, 97, 62] }]) (.int .i64 1)).run Tryd.prog W = .ok (.agg #[.string { data := #[60, 115, 99, 114, 105, 112, 116] }, .bool false, .string { data := #[60, 47, 115, 99, 114, 105, 112, 116, 62] }]) W := by kernel_rfl
theorem idx_v2 (W : World) : (Instr.index 33 (.agg #[.string { data := #[60, 112, 114, 101] }, .bool false, .string { data := #[60, 47, 112, 114, 101, 62] }, .string { data := #[60, 115, 99, 114, 105, 112, 116] }, .bool false, .string { data := #[60, 47, 115, 99, 114, 105, 112, 116, 62] }, .string { data := #[60, 115, 116, 121, 108, 101] }, .bool false, .string { data := #[60, 47, 115, 116, 121, 108, 101, 62] }, .string { data := #[60, 116, 101, 120, 116, 97, 114, 101, 97] }, .bool false, .string { data := #[60, 47, 116, 101, 120, 116, 97, 114, 101, 97, 62] }]) (.int .i64 2)).run Tryd.prog W = .ok (.agg #[.string { data := #[60, 115, 116, 121, 108, 101] }, .bool false, .string { data := #[60, 47, 115, 116, 121, 108, 101, 62] }]) W := by kernel_rfl
theorem idx_v3 (W : World) : (Instr.index 33 (.agg #[.string { data := #[60, 112, 114, 101] }, .bool false, .string { data := #[60, 47, 112, 114, 101, 62] }, .string { data := #[60, 115, 99, 114, 105, 112, 116] }, .bool false, .string { data := #[60, 47, 115, 99, 114, 105, 112, 116, 62] }, .string { data := #[60, 115, 116, 121, 108, 101] }, .bool false, .string { data := #[60, 47, 115, 116, 121, 108, 101, 62] }, .string { data := #[60, 116, 101, 120, 116, 97, 114, 101, 97] }, .bool false, .string { data := #[60, 47, 116, 101, 120, 116, 97, 114, 101, 97, 62] }]) (.int .i64 3)).run Tryd.prog W = .ok (.agg #[.string { data := #[60, 116, 101, 120, 116, 97, 114, 101, 97] }, .bool false, .string { data := #[60, 47, 116, 101, 120, 116, 97, 114, 101, 97, 62] }]) W := by kernel_rfl
theorem idx_c0 (W : World) : (Instr.index 30 (.agg #[.string { data := #[60, 33, 45, 45, 62] }, .string { data := #[60, 33, 45, 45, 45, 62] }]) (.int .i64 0)).run Tryd.prog W = .ok (.string { data := #[60, 33, 45, 45, 62] }) W := by kernel_rfl
theorem idx_c1 (W : World) : (Instr.index 30 (.agg #[.string { data := #[60, 33, 45, 45, 62] }, .string { data := #[60, 33, 45, 45, 45, 62] }]) (.int .i64 1)).run Tryd.prog W = .ok (.string { data := #[60, 33, 45, 45, 45, 62] }) W := by kernel_rfl
end Go.Proofs.YtdnnjakggopdoaaDoor
