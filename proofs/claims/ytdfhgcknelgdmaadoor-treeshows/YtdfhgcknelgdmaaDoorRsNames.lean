/-
  PROVED: the walk of the document's own Show: the row of names.
-/
import Derived.Test.YtdfhgcknelgdmaaDoorRsDefs
import Derived.Test.YtdfhgcknelgdmaaDoorLit
namespace Go.Proofs.YtdfhgcknelgdmaaDoor
open Go.ChangeShapes Go.WideShapes Go.ChangeAt Go.RowKit Go.Sort
set_option linter.unusedVariables false
set_option linter.unusedSimpArgs false

/-- The row of names. -/
def namesC : Array Value := #[.string { data := #[] }, .string { data := #[100, 111, 99] }, .string { data := #[113, 117, 111, 116, 101] }, .string { data := #[108, 105, 115, 116] }, .string { data := #[105, 116, 101, 109] }, .string { data := #[112, 97, 114, 97] }, .string { data := #[104, 101, 97, 100] }, .string { data := #[114, 117, 108, 101] }, .string { data := #[99, 111, 100, 101] }, .string { data := #[104, 116, 109, 108] }, .string { data := #[116, 101, 120, 116] }, .string { data := #[115, 111, 102, 116] }, .string { data := #[104, 97, 114, 100] }, .string { data := #[115, 112, 97, 110] }, .string { data := #[101, 109] }, .string { data := #[115, 116, 114, 111, 110, 103] }, .string { data := #[108, 105, 110, 107] }, .string { data := #[105, 109, 97, 103, 101] }, .string { data := #[114, 97, 119] }]
set_option maxHeartbeats 16000000 in
set_option maxRecDepth 100000 in
theorem rs_names (w : World) (c0 c1 c2 c3 c4 c5 c6 c7 c8 c9 c10 c11 c12 c13 c14 c15 c16 c17 c18 c19 c20 c21 c22 c23 c24 c25 c26 c27 c28 c29 c30 c31 c32 c33 c34 c35 c36 c37 c38 c39 c40 c41 c42 c43 c44 c45 c46 c47 c48 c49 c50 c51 c52 c53 c54 c55 c56 c57 c58 c59 c60 c61 c62 c63 c64 c65 c66 c67 c68 c69 c70 c71 c72 c73 c74 c75 c76 c77 c78 c79 c80 c81 c82 c83 c84 c85 c86 c87 c88 c89 c90 c91 c92 c93 c94 c95 c96 c97 c98 c99 c100 c101 c102 c103 c104 c105 c106 c107 c108 c109 c110 c111 c112 c113 c114 : Value) (Q : Exit → Act → World → Prop)
    (HN : Hid (∀ (c18 : Value) (wx : World), (∀ k : Nat, k < 19 → wx.cell? ⟨w.heap.size, k, none⟩ = some (.string ⟨(nameL (k : Int)).toArray⟩)) → Below w.heap.size w wx → w.heap.size < wx.heap.size → Code.wp Tryd.prog (rsAt 4) Q ⟨(c0 :: c1 :: c2 :: c3 :: c4 :: c5 :: c6 :: .pointer (some ⟨w.heap.size, 0, none⟩) :: c8 :: c9 :: c10 :: c11 :: c12 :: c13 :: c14 :: c15 :: c16 :: c17 :: c18 :: c19 :: c20 :: c21 :: c22 :: c23 :: c24 :: c25 :: c26 :: c27 :: c28 :: c29 :: c30 :: c31 :: c32 :: c33 :: c34 :: c35 :: c36 :: c37 :: c38 :: c39 :: c40 :: c41 :: c42 :: c43 :: c44 :: c45 :: c46 :: c47 :: c48 :: c49 :: c50 :: c51 :: c52 :: c53 :: c54 :: c55 :: c56 :: c57 :: c58 :: c59 :: c60 :: c61 :: c62 :: c63 :: c64 :: c65 :: c66 :: c67 :: c68 :: c69 :: c70 :: c71 :: c72 :: c73 :: c74 :: c75 :: c76 :: c77 :: c78 :: c79 :: c80 :: c81 :: c82 :: c83 :: c84 :: c85 :: c86 :: c87 :: c88 :: c89 :: c90 :: c91 :: c92 :: c93 :: c94 :: c95 :: c96 :: c97 :: c98 :: c99 :: c100 :: c101 :: c102 :: c103 :: c104 :: c105 :: c106 :: c107 :: c108 :: c109 :: c110 :: c111 :: c112 :: c113 :: c114 :: []).toArray, []⟩ wx)) : Code.wp Tryd.prog (rsAt 3) Q ⟨(c0 :: c1 :: c2 :: c3 :: c4 :: c5 :: c6 :: c7 :: c8 :: c9 :: c10 :: c11 :: c12 :: c13 :: c14 :: c15 :: c16 :: c17 :: c18 :: c19 :: c20 :: c21 :: c22 :: c23 :: c24 :: c25 :: c26 :: c27 :: c28 :: c29 :: c30 :: c31 :: c32 :: c33 :: c34 :: c35 :: c36 :: c37 :: c38 :: c39 :: c40 :: c41 :: c42 :: c43 :: c44 :: c45 :: c46 :: c47 :: c48 :: c49 :: c50 :: c51 :: c52 :: c53 :: c54 :: c55 :: c56 :: c57 :: c58 :: c59 :: c60 :: c61 :: c62 :: c63 :: c64 :: c65 :: c66 :: c67 :: c68 :: c69 :: c70 :: c71 :: c72 :: c73 :: c74 :: c75 :: c76 :: c77 :: c78 :: c79 :: c80 :: c81 :: c82 :: c83 :: c84 :: c85 :: c86 :: c87 :: c88 :: c89 :: c90 :: c91 :: c92 :: c93 :: c94 :: c95 :: c96 :: c97 :: c98 :: c99 :: c100 :: c101 :: c102 :: c103 :: c104 :: c105 :: c106 :: c107 :: c108 :: c109 :: c110 :: c111 :: c112 :: c113 :: c114 :: []).toArray, []⟩ w := by
  obtain ⟨C, hC⟩ : ∃ C, C = namesC := ⟨_, rfl⟩
  have HC := Lib.hid hC
  clear hC
  have H7 : Hid (∀ k : Nat, k < 19 → (w.alloc (.cells C 65)).cell? ⟨w.heap.size, k, none⟩ = some (.string ⟨(nameL (k : Int)).toArray⟩)) := fun k hk => by
    rw [HC.out]
    exact ((Holds.made w 65 namesC).at k).trans (nm_at k hk)
  have HB : Hid (Below w.heap.size w (w.alloc (.cells C 65))) := (Below.refl _ _).alloc (Nat.le_refl _) _
  conv => arg 2; whnf
  go_upto_region 4 with fail
  go_cut [7] from 18 to 18 (fun v7 wx => v7 = .pointer (some ⟨w.heap.size, 0, none⟩) ∧ (∀ k : Nat, k < 19 → wx.cell? ⟨w.heap.size, k, none⟩ = some (.string ⟨(nameL (k : Int)).toArray⟩)) ∧ Below w.heap.size w wx ∧ w.heap.size < wx.heap.size)
  case first =>
    go_wp2_with (refine wpList_lit 65 _ 18 7 C rfl rfl rfl rfl rfl rfl rfl rfl (by rw [HC.out]; kernel_rfl) _ Tryd.zeroValue65 (by rw [HC.out]; kernel_rfl) (by rw [HC.out]; kernel_rfl) (by rw [HC.out]; kernel_rfl) (fun _ => rfl) (fun _ => rfl) ?_)
    go_meet
    exact ⟨rfl, H7.out, HB.out, by simp⟩
  case rest =>
    obtain ⟨rfl, h1, h2, h3⟩ := hcut
    apply_assumption
    exact HN.out _ _ h1 h2 h3
end Go.Proofs.YtdfhgcknelgdmaaDoor
