/-
  PROVED: the walk of the document's own Show: whether a node is tight; its line's first half.
-/
import Derived.Test.YtdfhgcknelgdmaaDoorRsDefs
namespace Go.Proofs.YtdfhgcknelgdmaaDoor
open Go.ChangeShapes Go.WideShapes Go.ChangeAt Go.RowKit Go.Sort
set_option linter.unusedVariables false
set_option linter.unusedSimpArgs false

set_option maxHeartbeats 16000000 in
set_option maxRecDepth 100000 in
theorem rs_tight (W : World) (n : Nd) (kn : Nat) (KA : Option Addr) (kc : Nat) (PA2 : Option Addr) (pc2 : Nat) (sp : Bool) (bx gp op pl pc g7 g i : Nat) (w : World) (acc L2 S3 : List UInt8) (X : ByteArray) (hXs : X.size ≤ 300000) (HX : Hid (lst X = L2))
    (HS3 : Hid (S3 = (if n.g = true then ([32, 116, 105, 103, 104, 116] : List UInt8) else []))) (v8 : Value) (S0 : Hid (StR W g #[.int .i64 (kn : Int), .int .i64 n.f, .int .i64 n.t, .int .i64 n.l, .string n.x, .string n.u, .string n.h, .bool n.g, .slice KA n.ks.length kc, .slice PA2 n.ps.length pc2] acc v8 w)) (c0 c3 c4 c5 c13 c14 c15 c16 c17 c18 c19 c113 c114 : Value) (Q : Exit → Act → World → Prop)
    (HN : Hid (∀ (c11 c20 c21 c22 c23 c24 c25 c26 c27 c28 c29 c30 c31 c32 c33 c34 c35 c36 c37 c38 c39 c40 c41 c42 c43 c44 c45 c46 c47 c48 c49 c50 c51 c52 c53 c54 c55 c56 c57 c58 c59 c60 c61 c62 c63 c64 c65 c66 c67 c68 c69 c70 c71 c72 c73 c74 c75 c76 c77 c78 c79 c80 c81 c82 c83 c84 c85 c86 c87 c88 c89 c90 c91 c92 c93 c94 c95 c96 c97 c98 c99 c100 c101 c102 c103 c104 c105 c106 c107 c108 c109 c110 c111 c112 v12 : Value) (wx : World), LineIs v12 (L2 ++ S3) → StR W g #[.int .i64 (kn : Int), .int .i64 n.f, .int .i64 n.t, .int .i64 n.l, .string n.x, .string n.u, .string n.h, .bool n.g, .slice KA n.ks.length kc, .slice PA2 n.ps.length pc2] acc v8 wx → Code.wp Tryd.prog (bAt 6) Q ⟨(c0 :: .bool sp :: .pointer (some ⟨bx, 0, none⟩) :: c3 :: c4 :: c5 :: .slice (some ⟨gp, op, none⟩) pl pc :: .pointer (some ⟨g7, 0, none⟩) :: v8 :: .int .i64 (i : Int) :: .pointer (some ⟨g, 0, none⟩) :: c11 :: v12 :: c13 :: c14 :: c15 :: c16 :: c17 :: c18 :: c19 :: c20 :: c21 :: c22 :: c23 :: c24 :: c25 :: c26 :: c27 :: c28 :: c29 :: c30 :: c31 :: c32 :: c33 :: c34 :: c35 :: c36 :: c37 :: c38 :: c39 :: c40 :: c41 :: c42 :: c43 :: c44 :: c45 :: c46 :: c47 :: c48 :: c49 :: c50 :: c51 :: c52 :: c53 :: c54 :: c55 :: c56 :: c57 :: c58 :: c59 :: c60 :: c61 :: c62 :: c63 :: c64 :: c65 :: c66 :: c67 :: c68 :: c69 :: c70 :: c71 :: c72 :: c73 :: c74 :: c75 :: c76 :: c77 :: c78 :: c79 :: c80 :: c81 :: c82 :: c83 :: c84 :: c85 :: c86 :: c87 :: c88 :: c89 :: c90 :: c91 :: c92 :: c93 :: c94 :: c95 :: c96 :: c97 :: c98 :: c99 :: c100 :: c101 :: c102 :: c103 :: c104 :: c105 :: c106 :: c107 :: c108 :: c109 :: c110 :: c111 :: c112 :: c113 :: c114 :: []).toArray, []⟩ wx))
    (c11 c20 c21 c22 c23 c24 c25 c26 c27 c28 c29 c30 c31 c32 c33 c34 c35 c36 c37 c38 c39 c40 c41 c42 c43 c44 c45 c46 c47 c48 c49 c50 c51 c52 c53 c54 c55 c56 c57 c58 c59 c60 c61 c62 c63 c64 c65 c66 c67 c68 c69 c70 c71 c72 c73 c74 c75 c76 c77 c78 c79 c80 c81 c82 c83 c84 c85 c86 c87 c88 c89 c90 c91 c92 c93 c94 c95 c96 c97 c98 c99 c100 c101 c102 c103 c104 c105 c106 c107 c108 c109 c110 c111 c112 : Value) : Code.wp Tryd.prog (bAt 5) Q ⟨(c0 :: .bool sp :: .pointer (some ⟨bx, 0, none⟩) :: c3 :: c4 :: c5 :: .slice (some ⟨gp, op, none⟩) pl pc :: .pointer (some ⟨g7, 0, none⟩) :: v8 :: .int .i64 (i : Int) :: .pointer (some ⟨g, 0, none⟩) :: c11 :: .string X :: c13 :: c14 :: c15 :: c16 :: c17 :: c18 :: c19 :: c20 :: c21 :: c22 :: c23 :: c24 :: c25 :: c26 :: c27 :: c28 :: c29 :: c30 :: c31 :: c32 :: c33 :: c34 :: c35 :: c36 :: c37 :: c38 :: c39 :: c40 :: c41 :: c42 :: c43 :: c44 :: c45 :: c46 :: c47 :: c48 :: c49 :: c50 :: c51 :: c52 :: c53 :: c54 :: c55 :: c56 :: c57 :: c58 :: c59 :: c60 :: c61 :: c62 :: c63 :: c64 :: c65 :: c66 :: c67 :: c68 :: c69 :: c70 :: c71 :: c72 :: c73 :: c74 :: c75 :: c76 :: c77 :: c78 :: c79 :: c80 :: c81 :: c82 :: c83 :: c84 :: c85 :: c86 :: c87 :: c88 :: c89 :: c90 :: c91 :: c92 :: c93 :: c94 :: c95 :: c96 :: c97 :: c98 :: c99 :: c100 :: c101 :: c102 :: c103 :: c104 :: c105 :: c106 :: c107 :: c108 :: c109 :: c110 :: c111 :: c112 :: c113 :: c114 :: []).toArray, []⟩ w := by
  obtain ⟨i0, hi0, hz0, hz1, hz2⟩ := info_parts Tryd.info5
  conv => arg 2; whnf
  have x7 : w.cell? ⟨g, 7, none⟩ = some (.bool n.g) := S0.out.nd.at 7
  go_upto_if 71 with fail
  go_cut [12] from 20 to 112 (fun v12 wx => LineIs v12 (L2 ++ S3) ∧ StR W g #[.int .i64 (kn : Int), .int .i64 n.f, .int .i64 n.t, .int .i64 n.l, .string n.x, .string n.u, .string n.h, .bool n.g, .slice KA n.ks.length kc, .slice PA2 n.ps.length pc2] acc v8 wx)
  case first =>
    obtain ⟨gb, hgb⟩ : ∃ gb, gb = n.g := ⟨_, rfl⟩
    rw [← hgb] at x7 HS3
    rw [← hgb]
    have HG := Lib.hid hgb
    clear hgb x7
    cases gb
    case false =>
      have HE : Hid (S3 = []) := by show _ = _; rw [HS3.out]; simp
      go_wp2_with fail
      go_meet
      exact ⟨⟨X, rfl, by rw [HE.out, List.append_nil]; exact HX.out⟩, S0.out⟩
    case true =>
      have HE : Hid (S3 = [32, 116, 105, 103, 104, 116]) := by show _ = _; rw [HS3.out]; simp
      go_wp2_with fail
      go_meet
      exact ⟨⟨_, rfl, by simp [lst_app, HE.out, HX.out]⟩, S0.out⟩
  case rest =>
    obtain ⟨h1, h2⟩ := hcut
    apply_assumption
    exact HN.out _ _ _ _ _ _ _ _ _ _ _ _ _ _ _ _ _ _ _ _ _ _ _ _ _ _ _ _ _ _ _ _ _ _ _ _ _ _ _ _ _ _ _ _ _ _ _ _ _ _ _ _ _ _ _ _ _ _ _ _ _ _ _ _ _ _ _ _ _ _ _ _ _ _ _ _ _ _ _ _ _ _ _ _ _ _ _ _ _ _ _ _ _ _ _ _ h1 h2
set_option maxHeartbeats 16000000 in
set_option maxRecDepth 100000 in
theorem rs_line (W : World) (n : Nd) (kn : Nat) (KA : Option Addr) (kc : Nat) (PA2 : Option Addr) (pc2 : Nat) (sp : Bool) (bx gp op pl pc g7 g i : Nat) (w : World) (acc L3 : List UInt8) (hal : acc.length ≤ 2000000000) (X : ByteArray) (hXs : X.size ≤ 300000) (HX : Hid (lst X = L3)) (v8 : Value) (S0 : Hid (StR W g #[.int .i64 (kn : Int), .int .i64 n.f, .int .i64 n.t, .int .i64 n.l, .string n.x, .string n.u, .string n.h, .bool n.g, .slice KA n.ks.length kc, .slice PA2 n.ps.length pc2] acc v8 w)) (c0 c3 c4 c5 c13 c14 c15 c16 c17 c18 c19 c113 c114 : Value) (Q : Exit → Act → World → Prop)
    (HN : Hid (∀ (c11 c20 c21 c22 c23 c24 c25 c26 c27 c28 c29 c30 c31 c32 c33 c34 c35 c36 c37 c38 c39 c40 c41 c42 c43 c44 c45 c46 c47 c48 c49 c50 c51 c52 c53 c54 c55 c56 c57 c58 c59 c60 c61 c62 c63 c64 c65 c66 c67 c68 c69 c70 c71 c72 c73 c74 c75 c76 c77 c78 c79 c80 c81 c82 c83 c84 c85 c86 c87 c88 c89 c90 c91 c92 c93 c94 c95 c96 c97 c98 c99 c100 c101 c102 c103 c104 c105 c106 c107 c108 c109 c110 c111 c112 c12 v8 : Value) (wx : World), StR W g #[.int .i64 (kn : Int), .int .i64 n.f, .int .i64 n.t, .int .i64 n.l, .string n.x, .string n.u, .string n.h, .bool n.g, .slice KA n.ks.length kc, .slice PA2 n.ps.length pc2] (acc ++ L3) v8 wx → Code.wp Tryd.prog (bAt 7) Q ⟨(c0 :: .bool sp :: .pointer (some ⟨bx, 0, none⟩) :: c3 :: c4 :: c5 :: .slice (some ⟨gp, op, none⟩) pl pc :: .pointer (some ⟨g7, 0, none⟩) :: v8 :: .int .i64 (i : Int) :: .pointer (some ⟨g, 0, none⟩) :: c11 :: c12 :: c13 :: c14 :: c15 :: c16 :: c17 :: c18 :: c19 :: c20 :: c21 :: c22 :: c23 :: c24 :: c25 :: c26 :: c27 :: c28 :: c29 :: c30 :: c31 :: c32 :: c33 :: c34 :: c35 :: c36 :: c37 :: c38 :: c39 :: c40 :: c41 :: c42 :: c43 :: c44 :: c45 :: c46 :: c47 :: c48 :: c49 :: c50 :: c51 :: c52 :: c53 :: c54 :: c55 :: c56 :: c57 :: c58 :: c59 :: c60 :: c61 :: c62 :: c63 :: c64 :: c65 :: c66 :: c67 :: c68 :: c69 :: c70 :: c71 :: c72 :: c73 :: c74 :: c75 :: c76 :: c77 :: c78 :: c79 :: c80 :: c81 :: c82 :: c83 :: c84 :: c85 :: c86 :: c87 :: c88 :: c89 :: c90 :: c91 :: c92 :: c93 :: c94 :: c95 :: c96 :: c97 :: c98 :: c99 :: c100 :: c101 :: c102 :: c103 :: c104 :: c105 :: c106 :: c107 :: c108 :: c109 :: c110 :: c111 :: c112 :: c113 :: c114 :: []).toArray, []⟩ wx))
    (c11 c20 c21 c22 c23 c24 c25 c26 c27 c28 c29 c30 c31 c32 c33 c34 c35 c36 c37 c38 c39 c40 c41 c42 c43 c44 c45 c46 c47 c48 c49 c50 c51 c52 c53 c54 c55 c56 c57 c58 c59 c60 c61 c62 c63 c64 c65 c66 c67 c68 c69 c70 c71 c72 c73 c74 c75 c76 c77 c78 c79 c80 c81 c82 c83 c84 c85 c86 c87 c88 c89 c90 c91 c92 c93 c94 c95 c96 c97 c98 c99 c100 c101 c102 c103 c104 c105 c106 c107 c108 c109 c110 c111 c112 : Value) : Code.wp Tryd.prog (bAt 6) Q ⟨(c0 :: .bool sp :: .pointer (some ⟨bx, 0, none⟩) :: c3 :: c4 :: c5 :: .slice (some ⟨gp, op, none⟩) pl pc :: .pointer (some ⟨g7, 0, none⟩) :: v8 :: .int .i64 (i : Int) :: .pointer (some ⟨g, 0, none⟩) :: c11 :: .string X :: c13 :: c14 :: c15 :: c16 :: c17 :: c18 :: c19 :: c20 :: c21 :: c22 :: c23 :: c24 :: c25 :: c26 :: c27 :: c28 :: c29 :: c30 :: c31 :: c32 :: c33 :: c34 :: c35 :: c36 :: c37 :: c38 :: c39 :: c40 :: c41 :: c42 :: c43 :: c44 :: c45 :: c46 :: c47 :: c48 :: c49 :: c50 :: c51 :: c52 :: c53 :: c54 :: c55 :: c56 :: c57 :: c58 :: c59 :: c60 :: c61 :: c62 :: c63 :: c64 :: c65 :: c66 :: c67 :: c68 :: c69 :: c70 :: c71 :: c72 :: c73 :: c74 :: c75 :: c76 :: c77 :: c78 :: c79 :: c80 :: c81 :: c82 :: c83 :: c84 :: c85 :: c86 :: c87 :: c88 :: c89 :: c90 :: c91 :: c92 :: c93 :: c94 :: c95 :: c96 :: c97 :: c98 :: c99 :: c100 :: c101 :: c102 :: c103 :: c104 :: c105 :: c106 :: c107 :: c108 :: c109 :: c110 :: c111 :: c112 :: c113 :: c114 :: []).toArray, []⟩ w := by
  obtain ⟨i0, hi0, hz0, hz1, hz2⟩ := info_parts Tryd.info5
  conv => arg 2; whnf
  have hbs := S0.out.bl.size
  go_upto_region 21 with fail
  go_cut [8] from 20 to 112 (fun v8 wx => StR W g #[.int .i64 (kn : Int), .int .i64 n.f, .int .i64 n.t, .int .i64 n.l, .string n.x, .string n.u, .string n.h, .bool n.g, .slice KA n.ks.length kc, .slice PA2 n.ps.length pc2] (acc ++ L3) v8 wx)
  case first =>
    have hown := S0.out.own
    go_wp2_with (at_builtin; refine Lib.wpList_append_own_string _ rfl _ _ 56 9 rfl W.heap.size 5 i0 Tryd.underlying56 Tryd.underlying9 hi0 hz0 hz1 hz2 _ _ _ rfl hown X rfl (by unfold maxLen; omega) (by omega) (by omega) ?_)
    intro v' w3 hown' hgrow hiff
    have hXl : X.size = L3.length := by rw [← lst_size, HX.out]
    rw [hXl, strx HX.out] at hown'
    have S3 := Lib.hid (S0.out.app0 hgrow hown' (by first | exact hiff | exact fun hv => S0.out.ne (hiff.1 hv).1))
    clear hown' hgrow hown hiff
    go_wp2_with fail
    go_meet
    exact S3.out
  case rest =>
    apply_assumption
    exact HN.out _ _ _ _ _ _ _ _ _ _ _ _ _ _ _ _ _ _ _ _ _ _ _ _ _ _ _ _ _ _ _ _ _ _ _ _ _ _ _ _ _ _ _ _ _ _ _ _ _ _ _ _ _ _ _ _ _ _ _ _ _ _ _ _ _ _ _ _ _ _ _ _ _ _ _ _ _ _ _ _ _ _ _ _ _ _ _ _ _ _ _ _ _ _ _ _ _ hcut
end Go.Proofs.YtdfhgcknelgdmaaDoor
