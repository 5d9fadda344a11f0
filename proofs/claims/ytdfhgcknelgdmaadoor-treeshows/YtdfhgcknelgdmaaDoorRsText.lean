/-
  PROVED: the walk of the document's own Show: a node's text, link and title.
-/
import Derived.Test.YtdfhgcknelgdmaaDoorRsDefs
namespace Go.Proofs.YtdfhgcknelgdmaaDoor
open Go.ChangeShapes Go.WideShapes Go.ChangeAt Go.RowKit Go.Sort
set_option linter.unusedVariables false
set_option linter.unusedSimpArgs false

set_option maxHeartbeats 16000000 in
set_option maxRecDepth 100000 in
theorem rs_text (W : World) (n : Nd) (kn : Nat) (KA : Option Addr) (kc : Nat) (PA2 : Option Addr) (pc2 : Nat) (sp : Bool) (bx gp op pl pc g7 g i : Nat) (w : World) (acc X1 : List UInt8) (hal : acc.length ≤ 2000000000) (hxs : n.x.size ≤ 10000) (hbs : W.heap.size ≤ w.heap.size) (HX1 : Hid (X1 = quoP 116 (lst n.x))) (v8 : Value) (S0 : Hid (StR W g #[.int .i64 (kn : Int), .int .i64 n.f, .int .i64 n.t, .int .i64 n.l, .string n.x, .string n.u, .string n.h, .bool n.g, .slice KA n.ks.length kc, .slice PA2 n.ps.length pc2] acc v8 w)) (c0 c3 c4 c5 c13 c14 c15 c16 c17 c18 c19 c113 c114 : Value) (Q : Exit → Act → World → Prop)
    (HN : Hid (∀ (c11 c20 c21 c22 c23 c24 c25 c26 c27 c28 c29 c30 c31 c32 c33 c34 c35 c36 c37 c38 c39 c40 c41 c42 c43 c44 c45 c46 c47 c48 c49 c50 c51 c52 c53 c54 c55 c56 c57 c58 c59 c60 c61 c62 c63 c64 c65 c66 c67 c68 c69 c70 c71 c72 c73 c74 c75 c76 c77 c78 c79 c80 c81 c82 c83 c84 c85 c86 c87 c88 c89 c90 c91 c92 c93 c94 c95 c96 c97 c98 c99 c100 c101 c102 c103 c104 c105 c106 c107 c108 c109 c110 c111 c112 c12 v8 : Value) (wx : World), StR W g #[.int .i64 (kn : Int), .int .i64 n.f, .int .i64 n.t, .int .i64 n.l, .string n.x, .string n.u, .string n.h, .bool n.g, .slice KA n.ks.length kc, .slice PA2 n.ps.length pc2] (acc ++ X1) v8 wx → Code.wp Tryd.prog (bAt 8) Q ⟨(c0 :: .bool sp :: .pointer (some ⟨bx, 0, none⟩) :: c3 :: c4 :: c5 :: .slice (some ⟨gp, op, none⟩) pl pc :: .pointer (some ⟨g7, 0, none⟩) :: v8 :: .int .i64 (i : Int) :: .pointer (some ⟨g, 0, none⟩) :: c11 :: c12 :: c13 :: c14 :: c15 :: c16 :: c17 :: c18 :: c19 :: c20 :: c21 :: c22 :: c23 :: c24 :: c25 :: c26 :: c27 :: c28 :: c29 :: c30 :: c31 :: c32 :: c33 :: c34 :: c35 :: c36 :: c37 :: c38 :: c39 :: c40 :: c41 :: c42 :: c43 :: c44 :: c45 :: c46 :: c47 :: c48 :: c49 :: c50 :: c51 :: c52 :: c53 :: c54 :: c55 :: c56 :: c57 :: c58 :: c59 :: c60 :: c61 :: c62 :: c63 :: c64 :: c65 :: c66 :: c67 :: c68 :: c69 :: c70 :: c71 :: c72 :: c73 :: c74 :: c75 :: c76 :: c77 :: c78 :: c79 :: c80 :: c81 :: c82 :: c83 :: c84 :: c85 :: c86 :: c87 :: c88 :: c89 :: c90 :: c91 :: c92 :: c93 :: c94 :: c95 :: c96 :: c97 :: c98 :: c99 :: c100 :: c101 :: c102 :: c103 :: c104 :: c105 :: c106 :: c107 :: c108 :: c109 :: c110 :: c111 :: c112 :: c113 :: c114 :: []).toArray, []⟩ wx))
    (c11 c20 c21 c22 c23 c24 c25 c26 c27 c28 c29 c30 c31 c32 c33 c34 c35 c36 c37 c38 c39 c40 c41 c42 c43 c44 c45 c46 c47 c48 c49 c50 c51 c52 c53 c54 c55 c56 c57 c58 c59 c60 c61 c62 c63 c64 c65 c66 c67 c68 c69 c70 c71 c72 c73 c74 c75 c76 c77 c78 c79 c80 c81 c82 c83 c84 c85 c86 c87 c88 c89 c90 c91 c92 c93 c94 c95 c96 c97 c98 c99 c100 c101 c102 c103 c104 c105 c106 c107 c108 c109 c110 c111 c112 c12 : Value) : Code.wp Tryd.prog (bAt 7) Q ⟨(c0 :: .bool sp :: .pointer (some ⟨bx, 0, none⟩) :: c3 :: c4 :: c5 :: .slice (some ⟨gp, op, none⟩) pl pc :: .pointer (some ⟨g7, 0, none⟩) :: v8 :: .int .i64 (i : Int) :: .pointer (some ⟨g, 0, none⟩) :: c11 :: c12 :: c13 :: c14 :: c15 :: c16 :: c17 :: c18 :: c19 :: c20 :: c21 :: c22 :: c23 :: c24 :: c25 :: c26 :: c27 :: c28 :: c29 :: c30 :: c31 :: c32 :: c33 :: c34 :: c35 :: c36 :: c37 :: c38 :: c39 :: c40 :: c41 :: c42 :: c43 :: c44 :: c45 :: c46 :: c47 :: c48 :: c49 :: c50 :: c51 :: c52 :: c53 :: c54 :: c55 :: c56 :: c57 :: c58 :: c59 :: c60 :: c61 :: c62 :: c63 :: c64 :: c65 :: c66 :: c67 :: c68 :: c69 :: c70 :: c71 :: c72 :: c73 :: c74 :: c75 :: c76 :: c77 :: c78 :: c79 :: c80 :: c81 :: c82 :: c83 :: c84 :: c85 :: c86 :: c87 :: c88 :: c89 :: c90 :: c91 :: c92 :: c93 :: c94 :: c95 :: c96 :: c97 :: c98 :: c99 :: c100 :: c101 :: c102 :: c103 :: c104 :: c105 :: c106 :: c107 :: c108 :: c109 :: c110 :: c111 :: c112 :: c113 :: c114 :: []).toArray, []⟩ w := by
  obtain ⟨i0, hi0, hz0, hz1, hz2⟩ := info_parts Tryd.info5
  conv => arg 2; whnf
  have x4 : w.cell? ⟨g, 4, none⟩ = some (.string n.x) := S0.out.nd.at 4
  go_upto_if 79 with fail
  go_cut [8] from 20 to 112 (fun v8 wx => StR W g #[.int .i64 (kn : Int), .int .i64 n.f, .int .i64 n.t, .int .i64 n.l, .string n.x, .string n.u, .string n.h, .bool n.g, .slice KA n.ks.length kc, .slice PA2 n.ps.length pc2] (acc ++ X1) v8 wx)
  case first =>
    by_cases h0 : n.x.size = 0
    · have q : (!n.x.toList.isEmpty) = false := by rw [emp_yes _ h0]; rfl
      have he : lst n.x = [] := List.eq_nil_of_length_eq_zero (by rw [lst_size]; exact h0)
      have HE : Hid (X1 = []) := by show _ = _; rw [HX1.out, he]; rfl
      clear h0 he
      refine wp_cond_false (congrArg Value.bool q) ?_
      refine wp_skip ?_
      apply_assumption
      go_meet
      rw [HE.out, List.append_nil]
      exact S0.out
    · have q : (!n.x.toList.isEmpty) = true := by rw [emp_no _ (Nat.pos_of_ne_zero h0)]; rfl
      have he : lst n.x ≠ [] := fun e => h0 (by rw [← lst_size, e]; rfl)
      have HE : Hid (acc ++ X1 = acc ++ [32, 116] ++ (34 :: (quoB (lst n.x) ++ [34]))) := by
        show _ = _
        rw [HX1.out]; unfold quoP; rw [if_neg he]; simp
      have HQ : Hid (∀ W, Calls Tryd.prog 36 #[.string n.x] W (OwnB W (34 :: (quoB (lst n.x) ++ [34])))) := fun W => refQuoted_any n.x hxs W
      have hql := quoB_len (lst n.x)
      rw [lst_size] at hql
      obtain ⟨QL, hQL⟩ : ∃ QL, QL = 34 :: (quoB (lst n.x) ++ [34]) := ⟨_, rfl⟩
      rw [← hQL] at HE HQ
      have hQl : QL.length ≤ 40000 := by rw [hQL]; simp; omega
      clear h0 he hQL hql
      refine wp_cond_true (congrArg Value.bool q) ?_
      have hown := S0.out.own
      go_wp2_with (at_builtin; refine wpList_append_own _ rfl _ _ 56 rfl W.heap.size 5 i0 (.int .u8 0) 1 1 Tryd.underlying56 hi0 hz0 hz1 hz2 rfl (by decide) _ _ _ rfl (hown.alloc _) ⟨w.heap.size, 0, none⟩ 2 2 (Lib.byteCells [32, 116]) rfl rfl (newsB _ [32, 116]) (bytes_one _) (by unfold maxLen; omega) (by omega) (by simp; omega) ?_)
      intro v' w3 hown' hgrow hiff
      have S3 := Lib.hid ((S0.out.alloc _).app0 (x := [32, 116]) hgrow hown' (by first | exact hiff | exact fun hv => S0.out.ne (hiff.1 hv).1))
      have x5 : w3.cell? ⟨g, 4, none⟩ = some (.string n.x) := S3.out.nd.at 4
      have hbs3 := S3.out.bl.size
      have hacl : (acc ++ [32, 116]).length ≤ 2000000100 := by simp; omega
      clear hown' hgrow hown hiff S0 x4
      generalize acc ++ [32, 116] = A2 at *
      go_wp2_with fail
      refine (HQ.out _).mono ?_
      rintro e w4 ⟨vq, rfl, ho4, hn4, hb4⟩
      have S4 := Lib.hid (S3.out.call hb4)
      obtain ⟨gq, cq, rfl, hg4, hg5, hc4⟩ := own_at ho4 hn4
      have HQc : Hid (∀ j u, (Lib.byteCells QL)[j]? = some u → w4.cell? ((⟨gq, 0, none⟩ : Addr).add j) = some u) := fun j u hj => ho4.cells (g := gq) rfl j u hj
      have hbs4 := S4.out.bl.size
      clear ho4 hn4 hb4 hc4 S3 x5
      have hown := S4.out.own
      go_wp2_with (at_builtin; refine wpList_append_own _ rfl _ _ 56 rfl W.heap.size 5 i0 (.int .u8 0) 1 1 Tryd.underlying56 hi0 hz0 hz1 hz2 rfl (by decide) _ _ _ rfl hown ⟨gq, 0, none⟩ QL.length cq (Lib.byteCells QL) rfl (by rw [Lib.byteCells_length, Nat.mul_one]) HQc.out (bytes_one _) (by unfold maxLen; omega) (by omega) (by omega) ?_)
      intro v' w5 hown' hgrow hiff
      have S5 := Lib.hid (S4.out.app0 (x := QL) hgrow hown' (by first | exact hiff | exact fun hv => S4.out.ne (hiff.1 hv).1))
      clear hown' hgrow hown hiff S4
      go_wp2_with fail
      go_meet
      rw [HE.out]
      exact S5.out
  case rest =>
    apply_assumption
    exact HN.out _ _ _ _ _ _ _ _ _ _ _ _ _ _ _ _ _ _ _ _ _ _ _ _ _ _ _ _ _ _ _ _ _ _ _ _ _ _ _ _ _ _ _ _ _ _ _ _ _ _ _ _ _ _ _ _ _ _ _ _ _ _ _ _ _ _ _ _ _ _ _ _ _ _ _ _ _ _ _ _ _ _ _ _ _ _ _ _ _ _ _ _ _ _ _ _ _ hcut
set_option maxHeartbeats 16000000 in
set_option maxRecDepth 100000 in
theorem rs_link (W : World) (n : Nd) (kn : Nat) (KA : Option Addr) (kc : Nat) (PA2 : Option Addr) (pc2 : Nat) (sp : Bool) (bx gp op pl pc g7 g i : Nat) (w : World) (acc X1 : List UInt8) (hal : acc.length ≤ 2000000000) (hxs : n.u.size ≤ 10000) (hbs : W.heap.size ≤ w.heap.size) (HX1 : Hid (X1 = quoP 108 (lst n.u))) (v8 : Value) (S0 : Hid (StR W g #[.int .i64 (kn : Int), .int .i64 n.f, .int .i64 n.t, .int .i64 n.l, .string n.x, .string n.u, .string n.h, .bool n.g, .slice KA n.ks.length kc, .slice PA2 n.ps.length pc2] acc v8 w)) (c0 c3 c4 c5 c13 c14 c15 c16 c17 c18 c19 c113 c114 : Value) (Q : Exit → Act → World → Prop)
    (HN : Hid (∀ (c11 c20 c21 c22 c23 c24 c25 c26 c27 c28 c29 c30 c31 c32 c33 c34 c35 c36 c37 c38 c39 c40 c41 c42 c43 c44 c45 c46 c47 c48 c49 c50 c51 c52 c53 c54 c55 c56 c57 c58 c59 c60 c61 c62 c63 c64 c65 c66 c67 c68 c69 c70 c71 c72 c73 c74 c75 c76 c77 c78 c79 c80 c81 c82 c83 c84 c85 c86 c87 c88 c89 c90 c91 c92 c93 c94 c95 c96 c97 c98 c99 c100 c101 c102 c103 c104 c105 c106 c107 c108 c109 c110 c111 c112 c12 v8 : Value) (wx : World), StR W g #[.int .i64 (kn : Int), .int .i64 n.f, .int .i64 n.t, .int .i64 n.l, .string n.x, .string n.u, .string n.h, .bool n.g, .slice KA n.ks.length kc, .slice PA2 n.ps.length pc2] (acc ++ X1) v8 wx → Code.wp Tryd.prog (bAt 9) Q ⟨(c0 :: .bool sp :: .pointer (some ⟨bx, 0, none⟩) :: c3 :: c4 :: c5 :: .slice (some ⟨gp, op, none⟩) pl pc :: .pointer (some ⟨g7, 0, none⟩) :: v8 :: .int .i64 (i : Int) :: .pointer (some ⟨g, 0, none⟩) :: c11 :: c12 :: c13 :: c14 :: c15 :: c16 :: c17 :: c18 :: c19 :: c20 :: c21 :: c22 :: c23 :: c24 :: c25 :: c26 :: c27 :: c28 :: c29 :: c30 :: c31 :: c32 :: c33 :: c34 :: c35 :: c36 :: c37 :: c38 :: c39 :: c40 :: c41 :: c42 :: c43 :: c44 :: c45 :: c46 :: c47 :: c48 :: c49 :: c50 :: c51 :: c52 :: c53 :: c54 :: c55 :: c56 :: c57 :: c58 :: c59 :: c60 :: c61 :: c62 :: c63 :: c64 :: c65 :: c66 :: c67 :: c68 :: c69 :: c70 :: c71 :: c72 :: c73 :: c74 :: c75 :: c76 :: c77 :: c78 :: c79 :: c80 :: c81 :: c82 :: c83 :: c84 :: c85 :: c86 :: c87 :: c88 :: c89 :: c90 :: c91 :: c92 :: c93 :: c94 :: c95 :: c96 :: c97 :: c98 :: c99 :: c100 :: c101 :: c102 :: c103 :: c104 :: c105 :: c106 :: c107 :: c108 :: c109 :: c110 :: c111 :: c112 :: c113 :: c114 :: []).toArray, []⟩ wx))
    (c11 c20 c21 c22 c23 c24 c25 c26 c27 c28 c29 c30 c31 c32 c33 c34 c35 c36 c37 c38 c39 c40 c41 c42 c43 c44 c45 c46 c47 c48 c49 c50 c51 c52 c53 c54 c55 c56 c57 c58 c59 c60 c61 c62 c63 c64 c65 c66 c67 c68 c69 c70 c71 c72 c73 c74 c75 c76 c77 c78 c79 c80 c81 c82 c83 c84 c85 c86 c87 c88 c89 c90 c91 c92 c93 c94 c95 c96 c97 c98 c99 c100 c101 c102 c103 c104 c105 c106 c107 c108 c109 c110 c111 c112 c12 : Value) : Code.wp Tryd.prog (bAt 8) Q ⟨(c0 :: .bool sp :: .pointer (some ⟨bx, 0, none⟩) :: c3 :: c4 :: c5 :: .slice (some ⟨gp, op, none⟩) pl pc :: .pointer (some ⟨g7, 0, none⟩) :: v8 :: .int .i64 (i : Int) :: .pointer (some ⟨g, 0, none⟩) :: c11 :: c12 :: c13 :: c14 :: c15 :: c16 :: c17 :: c18 :: c19 :: c20 :: c21 :: c22 :: c23 :: c24 :: c25 :: c26 :: c27 :: c28 :: c29 :: c30 :: c31 :: c32 :: c33 :: c34 :: c35 :: c36 :: c37 :: c38 :: c39 :: c40 :: c41 :: c42 :: c43 :: c44 :: c45 :: c46 :: c47 :: c48 :: c49 :: c50 :: c51 :: c52 :: c53 :: c54 :: c55 :: c56 :: c57 :: c58 :: c59 :: c60 :: c61 :: c62 :: c63 :: c64 :: c65 :: c66 :: c67 :: c68 :: c69 :: c70 :: c71 :: c72 :: c73 :: c74 :: c75 :: c76 :: c77 :: c78 :: c79 :: c80 :: c81 :: c82 :: c83 :: c84 :: c85 :: c86 :: c87 :: c88 :: c89 :: c90 :: c91 :: c92 :: c93 :: c94 :: c95 :: c96 :: c97 :: c98 :: c99 :: c100 :: c101 :: c102 :: c103 :: c104 :: c105 :: c106 :: c107 :: c108 :: c109 :: c110 :: c111 :: c112 :: c113 :: c114 :: []).toArray, []⟩ w := by
  obtain ⟨i0, hi0, hz0, hz1, hz2⟩ := info_parts Tryd.info5
  conv => arg 2; whnf
  have x4 : w.cell? ⟨g, 5, none⟩ = some (.string n.u) := S0.out.nd.at 5
  go_upto_if 90 with fail
  go_cut [8] from 20 to 112 (fun v8 wx => StR W g #[.int .i64 (kn : Int), .int .i64 n.f, .int .i64 n.t, .int .i64 n.l, .string n.x, .string n.u, .string n.h, .bool n.g, .slice KA n.ks.length kc, .slice PA2 n.ps.length pc2] (acc ++ X1) v8 wx)
  case first =>
    by_cases h0 : n.u.size = 0
    · have q : (!n.u.toList.isEmpty) = false := by rw [emp_yes _ h0]; rfl
      have he : lst n.u = [] := List.eq_nil_of_length_eq_zero (by rw [lst_size]; exact h0)
      have HE : Hid (X1 = []) := by show _ = _; rw [HX1.out, he]; rfl
      clear h0 he
      refine wp_cond_false (congrArg Value.bool q) ?_
      refine wp_skip ?_
      apply_assumption
      go_meet
      rw [HE.out, List.append_nil]
      exact S0.out
    · have q : (!n.u.toList.isEmpty) = true := by rw [emp_no _ (Nat.pos_of_ne_zero h0)]; rfl
      have he : lst n.u ≠ [] := fun e => h0 (by rw [← lst_size, e]; rfl)
      have HE : Hid (acc ++ X1 = acc ++ [32, 108] ++ (34 :: (quoB (lst n.u) ++ [34]))) := by
        show _ = _
        rw [HX1.out]; unfold quoP; rw [if_neg he]; simp
      have HQ : Hid (∀ W, Calls Tryd.prog 36 #[.string n.u] W (OwnB W (34 :: (quoB (lst n.u) ++ [34])))) := fun W => refQuoted_any n.u hxs W
      have hql := quoB_len (lst n.u)
      rw [lst_size] at hql
      obtain ⟨QL, hQL⟩ : ∃ QL, QL = 34 :: (quoB (lst n.u) ++ [34]) := ⟨_, rfl⟩
      rw [← hQL] at HE HQ
      have hQl : QL.length ≤ 40000 := by rw [hQL]; simp; omega
      clear h0 he hQL hql
      refine wp_cond_true (congrArg Value.bool q) ?_
      have hown := S0.out.own
      go_wp2_with (at_builtin; refine wpList_append_own _ rfl _ _ 56 rfl W.heap.size 5 i0 (.int .u8 0) 1 1 Tryd.underlying56 hi0 hz0 hz1 hz2 rfl (by decide) _ _ _ rfl (hown.alloc _) ⟨w.heap.size, 0, none⟩ 2 2 (Lib.byteCells [32, 108]) rfl rfl (newsB _ [32, 108]) (bytes_one _) (by unfold maxLen; omega) (by omega) (by simp; omega) ?_)
      intro v' w3 hown' hgrow hiff
      have S3 := Lib.hid ((S0.out.alloc _).app0 (x := [32, 108]) hgrow hown' (by first | exact hiff | exact fun hv => S0.out.ne (hiff.1 hv).1))
      have x5 : w3.cell? ⟨g, 5, none⟩ = some (.string n.u) := S3.out.nd.at 5
      have hbs3 := S3.out.bl.size
      have hacl : (acc ++ [32, 108]).length ≤ 2000000100 := by simp; omega
      clear hown' hgrow hown hiff S0 x4
      generalize acc ++ [32, 108] = A2 at *
      go_wp2_with fail
      refine (HQ.out _).mono ?_
      rintro e w4 ⟨vq, rfl, ho4, hn4, hb4⟩
      have S4 := Lib.hid (S3.out.call hb4)
      obtain ⟨gq, cq, rfl, hg4, hg5, hc4⟩ := own_at ho4 hn4
      have HQc : Hid (∀ j u, (Lib.byteCells QL)[j]? = some u → w4.cell? ((⟨gq, 0, none⟩ : Addr).add j) = some u) := fun j u hj => ho4.cells (g := gq) rfl j u hj
      have hbs4 := S4.out.bl.size
      clear ho4 hn4 hb4 hc4 S3 x5
      have hown := S4.out.own
      go_wp2_with (at_builtin; refine wpList_append_own _ rfl _ _ 56 rfl W.heap.size 5 i0 (.int .u8 0) 1 1 Tryd.underlying56 hi0 hz0 hz1 hz2 rfl (by decide) _ _ _ rfl hown ⟨gq, 0, none⟩ QL.length cq (Lib.byteCells QL) rfl (by rw [Lib.byteCells_length, Nat.mul_one]) HQc.out (bytes_one _) (by unfold maxLen; omega) (by omega) (by omega) ?_)
      intro v' w5 hown' hgrow hiff
      have S5 := Lib.hid (S4.out.app0 (x := QL) hgrow hown' (by first | exact hiff | exact fun hv => S4.out.ne (hiff.1 hv).1))
      clear hown' hgrow hown hiff S4
      go_wp2_with fail
      go_meet
      rw [HE.out]
      exact S5.out
  case rest =>
    apply_assumption
    exact HN.out _ _ _ _ _ _ _ _ _ _ _ _ _ _ _ _ _ _ _ _ _ _ _ _ _ _ _ _ _ _ _ _ _ _ _ _ _ _ _ _ _ _ _ _ _ _ _ _ _ _ _ _ _ _ _ _ _ _ _ _ _ _ _ _ _ _ _ _ _ _ _ _ _ _ _ _ _ _ _ _ _ _ _ _ _ _ _ _ _ _ _ _ _ _ _ _ _ hcut
set_option maxHeartbeats 16000000 in
set_option maxRecDepth 100000 in
theorem rs_title (W : World) (n : Nd) (kn : Nat) (KA : Option Addr) (kc : Nat) (PA2 : Option Addr) (pc2 : Nat) (sp : Bool) (bx gp op pl pc g7 g i : Nat) (w : World) (acc X1 : List UInt8) (hal : acc.length ≤ 2000000000) (hxs : n.h.size ≤ 10000) (hbs : W.heap.size ≤ w.heap.size) (HX1 : Hid (X1 = quoP 104 (lst n.h))) (v8 : Value) (S0 : Hid (StR W g #[.int .i64 (kn : Int), .int .i64 n.f, .int .i64 n.t, .int .i64 n.l, .string n.x, .string n.u, .string n.h, .bool n.g, .slice KA n.ks.length kc, .slice PA2 n.ps.length pc2] acc v8 w)) (c0 c3 c4 c5 c13 c14 c15 c16 c17 c18 c19 c113 c114 : Value) (Q : Exit → Act → World → Prop)
    (HN : Hid (∀ (c11 c20 c21 c22 c23 c24 c25 c26 c27 c28 c29 c30 c31 c32 c33 c34 c35 c36 c37 c38 c39 c40 c41 c42 c43 c44 c45 c46 c47 c48 c49 c50 c51 c52 c53 c54 c55 c56 c57 c58 c59 c60 c61 c62 c63 c64 c65 c66 c67 c68 c69 c70 c71 c72 c73 c74 c75 c76 c77 c78 c79 c80 c81 c82 c83 c84 c85 c86 c87 c88 c89 c90 c91 c92 c93 c94 c95 c96 c97 c98 c99 c100 c101 c102 c103 c104 c105 c106 c107 c108 c109 c110 c111 c112 c12 v8 : Value) (wx : World), StR W g #[.int .i64 (kn : Int), .int .i64 n.f, .int .i64 n.t, .int .i64 n.l, .string n.x, .string n.u, .string n.h, .bool n.g, .slice KA n.ks.length kc, .slice PA2 n.ps.length pc2] (acc ++ X1) v8 wx → Code.wp Tryd.prog (bAt 10) Q ⟨(c0 :: .bool sp :: .pointer (some ⟨bx, 0, none⟩) :: c3 :: c4 :: c5 :: .slice (some ⟨gp, op, none⟩) pl pc :: .pointer (some ⟨g7, 0, none⟩) :: v8 :: .int .i64 (i : Int) :: .pointer (some ⟨g, 0, none⟩) :: c11 :: c12 :: c13 :: c14 :: c15 :: c16 :: c17 :: c18 :: c19 :: c20 :: c21 :: c22 :: c23 :: c24 :: c25 :: c26 :: c27 :: c28 :: c29 :: c30 :: c31 :: c32 :: c33 :: c34 :: c35 :: c36 :: c37 :: c38 :: c39 :: c40 :: c41 :: c42 :: c43 :: c44 :: c45 :: c46 :: c47 :: c48 :: c49 :: c50 :: c51 :: c52 :: c53 :: c54 :: c55 :: c56 :: c57 :: c58 :: c59 :: c60 :: c61 :: c62 :: c63 :: c64 :: c65 :: c66 :: c67 :: c68 :: c69 :: c70 :: c71 :: c72 :: c73 :: c74 :: c75 :: c76 :: c77 :: c78 :: c79 :: c80 :: c81 :: c82 :: c83 :: c84 :: c85 :: c86 :: c87 :: c88 :: c89 :: c90 :: c91 :: c92 :: c93 :: c94 :: c95 :: c96 :: c97 :: c98 :: c99 :: c100 :: c101 :: c102 :: c103 :: c104 :: c105 :: c106 :: c107 :: c108 :: c109 :: c110 :: c111 :: c112 :: c113 :: c114 :: []).toArray, []⟩ wx))
    (c11 c20 c21 c22 c23 c24 c25 c26 c27 c28 c29 c30 c31 c32 c33 c34 c35 c36 c37 c38 c39 c40 c41 c42 c43 c44 c45 c46 c47 c48 c49 c50 c51 c52 c53 c54 c55 c56 c57 c58 c59 c60 c61 c62 c63 c64 c65 c66 c67 c68 c69 c70 c71 c72 c73 c74 c75 c76 c77 c78 c79 c80 c81 c82 c83 c84 c85 c86 c87 c88 c89 c90 c91 c92 c93 c94 c95 c96 c97 c98 c99 c100 c101 c102 c103 c104 c105 c106 c107 c108 c109 c110 c111 c112 c12 : Value) : Code.wp Tryd.prog (bAt 9) Q ⟨(c0 :: .bool sp :: .pointer (some ⟨bx, 0, none⟩) :: c3 :: c4 :: c5 :: .slice (some ⟨gp, op, none⟩) pl pc :: .pointer (some ⟨g7, 0, none⟩) :: v8 :: .int .i64 (i : Int) :: .pointer (some ⟨g, 0, none⟩) :: c11 :: c12 :: c13 :: c14 :: c15 :: c16 :: c17 :: c18 :: c19 :: c20 :: c21 :: c22 :: c23 :: c24 :: c25 :: c26 :: c27 :: c28 :: c29 :: c30 :: c31 :: c32 :: c33 :: c34 :: c35 :: c36 :: c37 :: c38 :: c39 :: c40 :: c41 :: c42 :: c43 :: c44 :: c45 :: c46 :: c47 :: c48 :: c49 :: c50 :: c51 :: c52 :: c53 :: c54 :: c55 :: c56 :: c57 :: c58 :: c59 :: c60 :: c61 :: c62 :: c63 :: c64 :: c65 :: c66 :: c67 :: c68 :: c69 :: c70 :: c71 :: c72 :: c73 :: c74 :: c75 :: c76 :: c77 :: c78 :: c79 :: c80 :: c81 :: c82 :: c83 :: c84 :: c85 :: c86 :: c87 :: c88 :: c89 :: c90 :: c91 :: c92 :: c93 :: c94 :: c95 :: c96 :: c97 :: c98 :: c99 :: c100 :: c101 :: c102 :: c103 :: c104 :: c105 :: c106 :: c107 :: c108 :: c109 :: c110 :: c111 :: c112 :: c113 :: c114 :: []).toArray, []⟩ w := by
  obtain ⟨i0, hi0, hz0, hz1, hz2⟩ := info_parts Tryd.info5
  conv => arg 2; whnf
  have x4 : w.cell? ⟨g, 6, none⟩ = some (.string n.h) := S0.out.nd.at 6
  go_upto_if 101 with fail
  go_cut [8] from 20 to 112 (fun v8 wx => StR W g #[.int .i64 (kn : Int), .int .i64 n.f, .int .i64 n.t, .int .i64 n.l, .string n.x, .string n.u, .string n.h, .bool n.g, .slice KA n.ks.length kc, .slice PA2 n.ps.length pc2] (acc ++ X1) v8 wx)
  case first =>
    by_cases h0 : n.h.size = 0
    · have q : (!n.h.toList.isEmpty) = false := by rw [emp_yes _ h0]; rfl
      have he : lst n.h = [] := List.eq_nil_of_length_eq_zero (by rw [lst_size]; exact h0)
      have HE : Hid (X1 = []) := by show _ = _; rw [HX1.out, he]; rfl
      clear h0 he
      refine wp_cond_false (congrArg Value.bool q) ?_
      refine wp_skip ?_
      apply_assumption
      go_meet
      rw [HE.out, List.append_nil]
      exact S0.out
    · have q : (!n.h.toList.isEmpty) = true := by rw [emp_no _ (Nat.pos_of_ne_zero h0)]; rfl
      have he : lst n.h ≠ [] := fun e => h0 (by rw [← lst_size, e]; rfl)
      have HE : Hid (acc ++ X1 = acc ++ [32, 104] ++ (34 :: (quoB (lst n.h) ++ [34]))) := by
        show _ = _
        rw [HX1.out]; unfold quoP; rw [if_neg he]; simp
      have HQ : Hid (∀ W, Calls Tryd.prog 36 #[.string n.h] W (OwnB W (34 :: (quoB (lst n.h) ++ [34])))) := fun W => refQuoted_any n.h hxs W
      have hql := quoB_len (lst n.h)
      rw [lst_size] at hql
      obtain ⟨QL, hQL⟩ : ∃ QL, QL = 34 :: (quoB (lst n.h) ++ [34]) := ⟨_, rfl⟩
      rw [← hQL] at HE HQ
      have hQl : QL.length ≤ 40000 := by rw [hQL]; simp; omega
      clear h0 he hQL hql
      refine wp_cond_true (congrArg Value.bool q) ?_
      have hown := S0.out.own
      go_wp2_with (at_builtin; refine wpList_append_own _ rfl _ _ 56 rfl W.heap.size 5 i0 (.int .u8 0) 1 1 Tryd.underlying56 hi0 hz0 hz1 hz2 rfl (by decide) _ _ _ rfl (hown.alloc _) ⟨w.heap.size, 0, none⟩ 2 2 (Lib.byteCells [32, 104]) rfl rfl (newsB _ [32, 104]) (bytes_one _) (by unfold maxLen; omega) (by omega) (by simp; omega) ?_)
      intro v' w3 hown' hgrow hiff
      have S3 := Lib.hid ((S0.out.alloc _).app0 (x := [32, 104]) hgrow hown' (by first | exact hiff | exact fun hv => S0.out.ne (hiff.1 hv).1))
      have x5 : w3.cell? ⟨g, 6, none⟩ = some (.string n.h) := S3.out.nd.at 6
      have hbs3 := S3.out.bl.size
      have hacl : (acc ++ [32, 104]).length ≤ 2000000100 := by simp; omega
      clear hown' hgrow hown hiff S0 x4
      generalize acc ++ [32, 104] = A2 at *
      go_wp2_with fail
      refine (HQ.out _).mono ?_
      rintro e w4 ⟨vq, rfl, ho4, hn4, hb4⟩
      have S4 := Lib.hid (S3.out.call hb4)
      obtain ⟨gq, cq, rfl, hg4, hg5, hc4⟩ := own_at ho4 hn4
      have HQc : Hid (∀ j u, (Lib.byteCells QL)[j]? = some u → w4.cell? ((⟨gq, 0, none⟩ : Addr).add j) = some u) := fun j u hj => ho4.cells (g := gq) rfl j u hj
      have hbs4 := S4.out.bl.size
      clear ho4 hn4 hb4 hc4 S3 x5
      have hown := S4.out.own
      go_wp2_with (at_builtin; refine wpList_append_own _ rfl _ _ 56 rfl W.heap.size 5 i0 (.int .u8 0) 1 1 Tryd.underlying56 hi0 hz0 hz1 hz2 rfl (by decide) _ _ _ rfl hown ⟨gq, 0, none⟩ QL.length cq (Lib.byteCells QL) rfl (by rw [Lib.byteCells_length, Nat.mul_one]) HQc.out (bytes_one _) (by unfold maxLen; omega) (by omega) (by omega) ?_)
      intro v' w5 hown' hgrow hiff
      have S5 := Lib.hid (S4.out.app0 (x := QL) hgrow hown' (by first | exact hiff | exact fun hv => S4.out.ne (hiff.1 hv).1))
      clear hown' hgrow hown hiff S4
      go_wp2_with fail
      go_meet
      rw [HE.out]
      exact S5.out
  case rest =>
    apply_assumption
    exact HN.out _ _ _ _ _ _ _ _ _ _ _ _ _ _ _ _ _ _ _ _ _ _ _ _ _ _ _ _ _ _ _ _ _ _ _ _ _ _ _ _ _ _ _ _ _ _ _ _ _ _ _ _ _ _ _ _ _ _ _ _ _ _ _ _ _ _ _ _ _ _ _ _ _ _ _ _ _ _ _ _ _ _ _ _ _ _ _ _ _ _ _ _ _ _ _ _ _ hcut
end Go.Proofs.YtdfhgcknelgdmaaDoor
