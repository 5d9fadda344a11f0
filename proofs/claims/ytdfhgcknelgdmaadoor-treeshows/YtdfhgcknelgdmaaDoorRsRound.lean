/-
  PROVED: the walk of the document's own Show: a node.
-/
import Derived.Test.YtdfhgcknelgdmaaDoorRsBlank
import Derived.Test.YtdfhgcknelgdmaaDoorRsSpan
import Derived.Test.YtdfhgcknelgdmaaDoorRsLevel
import Derived.Test.YtdfhgcknelgdmaaDoorRsTight
import Derived.Test.YtdfhgcknelgdmaaDoorRsText
import Derived.Test.YtdfhgcknelgdmaaDoorRsEnd
namespace Go.Proofs.YtdfhgcknelgdmaaDoor
open Go.ChangeShapes Go.WideShapes Go.ChangeAt Go.RowKit Go.Sort
set_option linter.unusedVariables false
set_option linter.unusedSimpArgs false

set_option maxHeartbeats 16000000 in
set_option maxRecDepth 100000 in
theorem rs_round (W : World) (n : Nd) (kn : Nat) (KA : Option Addr) (kc : Nat) (PA2 : Option Addr) (pc2 : Nat) (sp : Bool) (bx gp op pl pc g7 i : Nat) (wr : World) (P : List Int) (y : Int) (D : Nat) (acc A1 S1 S2 S3 X1 X2 X3 : List UInt8) (hal : acc.length ≤ 1300000000) (hD : D ≤ 4000) (HA1 : Hid (acc ++ List.replicate D 32 = A1)) (HR0 : Hid (remK P y = D)) (hgp : gp < W.heap.size)
    (HPc : Hid (∀ (j : Nat) (x : Int), P[j]? = some x → W.cell? ⟨gp, op + j, none⟩ = some (.int .i64 x))) (hpl : P.length = pl) (HF0 : Hid (P[0]? = some (-1))) (HPar : Hid (∀ (j : Nat), 0 < j → j < P.length → ∃ q : Nat, P[j]? = some (q : Int) ∧ q < j)) (HYc : Hid (y < 0 ∨ ∃ j : Nat, y = (j : Int) ∧ j < P.length)) (hy : P[i]? = some y)
    (HNum : Hid (NumN n)) (h7 : g7 < W.heap.size) (HNm : Hid (∀ k : Nat, k < 19 → W.cell? ⟨g7, k, none⟩ = some (.string ⟨(nameL (k : Int)).toArray⟩))) (hkn19 : kn < 19) (hkn : n.k = (kn : Int))
    (HS1 : Hid (S1 = (if sp = true then 32 :: (Lib.itoa n.f ++ (45 :: Lib.itoa n.t)) else []))) (HS2 : Hid (S2 = (if n.l = 0 then [] else 32 :: 35 :: Lib.itoa n.l))) (HS3 : Hid (S3 = (if n.g = true then ([32, 116, 105, 103, 104, 116] : List UInt8) else [])))
    (HX1 : Hid (X1 = quoP 116 (lst n.x))) (HX2 : Hid (X2 = quoP 108 (lst n.u))) (HX3 : Hid (X3 = quoP 104 (lst n.h))) (m1 : n.x.size ≤ 10000) (m2 : n.u.size ≤ 10000) (m3 : n.h.size ≤ 10000)
    (hlen : (nameL (kn : Int)).length + (S1.length + (S2.length + S3.length)) + (X1.length + (X2.length + (X3.length + 1))) ≤ 200000)
    (tn tc b' o' : Nat) (hlt : i < tn) (a1 : wr.cell? ⟨bx, 0, none⟩ = some (.slice (some ⟨b', o', none⟩) tn tc)) (HK : Hid (Ten wr b' (o' + i * 10) n (.slice KA n.ks.length kc) (.slice PA2 n.ps.length pc2)))
    (v8 : Value) (HOw : Hid (wr.ownsRow W.heap.size 5 1 v8 acc.length (Lib.byteCells acc))) (HNil : Hid (v8 ≠ .slice none 0 0)) (HB : Hid (Below W.heap.size W wr))
    (c0 c3 c4 c5 c13 c14 c15 c16 c17 c18 c19 c113 c114 : Value) (Q : Exit → Act → World → Prop)
    (HN : Hid (∀ (c11 c20 c21 c22 c23 c24 c25 c26 c27 c28 c29 c30 c31 c32 c33 c34 c35 c36 c37 c38 c39 c40 c41 c42 c43 c44 c45 c46 c47 c48 c49 c50 c51 c52 c53 c54 c55 c56 c57 c58 c59 c60 c61 c62 c63 c64 c65 c66 c67 c68 c69 c70 c71 c72 c73 c74 c75 c76 c77 c78 c79 c80 c81 c82 c83 c84 c85 c86 c87 c88 c89 c90 c91 c92 c93 c94 c95 c96 c97 c98 c99 c100 c101 c102 c103 c104 c105 c106 c107 c108 c109 c110 c111 c112 c12 v8 : Value) (wx : World), StR W wr.heap.size #[.int .i64 (kn : Int), .int .i64 n.f, .int .i64 n.t, .int .i64 n.l, .string n.x, .string n.u, .string n.h, .bool n.g, .slice KA n.ks.length kc, .slice PA2 n.ps.length pc2] (A1 ++ (nameL (kn : Int) ++ S1 ++ S2 ++ S3) ++ X1 ++ X2 ++ X3 ++ [10]) v8 wx → Q .normal ⟨(c0 :: .bool sp :: .pointer (some ⟨bx, 0, none⟩) :: c3 :: c4 :: c5 :: .slice (some ⟨gp, op, none⟩) pl pc :: .pointer (some ⟨g7, 0, none⟩) :: v8 :: .int .i64 (i : Int) :: .pointer (some ⟨wr.heap.size, 0, none⟩) :: c11 :: c12 :: c13 :: c14 :: c15 :: c16 :: c17 :: c18 :: c19 :: c20 :: c21 :: c22 :: c23 :: c24 :: c25 :: c26 :: c27 :: c28 :: c29 :: c30 :: c31 :: c32 :: c33 :: c34 :: c35 :: c36 :: c37 :: c38 :: c39 :: c40 :: c41 :: c42 :: c43 :: c44 :: c45 :: c46 :: c47 :: c48 :: c49 :: c50 :: c51 :: c52 :: c53 :: c54 :: c55 :: c56 :: c57 :: c58 :: c59 :: c60 :: c61 :: c62 :: c63 :: c64 :: c65 :: c66 :: c67 :: c68 :: c69 :: c70 :: c71 :: c72 :: c73 :: c74 :: c75 :: c76 :: c77 :: c78 :: c79 :: c80 :: c81 :: c82 :: c83 :: c84 :: c85 :: c86 :: c87 :: c88 :: c89 :: c90 :: c91 :: c92 :: c93 :: c94 :: c95 :: c96 :: c97 :: c98 :: c99 :: c100 :: c101 :: c102 :: c103 :: c104 :: c105 :: c106 :: c107 :: c108 :: c109 :: c110 :: c111 :: c112 :: c113 :: c114 :: []).toArray, []⟩ wx))
    (c10 c11 c20 c21 c22 c23 c24 c25 c26 c27 c28 c29 c30 c31 c32 c33 c34 c35 c36 c37 c38 c39 c40 c41 c42 c43 c44 c45 c46 c47 c48 c49 c50 c51 c52 c53 c54 c55 c56 c57 c58 c59 c60 c61 c62 c63 c64 c65 c66 c67 c68 c69 c70 c71 c72 c73 c74 c75 c76 c77 c78 c79 c80 c81 c82 c83 c84 c85 c86 c87 c88 c89 c90 c91 c92 c93 c94 c95 c96 c97 c98 c99 c100 c101 c102 c103 c104 c105 c106 c107 c108 c109 c110 c111 c112 c12 : Value) : Code.wp Tryd.prog (bAt 0) Q ⟨(c0 :: .bool sp :: .pointer (some ⟨bx, 0, none⟩) :: c3 :: c4 :: c5 :: .slice (some ⟨gp, op, none⟩) pl pc :: .pointer (some ⟨g7, 0, none⟩) :: v8 :: .int .i64 (i : Int) :: c10 :: c11 :: c12 :: c13 :: c14 :: c15 :: c16 :: c17 :: c18 :: c19 :: c20 :: c21 :: c22 :: c23 :: c24 :: c25 :: c26 :: c27 :: c28 :: c29 :: c30 :: c31 :: c32 :: c33 :: c34 :: c35 :: c36 :: c37 :: c38 :: c39 :: c40 :: c41 :: c42 :: c43 :: c44 :: c45 :: c46 :: c47 :: c48 :: c49 :: c50 :: c51 :: c52 :: c53 :: c54 :: c55 :: c56 :: c57 :: c58 :: c59 :: c60 :: c61 :: c62 :: c63 :: c64 :: c65 :: c66 :: c67 :: c68 :: c69 :: c70 :: c71 :: c72 :: c73 :: c74 :: c75 :: c76 :: c77 :: c78 :: c79 :: c80 :: c81 :: c82 :: c83 :: c84 :: c85 :: c86 :: c87 :: c88 :: c89 :: c90 :: c91 :: c92 :: c93 :: c94 :: c95 :: c96 :: c97 :: c98 :: c99 :: c100 :: c101 :: c102 :: c103 :: c104 :: c105 :: c106 :: c107 :: c108 :: c109 :: c110 :: c111 :: c112 :: c113 :: c114 :: []).toArray, []⟩ wr := by
  conv => arg 2; whnf
  have hA1l : A1.length ≤ 1300004000 := by rw [← HA1.out]; simp; omega
  have hz := HB.out.size
  go_upto_region 9 with fail
  obtain ⟨W0, hW0⟩ : ∃ W0, W0 = wr.alloc (.cells #[.int .i64 (kn : Int), .int .i64 n.f, .int .i64 n.t, .int .i64 n.l, .string n.x, .string n.u, .string n.h, .bool n.g, .slice KA n.ks.length kc, .slice PA2 n.ps.length pc2] 39) := ⟨_, rfl⟩
  have S0 : Hid (StR W wr.heap.size #[.int .i64 (kn : Int), .int .i64 n.f, .int .i64 n.t, .int .i64 n.l, .string n.x, .string n.u, .string n.h, .bool n.g, .slice KA n.ks.length kc, .slice PA2 n.ps.length pc2] acc v8 W0) := by
    show StR _ _ _ _ _ _
    rw [hW0]
    exact ⟨HOw.out.alloc _, HNil.out, Holds.made wr 39 _, HB.out.alloc (by omega) _⟩
  have r0 := HK.out.c0
  rw [hkn] at r0
  have r1 := HK.out.c1
  have r2 := HK.out.c2
  have r3 := HK.out.c3
  have r4 := HK.out.c4
  have r5 := HK.out.c5
  have r6 := HK.out.c6
  have r7 := HK.out.c7
  have r8 := HK.out.c8
  have r9 := HK.out.c9
  have HY := Lib.hid hy
  have HKn := Lib.hid hkn
  have HLen := Lib.hid hlen
  have HW0 := Lib.hid hW0
  clear hy hkn hW0 hlen
  go_cut [10] from 20 to 112 (fun v10 wx => v10 = .pointer (some ⟨wr.heap.size, 0, none⟩) ∧ W0 = wx)
  case first =>
    go_wp2_with fail
    go_meet
    exact ⟨rfl, HW0.out⟩
  case rest =>
  obtain ⟨rfl, rfl⟩ := hcut
  clear r0 r1 r2 r3 r4 r5 r6 r7 r8 r9
  apply_assumption
  have hlen := HLen.out
  refine rs_blank W n kn KA kc PA2 pc2 sp bx gp op pl pc g7 wr.heap.size i W0 P y D acc A1 (by omega) HA1 HR0 hgp HPc hpl HF0 HPar HYc HY.out v8 S0 _ _ _ _ _ _ _ _ _ _ _ _ _ Q (Lib.hid ?_) _ _ _ _ _ _ _ _ _ _ _ _ _ _ _ _ _ _ _ _ _ _ _ _ _ _ _ _ _ _ _ _ _ _ _ _ _ _ _ _ _ _ _ _ _ _ _ _ _ _ _ _ _ _ _ _ _ _ _ _ _ _ _ _ _ _ _ _ _ _ _ _ _ _ _ _ _ _ _ _ _ _ _ _ _ _ _ _ _ _ _ _ _ _ _
  intro c11 c20 c21 c22 c23 c24 c25 c26 c27 c28 c29 c30 c31 c32 c33 c34 c35 c36 c37 c38 c39 c40 c41 c42 c43 c44 c45 c46 c47 c48 c49 c50 c51 c52 c53 c54 c55 c56 c57 c58 c59 c60 c61 c62 c63 c64 c65 c66 c67 c68 c69 c70 c71 c72 c73 c74 c75 c76 c77 c78 c79 c80 c81 c82 c83 c84 c85 c86 c87 c88 c89 c90 c91 c92 c93 c94 c95 c96 c97 c98 c99 c100 c101 c102 c103 c104 c105 c106 c107 c108 c109 c110 c111 c112 c12 v8 w hS
  refine rs_span W n kn KA kc PA2 pc2 sp bx gp op pl pc g7 wr.heap.size i w A1 S1 HNum.out.1 HNum.out.2.1 h7 HNm hkn19 HS1 v8 (Lib.hid hS) _ _ _ _ _ _ _ _ _ _ _ _ _ Q (Lib.hid ?_) _ _ _ _ _ _ _ _ _ _ _ _ _ _ _ _ _ _ _ _ _ _ _ _ _ _ _ _ _ _ _ _ _ _ _ _ _ _ _ _ _ _ _ _ _ _ _ _ _ _ _ _ _ _ _ _ _ _ _ _ _ _ _ _ _ _ _ _ _ _ _ _ _ _ _ _ _ _ _ _ _ _ _ _ _ _ _ _ _ _ _ _ _ _ _
  rintro c11 c20 c21 c22 c23 c24 c25 c26 c27 c28 c29 c30 c31 c32 c33 c34 c35 c36 c37 c38 c39 c40 c41 c42 c43 c44 c45 c46 c47 c48 c49 c50 c51 c52 c53 c54 c55 c56 c57 c58 c59 c60 c61 c62 c63 c64 c65 c66 c67 c68 c69 c70 c71 c72 c73 c74 c75 c76 c77 c78 c79 c80 c81 c82 c83 c84 c85 c86 c87 c88 c89 c90 c91 c92 c93 c94 c95 c96 c97 c98 c99 c100 c101 c102 c103 c104 c105 c106 c107 c108 c109 c110 c111 c112 _ w ⟨X, rfl, hX⟩ hS
  have hXs : X.size ≤ 300000 := by rw [← lst_size, hX]; simp only [List.length_append]; omega
  refine rs_level W n kn KA kc PA2 pc2 sp bx gp op pl pc g7 wr.heap.size i w A1 _ S2 HNum.out.2.2 X hXs (Lib.hid hX) HS2 v8 (Lib.hid hS) _ _ _ _ _ _ _ _ _ _ _ _ _ Q (Lib.hid ?_) _ _ _ _ _ _ _ _ _ _ _ _ _ _ _ _ _ _ _ _ _ _ _ _ _ _ _ _ _ _ _ _ _ _ _ _ _ _ _ _ _ _ _ _ _ _ _ _ _ _ _ _ _ _ _ _ _ _ _ _ _ _ _ _ _ _ _ _ _ _ _ _ _ _ _ _ _ _ _ _ _ _ _ _ _ _ _ _ _ _ _ _ _ _
  rintro c11 c20 c21 c22 c23 c24 c25 c26 c27 c28 c29 c30 c31 c32 c33 c34 c35 c36 c37 c38 c39 c40 c41 c42 c43 c44 c45 c46 c47 c48 c49 c50 c51 c52 c53 c54 c55 c56 c57 c58 c59 c60 c61 c62 c63 c64 c65 c66 c67 c68 c69 c70 c71 c72 c73 c74 c75 c76 c77 c78 c79 c80 c81 c82 c83 c84 c85 c86 c87 c88 c89 c90 c91 c92 c93 c94 c95 c96 c97 c98 c99 c100 c101 c102 c103 c104 c105 c106 c107 c108 c109 c110 c111 c112 _ w ⟨X, rfl, hX⟩ hS
  have hXs : X.size ≤ 300000 := by rw [← lst_size, hX]; simp only [List.length_append]; omega
  refine rs_tight W n kn KA kc PA2 pc2 sp bx gp op pl pc g7 wr.heap.size i w A1 _ S3 X hXs (Lib.hid hX) HS3 v8 (Lib.hid hS) _ _ _ _ _ _ _ _ _ _ _ _ _ Q (Lib.hid ?_) _ _ _ _ _ _ _ _ _ _ _ _ _ _ _ _ _ _ _ _ _ _ _ _ _ _ _ _ _ _ _ _ _ _ _ _ _ _ _ _ _ _ _ _ _ _ _ _ _ _ _ _ _ _ _ _ _ _ _ _ _ _ _ _ _ _ _ _ _ _ _ _ _ _ _ _ _ _ _ _ _ _ _ _ _ _ _ _ _ _ _ _ _ _
  rintro c11 c20 c21 c22 c23 c24 c25 c26 c27 c28 c29 c30 c31 c32 c33 c34 c35 c36 c37 c38 c39 c40 c41 c42 c43 c44 c45 c46 c47 c48 c49 c50 c51 c52 c53 c54 c55 c56 c57 c58 c59 c60 c61 c62 c63 c64 c65 c66 c67 c68 c69 c70 c71 c72 c73 c74 c75 c76 c77 c78 c79 c80 c81 c82 c83 c84 c85 c86 c87 c88 c89 c90 c91 c92 c93 c94 c95 c96 c97 c98 c99 c100 c101 c102 c103 c104 c105 c106 c107 c108 c109 c110 c111 c112 _ w ⟨X, rfl, hX⟩ hS
  have hXs : X.size ≤ 300000 := by rw [← lst_size, hX]; simp only [List.length_append]; omega
  refine rs_line W n kn KA kc PA2 pc2 sp bx gp op pl pc g7 wr.heap.size i w A1 _ (by omega) X hXs (Lib.hid hX) v8 (Lib.hid hS) _ _ _ _ _ _ _ _ _ _ _ _ _ Q (Lib.hid ?_) _ _ _ _ _ _ _ _ _ _ _ _ _ _ _ _ _ _ _ _ _ _ _ _ _ _ _ _ _ _ _ _ _ _ _ _ _ _ _ _ _ _ _ _ _ _ _ _ _ _ _ _ _ _ _ _ _ _ _ _ _ _ _ _ _ _ _ _ _ _ _ _ _ _ _ _ _ _ _ _ _ _ _ _ _ _ _ _ _ _ _ _ _ _
  intro c11 c20 c21 c22 c23 c24 c25 c26 c27 c28 c29 c30 c31 c32 c33 c34 c35 c36 c37 c38 c39 c40 c41 c42 c43 c44 c45 c46 c47 c48 c49 c50 c51 c52 c53 c54 c55 c56 c57 c58 c59 c60 c61 c62 c63 c64 c65 c66 c67 c68 c69 c70 c71 c72 c73 c74 c75 c76 c77 c78 c79 c80 c81 c82 c83 c84 c85 c86 c87 c88 c89 c90 c91 c92 c93 c94 c95 c96 c97 c98 c99 c100 c101 c102 c103 c104 c105 c106 c107 c108 c109 c110 c111 c112 c12 v8 w hS
  refine rs_text W n kn KA kc PA2 pc2 sp bx gp op pl pc g7 wr.heap.size i w _ X1 (by simp only [List.length_append]; omega) m1 hS.bl.size HX1 v8 (Lib.hid hS) _ _ _ _ _ _ _ _ _ _ _ _ _ Q (Lib.hid ?_) _ _ _ _ _ _ _ _ _ _ _ _ _ _ _ _ _ _ _ _ _ _ _ _ _ _ _ _ _ _ _ _ _ _ _ _ _ _ _ _ _ _ _ _ _ _ _ _ _ _ _ _ _ _ _ _ _ _ _ _ _ _ _ _ _ _ _ _ _ _ _ _ _ _ _ _ _ _ _ _ _ _ _ _ _ _ _ _ _ _ _ _ _ _ _
  intro c11 c20 c21 c22 c23 c24 c25 c26 c27 c28 c29 c30 c31 c32 c33 c34 c35 c36 c37 c38 c39 c40 c41 c42 c43 c44 c45 c46 c47 c48 c49 c50 c51 c52 c53 c54 c55 c56 c57 c58 c59 c60 c61 c62 c63 c64 c65 c66 c67 c68 c69 c70 c71 c72 c73 c74 c75 c76 c77 c78 c79 c80 c81 c82 c83 c84 c85 c86 c87 c88 c89 c90 c91 c92 c93 c94 c95 c96 c97 c98 c99 c100 c101 c102 c103 c104 c105 c106 c107 c108 c109 c110 c111 c112 c12 v8 w hS
  refine rs_link W n kn KA kc PA2 pc2 sp bx gp op pl pc g7 wr.heap.size i w _ X2 (by simp only [List.length_append]; omega) m2 hS.bl.size HX2 v8 (Lib.hid hS) _ _ _ _ _ _ _ _ _ _ _ _ _ Q (Lib.hid ?_) _ _ _ _ _ _ _ _ _ _ _ _ _ _ _ _ _ _ _ _ _ _ _ _ _ _ _ _ _ _ _ _ _ _ _ _ _ _ _ _ _ _ _ _ _ _ _ _ _ _ _ _ _ _ _ _ _ _ _ _ _ _ _ _ _ _ _ _ _ _ _ _ _ _ _ _ _ _ _ _ _ _ _ _ _ _ _ _ _ _ _ _ _ _ _
  intro c11 c20 c21 c22 c23 c24 c25 c26 c27 c28 c29 c30 c31 c32 c33 c34 c35 c36 c37 c38 c39 c40 c41 c42 c43 c44 c45 c46 c47 c48 c49 c50 c51 c52 c53 c54 c55 c56 c57 c58 c59 c60 c61 c62 c63 c64 c65 c66 c67 c68 c69 c70 c71 c72 c73 c74 c75 c76 c77 c78 c79 c80 c81 c82 c83 c84 c85 c86 c87 c88 c89 c90 c91 c92 c93 c94 c95 c96 c97 c98 c99 c100 c101 c102 c103 c104 c105 c106 c107 c108 c109 c110 c111 c112 c12 v8 w hS
  refine rs_title W n kn KA kc PA2 pc2 sp bx gp op pl pc g7 wr.heap.size i w _ X3 (by simp only [List.length_append]; omega) m3 hS.bl.size HX3 v8 (Lib.hid hS) _ _ _ _ _ _ _ _ _ _ _ _ _ Q (Lib.hid ?_) _ _ _ _ _ _ _ _ _ _ _ _ _ _ _ _ _ _ _ _ _ _ _ _ _ _ _ _ _ _ _ _ _ _ _ _ _ _ _ _ _ _ _ _ _ _ _ _ _ _ _ _ _ _ _ _ _ _ _ _ _ _ _ _ _ _ _ _ _ _ _ _ _ _ _ _ _ _ _ _ _ _ _ _ _ _ _ _ _ _ _ _ _ _ _
  intro c11 c20 c21 c22 c23 c24 c25 c26 c27 c28 c29 c30 c31 c32 c33 c34 c35 c36 c37 c38 c39 c40 c41 c42 c43 c44 c45 c46 c47 c48 c49 c50 c51 c52 c53 c54 c55 c56 c57 c58 c59 c60 c61 c62 c63 c64 c65 c66 c67 c68 c69 c70 c71 c72 c73 c74 c75 c76 c77 c78 c79 c80 c81 c82 c83 c84 c85 c86 c87 c88 c89 c90 c91 c92 c93 c94 c95 c96 c97 c98 c99 c100 c101 c102 c103 c104 c105 c106 c107 c108 c109 c110 c111 c112 c12 v8 w hS
  refine rs_end W n kn KA kc PA2 pc2 sp bx gp op pl pc g7 wr.heap.size i w _ (by simp only [List.length_append]; omega) hS.bl.size v8 (Lib.hid hS) _ _ _ _ _ _ _ _ _ _ _ _ _ Q (Lib.hid ?_) _ _ _ _ _ _ _ _ _ _ _ _ _ _ _ _ _ _ _ _ _ _ _ _ _ _ _ _ _ _ _ _ _ _ _ _ _ _ _ _ _ _ _ _ _ _ _ _ _ _ _ _ _ _ _ _ _ _ _ _ _ _ _ _ _ _ _ _ _ _ _ _ _ _ _ _ _ _ _ _ _ _ _ _ _ _ _ _ _ _ _ _ _ _ _
  intro c11 c20 c21 c22 c23 c24 c25 c26 c27 c28 c29 c30 c31 c32 c33 c34 c35 c36 c37 c38 c39 c40 c41 c42 c43 c44 c45 c46 c47 c48 c49 c50 c51 c52 c53 c54 c55 c56 c57 c58 c59 c60 c61 c62 c63 c64 c65 c66 c67 c68 c69 c70 c71 c72 c73 c74 c75 c76 c77 c78 c79 c80 c81 c82 c83 c84 c85 c86 c87 c88 c89 c90 c91 c92 c93 c94 c95 c96 c97 c98 c99 c100 c101 c102 c103 c104 c105 c106 c107 c108 c109 c110 c111 c112 c12 v8 w hS
  exact HN.out _ _ _ _ _ _ _ _ _ _ _ _ _ _ _ _ _ _ _ _ _ _ _ _ _ _ _ _ _ _ _ _ _ _ _ _ _ _ _ _ _ _ _ _ _ _ _ _ _ _ _ _ _ _ _ _ _ _ _ _ _ _ _ _ _ _ _ _ _ _ _ _ _ _ _ _ _ _ _ _ _ _ _ _ _ _ _ _ _ _ _ _ _ _ _ _ _ hS
end Go.Proofs.YtdfhgcknelgdmaaDoor
