/-
  PROVED: the walk of the document's own Show: a node's level.
-/
import Derived.Test.YtdfhgcknelgdmaaDoorRsDefs
namespace Go.Proofs.YtdfhgcknelgdmaaDoor
open Go.ChangeShapes Go.WideShapes Go.ChangeAt Go.RowKit Go.Sort
set_option linter.unusedVariables false
set_option linter.unusedSimpArgs false

set_option maxHeartbeats 16000000 in
set_option maxRecDepth 100000 in
theorem rs_level (W : World) (n : Nd) (kn : Nat) (KA : Option Addr) (kc : Nat) (PA2 : Option Addr) (pc2 : Nat) (sp : Bool) (bx gp op pl pc g7 g i : Nat) (w : World) (acc L1 S2 : List UInt8) (hl : I64 n.l) (X : ByteArray) (hXs : X.size ≤ 300000) (HX : Hid (lst X = L1))
    (HS2 : Hid (S2 = (if n.l = 0 then [] else 32 :: 35 :: Lib.itoa n.l))) (v8 : Value) (S0 : Hid (StR W g #[.int .i64 (kn : Int), .int .i64 n.f, .int .i64 n.t, .int .i64 n.l, .string n.x, .string n.u, .string n.h, .bool n.g, .slice KA n.ks.length kc, .slice PA2 n.ps.length pc2] acc v8 w)) (c0 c3 c4 c5 c13 c14 c15 c16 c17 c18 c19 c113 c114 : Value) (Q : Exit → Act → World → Prop)
    (HN : Hid (∀ (c11 c20 c21 c22 c23 c24 c25 c26 c27 c28 c29 c30 c31 c32 c33 c34 c35 c36 c37 c38 c39 c40 c41 c42 c43 c44 c45 c46 c47 c48 c49 c50 c51 c52 c53 c54 c55 c56 c57 c58 c59 c60 c61 c62 c63 c64 c65 c66 c67 c68 c69 c70 c71 c72 c73 c74 c75 c76 c77 c78 c79 c80 c81 c82 c83 c84 c85 c86 c87 c88 c89 c90 c91 c92 c93 c94 c95 c96 c97 c98 c99 c100 c101 c102 c103 c104 c105 c106 c107 c108 c109 c110 c111 c112 v12 : Value) (wx : World), LineIs v12 (L1 ++ S2) → StR W g #[.int .i64 (kn : Int), .int .i64 n.f, .int .i64 n.t, .int .i64 n.l, .string n.x, .string n.u, .string n.h, .bool n.g, .slice KA n.ks.length kc, .slice PA2 n.ps.length pc2] acc v8 wx → Code.wp Tryd.prog (bAt 5) Q ⟨(c0 :: .bool sp :: .pointer (some ⟨bx, 0, none⟩) :: c3 :: c4 :: c5 :: .slice (some ⟨gp, op, none⟩) pl pc :: .pointer (some ⟨g7, 0, none⟩) :: v8 :: .int .i64 (i : Int) :: .pointer (some ⟨g, 0, none⟩) :: c11 :: v12 :: c13 :: c14 :: c15 :: c16 :: c17 :: c18 :: c19 :: c20 :: c21 :: c22 :: c23 :: c24 :: c25 :: c26 :: c27 :: c28 :: c29 :: c30 :: c31 :: c32 :: c33 :: c34 :: c35 :: c36 :: c37 :: c38 :: c39 :: c40 :: c41 :: c42 :: c43 :: c44 :: c45 :: c46 :: c47 :: c48 :: c49 :: c50 :: c51 :: c52 :: c53 :: c54 :: c55 :: c56 :: c57 :: c58 :: c59 :: c60 :: c61 :: c62 :: c63 :: c64 :: c65 :: c66 :: c67 :: c68 :: c69 :: c70 :: c71 :: c72 :: c73 :: c74 :: c75 :: c76 :: c77 :: c78 :: c79 :: c80 :: c81 :: c82 :: c83 :: c84 :: c85 :: c86 :: c87 :: c88 :: c89 :: c90 :: c91 :: c92 :: c93 :: c94 :: c95 :: c96 :: c97 :: c98 :: c99 :: c100 :: c101 :: c102 :: c103 :: c104 :: c105 :: c106 :: c107 :: c108 :: c109 :: c110 :: c111 :: c112 :: c113 :: c114 :: []).toArray, []⟩ wx))
    (c11 c20 c21 c22 c23 c24 c25 c26 c27 c28 c29 c30 c31 c32 c33 c34 c35 c36 c37 c38 c39 c40 c41 c42 c43 c44 c45 c46 c47 c48 c49 c50 c51 c52 c53 c54 c55 c56 c57 c58 c59 c60 c61 c62 c63 c64 c65 c66 c67 c68 c69 c70 c71 c72 c73 c74 c75 c76 c77 c78 c79 c80 c81 c82 c83 c84 c85 c86 c87 c88 c89 c90 c91 c92 c93 c94 c95 c96 c97 c98 c99 c100 c101 c102 c103 c104 c105 c106 c107 c108 c109 c110 c111 c112 : Value) : Code.wp Tryd.prog (bAt 4) Q ⟨(c0 :: .bool sp :: .pointer (some ⟨bx, 0, none⟩) :: c3 :: c4 :: c5 :: .slice (some ⟨gp, op, none⟩) pl pc :: .pointer (some ⟨g7, 0, none⟩) :: v8 :: .int .i64 (i : Int) :: .pointer (some ⟨g, 0, none⟩) :: c11 :: .string X :: c13 :: c14 :: c15 :: c16 :: c17 :: c18 :: c19 :: c20 :: c21 :: c22 :: c23 :: c24 :: c25 :: c26 :: c27 :: c28 :: c29 :: c30 :: c31 :: c32 :: c33 :: c34 :: c35 :: c36 :: c37 :: c38 :: c39 :: c40 :: c41 :: c42 :: c43 :: c44 :: c45 :: c46 :: c47 :: c48 :: c49 :: c50 :: c51 :: c52 :: c53 :: c54 :: c55 :: c56 :: c57 :: c58 :: c59 :: c60 :: c61 :: c62 :: c63 :: c64 :: c65 :: c66 :: c67 :: c68 :: c69 :: c70 :: c71 :: c72 :: c73 :: c74 :: c75 :: c76 :: c77 :: c78 :: c79 :: c80 :: c81 :: c82 :: c83 :: c84 :: c85 :: c86 :: c87 :: c88 :: c89 :: c90 :: c91 :: c92 :: c93 :: c94 :: c95 :: c96 :: c97 :: c98 :: c99 :: c100 :: c101 :: c102 :: c103 :: c104 :: c105 :: c106 :: c107 :: c108 :: c109 :: c110 :: c111 :: c112 :: c113 :: c114 :: []).toArray, []⟩ w := by
  obtain ⟨i0, hi0, hz0, hz1, hz2⟩ := info_parts Tryd.info5
  conv => arg 2; whnf
  have x3 : w.cell? ⟨g, 3, none⟩ = some (.int .i64 n.l) := S0.out.nd.at 3
  go_upto_if 63 with fail
  go_cut [12] from 20 to 112 (fun v12 wx => LineIs v12 (L1 ++ S2) ∧ StR W g #[.int .i64 (kn : Int), .int .i64 n.f, .int .i64 n.t, .int .i64 n.l, .string n.x, .string n.u, .string n.h, .bool n.g, .slice KA n.ks.length kc, .slice PA2 n.ps.length pc2] acc v8 wx)
  case first =>
    by_cases h0 : n.l = 0
    · have HE : Hid (S2 = []) := by show _ = _; rw [HS2.out, if_pos h0]
      have q : (n.l != 0) = false := by simp [h0]
      clear h0
      go_wp2_with fail
      go_meet
      exact ⟨⟨X, rfl, by rw [HE.out, List.append_nil]; exact HX.out⟩, S0.out⟩
    · have HE : Hid (S2 = 32 :: 35 :: Lib.itoa n.l) := by show _ = _; rw [HS2.out, if_neg h0]
      have q : (n.l != 0) = true := by simp [h0]
      obtain ⟨F, hF⟩ : ∃ F : ByteArray, lst F = Lib.itoa n.l := ⟨⟨(Lib.itoa n.l).toArray⟩, lst_mk _⟩
      have hFs : F.size ≤ 100 := by
        have h1 := Lib.itoa_length_le n.l hl.1 hl.2
        rw [← hF, lst_size] at h1
        omega
      have H1 : Hid (∀ W, Calls Tryd.prog 35 #[.int .i64 n.l] W fun e w' => e = .returned (.string F) ∧ Below W.heap.size W w') := fun W => by
        have := refItoa_any n.l hl.1 hl.2 W
        rw [← hF, ← of_lst F _ rfl] at this; exact this
      have HFe := Lib.hid hF
      clear h0 hF hl
      go_wp2_with fail
      refine (H1.out _).mono ?_
      rintro e w1 ⟨rfl, hb⟩
      have S1 := Lib.hid (S0.out.call hb)
      clear hb
      go_wp2_with fail
      go_meet
      exact ⟨⟨_, rfl, by simp [lst_app, HE.out, HFe.out, HX.out]⟩, S1.out⟩
  case rest =>
    obtain ⟨h1, h2⟩ := hcut
    apply_assumption
    exact HN.out _ _ _ _ _ _ _ _ _ _ _ _ _ _ _ _ _ _ _ _ _ _ _ _ _ _ _ _ _ _ _ _ _ _ _ _ _ _ _ _ _ _ _ _ _ _ _ _ _ _ _ _ _ _ _ _ _ _ _ _ _ _ _ _ _ _ _ _ _ _ _ _ _ _ _ _ _ _ _ _ _ _ _ _ _ _ _ _ _ _ _ _ _ _ _ _ h1 h2
end Go.Proofs.YtdfhgcknelgdmaaDoor
