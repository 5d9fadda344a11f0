/-
  PROVED: the walk of the document's own Show: the blanks ahead of a line.
-/
import Derived.Test.YtdfhgcknelgdmaaDoorRsDefs
namespace Go.Proofs.YtdfhgcknelgdmaaDoor
open Go.ChangeShapes Go.WideShapes Go.ChangeAt Go.RowKit Go.Sort
set_option linter.unusedVariables false
set_option linter.unusedSimpArgs false

set_option maxHeartbeats 16000000 in
set_option maxRecDepth 100000 in
theorem rs_blank (W : World) (n : Nd) (kn : Nat) (KA : Option Addr) (kc : Nat) (PA2 : Option Addr) (pc2 : Nat) (sp : Bool) (bx gp op pl pc g7 g i : Nat) (w : World) (P : List Int) (y : Int) (D : Nat) (acc A1 : List UInt8) (hA1l : A1.length ≤ 2000000000) (HA1 : Hid (acc ++ List.replicate D 32 = A1)) (HR0 : Hid (remK P y = D)) (hgp : gp < W.heap.size)
    (HPc : Hid (∀ (j : Nat) (x : Int), P[j]? = some x → W.cell? ⟨gp, op + j, none⟩ = some (.int .i64 x))) (hpl : P.length = pl) (HF0 : Hid (P[0]? = some (-1))) (HPar : Hid (∀ (j : Nat), 0 < j → j < P.length → ∃ q : Nat, P[j]? = some (q : Int) ∧ q < j)) (HYc : Hid (y < 0 ∨ ∃ j : Nat, y = (j : Int) ∧ j < P.length))
    (hy : P[i]? = some y) (v8 : Value) (S0 : Hid (StR W g #[.int .i64 (kn : Int), .int .i64 n.f, .int .i64 n.t, .int .i64 n.l, .string n.x, .string n.u, .string n.h, .bool n.g, .slice KA n.ks.length kc, .slice PA2 n.ps.length pc2] acc v8 w)) (c0 c3 c4 c5 c13 c14 c15 c16 c17 c18 c19 c113 c114 : Value) (Q : Exit → Act → World → Prop)
    (HN : Hid (∀ (c11 c20 c21 c22 c23 c24 c25 c26 c27 c28 c29 c30 c31 c32 c33 c34 c35 c36 c37 c38 c39 c40 c41 c42 c43 c44 c45 c46 c47 c48 c49 c50 c51 c52 c53 c54 c55 c56 c57 c58 c59 c60 c61 c62 c63 c64 c65 c66 c67 c68 c69 c70 c71 c72 c73 c74 c75 c76 c77 c78 c79 c80 c81 c82 c83 c84 c85 c86 c87 c88 c89 c90 c91 c92 c93 c94 c95 c96 c97 c98 c99 c100 c101 c102 c103 c104 c105 c106 c107 c108 c109 c110 c111 c112 c12 v8 : Value) (wx : World), StR W g #[.int .i64 (kn : Int), .int .i64 n.f, .int .i64 n.t, .int .i64 n.l, .string n.x, .string n.u, .string n.h, .bool n.g, .slice KA n.ks.length kc, .slice PA2 n.ps.length pc2] A1 v8 wx → Code.wp Tryd.prog (bAt 2) Q ⟨(c0 :: .bool sp :: .pointer (some ⟨bx, 0, none⟩) :: c3 :: c4 :: c5 :: .slice (some ⟨gp, op, none⟩) pl pc :: .pointer (some ⟨g7, 0, none⟩) :: v8 :: .int .i64 (i : Int) :: .pointer (some ⟨g, 0, none⟩) :: c11 :: c12 :: c13 :: c14 :: c15 :: c16 :: c17 :: c18 :: c19 :: c20 :: c21 :: c22 :: c23 :: c24 :: c25 :: c26 :: c27 :: c28 :: c29 :: c30 :: c31 :: c32 :: c33 :: c34 :: c35 :: c36 :: c37 :: c38 :: c39 :: c40 :: c41 :: c42 :: c43 :: c44 :: c45 :: c46 :: c47 :: c48 :: c49 :: c50 :: c51 :: c52 :: c53 :: c54 :: c55 :: c56 :: c57 :: c58 :: c59 :: c60 :: c61 :: c62 :: c63 :: c64 :: c65 :: c66 :: c67 :: c68 :: c69 :: c70 :: c71 :: c72 :: c73 :: c74 :: c75 :: c76 :: c77 :: c78 :: c79 :: c80 :: c81 :: c82 :: c83 :: c84 :: c85 :: c86 :: c87 :: c88 :: c89 :: c90 :: c91 :: c92 :: c93 :: c94 :: c95 :: c96 :: c97 :: c98 :: c99 :: c100 :: c101 :: c102 :: c103 :: c104 :: c105 :: c106 :: c107 :: c108 :: c109 :: c110 :: c111 :: c112 :: c113 :: c114 :: []).toArray, []⟩ wx))
    (c11 c20 c21 c22 c23 c24 c25 c26 c27 c28 c29 c30 c31 c32 c33 c34 c35 c36 c37 c38 c39 c40 c41 c42 c43 c44 c45 c46 c47 c48 c49 c50 c51 c52 c53 c54 c55 c56 c57 c58 c59 c60 c61 c62 c63 c64 c65 c66 c67 c68 c69 c70 c71 c72 c73 c74 c75 c76 c77 c78 c79 c80 c81 c82 c83 c84 c85 c86 c87 c88 c89 c90 c91 c92 c93 c94 c95 c96 c97 c98 c99 c100 c101 c102 c103 c104 c105 c106 c107 c108 c109 c110 c111 c112 c12 : Value) : Code.wp Tryd.prog (bAt 1) Q ⟨(c0 :: .bool sp :: .pointer (some ⟨bx, 0, none⟩) :: c3 :: c4 :: c5 :: .slice (some ⟨gp, op, none⟩) pl pc :: .pointer (some ⟨g7, 0, none⟩) :: v8 :: .int .i64 (i : Int) :: .pointer (some ⟨g, 0, none⟩) :: c11 :: c12 :: c13 :: c14 :: c15 :: c16 :: c17 :: c18 :: c19 :: c20 :: c21 :: c22 :: c23 :: c24 :: c25 :: c26 :: c27 :: c28 :: c29 :: c30 :: c31 :: c32 :: c33 :: c34 :: c35 :: c36 :: c37 :: c38 :: c39 :: c40 :: c41 :: c42 :: c43 :: c44 :: c45 :: c46 :: c47 :: c48 :: c49 :: c50 :: c51 :: c52 :: c53 :: c54 :: c55 :: c56 :: c57 :: c58 :: c59 :: c60 :: c61 :: c62 :: c63 :: c64 :: c65 :: c66 :: c67 :: c68 :: c69 :: c70 :: c71 :: c72 :: c73 :: c74 :: c75 :: c76 :: c77 :: c78 :: c79 :: c80 :: c81 :: c82 :: c83 :: c84 :: c85 :: c86 :: c87 :: c88 :: c89 :: c90 :: c91 :: c92 :: c93 :: c94 :: c95 :: c96 :: c97 :: c98 :: c99 :: c100 :: c101 :: c102 :: c103 :: c104 :: c105 :: c106 :: c107 :: c108 :: c109 :: c110 :: c111 :: c112 :: c113 :: c114 :: []).toArray, []⟩ w := by
  obtain ⟨i0, hi0, hz0, hz1, hz2⟩ := info_parts Tryd.info5
  conv => arg 2; whnf
  have hpc : w.cell? ⟨gp, op + i, none⟩ = some (.int .i64 y) := (S0.out.bl.cell (p := ⟨gp, op + i, none⟩) hgp).trans (HPc.out i y hy)
  have hip : i < pl := by rw [← hpl]; exact (List.getElem?_eq_some_iff.1 hy).1
  have HPl := Lib.hid hpl
  clear hy
  refine wp_seq_k (fun K hK => ?_)
  go_cut [8] from 20 to 112 (fun v8 wx => StR W g #[.int .i64 (kn : Int), .int .i64 n.f, .int .i64 n.t, .int .i64 n.l, .string n.x, .string n.u, .string n.h, .bool n.g, .slice KA n.ks.length kc, .slice PA2 n.ps.length pc2] A1 v8 wx)
  case first =>
    go_wp2_with fail
    go_loopg [8, 11] D (fun f v8 v11 wx => ∃ (k : Int) (a2 : List UInt8), v11 = .int .i64 k ∧ a2 ++ List.replicate f 32 = A1 ∧ remK P k = f ∧ (k < 0 ∨ ∃ j : Nat, k = (j : Int) ∧ j < P.length) ∧ StR W g #[.int .i64 (kn : Int), .int .i64 n.f, .int .i64 n.t, .int .i64 n.l, .string n.x, .string n.u, .string n.h, .bool n.g, .slice KA n.ks.length kc, .slice PA2 n.ps.length pc2] a2 v8 wx)
    case atStart => exact ⟨y, acc, rfl, HA1.out, HR0.out, HYc.out, S0.out⟩
    case round =>
      obtain ⟨k, a2, rfl, ha2, hf, hk, hS⟩ := hrel
      have SS := Lib.hid hS
      have hbs := hS.bl.size
      have HA2 := Lib.hid ha2
      have ha2l : a2.length ≤ A1.length := by have := congrArg List.length ha2; rw [List.length_append] at this; omega
      clear hS ha2
      rcases hk with hneg | ⟨j, rfl, hj⟩
      · have HE : Hid (a2 = A1) := by show _ = _; have := HA2.out; rw [← hf, rem_neg hneg] at this; simpa using this
        have hneg' : ¬ (0 : Int) ≤ k := by omega
        clear hf
        go_wp2_with fail
        go_meet
        rw [← HE.out]
        exact SS.out
      · obtain ⟨z, hz⟩ : ∃ z, P[j]? = some z := ⟨_, List.getElem?_eq_getElem hj⟩
        have hst := rem_step HF0.out HPar.out hz
        have HZc : Hid (z < 0 ∨ ∃ q : Nat, z = (q : Int) ∧ q < P.length) := by
          show _ ∨ _
          rcases Nat.eq_zero_or_pos j with rfl | hjp
          · have := HF0.out; rw [hz] at this; have := Option.some.inj this; exact Or.inl (by omega)
          · obtain ⟨q, h1, h2⟩ := HPar.out j hjp hj
            rw [hz] at h1
            exact Or.inr ⟨q, Option.some.inj h1, by omega⟩
        have HZ := Lib.hid (HPc.out j z hz)
        obtain ⟨f', hf'⟩ : ∃ f', remK P z = f' := ⟨_, rfl⟩
        have hgk : gk = f' + 1 := by omega
        have HF' := Lib.hid hf'
        have HA3 : Hid (a2 ++ [32] ++ List.replicate f' 32 = A1) := by show _ = _; have := HA2.out; rw [hgk, List.replicate_succ] at this; simpa using this
        have hjl : j < pl := by omega
        clear hz hst hf hf'
        have hown := SS.out.own
        go_wp2_with (at_builtin; refine wpList_append_own _ rfl _ _ 56 rfl W.heap.size 5 i0 (.int .u8 0) 1 1 Tryd.underlying56 hi0 hz0 hz1 hz2 rfl (by decide) _ _ _ rfl (hown.alloc _) ⟨wr.heap.size, 0, none⟩ 1 1 (Lib.byteCells [32]) rfl rfl (newsB _ [32]) (bytes_one _) (by unfold maxLen; omega) (by omega) (by simp; omega) ?_)
        intro v' w3 hown' hgrow hiff
        have S3 := Lib.hid ((SS.out.alloc _).app0 (x := [32]) hgrow hown' (by first | exact hiff | exact fun hv => SS.out.ne (hiff.1 hv).1))
        have cz : w3.cell? ⟨gp, op + j, none⟩ = some (.int .i64 z) := (S3.out.bl.cell (p := ⟨gp, op + j, none⟩) hgp).trans HZ.out
        clear hown' hgrow hown hiff SS
        go_wp2_with fail
        go_roundg f'
        case measure => omega
        case rel => exact ⟨z, _, rfl, HA3.out, HF'.out, HZc.out, S3.out⟩
  case rest =>
    apply_assumption
    exact HN.out _ _ _ _ _ _ _ _ _ _ _ _ _ _ _ _ _ _ _ _ _ _ _ _ _ _ _ _ _ _ _ _ _ _ _ _ _ _ _ _ _ _ _ _ _ _ _ _ _ _ _ _ _ _ _ _ _ _ _ _ _ _ _ _ _ _ _ _ _ _ _ _ _ _ _ _ _ _ _ _ _ _ _ _ _ _ _ _ _ _ _ _ _ _ _ _ _ hcut
end Go.Proofs.YtdfhgcknelgdmaaDoor
