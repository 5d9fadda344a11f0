/-
  PROVED: the walk of the document's own Show: a node's name and place.
-/
import Derived.Test.YtdfhgcknelgdmaaDoorRsDefs
namespace Go.Proofs.YtdfhgcknelgdmaaDoor
open Go.ChangeShapes Go.WideShapes Go.ChangeAt Go.RowKit Go.Sort
set_option linter.unusedVariables false
set_option linter.unusedSimpArgs false

set_option maxHeartbeats 16000000 in
set_option maxRecDepth 100000 in
theorem rs_span (W : World) (n : Nd) (kn : Nat) (KA : Option Addr) (kc : Nat) (PA2 : Option Addr) (pc2 : Nat) (sp : Bool) (bx gp op pl pc g7 g i : Nat) (w : World) (acc S1 : List UInt8) (hf : I64 n.f) (ht : I64 n.t) (h7 : g7 < W.heap.size) (HNm : Hid (∀ k : Nat, k < 19 → W.cell? ⟨g7, k, none⟩ = some (.string ⟨(nameL (k : Int)).toArray⟩))) (hkn19 : kn < 19)
    (HS1 : Hid (S1 = (if sp = true then 32 :: (Lib.itoa n.f ++ (45 :: Lib.itoa n.t)) else []))) (v8 : Value) (S0 : Hid (StR W g #[.int .i64 (kn : Int), .int .i64 n.f, .int .i64 n.t, .int .i64 n.l, .string n.x, .string n.u, .string n.h, .bool n.g, .slice KA n.ks.length kc, .slice PA2 n.ps.length pc2] acc v8 w)) (c0 c3 c4 c5 c13 c14 c15 c16 c17 c18 c19 c113 c114 : Value) (Q : Exit → Act → World → Prop)
    (HN : Hid (∀ (c11 c20 c21 c22 c23 c24 c25 c26 c27 c28 c29 c30 c31 c32 c33 c34 c35 c36 c37 c38 c39 c40 c41 c42 c43 c44 c45 c46 c47 c48 c49 c50 c51 c52 c53 c54 c55 c56 c57 c58 c59 c60 c61 c62 c63 c64 c65 c66 c67 c68 c69 c70 c71 c72 c73 c74 c75 c76 c77 c78 c79 c80 c81 c82 c83 c84 c85 c86 c87 c88 c89 c90 c91 c92 c93 c94 c95 c96 c97 c98 c99 c100 c101 c102 c103 c104 c105 c106 c107 c108 c109 c110 c111 c112 v12 : Value) (wx : World), LineIs v12 (nameL (kn : Int) ++ S1) → StR W g #[.int .i64 (kn : Int), .int .i64 n.f, .int .i64 n.t, .int .i64 n.l, .string n.x, .string n.u, .string n.h, .bool n.g, .slice KA n.ks.length kc, .slice PA2 n.ps.length pc2] acc v8 wx → Code.wp Tryd.prog (bAt 4) Q ⟨(c0 :: .bool sp :: .pointer (some ⟨bx, 0, none⟩) :: c3 :: c4 :: c5 :: .slice (some ⟨gp, op, none⟩) pl pc :: .pointer (some ⟨g7, 0, none⟩) :: v8 :: .int .i64 (i : Int) :: .pointer (some ⟨g, 0, none⟩) :: c11 :: v12 :: c13 :: c14 :: c15 :: c16 :: c17 :: c18 :: c19 :: c20 :: c21 :: c22 :: c23 :: c24 :: c25 :: c26 :: c27 :: c28 :: c29 :: c30 :: c31 :: c32 :: c33 :: c34 :: c35 :: c36 :: c37 :: c38 :: c39 :: c40 :: c41 :: c42 :: c43 :: c44 :: c45 :: c46 :: c47 :: c48 :: c49 :: c50 :: c51 :: c52 :: c53 :: c54 :: c55 :: c56 :: c57 :: c58 :: c59 :: c60 :: c61 :: c62 :: c63 :: c64 :: c65 :: c66 :: c67 :: c68 :: c69 :: c70 :: c71 :: c72 :: c73 :: c74 :: c75 :: c76 :: c77 :: c78 :: c79 :: c80 :: c81 :: c82 :: c83 :: c84 :: c85 :: c86 :: c87 :: c88 :: c89 :: c90 :: c91 :: c92 :: c93 :: c94 :: c95 :: c96 :: c97 :: c98 :: c99 :: c100 :: c101 :: c102 :: c103 :: c104 :: c105 :: c106 :: c107 :: c108 :: c109 :: c110 :: c111 :: c112 :: c113 :: c114 :: []).toArray, []⟩ wx))
    (c11 c20 c21 c22 c23 c24 c25 c26 c27 c28 c29 c30 c31 c32 c33 c34 c35 c36 c37 c38 c39 c40 c41 c42 c43 c44 c45 c46 c47 c48 c49 c50 c51 c52 c53 c54 c55 c56 c57 c58 c59 c60 c61 c62 c63 c64 c65 c66 c67 c68 c69 c70 c71 c72 c73 c74 c75 c76 c77 c78 c79 c80 c81 c82 c83 c84 c85 c86 c87 c88 c89 c90 c91 c92 c93 c94 c95 c96 c97 c98 c99 c100 c101 c102 c103 c104 c105 c106 c107 c108 c109 c110 c111 c112 c12 : Value) : Code.wp Tryd.prog (bAt 2) Q ⟨(c0 :: .bool sp :: .pointer (some ⟨bx, 0, none⟩) :: c3 :: c4 :: c5 :: .slice (some ⟨gp, op, none⟩) pl pc :: .pointer (some ⟨g7, 0, none⟩) :: v8 :: .int .i64 (i : Int) :: .pointer (some ⟨g, 0, none⟩) :: c11 :: c12 :: c13 :: c14 :: c15 :: c16 :: c17 :: c18 :: c19 :: c20 :: c21 :: c22 :: c23 :: c24 :: c25 :: c26 :: c27 :: c28 :: c29 :: c30 :: c31 :: c32 :: c33 :: c34 :: c35 :: c36 :: c37 :: c38 :: c39 :: c40 :: c41 :: c42 :: c43 :: c44 :: c45 :: c46 :: c47 :: c48 :: c49 :: c50 :: c51 :: c52 :: c53 :: c54 :: c55 :: c56 :: c57 :: c58 :: c59 :: c60 :: c61 :: c62 :: c63 :: c64 :: c65 :: c66 :: c67 :: c68 :: c69 :: c70 :: c71 :: c72 :: c73 :: c74 :: c75 :: c76 :: c77 :: c78 :: c79 :: c80 :: c81 :: c82 :: c83 :: c84 :: c85 :: c86 :: c87 :: c88 :: c89 :: c90 :: c91 :: c92 :: c93 :: c94 :: c95 :: c96 :: c97 :: c98 :: c99 :: c100 :: c101 :: c102 :: c103 :: c104 :: c105 :: c106 :: c107 :: c108 :: c109 :: c110 :: c111 :: c112 :: c113 :: c114 :: []).toArray, []⟩ w := by
  obtain ⟨i0, hi0, hz0, hz1, hz2⟩ := info_parts Tryd.info5
  conv => arg 2; whnf
  obtain ⟨NM, hNM, hNM2⟩ := made (nameL (kn : Int))
  have nmc : w.cell? ⟨g7, kn, none⟩ = some (.string NM) := by rw [← hNM2]; exact (S0.out.bl.cell (p := ⟨g7, kn, none⟩) h7).trans (HNm.out kn hkn19)
  have x0 : w.cell? ⟨g, 0, none⟩ = some (.int .i64 (kn : Int)) := S0.out.nd.at 0
  have HM := Lib.hid hNM
  have hNs : NM.size ≤ 6 := by rw [← lst_size, hNM]; exact nameL_len _
  clear hNM hNM2
  go_upto_if 49 with fail
  go_cut [12] from 20 to 112 (fun v12 wx => LineIs v12 (nameL (kn : Int) ++ S1) ∧ StR W g #[.int .i64 (kn : Int), .int .i64 n.f, .int .i64 n.t, .int .i64 n.l, .string n.x, .string n.u, .string n.h, .bool n.g, .slice KA n.ks.length kc, .slice PA2 n.ps.length pc2] acc v8 wx)
  case first =>
    cases sp
    case false =>
      have HE : Hid (S1 = []) := by show _ = _; rw [HS1.out]; simp
      go_wp2_with fail
      go_meet
      exact ⟨⟨NM, rfl, by rw [HE.out, List.append_nil]; exact HM.out⟩, S0.out⟩
    case true =>
      have HE : Hid (S1 = 32 :: (Lib.itoa n.f ++ (45 :: Lib.itoa n.t))) := by show _ = _; rw [HS1.out]; simp
      have y1 := cell_regrown (v := .int .i64 n.f) (S0.out.nd.at 1)
      have y2 := cell_regrown (v := .int .i64 n.t) (S0.out.nd.at 2)
      obtain ⟨F, hF⟩ : ∃ F : ByteArray, lst F = Lib.itoa n.f := ⟨⟨(Lib.itoa n.f).toArray⟩, lst_mk _⟩
      obtain ⟨G, hG⟩ : ∃ F : ByteArray, lst F = Lib.itoa n.t := ⟨⟨(Lib.itoa n.t).toArray⟩, lst_mk _⟩
      have HFL : Hid (F.size ≤ 100 ∧ G.size ≤ 100) := by
        have h1 := Lib.itoa_length_le n.f hf.1 hf.2
        have h2 := Lib.itoa_length_le n.t ht.1 ht.2
        rw [← hF, lst_size] at h1
        rw [← hG, lst_size] at h2
        exact ⟨by omega, by omega⟩
      have H1 : Hid (∀ d os, Calls Tryd.prog 35 #[.int .i64 n.f] (grow (redrawn w d) os) fun e w'' => e = .returned (.string F) ∧ ∃ p : Regrown, w'' = grow (redrawn w p.d) p.os) := fun d os => Calls.regrown_of (by
        have := refItoa_any n.f hf.1 hf.2 (grow (redrawn w d) os)
        rw [← hF, ← of_lst F _ rfl] at this; exact this)
      have H2 : Hid (∀ d os, Calls Tryd.prog 35 #[.int .i64 n.t] (grow (redrawn w d) os) fun e w'' => e = .returned (.string G) ∧ ∃ p : Regrown, w'' = grow (redrawn w p.d) p.os) := fun d os => Calls.regrown_of (by
        have := refItoa_any n.t ht.1 ht.2 (grow (redrawn w d) os)
        rw [← hG, ← of_lst G _ rfl] at this; exact this)
      have HEnd : Hid (∀ d os, StR W g #[.int .i64 (kn : Int), .int .i64 n.f, .int .i64 n.t, .int .i64 n.l, .string n.x, .string n.u, .string n.h, .bool n.g, .slice KA n.ks.length kc, .slice PA2 n.ps.length pc2] acc v8 (grow (redrawn w d) os)) := fun d os => S0.out.call (below_regrown w d os)
      have HFe := Lib.hid hF
      have HGe := Lib.hid hG
      obtain ⟨z1, z2⟩ := HFL.out
      clear hF hG hf ht nmc x0
      generalize n.f = nf at *
      generalize n.t = nt at *
      go_wp2_with fail
      refine wp_region_quiet_below (by kernel_rfl) (by kernel_rfl) ?_
      repeat (go_big_quiet_step (first | (go_at_call 35; with_reducible exact H1.out _ _) | (go_at_call 35; with_reducible exact H2.out _ _)))
      refine wpQuiet_nil ?_
      intro _ hw'
      obtain ⟨⟨dq, osq⟩, hw''⟩ := hw'
      subst hw''
      go_wp2_with fail
      go_meet
      exact ⟨⟨_, rfl, by simp [lst_app, HE.out, HFe.out, HGe.out, HM.out]⟩, HEnd.out dq osq⟩
  case rest =>
    obtain ⟨h1, h2⟩ := hcut
    apply_assumption
    exact HN.out _ _ _ _ _ _ _ _ _ _ _ _ _ _ _ _ _ _ _ _ _ _ _ _ _ _ _ _ _ _ _ _ _ _ _ _ _ _ _ _ _ _ _ _ _ _ _ _ _ _ _ _ _ _ _ _ _ _ _ _ _ _ _ _ _ _ _ _ _ _ _ _ _ _ _ _ _ _ _ _ _ _ _ _ _ _ _ _ _ _ _ _ _ _ _ _ h1 h2
end Go.Proofs.YtdfhgcknelgdmaaDoor
