/-
  PROVED: contract of the document's Kind: it answers 'kindL', as tag.Kind does. Conditions: the text has at most 1000000 bytes.
-/
import Derived.Test.YtdnnjakggopdoaaDoorRkA
import Derived.Test.YtdnnjakggopdoaaDoorRkB
import Derived.Test.YtdnnjakggopdoaaDoorRkC
import Derived.Test.YtdnnjakggopdoaaDoorRkD
import Derived.Test.YtdnnjakggopdoaaDoorRkF
import Derived.Test.YtdnnjakggopdoaaDoorRkH
import Derived.Test.YtdnnjakggopdoaaDoorRkJ
namespace Go.Proofs.YtdnnjakggopdoaaDoor
open Go.ChangeShapes Go.WideShapes Go.ChangeAt Go.RowKit Go.Sort
set_option linter.unusedVariables false
set_option linter.unusedSimpArgs false

set_option maxHeartbeats 64000000 in
set_option maxRecDepth 100000 in
theorem kind_out (s : ByteArray) (W0 : World) (h : s.size = 0) : Calls Tryd.prog 14 #[.string s] W0 (KPost s W0) := by
  have HV : Hid (kindL (lst s) = 0) := kind_none (lst s) (by rw [lst_nil s h]; simp)
  have q : ((s.size : Int) == 0) = true := by rw [h]; rfl
  clear h
  go_enter Tryd.func14, Tryd.ntmps14
  go_wp2_with fail
  go_ret
  exact ⟨ret_int (by rw [HV.out]), Below.refl _ _⟩
set_option maxHeartbeats 64000000 in
set_option maxRecDepth 100000 in
theorem kind_out2 (s : ByteArray) (W0 : World) (h0 : 0 < s.size) (h60 : ¬ (s[0]'h0) = 60) : Calls Tryd.prog 14 #[.string s] W0 (KPost s W0) := by
  have HV : Hid (kindL (lst s) = 0) := kind_none (lst s) (by rw [Lib.data_getElem? s 0 h0]; exact fun h => h60 (Option.some.inj h))
  have q : ((s.size : Int) == 0) = false := by rw [beq_eq_false_iff_ne]; omega
  have q0 : (((s[0]'h0).toNat : Int) != 60) = true := u8_ne _ 60 (by omega) h60
  clear h60
  go_enter Tryd.func14, Tryd.ntmps14
  go_wp2_with fail
  go_ret
  exact ⟨ret_int (by rw [HV.out]), Below.refl _ _⟩
set_option maxHeartbeats 64000000 in
set_option maxRecDepth 100000 in
theorem kind_tail (s : ByteArray) (hs : s.size ≤ 1000000) (W0 W : World) (hW : RowKit.Below W0.heap.size W0 W) (h0s : 0 < s.size) (hx0 : (lst s)[0]? = some 60)
    (HKD : Hid (kindL (lst s) = if begB (lst s) then 6 else if 0 < openL (lst s) ∧ ((lst s).drop (openL (lst s))).all isB = true then 7 else 0)) (c1 c2 c3 c4 c5 c6 c7 c8 c9 c10 c11 c12 c13 c14 c15 c16 c17 c18 c19 c20 c21 c22 c23 c24 c25 c26 c27 c28 c29 c30 c31 c32 c33 c34 c35 c36 c37 c38 c39 c40 c41 c42 c43 c44 c45 c46 c47 c48 c49 c50 c51 c52 c53 c54 c55 c56 c57 c58 c59 c60 c61 c62 c63 c64 c65 c66 c67 c68 c69 c70 c71 c72 c73 c74 c75 c76 c77 c78 c79 c80 c81 c82 c83 c84 c85 c86 c87 c88 c89 c90 c91 c92 c93 c94 c95 c96 c97 c98 c99 c100 c101 c102 c103 c104 c105 c106 c107 c108 c109 c110 c111 c112 c113 c114 c115 c116 c117 c118 c119 c120 c121 c122 c123 c124 c125 c126 c127 c128 c129 c130 c131 c132 c133 c134 c135 c136 c137 c138 c139 c140 c141 c142 c143 c144 c145 c146 c147 c148 c149 c150 c151 c152 c153 c154 c155 c156 c157 c158 c159 c160 c161 c162 c163 c164 c165 c166 c167 c168 c169 c170 c171 c172 c173 c174 c175 c176 c177 c178 c179 : Value) : Code.wp Tryd.prog (kindAt 11) (bodyPost Tryd.prog Tryd.f14 (KPost s W0)) ⟨(.string s :: c1 :: c2 :: c3 :: c4 :: c5 :: c6 :: c7 :: c8 :: c9 :: c10 :: c11 :: c12 :: c13 :: c14 :: c15 :: c16 :: c17 :: c18 :: c19 :: c20 :: c21 :: c22 :: c23 :: c24 :: c25 :: c26 :: c27 :: c28 :: c29 :: c30 :: c31 :: c32 :: c33 :: c34 :: c35 :: c36 :: c37 :: c38 :: c39 :: c40 :: c41 :: c42 :: c43 :: c44 :: c45 :: c46 :: c47 :: c48 :: c49 :: c50 :: c51 :: c52 :: c53 :: c54 :: c55 :: c56 :: c57 :: c58 :: c59 :: c60 :: c61 :: c62 :: c63 :: c64 :: c65 :: c66 :: c67 :: c68 :: c69 :: c70 :: c71 :: c72 :: c73 :: c74 :: c75 :: c76 :: c77 :: c78 :: c79 :: c80 :: c81 :: c82 :: c83 :: c84 :: c85 :: c86 :: c87 :: c88 :: c89 :: c90 :: c91 :: c92 :: c93 :: c94 :: c95 :: c96 :: c97 :: c98 :: c99 :: c100 :: c101 :: c102 :: c103 :: c104 :: c105 :: c106 :: c107 :: c108 :: c109 :: c110 :: c111 :: c112 :: c113 :: c114 :: c115 :: c116 :: c117 :: c118 :: c119 :: c120 :: c121 :: c122 :: c123 :: c124 :: c125 :: c126 :: c127 :: c128 :: c129 :: c130 :: c131 :: c132 :: c133 :: c134 :: c135 :: c136 :: c137 :: c138 :: c139 :: c140 :: c141 :: c142 :: c143 :: c144 :: c145 :: c146 :: c147 :: c148 :: c149 :: c150 :: c151 :: c152 :: c153 :: c154 :: c155 :: c156 :: c157 :: c158 :: c159 :: c160 :: c161 :: c162 :: c163 :: c164 :: c165 :: c166 :: c167 :: c168 :: c169 :: c170 :: c171 :: c172 :: c173 :: c174 :: c175 :: c176 :: c177 :: c178 :: c179 :: []).toArray, []⟩ W := by
  have HBB := begB_is (lst s) hx0
  have HP : ∀ J, Hid (∀ W, Calls Tryd.prog 20 #[.string (s.extract J s.size), .string { data := #[47, 62] }] W fun e w' => e = .returned (.bool (Lib.hasPrefix ((lst s).drop J) [47, 62])) ∧ W = w') := fun J W => by
    have h := beg_w (s.extract J s.size) { data := #[47, 62] } [47, 62] rfl W
    rw [lst_from] at h
    exact h
  have HT : ∀ F J, Hid (∀ W, Calls Tryd.prog 36 #[.string (s.extract F J)] W fun e w' => e = .returned (.bool (isTag (Lib.mapD lowR (((lst s).take J).drop F)))) ∧ RowKit.Below W.heap.size W w') := fun F J W => by
    have hz : (s.extract F J).size ≤ 2000000 := by rw [← lst_size, lst_cut, List.length_drop, List.length_take, lst_size]; omega
    have h := refBlock_any (s.extract F J) hz W
    rw [refTag_is, show (s.extract F J).data.toList = ((lst s).take J).drop F from lst_cut s F J] at h
    exact h
  have h6 : Hid (begB (lst s) = true → kindL (lst s) = 6) := fun h => by rw [HKD.out, h]; rfl
  have h7 : begB (lst s) = false → Hid (kindL (lst s) = if 0 < openL (lst s) ∧ ((lst s).drop (openL (lst s))).all isB = true then 7 else 0) := fun h => show _ = _ from by rw [HKD.out, h]; rfl
  by_cases h1s : 1 < s.size
  · by_cases h47 : (s[1]'h1s) = 47
    · have hf : fromL (lst s) = 2 := by unfold fromL; rw [if_pos (by rw [Lib.data_getElem? s 1 h1s, h47])]
      rw [hf] at HBB
      have hb := upL_bd isW (lst s) 2 (by rw [lst_size]; omega)
      rw [lst_size] at hb
      refine kind_F2 s hs W0 W h1s h47 _ (Lib.hid rfl) hb (Lib.hid ?_) _ _ _ _ _ _ _ _ _ _ _ _ _ _ _ _ _ _ _ _ _ _ _ _ _ _ _ _ _ _ _ _ _ _ _ _ _ _ _ _ _ _ _ _ _ _ _ _ _ _ _ _ _ _ _ _ _ _ _ _ _ _ _ _ _ _ _ _ _ _ _ _ _ _ _ _ _ _ _ _ _ _ _ _ _ _ _ _ _ _ _ _ _ _ _ _ _ _ _ _ _ _ _ _ _ _ _ _ _ _ _ _ _ _ _ _ _ _ _ _ _ _ _ _ _ _ _ _ _ _ _ _ _ _ _ _ _ _ _ _ _ _ _ _ _ _ _ _ _ _ _ _ _ _ _ _ _ _ _ _ _ _ _ _ _ _ _ _ _ _ _ _ _ _ _ _ _ _ _
      intros
      refine kind_H2 s hs W0 W _ hb _ (Lib.hid rfl) (HP _) (Lib.hid ?_) _ _ _ _ _ _ _ _ _ _ _ _ _ _ _ _ _ _ _ _ _ _ _ _ _ _ _ _ _ _ _ _ _ _ _ _ _ _ _ _ _ _ _ _ _ _ _ _ _ _ _ _ _ _ _ _ _ _ _ _ _ _ _ _ _ _ _ _ _ _ _ _ _ _ _ _ _ _ _ _ _ _ _ _ _ _ _ _ _ _ _ _ _ _ _ _ _ _ _ _ _ _ _ _ _ _ _ _ _ _ _ _ _ _ _ _ _ _ _ _ _ _ _ _ _ _ _ _ _ _ _ _ _ _ _ _ _ _ _ _ _ _ _ _ _ _ _ _ _ _ _ _ _ _ _ _ _ _ _ _ _ _ _ _ _ _ _ _ _ _ _ _ _ _ _ _ _
      intros
      refine kind_I2 s hs W0 W (Lib.hid hW) _ hb _ _ _ (Lib.hid HBB) (HT 2 _) h6 (Lib.hid fun hB W' hW' => ?_) _ _ _ _ _ _ _ _ _ _ _ _ _ _ _ _ _ _ _ _ _ _ _ _ _ _ _ _ _ _ _ _ _ _ _ _ _ _ _ _ _ _ _ _ _ _ _ _ _ _ _ _ _ _ _ _ _ _ _ _ _ _ _ _ _ _ _ _ _ _ _ _ _ _ _ _ _ _ _ _ _ _ _ _ _ _ _ _ _ _ _ _ _ _ _ _ _ _ _ _ _ _ _ _ _ _ _ _ _ _ _ _ _ _ _ _ _ _ _ _ _ _ _ _ _ _ _ _ _ _ _ _ _ _ _ _ _ _ _ _ _ _ _ _ _ _ _ _ _ _ _ _ _ _ _ _ _ _ _ _ _ _ _ _ _ _ _ _ _ _ _ _ _ _ _ _
      intros
      exact kind_J s hs W0 W' (Lib.hid hW') (h7 hB) _ _ _ _ _ _ _ _ _ _ _ _ _ _ _ _ _ _ _ _ _ _ _ _ _ _ _ _ _ _ _ _ _ _ _ _ _ _ _ _ _ _ _ _ _ _ _ _ _ _ _ _ _ _ _ _ _ _ _ _ _ _ _ _ _ _ _ _ _ _ _ _ _ _ _ _ _ _ _ _ _ _ _ _ _ _ _ _ _ _ _ _ _ _ _ _ _ _ _ _ _ _ _ _ _ _ _ _ _ _ _ _ _ _ _ _ _ _ _ _ _ _ _ _ _ _ _ _ _ _ _ _ _ _ _ _ _ _ _ _ _ _ _ _ _ _ _ _ _ _ _ _ _ _ _ _ _ _ _ _ _ _ _ _ _ _ _ _ _ _ _ _ _ _ _ _ _ _ _
    · have hf : fromL (lst s) = 1 := by unfold fromL; rw [if_neg (by rw [Lib.data_getElem? s 1 h1s]; exact fun h => h47 (Option.some.inj h))]
      rw [hf] at HBB
      have hb := upL_bd isW (lst s) 1 (by rw [lst_size]; omega)
      rw [lst_size] at hb
      refine kind_F1 s hs W0 W h1s h47 _ (Lib.hid rfl) hb (Lib.hid ?_) _ _ _ _ _ _ _ _ _ _ _ _ _ _ _ _ _ _ _ _ _ _ _ _ _ _ _ _ _ _ _ _ _ _ _ _ _ _ _ _ _ _ _ _ _ _ _ _ _ _ _ _ _ _ _ _ _ _ _ _ _ _ _ _ _ _ _ _ _ _ _ _ _ _ _ _ _ _ _ _ _ _ _ _ _ _ _ _ _ _ _ _ _ _ _ _ _ _ _ _ _ _ _ _ _ _ _ _ _ _ _ _ _ _ _ _ _ _ _ _ _ _ _ _ _ _ _ _ _ _ _ _ _ _ _ _ _ _ _ _ _ _ _ _ _ _ _ _ _ _ _ _ _ _ _ _ _ _ _ _ _ _ _ _ _ _ _ _ _ _ _ _ _ _ _ _ _ _ _
      intros
      refine kind_H1 s hs W0 W _ hb _ (Lib.hid rfl) (HP _) (Lib.hid ?_) _ _ _ _ _ _ _ _ _ _ _ _ _ _ _ _ _ _ _ _ _ _ _ _ _ _ _ _ _ _ _ _ _ _ _ _ _ _ _ _ _ _ _ _ _ _ _ _ _ _ _ _ _ _ _ _ _ _ _ _ _ _ _ _ _ _ _ _ _ _ _ _ _ _ _ _ _ _ _ _ _ _ _ _ _ _ _ _ _ _ _ _ _ _ _ _ _ _ _ _ _ _ _ _ _ _ _ _ _ _ _ _ _ _ _ _ _ _ _ _ _ _ _ _ _ _ _ _ _ _ _ _ _ _ _ _ _ _ _ _ _ _ _ _ _ _ _ _ _ _ _ _ _ _ _ _ _ _ _ _ _ _ _ _ _ _ _ _ _ _ _ _ _ _ _ _ _
      intros
      refine kind_I1 s hs W0 W (Lib.hid hW) _ hb _ _ _ (Lib.hid HBB) (HT 1 _) h6 (Lib.hid fun hB W' hW' => ?_) _ _ _ _ _ _ _ _ _ _ _ _ _ _ _ _ _ _ _ _ _ _ _ _ _ _ _ _ _ _ _ _ _ _ _ _ _ _ _ _ _ _ _ _ _ _ _ _ _ _ _ _ _ _ _ _ _ _ _ _ _ _ _ _ _ _ _ _ _ _ _ _ _ _ _ _ _ _ _ _ _ _ _ _ _ _ _ _ _ _ _ _ _ _ _ _ _ _ _ _ _ _ _ _ _ _ _ _ _ _ _ _ _ _ _ _ _ _ _ _ _ _ _ _ _ _ _ _ _ _ _ _ _ _ _ _ _ _ _ _ _ _ _ _ _ _ _ _ _ _ _ _ _ _ _ _ _ _ _ _ _ _ _ _ _ _ _ _ _ _ _ _ _ _ _ _
      intros
      exact kind_J s hs W0 W' (Lib.hid hW') (h7 hB) _ _ _ _ _ _ _ _ _ _ _ _ _ _ _ _ _ _ _ _ _ _ _ _ _ _ _ _ _ _ _ _ _ _ _ _ _ _ _ _ _ _ _ _ _ _ _ _ _ _ _ _ _ _ _ _ _ _ _ _ _ _ _ _ _ _ _ _ _ _ _ _ _ _ _ _ _ _ _ _ _ _ _ _ _ _ _ _ _ _ _ _ _ _ _ _ _ _ _ _ _ _ _ _ _ _ _ _ _ _ _ _ _ _ _ _ _ _ _ _ _ _ _ _ _ _ _ _ _ _ _ _ _ _ _ _ _ _ _ _ _ _ _ _ _ _ _ _ _ _ _ _ _ _ _ _ _ _ _ _ _ _ _ _ _ _ _ _ _ _ _ _ _ _ _ _ _ _ _
  · have hf : fromL (lst s) = 1 := by unfold fromL; rw [if_neg (by rw [List.getElem?_eq_none (by rw [lst_size]; omega)]; simp)]
    rw [hf] at HBB
    have hb := upL_bd isW (lst s) 1 (by rw [lst_size]; omega)
    rw [lst_size] at hb
    refine kind_F0 s hs W0 W h1s h0s _ (Lib.hid rfl) hb (Lib.hid ?_) _ _ _ _ _ _ _ _ _ _ _ _ _ _ _ _ _ _ _ _ _ _ _ _ _ _ _ _ _ _ _ _ _ _ _ _ _ _ _ _ _ _ _ _ _ _ _ _ _ _ _ _ _ _ _ _ _ _ _ _ _ _ _ _ _ _ _ _ _ _ _ _ _ _ _ _ _ _ _ _ _ _ _ _ _ _ _ _ _ _ _ _ _ _ _ _ _ _ _ _ _ _ _ _ _ _ _ _ _ _ _ _ _ _ _ _ _ _ _ _ _ _ _ _ _ _ _ _ _ _ _ _ _ _ _ _ _ _ _ _ _ _ _ _ _ _ _ _ _ _ _ _ _ _ _ _ _ _ _ _ _ _ _ _ _ _ _ _ _ _ _ _ _ _ _ _ _ _ _
    intros
    refine kind_H1 s hs W0 W _ hb _ (Lib.hid rfl) (HP _) (Lib.hid ?_) _ _ _ _ _ _ _ _ _ _ _ _ _ _ _ _ _ _ _ _ _ _ _ _ _ _ _ _ _ _ _ _ _ _ _ _ _ _ _ _ _ _ _ _ _ _ _ _ _ _ _ _ _ _ _ _ _ _ _ _ _ _ _ _ _ _ _ _ _ _ _ _ _ _ _ _ _ _ _ _ _ _ _ _ _ _ _ _ _ _ _ _ _ _ _ _ _ _ _ _ _ _ _ _ _ _ _ _ _ _ _ _ _ _ _ _ _ _ _ _ _ _ _ _ _ _ _ _ _ _ _ _ _ _ _ _ _ _ _ _ _ _ _ _ _ _ _ _ _ _ _ _ _ _ _ _ _ _ _ _ _ _ _ _ _ _ _ _ _ _ _ _ _ _ _ _ _
    intros
    refine kind_I1 s hs W0 W (Lib.hid hW) _ hb _ _ _ (Lib.hid HBB) (HT 1 _) h6 (Lib.hid fun hB W' hW' => ?_) _ _ _ _ _ _ _ _ _ _ _ _ _ _ _ _ _ _ _ _ _ _ _ _ _ _ _ _ _ _ _ _ _ _ _ _ _ _ _ _ _ _ _ _ _ _ _ _ _ _ _ _ _ _ _ _ _ _ _ _ _ _ _ _ _ _ _ _ _ _ _ _ _ _ _ _ _ _ _ _ _ _ _ _ _ _ _ _ _ _ _ _ _ _ _ _ _ _ _ _ _ _ _ _ _ _ _ _ _ _ _ _ _ _ _ _ _ _ _ _ _ _ _ _ _ _ _ _ _ _ _ _ _ _ _ _ _ _ _ _ _ _ _ _ _ _ _ _ _ _ _ _ _ _ _ _ _ _ _ _ _ _ _ _ _ _ _ _ _ _ _ _ _ _ _ _
    intros
    exact kind_J s hs W0 W' (Lib.hid hW') (h7 hB) _ _ _ _ _ _ _ _ _ _ _ _ _ _ _ _ _ _ _ _ _ _ _ _ _ _ _ _ _ _ _ _ _ _ _ _ _ _ _ _ _ _ _ _ _ _ _ _ _ _ _ _ _ _ _ _ _ _ _ _ _ _ _ _ _ _ _ _ _ _ _ _ _ _ _ _ _ _ _ _ _ _ _ _ _ _ _ _ _ _ _ _ _ _ _ _ _ _ _ _ _ _ _ _ _ _ _ _ _ _ _ _ _ _ _ _ _ _ _ _ _ _ _ _ _ _ _ _ _ _ _ _ _ _ _ _ _ _ _ _ _ _ _ _ _ _ _ _ _ _ _ _ _ _ _ _ _ _ _ _ _ _ _ _ _ _ _ _ _ _ _ _ _ _ _ _ _ _ _
set_option maxHeartbeats 64000000 in
set_option maxRecDepth 100000 in
theorem refKind_any (s : ByteArray) (hs : s.size ≤ 1000000) (W0 : World) : Calls Tryd.prog 14 #[.string s] W0 (KPost s W0) := by
  by_cases hz : s.size = 0
  · exact kind_out s W0 hz
  have h0s : 0 < s.size := by omega
  by_cases h60 : (s[0]'h0s) = 60
  case neg => exact kind_out2 s W0 h0s h60
  have hx0 : (lst s)[0]? = some 60 := by rw [Lib.data_getElem? s 0 h0s, h60]
  have HKD := kind_is (lst s)
  have HBV := begV_is (lst s) hx0
  have hkb := upL_bd isW (lst s) 1 (by rw [lst_size]; exact h0s)
  rw [lst_size] at hkb
  obtain ⟨K, hK⟩ : ∃ K, upL isW (lst s) 1 = K := ⟨_, rfl⟩
  rw [hK] at HBV hkb
  obtain ⟨A, hA⟩ : ∃ A : ByteArray, A = ⟨(wordL (lst s) K).toArray⟩ := ⟨_, rfl⟩
  have hAl : lst A = wordL (lst s) K := by rw [hA, lst_mk]
  have HSM : Hid (∀ W, Calls Tryd.prog 35 #[.string (s.extract 1 K)] W fun e w' => e = .returned (.string A) ∧ RowKit.Below W.heap.size W w') := fun W => by
    have hz : (s.extract 1 K).size ≤ 1000000 := by rw [← lst_size, lst_cut, List.length_drop, List.length_take, lst_size]; omega
    have h := refSmall_any (s.extract 1 K) hz W
    rw [lst_cut] at h
    rw [hA]
    exact h
  rw [← hAl] at HBV
  have hAL : A.toList = lst A := Lib.toList_data A
  have i0 : Lib.hasPrefix (lst s) [60, 33, 45, 45] = isO (lst s) 0 := (isO_pre (lst s) 0 (by decide)).symm
  have i1 : Lib.hasPrefix (lst s) [60, 63] = isO (lst s) 1 := (isO_pre (lst s) 1 (by decide)).symm
  have i3 : Lib.hasPrefix (lst s) [60, 33, 91, 67, 68, 65, 84, 65, 91] = isO (lst s) 3 := (isO_pre (lst s) 3 (by decide)).symm
  have P0 := beg_w s { data := #[60, 33, 45, 45] } [60, 33, 45, 45] rfl
  have P1 := beg_w s { data := #[60, 63] } [60, 63] rfl
  have P2 := beg_w s { data := #[60, 33] } [60, 33] rfl
  have P3 := beg_w s { data := #[60, 33, 91, 67, 68, 65, 84, 65, 91] } [60, 33, 91, 67, 68, 65, 84, 65, 91] rfl
  rw [i0] at P0
  rw [i1] at P1
  rw [i3] at P3
  refine kind_A s hs h0s h60 W0 K (Lib.hid hK) hkb (Lib.hid ?_)
  intros
  refine kind_B s hs W0 W0 (Lib.hid (Below.refl _ _)) K hkb A HSM (Lib.hid fun W hW => ?_) _ _ _ _ _ _ _ _ _ _ _ _ _ _ _ _ _ _ _ _ _ _ _ _ _ _ _ _ _ _ _ _ _ _ _ _ _ _ _ _ _ _ _ _ _ _ _ _ _ _ _ _ _ _ _ _ _ _ _ _ _ _ _ _ _ _ _ _ _ _ _ _ _ _ _ _ _ _ _ _ _ _ _ _ _ _ _ _ _ _ _ _ _ _ _ _ _ _ _ _ _ _ _ _ _ _ _ _ _ _ _ _ _ _ _ _ _ _ _ _ _ _ _ _ _ _ _ _ _ _ _ _ _ _ _ _ _ _ _ _ _ _ _ _ _ _ _ _ _ _ _ _ _ _ _ _ _ _ _ _ _ _ _ _ _ _ _ _ _ _ _ _ _ _ _ _ _ _
  intros
  refine kind_B2 s hs W0 W K hkb A _ (Lib.hid rfl) (Lib.hid ?_) _ _ _ _ _ _ _ _ _ _ _ _ _ _ _ _ _ _ _ _ _ _ _ _ _ _ _ _ _ _ _ _ _ _ _ _ _ _ _ _ _ _ _ _ _ _ _ _ _ _ _ _ _ _ _ _ _ _ _ _ _ _ _ _ _ _ _ _ _ _ _ _ _ _ _ _ _ _ _ _ _ _ _ _ _ _ _ _ _ _ _ _ _ _ _ _ _ _ _ _ _ _ _ _ _ _ _ _ _ _ _ _ _ _ _ _ _ _ _ _ _ _ _ _ _ _ _ _ _ _ _ _ _ _ _ _ _ _ _ _ _ _ _ _ _ _ _ _ _ _ _ _ _ _ _ _ _ _ _ _ _ _ _ _ _ _ _ _ _ _ _ _ _ _ _ _ _
  intros
  refine kind_C s hs W0 W (Lib.hid hW) A _ _ _ _ _ _ (Lib.hid HBV) (by rw [hAL]; rfl) (by rw [hAL]; rfl) (by rw [hAL]; rfl) (by rw [hAL]; rfl) (Lib.hid fun h => by rw [HKD, h]; rfl) (Lib.hid fun hV => ?_) _ _ _ _ _ _ _ _ _ _ _ _ _ _ _ _ _ _ _ _ _ _ _ _ _ _ _ _ _ _ _ _ _ _ _ _ _ _ _ _ _ _ _ _ _ _ _ _ _ _ _ _ _ _ _ _ _ _ _ _ _ _ _ _ _ _ _ _ _ _ _ _ _ _ _ _ _ _ _ _ _ _ _ _ _ _ _ _ _ _ _ _ _ _ _ _ _ _ _ _ _ _ _ _ _ _ _ _ _ _ _ _ _ _ _ _ _ _ _ _ _ _ _ _ _ _ _ _ _ _ _ _ _ _ _ _ _ _ _ _ _ _ _ _ _ _ _ _ _ _ _ _ _ _ _ _ _ _ _ _ _ _ _ _ _ _ _ _ _ _ _ _ _ _ _ _ _
  intros
  refine kind_D0 s hs W0 W (Lib.hid hW) _ (Lib.hid P0) (Lib.hid fun h => by rw [HKD, hV, h]; rfl) (Lib.hid fun h0 => ?_) _ _ _ _ _ _ _ _ _ _ _ _ _ _ _ _ _ _ _ _ _ _ _ _ _ _ _ _ _ _ _ _ _ _ _ _ _ _ _ _ _ _ _ _ _ _ _ _ _ _ _ _ _ _ _ _ _ _ _ _ _ _ _ _ _ _ _ _ _ _ _ _ _ _ _ _ _ _ _ _ _ _ _ _ _ _ _ _ _ _ _ _ _ _ _ _ _ _ _ _ _ _ _ _ _ _ _ _ _ _ _ _ _ _ _ _ _ _ _ _ _ _ _ _ _ _ _ _ _ _ _ _ _ _ _ _ _ _ _ _ _ _ _ _ _ _ _ _ _ _ _ _ _ _ _ _ _ _ _ _ _ _ _ _ _ _ _ _ _ _ _ _ _ _ _ _ _ _ _
  intros
  refine kind_D1 s hs W0 W (Lib.hid hW) _ (Lib.hid P1) (Lib.hid fun h => by rw [HKD, hV, h0, h]; rfl) (Lib.hid fun h1 => ?_) _ _ _ _ _ _ _ _ _ _ _ _ _ _ _ _ _ _ _ _ _ _ _ _ _ _ _ _ _ _ _ _ _ _ _ _ _ _ _ _ _ _ _ _ _ _ _ _ _ _ _ _ _ _ _ _ _ _ _ _ _ _ _ _ _ _ _ _ _ _ _ _ _ _ _ _ _ _ _ _ _ _ _ _ _ _ _ _ _ _ _ _ _ _ _ _ _ _ _ _ _ _ _ _ _ _ _ _ _ _ _ _ _ _ _ _ _ _ _ _ _ _ _ _ _ _ _ _ _ _ _ _ _ _ _ _ _ _ _ _ _ _ _ _ _ _ _ _ _ _ _ _ _ _ _ _ _ _ _ _ _ _ _ _ _ _ _ _ _ _ _ _ _ _ _ _ _ _ _
  intros
  refine kind_D2 s hs W0 W (Lib.hid hW) _ (Lib.hid P2) (Lib.hid (isO_two (lst s))) (Lib.hid fun h => by rw [HKD, hV, h0, h1, h]; rfl) (Lib.hid fun h2 => ?_) _ _ _ _ _ _ _ _ _ _ _ _ _ _ _ _ _ _ _ _ _ _ _ _ _ _ _ _ _ _ _ _ _ _ _ _ _ _ _ _ _ _ _ _ _ _ _ _ _ _ _ _ _ _ _ _ _ _ _ _ _ _ _ _ _ _ _ _ _ _ _ _ _ _ _ _ _ _ _ _ _ _ _ _ _ _ _ _ _ _ _ _ _ _ _ _ _ _ _ _ _ _ _ _ _ _ _ _ _ _ _ _ _ _ _ _ _ _ _ _ _ _ _ _ _ _ _ _ _ _ _ _ _ _ _ _ _ _ _ _ _ _ _ _ _ _ _ _ _ _ _ _ _ _ _ _ _ _ _ _ _ _ _ _ _ _ _ _ _ _ _ _ _ _ _ _ _ _ _
  intros
  refine kind_D3 s hs W0 W (Lib.hid hW) _ (Lib.hid P3) (Lib.hid fun h => by rw [HKD, hV, h0, h1, h2, h]; rfl) (Lib.hid fun h3 => ?_) _ _ _ _ _ _ _ _ _ _ _ _ _ _ _ _ _ _ _ _ _ _ _ _ _ _ _ _ _ _ _ _ _ _ _ _ _ _ _ _ _ _ _ _ _ _ _ _ _ _ _ _ _ _ _ _ _ _ _ _ _ _ _ _ _ _ _ _ _ _ _ _ _ _ _ _ _ _ _ _ _ _ _ _ _ _ _ _ _ _ _ _ _ _ _ _ _ _ _ _ _ _ _ _ _ _ _ _ _ _ _ _ _ _ _ _ _ _ _ _ _ _ _ _ _ _ _ _ _ _ _ _ _ _ _ _ _ _ _ _ _ _ _ _ _ _ _ _ _ _ _ _ _ _ _ _ _ _ _ _ _ _ _ _ _ _ _ _ _ _ _ _ _ _ _ _ _ _ _
  intros
  exact kind_tail s hs W0 W hW h0s hx0 (Lib.hid (by rw [HKD, hV, h0, h1, h2, h3]; rfl)) _ _ _ _ _ _ _ _ _ _ _ _ _ _ _ _ _ _ _ _ _ _ _ _ _ _ _ _ _ _ _ _ _ _ _ _ _ _ _ _ _ _ _ _ _ _ _ _ _ _ _ _ _ _ _ _ _ _ _ _ _ _ _ _ _ _ _ _ _ _ _ _ _ _ _ _ _ _ _ _ _ _ _ _ _ _ _ _ _ _ _ _ _ _ _ _ _ _ _ _ _ _ _ _ _ _ _ _ _ _ _ _ _ _ _ _ _ _ _ _ _ _ _ _ _ _ _ _ _ _ _ _ _ _ _ _ _ _ _ _ _ _ _ _ _ _ _ _ _ _ _ _ _ _ _ _ _ _ _ _ _ _ _ _ _ _ _ _ _ _ _ _ _ _ _ _ _ _ _
end Go.Proofs.YtdnnjakggopdoaaDoor
