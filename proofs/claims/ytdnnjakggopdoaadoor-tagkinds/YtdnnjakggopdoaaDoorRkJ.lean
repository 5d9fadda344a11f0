/-
  PROVED: the walk of the document's Kind: any other tag that stands alone on its line. Conditions: the text has at most 1000000 bytes.
-/
import Derived.Test.YtdnnjakggopdoaaDoorRkHelp
namespace Go.Proofs.YtdnnjakggopdoaaDoor
open Go.ChangeShapes Go.WideShapes Go.ChangeAt Go.RowKit Go.Sort
set_option linter.unusedVariables false
set_option linter.unusedSimpArgs false

set_option maxHeartbeats 64000000 in
set_option maxRecDepth 100000 in
theorem kind_J (s : ByteArray) (hs : s.size ≤ 1000000) (W0 W : World) (B2 : Hid (RowKit.Below W0.heap.size W0 W)) (HKD : Hid (kindL (lst s) = if 0 < openL (lst s) ∧ ((lst s).drop (openL (lst s))).all isB = true then 7 else 0)) (c1 c2 c3 c4 c5 c6 c7 c8 c9 c10 c11 c12 c13 c14 c15 c16 c17 c18 c19 c20 c21 c22 c23 c24 c25 c26 c27 c28 c29 c30 c31 c32 c33 c34 c35 c36 c37 c38 c39 c40 c41 c42 c43 c44 c45 c46 c47 c48 c49 c50 c51 c52 c53 c54 c55 c56 c57 c58 c59 c60 c61 c62 c63 c64 c65 c66 c67 c68 c69 c70 c71 c72 c73 c74 c75 c76 c77 c78 c79 c80 c81 c82 c83 c84 c85 c86 c87 c88 c89 c90 c91 c92 c93 c94 c95 c96 c97 c98 c99 c100 c101 c102 c103 c104 c105 c106 c107 c108 c109 c110 c111 c112 c113 c114 c115 c116 c117 c118 c119 c120 c121 c122 c123 c124 c125 c126 c127 c128 c129 c130 c131 c132 c133 c134 c135 c136 c137 c138 c139 c140 c141 c142 c143 c144 c145 c146 c147 c148 c149 c150 c151 c152 c153 c154 c155 c156 c157 c158 c159 c160 c161 c162 c163 c164 c165 c166 c167 c168 c169 c170 c171 c172 c173 c174 c175 c176 c177 c178 c179 : Value) : Code.wp Tryd.prog (kindAt 17) (bodyPost Tryd.prog Tryd.f14 (KPost s W0)) ⟨(.string s :: c1 :: c2 :: c3 :: c4 :: c5 :: c6 :: c7 :: c8 :: c9 :: c10 :: c11 :: c12 :: c13 :: c14 :: c15 :: c16 :: c17 :: c18 :: c19 :: c20 :: c21 :: c22 :: c23 :: c24 :: c25 :: c26 :: c27 :: c28 :: c29 :: c30 :: c31 :: c32 :: c33 :: c34 :: c35 :: c36 :: c37 :: c38 :: c39 :: c40 :: c41 :: c42 :: c43 :: c44 :: c45 :: c46 :: c47 :: c48 :: c49 :: c50 :: c51 :: c52 :: c53 :: c54 :: c55 :: c56 :: c57 :: c58 :: c59 :: c60 :: c61 :: c62 :: c63 :: c64 :: c65 :: c66 :: c67 :: c68 :: c69 :: c70 :: c71 :: c72 :: c73 :: c74 :: c75 :: c76 :: c77 :: c78 :: c79 :: c80 :: c81 :: c82 :: c83 :: c84 :: c85 :: c86 :: c87 :: c88 :: c89 :: c90 :: c91 :: c92 :: c93 :: c94 :: c95 :: c96 :: c97 :: c98 :: c99 :: c100 :: c101 :: c102 :: c103 :: c104 :: c105 :: c106 :: c107 :: c108 :: c109 :: c110 :: c111 :: c112 :: c113 :: c114 :: c115 :: c116 :: c117 :: c118 :: c119 :: c120 :: c121 :: c122 :: c123 :: c124 :: c125 :: c126 :: c127 :: c128 :: c129 :: c130 :: c131 :: c132 :: c133 :: c134 :: c135 :: c136 :: c137 :: c138 :: c139 :: c140 :: c141 :: c142 :: c143 :: c144 :: c145 :: c146 :: c147 :: c148 :: c149 :: c150 :: c151 :: c152 :: c153 :: c154 :: c155 :: c156 :: c157 :: c158 :: c159 :: c160 :: c161 :: c162 :: c163 :: c164 :: c165 :: c166 :: c167 :: c168 :: c169 :: c170 :: c171 :: c172 :: c173 :: c174 :: c175 :: c176 :: c177 :: c178 :: c179 :: []).toArray, []⟩ W := by
  have HO := Lib.hid (refOpen_any s hs)
  have hol := open_le (lst s)
  rw [lst_size] at hol
  generalize openL (lst s) = on at *
  conv => arg 2; whnf
  by_cases hon : on = 0
  · subst hon
    go_wp2_with fail
    refine (HO.out _).mono ?_
    rintro e W3 ⟨rfl, hb⟩
    have B3 := Lib.hid (chain (Nat.le_refl _) B2.out hb)
    clear hb
    go_wp2_with fail
    go_ret
    exact ⟨ret_int (by rw [HKD.out, if_neg (fun h => by omega)]), B3.out⟩
  · have qo : ((on : Int) == 0) = false := by rw [beq_eq_false_iff_ne]; omega
    have HK7 : Hid (kindL (lst s) = if ((lst s).drop on).all isB = true then 7 else 0) := show _ = _ from by
      rw [HKD.out]
      by_cases hall : ((lst s).drop on).all isB = true
      · rw [if_pos hall, if_pos ⟨by omega, hall⟩]
      · rw [if_neg hall, if_neg (fun h => hall h.2)]
    clear HKD
    go_wp2_with fail
    refine (HO.out _).mono ?_
    rintro e W3 ⟨rfl, hb⟩
    have B3 := Lib.hid (chain (Nat.le_refl _) B2.out hb)
    clear hb HO
    go_wp2_with fail
    go_loopw [8] (fun v wr => LRel s on W3 v wr) (fun v _ => s.size - (intOf v).toNat)
    case atStart => exact ⟨on, hol, rfl, rfl, rfl⟩
    case round =>
      obtain ⟨j, hj, rfl, hl, rfl⟩ := hrel
      have HL := Lib.hid hl
      clear hl
      by_cases hlt : j < s.size
      · have hx := Lib.data_getElem? s j hlt
        have HS := Lib.hid (all_step (lst s) j _ hx)
        clear hx
        by_cases g1 : (s[j]'hlt) = 32
        · have q1 : (((s[j]'hlt).toNat : Int) != 32) = false := by rw [g1]; rfl
          have HB : Hid (((lst s).drop (j + 1)).all isB = ((lst s).drop on).all isB) := show _ = _ from by rw [← HL.out, HS.out, g1]; rfl
          clear g1
          go_wp2_with fail
          go_roundw
          case rel => exact ⟨j + 1, by omega, by go_num, HB.out, rfl⟩
          case measure => simp [intOf]; omega
        · have q1 : (((s[j]'hlt).toNat : Int) != 32) = true := u8_ne _ 32 (by omega) g1
          by_cases g2 : (s[j]'hlt) = 9
          · have q2 : (((s[j]'hlt).toNat : Int) != 9) = false := by rw [g2]; rfl
            have HB : Hid (((lst s).drop (j + 1)).all isB = ((lst s).drop on).all isB) := show _ = _ from by rw [← HL.out, HS.out, g2]; rfl
            clear g1 g2
            go_wp2_with fail
            go_roundw
            case rel => exact ⟨j + 1, by omega, by go_num, HB.out, rfl⟩
            case measure => simp [intOf]; omega
          · have q2 : (((s[j]'hlt).toNat : Int) != 9) = true := u8_ne _ 9 (by omega) g2
            have HB : Hid (((lst s).drop on).all isB = false) := show _ = _ from by
              rw [← HL.out, HS.out]
              unfold isB
              simp [g1, g2]
            clear g1 g2
            go_wp2_with fail
            go_ret
            exact ⟨ret_int (by rw [HK7.out, HB.out]; rfl), B3.out⟩
      · have HB : Hid (((lst s).drop on).all isB = true) := show _ = _ from by
          rw [← HL.out, List.drop_of_length_le (by rw [lst_size]; omega)]
          rfl
        go_wp2_with fail
        go_ret
        exact ⟨ret_int (by rw [HK7.out, HB.out]; rfl), B3.out⟩
end Go.Proofs.YtdnnjakggopdoaaDoor
