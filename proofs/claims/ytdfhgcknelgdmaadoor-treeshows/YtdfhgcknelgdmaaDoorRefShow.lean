/-
  PROVED: contract of the document's own Show: a tree as a text, or ErrTree. Conditions: the tree has at most 4000 nodes, its texts and slices at most 10000 elements; its numbers are integers of 64 bits.
-/
import Derived.Test.YtdfhgcknelgdmaaDoorRsRound
import Derived.Test.YtdfhgcknelgdmaaDoorRsNames
namespace Go.Proofs.YtdfhgcknelgdmaaDoor
open Go.ChangeShapes Go.WideShapes Go.ChangeAt Go.RowKit Go.Sort
set_option linter.unusedVariables false
set_option linter.unusedSimpArgs false

/-- What the loop over the nodes goes by. -/
def ShRel (T : List Nd) (sp : Bool) (W : World) (f : Nat) (v8 v9 : Value) (wr : World) : Prop :=
  ∃ (i : Nat) (acc : List UInt8), i + f = T.length ∧ v9 = .int .i64 i ∧ acc ++ showF (parP T) sp i (T.drop i) = showL T sp ∧ acc.length ≤ 300000 * i ∧ wr.ownsRow W.heap.size 5 1 v8 acc.length (Lib.byteCells acc) ∧ v8 ≠ .slice none 0 0 ∧ Below W.heap.size W wr
set_option maxRecDepth 100000 in
set_option maxHeartbeats 16000000 in
theorem refShow_any (A : Option Addr) (c : Nat) (T : List Nd) (hT : Bd T) (hL : T.length ≤ 4000) (hN : ∀ n ∈ T, NumN n) (sp : Bool) (w : World) (h : Tr w w.heap.size A T) :
    Calls Tryd.prog 18 #[.agg #[.slice A T.length c], .bool sp] w (ShowE T sp w) := by
  obtain ⟨i0, hi0, hz0, hz1, hz2⟩ := info_parts Tryd.info5
  have HT := Lib.hid hT
  have HNN := Lib.hid hN
  have HA := Lib.hid h
  have HP : Hid (∀ W, Below w.heap.size w W → Calls Tryd.prog 15 #[.agg #[.slice A T.length c]] W (AnsI W (parP T))) := fun W hb => rparents_any A c T hT hL W ((h.below hb).more hb.size)
  clear hT hN h
  by_cases hr : parP T = []
  · have HV : Hid (∀ w', Below w.heap.size w w' → ShowE T sp w (.returned (.tuple #[.string { data := #[] }, .int .i64 30])) w') := fun w' hb => ⟨by rw [if_pos hr, if_pos hr], hb⟩
    rw [hr] at HP
    clear hr
    go_enter Tryd.func18, Tryd.ntmps18
    go_wp2_with fail
    refine (HP.out _ ((Below.refl _ _).alloc (Nat.le_refl _) _)).mono ?_
    rintro e w1 ⟨PA, pc, rfl, _, hb1⟩
    have HB : Hid (Below w.heap.size w w1) := ((Below.refl _ _).alloc (Nat.le_refl _) _).trans (hb1.mono (by simp))
    clear hb1
    go_wp2_with fail
    exact bodyPost_ret (v := .tuple #[.string { data := #[] }, .int .i64 30]) (by simp [results, Tryd.results18, go_sem]) rfl (HV.out _ HB.out)
  · have HRight := Lib.hid hr
    obtain ⟨hgn, hPl, _, _⟩ := parP_right hr
    have HV : Hid (∀ w', Below w.heap.size w w' → ShowE T sp w (.returned (.tuple #[.string ⟨(showL T sp).toArray⟩, .int .i64 0])) w') := fun w' hb => ⟨by rw [if_neg hr, if_neg hr], hb⟩
    have hP0 : 0 < (parP T).length := List.length_pos_iff.2 hr
    have HPar : Hid (∀ (j : Nat), 0 < j → j < (parP T).length → ∃ q : Nat, (parP T)[j]? = some (q : Int) ∧ q < j) := fun j h1 h2 => by
      obtain ⟨q, n, _, h3, h4, _⟩ := (gone_facts hgn).2.1 j (by omega) h2
      exact ⟨q, h4, h3⟩
    have HSh : Hid (showL T sp = showF (parP T) sp 0 T) := rfl
    obtain ⟨P, hP⟩ : ∃ P, P = parP T := ⟨_, rfl⟩
    rw [← hP] at HP hPl hP0 HPar
    have HF0 : Hid (P[0]? = some (-1)) := by show _ = _; rw [hP]; exact (gone_facts hgn).2.2
    have HPe := Lib.hid hP
    have HPl := Lib.hid hPl
    have q0 : ((P.length : Int) == 0) = false := by rw [beq_eq_false_iff_ne]; omega
    have H0 : Hid (Holds (w.alloc (.cells #[.slice A T.length c] 24)) w.heap.size 24 #[.slice A T.length c]) := Holds.made w 24 _
    clear hr hgn hP hPl
    go_enter Tryd.func18, Tryd.ntmps18
    go_wp2_with fail
    refine (HP.out _ ((Below.refl _ _).alloc (Nat.le_refl _) _)).mono ?_
    rintro e w1 ⟨PA, pc, rfl, hI, hb1⟩
    have J1 : Hid (Holds w1 w.heap.size 24 #[.slice A T.length c]) := H0.out.under hb1 H0.out.lt
    have HB1 : Hid (Below w.heap.size w w1) := ((Below.refl _ _).alloc (Nat.le_refl _) _).trans (hb1.mono (by simp))
    have HI1 := Lib.hid hI
    have hz1 : w.heap.size < w1.heap.size := J1.out.lt
    clear hb1 hI HP H0
    go_upto_if 17 with fail
    go_cut [4] from 17 to 17 (fun v4 wx => v4 = .string ⟨#[]⟩ ∧ w1 = wx)
    case first =>
      go_wp2_with fail
      go_meet
      exact ⟨rfl, rfl⟩
    case rest =>
    obtain ⟨rfl, rfl⟩ := hcut
    apply_assumption
    refine rs_names w1 _ _ _ _ _ _ _ _ _ _ _ _ _ _ _ _ _ _ _ _ _ _ _ _ _ _ _ _ _ _ _ _ _ _ _ _ _ _ _ _ _ _ _ _ _ _ _ _ _ _ _ _ _ _ _ _ _ _ _ _ _ _ _ _ _ _ _ _ _ _ _ _ _ _ _ _ _ _ _ _ _ _ _ _ _ _ _ _ _ _ _ _ _ _ _ _ _ _ _ _ _ _ _ _ _ _ _ _ _ _ _ _ _ _ _ _ (Lib.hid ?_)
    intro c18 W hNm hBW hW7
    have HNm := Lib.hid hNm
    have BW : Hid (Below w.heap.size w W) := HB1.out.trans (hBW.mono (by omega))
    have J2 : Hid (Holds W w.heap.size 24 #[.slice A T.length c]) := J1.out.under hBW hz1
    have HI2 : Hid (Is W W.heap.size PA P) := HI1.out.on hBW
    clear hNm hBW J1 HB1 HI1
    conv => arg 2; whnf
    go_wp2_with fail
    go_loopg [8, 9] T.length (fun f v8 v9 wr => ShRel T sp W f v8 v9 wr)
    case atStart => exact ⟨0, [], by omega, rfl, by rw [HSh.out, List.drop_zero]; rfl, by simp, own_empty W W.heap.size 5 1 (Nat.le_refl _), (fun h => by cases h), (Below.refl _ _).alloc (Nat.le_refl _) _⟩
    case round =>
      obtain ⟨i, acc, hi, rfl, hacc, hal, hown, hnil, hB⟩ := hrel
      have HAcc := Lib.hid hacc
      have HB := Lib.hid hB
      have HOw := Lib.hid hown
      have HNil := Lib.hid hnil
      have hzr := hB.size
      have HBw : Hid (Below w.heap.size w wr) := BW.out.trans (hB.mono (by omega))
      have a1 : wr.cell? ⟨w.heap.size, 0, none⟩ = some (.slice A T.length c) := (J2.out.under hB (by omega)).at 0
      clear hacc hB hown hnil
      by_cases hlt : i < T.length
      · obtain ⟨n, hti⟩ : ∃ n, T[i]? = some n := ⟨_, List.getElem?_eq_getElem hlt⟩
        obtain ⟨b', o', kv', pv', e', hb', hK, KA, kc, PA2, pc2, rfl, _, _, rfl, _, _⟩ := (HA.out.below HBw.out) i _ hti
        have hmem := List.mem_of_getElem? hti
        obtain ⟨m1, m2, m3, m4, m5⟩ := HT.out.2 _ hmem
        have HNum := Lib.hid (HNN.out _ hmem)
        have HD0 : Hid (T.drop i = n :: T.drop (i + 1)) := by
          obtain ⟨h1, rfl⟩ := List.getElem?_eq_some_iff.1 hti
          exact List.drop_eq_getElem_cons h1
        obtain ⟨_, kd1, kd2, _⟩ := right_node HRight.out hti
        subst e'
        clear hti hmem
        obtain ⟨kn, hkn⟩ : ∃ kn : Nat, n.k = (kn : Int) := ⟨n.k.toNat, by omega⟩
        have hkn19 : kn < 19 := by omega
        have HK := Lib.hid hK
        have hiP : i < P.length := by have := HPl.out; omega
        obtain ⟨y, hy⟩ : ∃ y, P[i]? = some y := ⟨_, List.getElem?_eq_getElem hiP⟩
        obtain ⟨gp, op, rfl, hgp, _⟩ := HI2.out i y hy
        have HYc : Hid (y < 0 ∨ ∃ j : Nat, y = (j : Int) ∧ j < P.length) := by
          show _ ∨ _
          rcases Nat.eq_zero_or_pos i with rfl | hjp
          · have := HF0.out; rw [hy] at this; have := Option.some.inj this; exact Or.inl (by omega)
          · obtain ⟨q, h1, h2⟩ := HPar.out i hjp hiP
            rw [hy] at h1
            exact Or.inr ⟨q, Option.some.inj h1, by omega⟩
        have HPc : Hid (∀ (j : Nat) (x : Int), P[j]? = some x → W.cell? ⟨gp, op + j, none⟩ = some (.int .i64 x)) := fun j x hx => by
          obtain ⟨b, o, e, _, hc⟩ := HI2.out j x hx
          injection e with e
          injection e with e1 e2
          subst e1 e2
          exact hc
        obtain ⟨D, hD⟩ : ∃ D, D = depA P i := ⟨_, rfl⟩
        have HR0 : Hid (remK P y = D) := by show _ = _; rw [hD]; exact rem_start HF0.out HPar.out hy
        have hDi : D ≤ i := by rw [hD]; exact dep_le HPar.out i hiP
        have HLL : Hid (acc ++ (List.replicate D 32 ++ (lineL n sp ++ showF (parP T) sp (i + 1) (T.drop (i + 1)))) = showL T sp) := by
          show _ = _
          have := HAcc.out
          rw [HD0.out, showF, ← HPe.out, ← hD] at this
          rw [← HPe.out]
          exact this
        have hlen := lineL_len n HNum.out m1 m2 m3 sp
        have HLP := Lib.hid (line_parts n sp)
        rw [line_parts] at hlen
        obtain ⟨A1, hA1⟩ : ∃ A1, A1 = acc ++ List.replicate D 32 := ⟨_, rfl⟩
        obtain ⟨S1, hS1⟩ : ∃ S1, S1 = (if sp = true then 32 :: (Lib.itoa n.f ++ (45 :: Lib.itoa n.t)) else []) := ⟨_, rfl⟩
        obtain ⟨S2, hS2⟩ : ∃ S2, S2 = (if n.l = 0 then [] else 32 :: 35 :: Lib.itoa n.l) := ⟨_, rfl⟩
        obtain ⟨S3, hS3⟩ : ∃ S3, S3 = (if n.g = true then ([32, 116, 105, 103, 104, 116] : List UInt8) else []) := ⟨_, rfl⟩
        have hHd : headL n sp = nameL (kn : Int) ++ (S1 ++ (S2 ++ S3)) := by rw [headL, hkn, hS1, hS2, hS3]
        obtain ⟨X1, hX1⟩ : ∃ X, X = quoP 116 (lst n.x) := ⟨_, rfl⟩
        obtain ⟨X2, hX2⟩ : ∃ X, X = quoP 108 (lst n.u) := ⟨_, rfl⟩
        obtain ⟨X3, hX3⟩ : ∃ X, X = quoP 104 (lst n.h) := ⟨_, rfl⟩
        rw [← hX1, ← hX2, ← hX3, hHd] at hlen HLP
        simp only [List.length_append, List.length_singleton] at hlen
        have HEnd : Hid ((A1 ++ (nameL (kn : Int) ++ S1 ++ S2 ++ S3) ++ X1 ++ X2 ++ X3 ++ [10]) ++ showF (parP T) sp (i + 1) (T.drop (i + 1)) = showL T sp) := by
          show _ = _
          rw [← HLL.out, HLP.out, hA1]
          simp [List.append_assoc]
        have hEl : (A1 ++ (nameL (kn : Int) ++ S1 ++ S2 ++ S3) ++ X1 ++ X2 ++ X3 ++ [10]).length ≤ 300000 * (i + 1) := by
          rw [hA1]
          simp only [List.length_append, List.length_replicate, List.length_singleton]
          omega
        go_upto_block 1 with fail
        refine wp_block ?_
        refine rs_round W n kn KA kc PA2 pc2 sp w.heap.size gp op P.length pc w1.heap.size i wr P y D acc A1 S1 S2 S3 X1 X2 X3 (by omega) (by omega) (Lib.hid hA1.symm) HR0 hgp HPc rfl HF0 HPar HYc hy HNum hW7 HNm hkn19 hkn (Lib.hid hS1) (Lib.hid hS2) (Lib.hid hS3) (Lib.hid hX1) (Lib.hid hX2) (Lib.hid hX3) m1 m2 m3 hlen T.length c b' o' hlt a1 HK _ HOw HNil HB _ _ _ _ _ _ _ _ _ _ _ _ _ _ (Lib.hid ?_) _ _ _ _ _ _ _ _ _ _ _ _ _ _ _ _ _ _ _ _ _ _ _ _ _ _ _ _ _ _ _ _ _ _ _ _ _ _ _ _ _ _ _ _ _ _ _ _ _ _ _ _ _ _ _ _ _ _ _ _ _ _ _ _ _ _ _ _ _ _ _ _ _ _ _ _ _ _ _ _ _ _ _ _ _ _ _ _ _ _ _ _ _ _ _ _
        intro c11 c20 c21 c22 c23 c24 c25 c26 c27 c28 c29 c30 c31 c32 c33 c34 c35 c36 c37 c38 c39 c40 c41 c42 c43 c44 c45 c46 c47 c48 c49 c50 c51 c52 c53 c54 c55 c56 c57 c58 c59 c60 c61 c62 c63 c64 c65 c66 c67 c68 c69 c70 c71 c72 c73 c74 c75 c76 c77 c78 c79 c80 c81 c82 c83 c84 c85 c86 c87 c88 c89 c90 c91 c92 c93 c94 c95 c96 c97 c98 c99 c100 c101 c102 c103 c104 c105 c106 c107 c108 c109 c110 c111 c112 c12 v8 wx hS
        have SS := Lib.hid hS
        simp only [Exit.inBlock, Exit.then]
        clear hS hkn hy hS1 hS2 hS3 hX1 hX2 hX3 hA1 hlen
        generalize (A1 ++ (nameL (kn : Int) ++ S1 ++ S2 ++ S3) ++ X1 ++ X2 ++ X3 ++ [10]) = acc2 at *
        apply_assumption
        go_wp2_with fail
        go_roundg (T.length - (i + 1))
        case measure => omega
        case rel => exact ⟨i + 1, acc2, by omega, by go_num, HEnd.out, hEl, SS.out.own, SS.out.ne, SS.out.bl⟩
      · have HE : Hid (acc = showL T sp) := by show _ = _; have := HAcc.out; rw [List.drop_eq_nil_of_le (by omega)] at this; simpa [showF] using this
        have hown := HOw.out
        obtain ⟨a, cc, rfl, hconv⟩ := own_string hown HNil.out
        go_wp2_with fail
        refine bodyPost_ret (v := .tuple #[.string ⟨acc.toArray⟩, .int .i64 0]) (by simp [results, Tryd.results18, go_sem]) rfl ?_
        rw [HE.out]
        exact HV.out _ HBw.out
end Go.Proofs.YtdfhgcknelgdmaaDoor
