/-
  PROVED: contract of tree.Show: it answers 'showL' of a right tree, ErrTree of another one. Conditions: the tree is small and its numbers are a machine's; the tables lie as their initialisers lay them.
-/
import Derived.Test.YtdfhgcknelgdmaaDoorWriteLine
import Derived.Test.YtdfhgcknelgdmaaDoorDepths
import Derived.Test.YtdfhgcknelgdmaaDoorRightPure
namespace Go.Proofs.YtdfhgcknelgdmaaDoor
open Go.ChangeShapes Go.WideShapes Go.ChangeAt Go.RowKit Go.Sort
set_option linter.unusedVariables false

theorem maxOf_ge (zs : List Int) : ∀ k, 0 < k → k ≤ zs.length → ∀ j, j < k → zs.getD j 0 ≤ Lib.maxOf (zs.take k)
  | 0, h, _, _, _ => by omega
  | k + 1, _, hk, j, hj => by
    rcases Nat.eq_zero_or_pos k with rfl | h0
    · rw [Nat.zero_add, Lib.maxOf_one]
      obtain rfl : j = 0 := by omega
      exact Int.le_refl _
    · rw [Lib.maxOf_step zs k h0 (by omega)]
      rcases Nat.lt_or_ge j k with q | q
      · have := maxOf_ge zs k h0 (by omega) j q
        omega
      · obtain rfl : j = k := by omega
        omega
theorem maxOf_le (zs : List Int) (b : Int) (h : ∀ j, j < zs.length → zs.getD j 0 ≤ b) : ∀ k, 0 < k → k ≤ zs.length → Lib.maxOf (zs.take k) ≤ b
  | 0, h0, _ => by omega
  | k + 1, _, hk => by
    rcases Nat.eq_zero_or_pos k with rfl | h0
    · rw [Nat.zero_add, Lib.maxOf_one]; exact h 0 (by omega)
    · rw [Lib.maxOf_step zs k h0 (by omega)]
      have h1 := maxOf_le zs b h k h0 (by omega)
      have h2 := h k (by omega)
      omega
theorem repeat_take (m c : Nat) (h : c ≤ m) : (Lib.repeatL [32] m).take c = List.replicate c 32 := by
  have := Lib.repeatL_take [32] m c h
  simp only [List.length_singleton, Nat.mul_one] at this
  rw [this]
  clear this h
  induction c with
  | zero => rfl
  | succ c ih => rw [Lib.repeatL, ih, List.replicate_succ]; rfl
theorem lst_head (s : ByteArray) (n : Nat) : lst (s.extract 0 n) = (lst s).take n := by simp [lst]

theorem nameL_len (k : Int) : (nameL k).length ≤ 6 := by
  unfold nameL
  generalize k.toNat = m
  rcases m with _ | _ | _ | _ | _ | _ | _ | _ | _ | _ | _ | _ | _ | _ | _ | _ | _ | _ | _ | m <;> simp [List.getD]
theorem lineL_len (n : Nd) (hN : NumN n) (hx : n.x.size ≤ 10000) (hu : n.u.size ≤ 10000) (hh : n.h.size ≤ 10000) (sp : Bool) : (lineL n sp).length ≤ 200000 := by
  have h0 : (spanL n sp).length ≤ 60 := by
    unfold spanL; split
    · have h1 := Lib.itoa_length_le n.f hN.1.1 hN.1.2; have h2 := Lib.itoa_length_le n.t hN.2.1.1 hN.2.1.2; simp; omega
    · simp
  have h1 : (levL n).length ≤ 60 := by
    unfold levL; split
    · simp
    · have h1 := Lib.itoa_length_le n.l hN.2.2.1 hN.2.2.2; omega
  have h2 : (tigL n).length ≤ 60 := by unfold tigL; split <;> simp
  have h3 := quoL_len (lst n.x)
  have h4 := quoL_len (lst n.u)
  have h5 := quoL_len (lst n.h)
  rw [lst_size] at h3 h4 h5
  have hk := nameL_len n.k
  have t0 := toldL_len [] (spanL n sp)
  have t1 := toldL_len [35] (levL n)
  have t2 := toldL_len [] (tigL n)
  have t3 := toldL_len [116] (quoL (lst n.x))
  have t4 := toldL_len [108] (quoL (lst n.u))
  have t5 := toldL_len [104] (quoL (lst n.h))
  simp only [List.length_nil, List.length_singleton] at t0 t1 t2 t3 t4 t5
  unfold lineL
  simp only [List.length_append, List.length_singleton]
  omega

def VRel (T : List Nd) (sp : Bool) (b : Nat) (w : World) (v : Value) (wr : World) : Prop :=
  ∃ (i : Nat) (acc : List UInt8), i ≤ T.length ∧ v = .int .i64 i ∧ Lib.IsBuilderF 58 5 b b (Lib.byteCells acc) wr ∧ acc ++ showF (parP T) sp i (T.drop i) = showL T sp ∧ acc.length ≤ 300000 * i ∧ Below b w wr

/-- What Show answers. -/
def ShowE (T : List Nd) (sp : Bool) (w : World) (e : Ending) (w' : World) : Prop :=
  e = .returned (.tuple #[.string ⟨(if parP T = [] then [] else showL T sp).toArray⟩, .int .i64 (if parP T = [] then 30 else 0)]) ∧ Below w.heap.size w w'

set_option maxRecDepth 100000 in
set_option maxHeartbeats 16000000 in
theorem show_any (A : Option Addr) (c : Nat) (T : List Nd) (hT : Bd T) (hN : ∀ n ∈ T, NumN n) (sp : Bool) (w : World) (h : Tr w w.heap.size A T) (hg : Glob w) :
    Calls Tryd.prog 17 #[.agg #[.slice A T.length c], .bool sp] w (ShowE T sp w) := by
  have hl : T.length ≤ 10000 := hT.1
  have HT := Lib.hid hT
  have HNN := Lib.hid hN
  have HA := Lib.hid h
  have HGl := Lib.hid hg
  have hg5 := hg.sz
  have HP : Hid (∀ W, Below w.heap.size w W → Calls Tryd.prog 14 #[.agg #[.slice A T.length c]] W (AnsI W (parP T))) := fun W hb => parents_any A c T hT W ((h.below hb).more hb.size)
  clear hT hN h hg
  by_cases hr : parP T = []
  · have HV : Hid (∀ w', Below w.heap.size w w' → ShowE T sp w (.returned (.tuple #[.string { data := #[] }, .int .i64 30])) w') := fun w' hb => ⟨by rw [if_pos hr, if_pos hr], hb⟩
    rw [hr] at HP
    clear hr
    go_enter Tryd.func17, Tryd.ntmps17
    go_wp2_with fail
    refine (HP.out _ ((Below.refl _ _).alloc (Nat.le_refl _) _)).mono ?_
    rintro e w1 ⟨PA, pc, rfl, _, hb1⟩
    have HB : Hid (Below w.heap.size w w1) := ((Below.refl _ _).alloc (Nat.le_refl _) _).trans (hb1.mono (by simp))
    clear hb1
    go_wp2_with fail
    exact bodyPost_ret (v := .tuple #[.string { data := #[] }, .int .i64 30]) (by simp [results, Tryd.results17, go_sem]) rfl (HV.out _ HB.out)
  · have HRight := Lib.hid hr
    obtain ⟨hgn, hPl, _, _⟩ := parP_right hr
    have HV : Hid (∀ w', Below w.heap.size w w' → ShowE T sp w (.returned (.tuple #[.string ⟨(showL T sp).toArray⟩, .int .i64 0])) w') := fun w' hb => ⟨by rw [if_neg hr, if_neg hr], hb⟩
    have hP0 : 0 < (parP T).length := List.length_pos_iff.2 hr
    have HPar : Hid (∀ (j : Nat), 0 < j → j < (parP T).length → ∃ q : Nat, (parP T)[j]? = some (q : Int) ∧ q < j) := fun j h1 h2 => by
      obtain ⟨q, n, _, h3, h4, _⟩ := (gone_facts hgn).2.1 j (by omega) h2
      exact ⟨q, h4, h3⟩
    obtain ⟨P, hP⟩ : ∃ P, P = parP T := ⟨_, rfl⟩
    rw [← hP] at HP hPl hP0 HPar
    have HPe := Lib.hid hP
    have HSh : Hid (showL T sp = showF P sp 0 T) := by show _ = _; rw [hP]; rfl
    obtain ⟨H1, hH1⟩ : ∃ H1, H1 = (w.alloc (.cells #[.slice A T.length c] 24)) := ⟨_, rfl⟩
    clear hr hgn hP
    go_enter Tryd.func17, Tryd.ntmps17
    go_wp2_with fail
    refine (HP.out _ ((Below.refl _ _).alloc (Nat.le_refl _) _)).mono ?_
    rintro e w1 ⟨PA, pc, rfl, hI, hb1⟩
    have J1 : Hid (Holds w1 w.heap.size 24 #[.slice A T.length c]) := (Holds.made w 24 _).under hb1 (by simp)
    have HB1 : Hid (Below w.heap.size w w1) := ((Below.refl _ _).alloc (Nat.le_refl _) _).trans (hb1.mono (by simp))
    have HI1 := Lib.hid hI
    have hz1 : w.heap.size < w1.heap.size := J1.out.lt
    have q0 : ((P.length : Int) == 0) = false := by rw [beq_eq_false_iff_ne]; omega
    clear hb1 hI HP hH1
    have HLen := Lib.hid hPl
    have hP1 : P.length ≤ 10000 := by omega
    clear hPl
    go_wp2_with fail
    refine (depths_any PA pc P hP0 hP1 HPar.out _ HI1.out).mono ?_
    rintro e w2 ⟨g, rfl, hI2, hb2⟩
    have J2 := Lib.hid (J1.out.under hb2 hz1)
    have HB2 : Hid (Below w.heap.size w w2) := HB1.out.trans (hb2.mono (by omega))
    have HI2 := Lib.hid hI2
    have hz2 := hb2.size
    have HD : Hid (∀ j, j < P.length → w2.cell? ⟨g, j, none⟩ = some (.int .i64 (depA P j))) := fun j hj => by
      obtain ⟨b, o, e, _, hc⟩ := hI2 j _ (depI_at P P.length j hj)
      injection e with e
      injection e with e1 e2
      subst e1 e2
      rw [Nat.zero_add] at hc
      exact hc
    have hgl : g < w2.heap.size := World.block_lt_of_cell? _ _ (HD.out 0 hP0)
    have HM : Hid (∀ W, Below w2.heap.size w2 W → Calls Tryd.prog 31 #[.slice (some ⟨g, 0, none⟩) P.length P.length] W fun e w' => e = .returned (.int .i64 (Lib.maxOf ((depI P P.length).take P.length))) ∧ w' = W) := fun W hb => by
      refine Tryd.max_any g 0 P.length P.length (depI P P.length) W hP0 (by rw [depI_len]; exact Nat.le_refl _) (by omega) fun j hj => ?_
      rw [depI_len] at hj
      rw [Nat.zero_add, show (depI P P.length).getD j 0 = (depA P j : Int) by simp [List.getD, depI_at P P.length j hj]]
      exact (hb.cell (p := ⟨g, j, none⟩) hgl).trans (HD.out j hj)
    have hdm : ∀ j, j < P.length → (depA P j : Int) ≤ Lib.maxOf ((depI P P.length).take P.length) := fun j hj => by
      have := maxOf_ge (depI P P.length) P.length hP0 (by rw [depI_len]; exact Nat.le_refl _) j hj
      rw [show (depI P P.length).getD j 0 = (depA P j : Int) by simp [List.getD, depI_at P P.length j hj]] at this
      exact this
    have hdj : ∀ j, j < P.length → depA P j ≤ j := by
      intro m
      induction m using Nat.strongRecOn with
      | _ m ih =>
        intro hm
        rcases Nat.eq_zero_or_pos m with rfl | hmp
        · exact Nat.le_refl _
        · obtain ⟨r, hr, hrm⟩ := HPar.out m hmp (by omega)
          rw [depA_succ P m r hmp hr hrm]
          have := ih r hrm (by omega)
          omega
    have hmx : Lib.maxOf ((depI P P.length).take P.length) ≤ 10000 := maxOf_le (depI P P.length) 10000 (fun j hj => by
      rw [depI_len] at hj
      rw [show (depI P P.length).getD j 0 = (depA P j : Int) by simp [List.getD, depI_at P P.length j hj]]
      have := hdj j hj; omega) P.length hP0 (by rw [depI_len]; exact Nat.le_refl _)
    obtain ⟨M, hM⟩ : ∃ M : Nat, Lib.maxOf ((depI P P.length).take P.length) = (M : Int) := ⟨(Lib.maxOf ((depI P P.length).take P.length)).toNat, by have := hdm 0 hP0; omega⟩
    rw [hM] at HM hdm hmx
    have hMl : M ≤ 10000 := by omega
    have HDM : Hid (∀ j, j < P.length → depA P j ≤ M ∧ depA P j ≤ 10000) := fun j hj => by have := hdm j hj; have := hdj j hj; omega
    clear hb2 hI2 hdm hdj hmx hM
    go_wp2_with fail
    refine (HM.out _ (Below.refl _ _)).mono ?_
    rintro e y ⟨rfl, rfl⟩
    go_wp2_with fail
    refine (Tryd.repeat_any { data := #[32] } M _ (by omega) (by show 1 * M ≤ _; omega)).mono ?_
    rintro e w3 ⟨rfl, hb3⟩
    obtain ⟨BL, hBL⟩ : ∃ F : ByteArray, F = ⟨(Lib.repeatL (ByteArray.mk #[32]).data.toList M).toArray⟩ := ⟨_, rfl⟩
    rw [← hBL]
    have hBl : lst BL = Lib.repeatL [32] M := by rw [hBL]
    have hBs : BL.size = M := by rw [← lst_size, hBl, Lib.repeatL_length]; simp
    have HBl := Lib.hid hBl
    have J3 := Lib.hid (J2.out.under hb3 (by omega))
    have HB3 : Hid (Below w.heap.size w w3) := HB2.out.trans (hb3.mono (by omega))
    have hz3 := hb3.size
    have HD3 : Hid (∀ j, j < P.length → w3.cell? ⟨g, j, none⟩ = some (.int .i64 (depA P j))) := fun j hj => (hb3.cell (p := ⟨g, j, none⟩) hgl).trans (HD.out j hj)
    have HBu : Hid (Lib.IsBuilderF 58 5 w3.heap.size w3.heap.size (Lib.byteCells []) (w3.alloc (.cells #[.pointer none, .slice none 0 0] 58))) := Lib.IsBuilderF.of (Lib.fresh_isBuilder 58 5 w3)
    have a0 : w3.cell? ⟨w.heap.size, 0, none⟩ = some (.slice A T.length c) := J3.out.at 0
    have zw : w.heap.size < w3.heap.size := by omega
    have a1 : (w3.alloc (.cells #[.pointer none, .slice none 0 0] 58)).cell? ⟨w.heap.size, 0, none⟩ = some (.slice A T.length c) := (((Below.refl _ _).alloc (Nat.le_refl _) _ : Below w3.heap.size w3 _).cell (p := ⟨w.heap.size, 0, none⟩) zw).trans a0
    clear hb3 hBL hBl HD HM J1 J2
    go_wp2_with fail
    clear a0 a1
    go_loopw [25] (fun v wr => VRel T sp w3.heap.size w3 v wr) (fun v _ => T.length - (intOf v).toNat)
    case atStart => exact ⟨0, [], Nat.zero_le _, rfl, HBu.out, by rw [HSh.out, List.drop_zero, ← HPe.out]; rfl, by simp, (Below.refl _ _).alloc (Nat.le_refl _) _⟩
    case round =>
      obtain ⟨i, acc, hi, rfl, hI, hacc, hal, hB⟩ := hrel
      have HIr := Lib.hid hI
      have HAcc := Lib.hid hacc
      have HBr := Lib.hid hB
      have HBw : Hid (Below w.heap.size w wr) := HB3.out.trans (hB.mono (by omega))
      have hzr := hB.size
      obtain ⟨_, hbr⟩ := bld_lt hI
      clear hI hacc hB
      by_cases hlt : i < T.length
      · have hti := List.getElem?_eq_getElem hlt
        obtain ⟨b', o', kv', pv', e', hb', hK, KA, kc, PA2, pc2, rfl, _, _, rfl, _, _⟩ := (HA.out.below HBw.out) i _ hti
        obtain ⟨m1, m2, m3, m4, m5⟩ := HT.out.2 _ (List.getElem_mem hlt)
        have HNum := Lib.hid (HNN.out _ (List.getElem_mem hlt))
        have HD0 : Hid (T.drop i = T[i] :: T.drop (i + 1)) := List.drop_eq_getElem_cons hlt
        obtain ⟨_, kd1, kd2, _⟩ := right_node HRight.out hti
        subst e'
        obtain ⟨n, hn⟩ : ∃ n, n = T[i] := ⟨_, rfl⟩
        rw [← hn] at hK m1 m2 m3 m4 m5 HNum HD0 kd1 kd2
        clear hti hn
        have hiP : i < P.length := by have := HLen.out; omega
        obtain ⟨D, hD⟩ : ∃ D, D = depA P i := ⟨_, rfl⟩
        have hdc : wr.cell? ⟨g, i, none⟩ = some (.int .i64 (D : Int)) := by rw [hD]; exact (HBr.out.cell (p := ⟨g, i, none⟩) (by show g < _; omega)).trans (HD3.out i hiP)
        obtain ⟨hDM, hD1⟩ : D ≤ M ∧ D ≤ 10000 := by rw [hD]; exact HDM.out i hiP
        have HDe := Lib.hid hD
        have hDB : D ≤ BL.size := by omega
        have HSt : Hid (acc ++ List.replicate D 32 ++ lineL n sp ++ showF (parP T) sp (i + 1) (T.drop (i + 1)) = showL T sp) := by
          show _ = _
          have := HAcc.out
          rw [HD0.out, showF, ← HPe.out, ← hD] at this
          rw [← HPe.out]
          simpa [List.append_assoc] using this
        have HLl := Lib.hid (lineL_len n HNum.out m1 m2 m3 sp)
        have HEx : Hid (lst (BL.extract 0 D) = List.replicate D 32) := by show _ = _; rw [lst_head, HBl.out]; exact repeat_take M D hDM
        have hEs : (BL.extract 0 D).size = D := by rw [← lst_size, HEx.out]; simp
        have r0 := hK.c0
        have r1 := hK.c1
        have r2 := hK.c2
        have r3 := hK.c3
        have r4 := hK.c4
        have r5 := hK.c5
        have r6 := hK.c6
        have r7 := hK.c7
        have r8 := hK.c8
        have r9 := hK.c9
        have N1 : Hid (Holds (wr.alloc (.cells #[.int .i64 n.k, .int .i64 n.f, .int .i64 n.t, .int .i64 n.l, .string n.x, .string n.u, .string n.h, .bool n.g, .slice KA n.ks.length kc, .slice PA2 n.ps.length pc2] 39)) wr.heap.size 39 #[.int .i64 n.k, .int .i64 n.f, .int .i64 n.t, .int .i64 n.l, .string n.x, .string n.u, .string n.h, .bool n.g, .slice KA n.ks.length kc, .slice PA2 n.ps.length pc2]) := Holds.made wr 39 _
        have I1 := Lib.hid (bld_below HIr.out ((Below.refl _ _).alloc (Nat.le_refl _) (.cells #[.int .i64 n.k, .int .i64 n.f, .int .i64 n.t, .int .i64 n.l, .string n.x, .string n.u, .string n.h, .bool n.g, .slice KA n.ks.length kc, .slice PA2 n.ps.length pc2] 39)))
        have hdc1 : (wr.alloc (.cells #[.int .i64 n.k, .int .i64 n.f, .int .i64 n.t, .int .i64 n.l, .string n.x, .string n.u, .string n.h, .bool n.g, .slice KA n.ks.length kc, .slice PA2 n.ps.length pc2] 39)).cell? ⟨g, i, none⟩ = some (.int .i64 (D : Int)) := (((Below.refl _ _).alloc (Nat.le_refl _) _ : Below wr.heap.size wr _).cell (p := ⟨g, i, none⟩) (by show g < _; omega)).trans hdc
        clear hK hD
        go_wp2_with fail
        refine (Tryd.Builder_Write w3.heap.size w3.heap.size (Lib.byteCells acc) (BL.extract 0 D) _ I1.out (by rw [Lib.byteCells_length, hEs]; omega) (by simp; omega)).mono ?_
        rintro e w5 ⟨rfl, g1, b1, k1⟩
        have I5 := Lib.hid (bld_str HEx.out g1)
        have N5 := Lib.hid (kept_holds k1 N1.out (by omega) (by decide))
        have B5 : Hid (Below w3.heap.size w3 w5) := (HBr.out.alloc (by omega) _).trans b1
        have hz5 := b1.size
        simp only [World.size_alloc] at hz5
        have HG5 : Hid (Glob w5) := HGl.out.under (HB3.out.trans (B5.out.mono (by omega))) hg5
        clear g1 b1 k1 N1 I1 hdc hdc1 r0 r1 r2 r3 r4 r5 r6 r7 r8 r9
        have x0 : w5.cell? ⟨wr.heap.size, 0, none⟩ = some (.int .i64 n.k) := N5.out.at 0
        have x1 : w5.cell? ⟨wr.heap.size, 1, none⟩ = some (.int .i64 n.f) := N5.out.at 1
        have x2 : w5.cell? ⟨wr.heap.size, 2, none⟩ = some (.int .i64 n.t) := N5.out.at 2
        have x3 : w5.cell? ⟨wr.heap.size, 3, none⟩ = some (.int .i64 n.l) := N5.out.at 3
        have x4 : w5.cell? ⟨wr.heap.size, 4, none⟩ = some (.string n.x) := N5.out.at 4
        have x5 : w5.cell? ⟨wr.heap.size, 5, none⟩ = some (.string n.u) := N5.out.at 5
        have x6 : w5.cell? ⟨wr.heap.size, 6, none⟩ = some (.string n.h) := N5.out.at 6
        have x7 : w5.cell? ⟨wr.heap.size, 7, none⟩ = some (.bool n.g) := N5.out.at 7
        have x8 : w5.cell? ⟨wr.heap.size, 8, none⟩ = some (.slice KA n.ks.length kc) := N5.out.at 8
        have x9 : w5.cell? ⟨wr.heap.size, 9, none⟩ = some (.slice PA2 n.ps.length pc2) := N5.out.at 9
        go_wp2_with fail
        refine (writeLine_any n HNum.out (by omega) (by omega) m1 m2 m3 sp KA PA2 n.ks.length kc n.ps.length pc2 w3.heap.size w3.heap.size (acc ++ List.replicate D 32) (by rw [List.length_append, List.length_replicate]; omega) w5 HG5.out (by omega) I5.out).mono ?_
        rintro e w6 ⟨rfl, I6, b6⟩
        have HI6 := Lib.hid I6
        have B6 : Hid (Below w3.heap.size w3 w6) := B5.out.trans b6
        clear I6 b6 x0 x1 x2 x3 x4 x5 x6 x7 x8 x9
        go_wp2_with fail
        go_roundw
        case rel => exact ⟨i + 1, _, by omega, by go_num, HI6.out, HSt.out, by have := HLl.out; rw [List.length_append, List.length_append, List.length_replicate]; omega, B6.out⟩
        case measure => simp [intOf]; omega
      · have HE : Hid (acc = showL T sp) := by show _ = _; have := HAcc.out; rw [List.drop_eq_nil_of_le (by omega)] at this; simpa [showF] using this
        go_wp2_with fail
        refine (Tryd.Builder_String_any_k w3.heap.size w3.heap.size _ _ HIr.out (by omega)).mono ?_
        rintro e w5 ⟨rfl, _, b1, _⟩
        have HB5 : Hid (Below w.heap.size w w5) := HBw.out.trans (b1.mono (by omega))
        clear b1
        go_wp2_with fail
        refine bodyPost_ret (v := .tuple #[.string ⟨acc.toArray⟩, .int .i64 0]) (by simp [results, Tryd.results17, go_sem]) rfl ?_
        rw [HE.out]
        exact HV.out _ HB5.out
end Go.Proofs.YtdfhgcknelgdmaaDoor
