/-
  PROVED: the walk of TreeRights: true, whatever the tree. Conditions: the lengths and numbers are a machine's; the tables lie as their initialisers lay them.
-/
import Derived.Test.YtdfhgcknelgdmaaDoorAlive
import Derived.Test.YtdfhgcknelgdmaaDoorWeigh
import Derived.Test.YtdfhgcknelgdmaaDoorRefPar
namespace Go.Proofs.YtdfhgcknelgdmaaDoor
open Go.ChangeShapes Go.WideShapes Go.ChangeAt Go.RowKit Go.Sort
set_option linter.unusedVariables false

theorem parP_len (T : List Nd) : (parP T).length ≤ T.length := by
  by_cases h : parP T = []
  · rw [h]; simp
  · have := (parP_right h).2.1; omega

set_option maxRecDepth 100000 in
set_option maxHeartbeats 16000000 in
theorem rights_walk (A : Option Addr) (c : Nat) (T : List Nd) (hW : Wide T) (w : World) (h : Tr w w.heap.size A T) (hg : Glob w) :
    Calls Tryd.prog 3 #[.agg #[.slice A T.length c]] w fun e w' => e = .returned (.bool true) ∧ Below w.heap.size w w' := by
  have HA := Lib.hid h
  have HGl := Lib.hid hg
  have HWt : Hid (∀ W, Below w.heap.size w W → Calls Tryd.prog 9 #[.agg #[.slice A T.length c], .int .i64 4000] W fun e w' => e = .returned (.int .i64 (wgt 4000 0 T)) ∧ Below W.heap.size W w') := fun W hb => weigh_any A c 4000 (by omega) T hW W ((h.below hb).more hb.size)
  obtain ⟨V, hV⟩ : ∃ V, V = wgt 4000 0 T := ⟨_, rfl⟩
  rw [← hV] at HWt
  have HV := Lib.hid hV
  clear h hg hV hW
  have H0 : Hid (Holds (w.alloc (.cells #[.slice A T.length c] 24)) w.heap.size 24 #[.slice A T.length c]) := Holds.made w 24 _
  have HB0 : Hid (Below w.heap.size w (w.alloc (.cells #[.slice A T.length c] 24))) := (Below.refl _ _).alloc (Nat.le_refl _) _
  go_enter Tryd.func3, Tryd.ntmps3
  go_wp2_with fail
  refine (alive_any _ (HGl.out.on HB0.out)).mono ?_
  rintro e w1 ⟨rfl, hb⟩
  have H1 := Lib.hid (H0.out.under hb H0.out.lt)
  have B1 : Hid (Below w.heap.size w w1) := HB0.out.trans (hb.mono (by simp))
  have a1 : w1.cell? ⟨w.heap.size, 0, none⟩ = some (.slice A T.length c) := H1.out.at 0
  clear hb H0 HB0
  go_wp2_with fail
  refine (HWt.out _ B1.out).mono ?_
  rintro e w2 ⟨rfl, hb⟩
  have H2 := Lib.hid (H1.out.under hb H1.out.lt)
  have B2 := Lib.hid (chain (Nat.le_refl _) B1.out hb)
  have a2 : w2.cell? ⟨w.heap.size, 0, none⟩ = some (.slice A T.length c) := H2.out.at 0
  clear hb H1 a1 HWt
  by_cases hv : 4000 < V
  · have hvz : (4000 : Int) < (V : Int) := by omega
    go_wp2_with fail
    go_ret
    exact ⟨rfl, B2.out⟩
  · have hvz : ¬ (4000 : Int) < (V : Int) := by omega
    obtain ⟨hBd, hT4⟩ := wgt_bd (m := 4000) (T := T) (by rw [← HV.out]; omega) (by omega)
    have HBd := Lib.hid hBd
    clear hBd
    go_wp2_with fail
    refine (copyTree_any A c T HBd.out w2 ((HA.out.below B2.out).more B2.out.size)).mono ?_
    rintro e w3 ⟨v3, S3, rfl, hO, hb⟩
    obtain ⟨A3, c3, rfl, _, _, hT3⟩ := hO.tr
    have B3 := Lib.hid (chain (Nat.le_refl _) B2.out hb)
    obtain ⟨W4, hW4⟩ : ∃ W4, W4 = w3.alloc (.cells #[.slice A3 T.length c3] 24) := ⟨_, rfl⟩
    have b4 : Below w3.heap.size w3 W4 := by rw [hW4]; exact (Below.refl _ _).alloc (Nat.le_refl _) _
    have J1 := Lib.hid ((H2.out.under hb H2.out.lt).under b4 (H2.out.under hb H2.out.lt).lt)
    have J3 : Hid (Holds W4 w3.heap.size 24 #[.slice A3 T.length c3]) := by show Holds _ _ _ _; rw [hW4]; exact Holds.made w3 24 _
    have TA : Hid (Tr W4 W4.heap.size A T) := ((HA.out.below (B3.out.trans (b4.mono B3.out.size))).more (by have := B3.out.size; have := b4.size; omega))
    have TB : Hid (Tr W4 W4.heap.size A3 T) := hT3.on b4
    have B4 := Lib.hid (chain (Nat.le_refl _) B3.out b4)
    have HW4 := Lib.hid hW4
    have JL1 : w.heap.size < W4.heap.size := J1.out.lt
    have JL3 : w3.heap.size < W4.heap.size := J3.out.lt
    have x0 : W4.cell? ⟨w.heap.size, 0, none⟩ = some (.slice A T.length c) := J1.out.at 0
    have x1 : W4.cell? ⟨w3.heap.size, 0, none⟩ = some (.slice A3 T.length c3) := J3.out.at 0
    have C11 : Hid (∀ W, Below W4.heap.size W4 W → Calls Tryd.prog 11 #[.agg #[.slice A3 T.length c3]] W fun e w' => e = .returned (.bool (decide (0 < (parP T).length))) ∧ Below W.heap.size W w') := fun W hb => right_any A3 c3 T HBd.out W (TB.out.on hb)
    have C12 : Hid (∀ W, Below W4.heap.size W4 W → Calls Tryd.prog 12 #[.agg #[.slice A T.length c]] W fun e w' => e = .returned (.bool (decide (0 < (parP T).length))) ∧ Below W.heap.size W w') := fun W hb => by
      have := rright_any A c T HBd.out hT4 W (TA.out.on hb)
      rw [rg_par] at this
      exact this
    have C14 : Hid (∀ W, Below W4.heap.size W4 W → Calls Tryd.prog 14 #[.agg #[.slice A3 T.length c3]] W (AnsI W (parP T))) := fun W hb => parents_any A3 c3 T HBd.out W (TB.out.on hb)
    have C15 : Hid (∀ W, Below W4.heap.size W4 W → Calls Tryd.prog 15 #[.agg #[.slice A T.length c]] W (AnsI W (parP T))) := fun W hb => rparents_any A c T HBd.out hT4 W (TA.out.on hb)
    have C16 : Hid (∀ W, Below W4.heap.size W4 W → Calls Tryd.prog 16 #[.agg #[.slice A3 T.length c3], .agg #[.slice A T.length c], .bool true] W fun e w' => e = .returned (.bool true) ∧ Below W.heap.size W w') := fun W hb => (sameTree_yes A3 A c3 c T HBd.out W (TB.out.on hb) (TA.out.on hb)).mono fun e w' h => h.below
    have hPl : (parP T).length ≤ 1000000 := by have := parP_len T; omega
    generalize decide (0 < (parP T).length) = rb at C11 C12
    clear hb hO hT3 H2 a2 hW4 b4
    have hbb : (rb == rb) = true := by simp
    go_wp2_with fail
    rw [← HW4.out]
    go_region_held3 (fun w' => w'.cell? ⟨w.heap.size, 0, none⟩ = some (.slice A T.length c) ∧ w'.cell? ⟨w3.heap.size, 0, none⟩ = some (.slice A3 T.length c3)) (first | exact ⟨x0, x1⟩ | (refine ⟨?_, ?_⟩ <;> assumption))
      (first
        | (go_at_call 11; ((with_reducible refine (C11.out _ ((Below.refl W4.heap.size W4).drew)).mono ?_)); rintro e wA ⟨rfl, hh⟩; have hx : Below W4.heap.size W4 wA := (Below.refl W4.heap.size W4).drew.trans hh; have HHA := Lib.hid hx; have p0 : wA.cell? ⟨w.heap.size, 0, none⟩ = some (.slice A T.length c) := (J1.out.under hx JL1).at 0; have p1 : wA.cell? ⟨w3.heap.size, 0, none⟩ = some (.slice A3 T.length c3) := (J3.out.under hx JL3).at 0; clear hx hh)
        | (go_at_call 12; ((with_reducible refine (C12.out _ HHA.out).mono ?_)); rintro e wB ⟨rfl, hh⟩; have hx : Below W4.heap.size W4 wB := HHA.out.trans (hh.mono (by have := HHA.out.size; omega)); have HHB := Lib.hid hx; have q0 : wB.cell? ⟨w.heap.size, 0, none⟩ = some (.slice A T.length c) := (J1.out.under hx JL1).at 0; have q1 : wB.cell? ⟨w3.heap.size, 0, none⟩ = some (.slice A3 T.length c3) := (J3.out.under hx JL3).at 0; clear hx hh)
        | (go_at_call 14; ((with_reducible refine (C14.out _ HHB.out).mono ?_)); rintro e wC ⟨PA, pc, rfl, hI, hh⟩; have hx : Below W4.heap.size W4 wC := HHB.out.trans (hh.mono (by have := HHB.out.size; omega)); have HHC := Lib.hid hx; have r0 : wC.cell? ⟨w.heap.size, 0, none⟩ = some (.slice A T.length c) := (J1.out.under hx JL1).at 0; have r1 : wC.cell? ⟨w3.heap.size, 0, none⟩ = some (.slice A3 T.length c3) := (J3.out.under hx JL3).at 0; have IC := Lib.hid hI; clear hI; clear hx hh)
        | (go_at_call 15; ((with_reducible refine (C15.out _ HHC.out).mono ?_)); rintro e wD ⟨PB, pd, rfl, hI, hh⟩; have hx : Below W4.heap.size W4 wD := HHC.out.trans (hh.mono (by have := HHC.out.size; omega)); have HHD := Lib.hid hx; have s0 : wD.cell? ⟨w.heap.size, 0, none⟩ = some (.slice A T.length c) := (J1.out.under hx JL1).at 0; have s1 : wD.cell? ⟨w3.heap.size, 0, none⟩ = some (.slice A3 T.length c3) := (J3.out.under hx JL3).at 0; have ID := Lib.hid hI; have IC2 := Lib.hid (IC.out.on hh); clear hI; clear hx hh)
        | (go_at_call 13; ((with_reducible refine ((sameInts_yes PA PB pc pd (parP T) hPl wD IC2.out ID.out)).mono ?_)); rintro e wE hG; obtain ⟨rfl, hh⟩ := hG.below; clear hG; have hx : Below W4.heap.size W4 wE := HHD.out.trans (hh.mono (by have := HHD.out.size; omega)); have HHE := Lib.hid hx; have t0 : wE.cell? ⟨w.heap.size, 0, none⟩ = some (.slice A T.length c) := (J1.out.under hx JL1).at 0; have t1 : wE.cell? ⟨w3.heap.size, 0, none⟩ = some (.slice A3 T.length c3) := (J3.out.under hx JL3).at 0; clear hx hh)
        | (go_at_call 16; ((with_reducible refine (C16.out _ HHE.out).mono ?_)); rintro e wF ⟨rfl, hh⟩; have hx : Below W4.heap.size W4 wF := HHE.out.trans (hh.mono (by have := HHE.out.size; omega)); have HHF := Lib.hid hx; have u0 : wF.cell? ⟨w.heap.size, 0, none⟩ = some (.slice A T.length c) := (J1.out.under hx JL1).at 0; have u1 : wF.cell? ⟨w3.heap.size, 0, none⟩ = some (.slice A3 T.length c3) := (J3.out.under hx JL3).at 0; clear hx hh))
    all_goals (have BF : Hid (Below w.heap.size w wF) := B4.out.trans (HHF.out.mono (by omega)); go_wp2_with fail; go_ret; exact ⟨rfl, BF.out⟩)
end Go.Proofs.YtdfhgcknelgdmaaDoor
