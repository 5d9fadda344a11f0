/-
  PROVED: contracts of tree.Parents and tree.Right: they answer 'parP'. Conditions: the tree is small ('Bd').
-/
import Derived.Test.YtdfhgcknelgdmaaDoorGone
import Derived.Test.YtdfhgcknelgdmaaDoorFitsAll
namespace Go.Proofs.YtdfhgcknelgdmaaDoor
open Go.ChangeShapes Go.WideShapes Go.ChangeAt Go.RowKit Go.Sort
set_option linter.unusedVariables false

/-- A call that answers integers, in whatever memory. -/
def AnsI (w : World) (L : List Int) (e : Ending) (w' : World) : Prop :=
  ∃ (A : Option Addr) (c : Nat), e = .returned (.slice A L.length c) ∧ Is w' w'.heap.size A L ∧ Below w.heap.size w w'

theorem parP_none {T : List Nd} (h : gone T = none) : parP T = [] := by unfold parP; rw [h]
theorem parP_some {T : List Nd} {P : List Int} (h : gone T = some P) : parP T = if P.length = T.length then (if headK T = 1 then (if allB T P 0 T = true then P else []) else []) else [] := by unfold parP; rw [h]
theorem headK_at {T : List Nd} {n : Nd} (h : T[0]? = some n) : headK T = n.k := by
  cases T with
  | nil => simp at h
  | cons a T => simp at h; subst h; rfl

def PRel (T : List Nd) (P : List Int) (w : World) (v : Value) (wr : World) : Prop :=
  ∃ i : Nat, i ≤ T.length ∧ v = .int .i64 i ∧ (allB T P i (T.drop i) = allB T P 0 T) ∧ Below w.heap.size w wr

set_option maxHeartbeats 8000000 in
theorem parents_any (A : Option Addr) (c : Nat) (T : List Nd) (hT : Bd T) (w : World) (h : Tr w w.heap.size A T) :
    Calls Tryd.prog 14 #[.agg #[.slice A T.length c]] w (AnsI w (parP T)) := by
  have hl : T.length ≤ 10000 := hT.1
  have HT := Lib.hid hT
  have HA := Lib.hid h
  have HG : Hid (∀ W, Below w.heap.size w W → Calls Tryd.prog 25 #[.slice A T.length c] W (GoneE W T)) := fun W hb => gone_any A c T hT W ((h.below hb).more hb.size)
  clear hT h
  have nilI : ∀ W, Is W W.heap.size none ([] : List Int) := fun W i l hi => by simp at hi
  have HNil := Lib.hid nilI
  clear nilI
  go_enter Tryd.func14, Tryd.ntmps14
  go_wp2_with fail
  refine (HG.out _ ((Below.refl _ _).alloc (Nat.le_refl _) _)).mono ?_
  rintro e w1 (⟨hg, rfl, hb1⟩ | ⟨P, PA, pc, hg, rfl, hpl, hP, hpp, hb1⟩)
  · have HE := Lib.hid (parP_none hg)
    have HB : Hid (Below w.heap.size w w1) := ((Below.refl _ _).alloc (Nat.le_refl _) _).trans (hb1.mono (by simp))
    clear hg hb1
    go_wp2_with fail
    go_ret
    exact ⟨none, 0, by rw [HE.out]; rfl, by rw [HE.out]; exact HNil.out _, HB.out⟩
  · have HE := Lib.hid (parP_some hg)
    have hkid : kidF T 0 1 P := by
      have := (wk_facts T T.length (-1) [] P hg).2
      simpa using this
    have HKid := Lib.hid hkid
    clear hkid
    have HLen0 : Hid (0 < T.length) := by
      show 0 < T.length
      cases T with
      | nil => simp [gone, wk] at hg
      | cons a T => simp
    have H1 : Hid (Holds w1 w.heap.size 24 #[.slice A T.length c]) := (Holds.made w 24 _).under hb1 (by simp)
    have HB : Hid (Below w.heap.size w w1) := ((Below.refl _ _).alloc (Nat.le_refl _) _).trans (hb1.mono (by simp))
    have z1 : w.heap.size < w1.heap.size := H1.out.lt
    have a0 : w1.cell? ⟨w.heap.size, 0, none⟩ = some (.slice A T.length c) := H1.out.at 0
    have HP := Lib.hid hP
    have HPP := Lib.hid hpp
    clear hg hb1 hP hpp
    by_cases hlen : P.length = T.length
    · rw [if_pos hlen] at HE
      have d1 : decide (P.length = T.length) = true := decide_eq_true hlen
      rw [d1]
      clear d1
      have hge : T.length ≤ P.length := by omega
      have HLen := Lib.hid hlen
      clear hlen
      by_cases h0 : 0 < T.length
      · have ht0 := List.getElem?_eq_getElem h0
        obtain ⟨b, o, kv, pv, rfl, hb, hK, _⟩ := (HA.out.below HB.out) 0 _ ht0
        have hk := headK_at ht0
        rw [hk] at HE
        have k0 := hK.c0
        rw [Nat.zero_mul, Nat.add_zero] at k0
        clear hK hk ht0
        generalize T[0] = n0 at *
        by_cases hdoc : n0.k = 1
        · rw [if_pos hdoc] at HE
          have q1 : (n0.k != 1) = false := by simp [hdoc]
          clear hdoc
          go_wp2_with fail
          clear k0 q1
          go_loopw [26] (fun v wr => PRel T P w1 v wr) (fun v _ => T.length - (intOf v).toNat)
          case atStart => exact ⟨0, Nat.zero_le _, rfl, by rw [List.drop_zero], Below.refl _ _⟩
          case round =>
            obtain ⟨i, hi, rfl, hall, hB⟩ := hrel
            have HAll := Lib.hid hall
            have HBr := Lib.hid hB
            have r0 : wr.cell? ⟨w.heap.size, 0, none⟩ = some (.slice (some ⟨b, o, none⟩) T.length c) := (H1.out.under hB z1).at 0
            have zr := hB.size
            clear hall hB
            by_cases hlt : i < T.length
            · have hti := List.getElem?_eq_getElem hlt
              obtain ⟨b', o', kv', pv', e', hb', hK, KA, kc, PA', pc', rfl, _, e3, rfl, _, e6⟩ := (HA.out.below (HB.out.trans (HBr.out.mono (by omega)))) i _ hti
              injection e' with e'
              injection e' with e1 e2
              subst e1 e2
              have HD : Hid (T.drop i = T[i] :: T.drop (i + 1)) := List.drop_eq_getElem_cons hlt
              obtain ⟨n, hn⟩ : ∃ n, n = T[i] := ⟨_, rfl⟩
              rw [← hn] at hK e3 e6 HD
              rw [← hn] at hti
              have HN := Lib.hid hti
              clear hn hti e3 e6
              have HStep : Hid (allB T P i (T.drop i) = (lkB T P i n && allB T P (i + 1) (T.drop (i + 1)))) := by show _ = _; rw [HD.out]; rfl
              obtain ⟨p, hp⟩ : ∃ p, P[i]? = some p := ⟨_, List.getElem?_eq_getElem (by omega)⟩
              have hpd : P.getD i 0 = p := by simp [List.getD, hp]
              have hpb := HPP.out i p hp
              obtain ⟨pb, po, rfl, hpb2, cp⟩ := HP.out i p hp
              have cpr : wr.cell? ⟨pb, po + i, none⟩ = some (.int .i64 p) := (HBr.out.cell (p := ⟨pb, po + i, none⟩) hpb2).trans cp
              clear cp
              have mk := Lib.hid HN.out
              have t0 := hK.c0
              have t1 := hK.c1
              have t2 := hK.c2
              have t3 := hK.c3
              have t4 := hK.c4
              have t5 := hK.c5
              have t6 := hK.c6
              have t7 := hK.c7
              have t8 := hK.c8
              have t9 := hK.c9
              obtain ⟨W1, hW1⟩ : ∃ W1, W1 = wr.alloc (.cells #[.int .i64 n.k, .int .i64 n.f, .int .i64 n.t, .int .i64 n.l, .string n.x, .string n.u, .string n.h, .bool n.g, .slice KA n.ks.length kc, .slice PA' n.ps.length pc'] 39) := ⟨_, rfl⟩
              have HF : Hid (∀ d os, Calls Tryd.prog 26 #[nagg n (.slice KA n.ks.length kc) (.slice PA' n.ps.length pc')] (grow (redrawn W1 d) os) fun e w'' => e = .returned (.bool (fitB n)) ∧ ∃ p : Regrown, w'' = grow (redrawn W1 p.d) p.os) := fun d os => Calls.regrown_of ((fits_any n KA PA' kc pc' _).mono fun e w' h => h.below)
              have HX : Hid (Holds W1 wr.heap.size 39 #[.int .i64 n.k, .int .i64 n.f, .int .i64 n.t, .int .i64 n.l, .string n.x, .string n.u, .string n.h, .bool n.g, .slice KA n.ks.length kc, .slice PA' n.ps.length pc']) := by show Holds _ _ _ _; rw [hW1]; exact Holds.made wr 39 _
              have HW : Hid (Below wr.heap.size wr W1) := by show Below _ _ _; rw [hW1]; exact (Below.refl _ _).alloc (Nat.le_refl _) _
              have x0 := cell_regrown (v := .int .i64 n.k) (HX.out.at 0)
              have x1 := cell_regrown (v := .int .i64 n.f) (HX.out.at 1)
              have x2 := cell_regrown (v := .int .i64 n.t) (HX.out.at 2)
              have x3 := cell_regrown (v := .int .i64 n.l) (HX.out.at 3)
              have x4 := cell_regrown (v := .string n.x) (HX.out.at 4)
              have x5 := cell_regrown (v := .string n.u) (HX.out.at 5)
              have x6 := cell_regrown (v := .string n.h) (HX.out.at 6)
              have x7 := cell_regrown (v := .bool n.g) (HX.out.at 7)
              have x8 := cell_regrown (v := .slice KA n.ks.length kc) (HX.out.at 8)
              have x9 := cell_regrown (v := .slice PA' n.ps.length pc') (HX.out.at 9)
              have y0 := cell_regrown ((HW.out.cell (p := ⟨w.heap.size, 0, none⟩) (by show w.heap.size < _; omega)).trans r0)
              have y1 := cell_regrown ((HW.out.cell (p := ⟨pb, po + i, none⟩) (by show pb < _; omega)).trans cpr)
              have hz1 : wr.heap.size ≤ W1.heap.size := HW.out.size
              have HCont : Hid (∀ d os, Below w1.heap.size w1 (grow (redrawn W1 d) os)) := fun d os => HBr.out.trans ((HW.out.trans ((below_regrown _ d os).mono hz1)).mono zr)
              have HW1 := Lib.hid hW1
              clear hK hW1
              cases hfb : fitB n with
              | false =>
                rw [hfb] at HF
                have HV : Hid (allB T P 0 T = false) := by show _ = _; rw [← HAll.out, HStep.out, lkB, hfb]; rfl
                clear hfb HStep hpd hpb cpr
                go_wp2_with fail
                rw [← HW1.out]
                refine wp_region_quiet_below Tryd.mixed (by kernel_rfl) ?_
                repeat (go_big_quiet_step (first | (go_at_call 26; exact HF.out _ _)))
                refine wpQuiet_nil ?_
                intro _ hw'
                obtain ⟨⟨dq, osq⟩, hw''⟩ := hw'
                subst hw''
                have HZ := Lib.hid (HCont.out dq osq)
                clear x0 x1 x2 x3 x4 x5 x6 x7 x8 x9 y0 y1
                generalize grow (redrawn _ dq) osq = w3 at HZ ⊢
                go_wp2_with fail
                go_ret
                exact ⟨none, 0, by rw [HE.out, HV.out]; rfl, by rw [HE.out, HV.out]; exact HNil.out _, HB.out.trans (HZ.out.mono (by omega))⟩
              | true =>
                rw [hfb] at HF
                by_cases hi0 : 0 < i
                · obtain ⟨j, m, _, hjm, hPj, hTj, _⟩ := HKid.out i (by omega) (by omega)
                  rw [hp] at hPj
                  injection hPj with hPj
                  subst hPj
                  have HL : Hid (lkB T P i n = inB m n) := by show _ = _; unfold lkB; rw [hfb, if_pos hi0, hpd, Int.toNat_natCast, hTj]; rfl
                  obtain ⟨b2, o2, kv2, pv2, e2', hb2, hK2, KA2, kc2, PA2, pc2, rfl, _, _, rfl, _, _⟩ := (HA.out.below (HB.out.trans (HBr.out.mono (by omega)))) j m hTj
                  injection e2' with e2'
                  injection e2' with e1 e2
                  subst e1 e2
                  have s0 := cell_regrown ((HW.out.cell (by show b < _; omega)).trans hK2.c0)
                  have s1 := cell_regrown ((HW.out.cell (by show b < _; omega)).trans hK2.c1)
                  have s2 := cell_regrown ((HW.out.cell (by show b < _; omega)).trans hK2.c2)
                  have s3 := cell_regrown ((HW.out.cell (by show b < _; omega)).trans hK2.c3)
                  have s4 := cell_regrown ((HW.out.cell (by show b < _; omega)).trans hK2.c4)
                  have s5 := cell_regrown ((HW.out.cell (by show b < _; omega)).trans hK2.c5)
                  have s6 := cell_regrown ((HW.out.cell (by show b < _; omega)).trans hK2.c6)
                  have s7 := cell_regrown ((HW.out.cell (by show b < _; omega)).trans hK2.c7)
                  have s8 := cell_regrown ((HW.out.cell (by show b < _; omega)).trans hK2.c8)
                  have s9 := cell_regrown ((HW.out.cell (by show b < _; omega)).trans hK2.c9)
                  have hjT : j < T.length := by omega
                  have hip : i < P.length := by omega
                  have hiz : (0 : Int) < (i : Int) := by omega
                  have HIn : Hid (∀ d os, Calls Tryd.prog 27 #[nagg m (.slice KA2 m.ks.length kc2) (.slice PA2 m.ps.length pc2), nagg n (.slice KA n.ks.length kc) (.slice PA' n.ps.length pc')] (grow (redrawn W1 d) os) fun e w'' => e = .returned (.bool (inB m n)) ∧ ∃ p : Regrown, w'' = grow (redrawn W1 p.d) p.os) := fun d os => Calls.regrown_of ((fitsIn_any m n _ _ _ _ _).mono fun e w' h => h.below)
                  have HAll2 : Hid ((inB m n && allB T P (i + 1) (T.drop (i + 1))) = allB T P 0 T) := by show _ = _; rw [← HL.out, ← HStep.out]; exact HAll.out
                  clear hK2 hfb hp hpd hpb HStep HL hTj cpr
                  cases hib : inB m n with
                  | false =>
                    rw [hib] at HIn HAll2
                    have HV : Hid (allB T P 0 T = false) := HAll2.out.symm
                    clear hib HAll2
                    go_wp2_with fail
                    rw [← HW1.out]
                    refine wp_region_quiet_below Tryd.mixed (by kernel_rfl) ?_
                    repeat (go_big_quiet_step (first | (go_at_call 26; exact HF.out _ _) | (go_at_call 27; exact HIn.out _ _)))
                    refine wpQuiet_nil ?_
                    intro _ hw'
                    obtain ⟨⟨dq, osq⟩, hw''⟩ := hw'
                    subst hw''
                    have HZ := Lib.hid (HCont.out dq osq)
                    clear x0 x1 x2 x3 x4 x5 x6 x7 x8 x9 s0 s1 s2 s3 s4 s5 s6 s7 s8 s9 y0 y1
                    generalize grow (redrawn _ dq) osq = w3 at HZ ⊢
                    go_wp2_with fail
                    go_ret
                    exact ⟨none, 0, by rw [HE.out, HV.out]; rfl, by rw [HE.out, HV.out]; exact HNil.out _, HB.out.trans (HZ.out.mono (by omega))⟩
                  | true =>
                    rw [hib] at HIn HAll2
                    clear hib
                    go_wp2_with fail
                    rw [← HW1.out]
                    refine wp_region_quiet_below Tryd.mixed (by kernel_rfl) ?_
                    repeat (go_big_quiet_step (first | (go_at_call 26; exact HF.out _ _) | (go_at_call 27; exact HIn.out _ _)))
                    refine wpQuiet_nil ?_
                    intro _ hw'
                    obtain ⟨⟨dq, osq⟩, hw''⟩ := hw'
                    subst hw''
                    have HZ := Lib.hid (HCont.out dq osq)
                    clear x0 x1 x2 x3 x4 x5 x6 x7 x8 x9 s0 s1 s2 s3 s4 s5 s6 s7 s8 s9 y0 y1
                    generalize grow (redrawn _ dq) osq = w3 at HZ ⊢
                    go_wp2_with fail
                    go_roundw
                    case rel => exact ⟨i + 1, by omega, by go_num, by have := HAll2.out; rw [Bool.true_and] at this; exact this, HZ.out⟩
                    case measure => simp [intOf]; omega
                · have hiz : ¬ (0 : Int) < (i : Int) := by omega
                  have HAll2 : Hid (allB T P (i + 1) (T.drop (i + 1)) = allB T P 0 T) := by
                    have := HAll.out
                    rw [HStep.out] at this
                    unfold lkB at this
                    rw [hfb, if_neg hi0] at this
                    exact this
                  clear hfb hp hpd hpb HStep cpr
                  go_wp2_with fail
                  rw [← HW1.out]
                  refine wp_region_quiet_below Tryd.mixed (by kernel_rfl) ?_
                  repeat (go_big_quiet_step (first | (go_at_call 26; exact HF.out _ _)))
                  refine wpQuiet_nil ?_
                  intro _ hw'
                  obtain ⟨⟨dq, osq⟩, hw''⟩ := hw'
                  subst hw''
                  have HZ := Lib.hid (HCont.out dq osq)
                  clear x0 x1 x2 x3 x4 x5 x6 x7 x8 x9 y0 y1
                  generalize grow (redrawn _ dq) osq = w3 at HZ ⊢
                  go_wp2_with fail
                  go_roundw
                  case rel => exact ⟨i + 1, by omega, by go_num, HAll2.out, HZ.out⟩
                  case measure => simp [intOf]; omega
            · have HV : Hid (allB T P 0 T = true) := by have := HAll.out; rw [List.drop_eq_nil_of_le (by omega)] at this; exact this.symm
              have HPr : Hid (Is wr wr.heap.size PA P) := HP.out.on HBr.out
              go_wp2_with fail
              go_ret
              exact ⟨PA, pc, by rw [HE.out, if_pos HV.out]; rfl, by rw [HE.out, if_pos HV.out]; exact HPr.out, HB.out.trans (HBr.out.mono (by omega))⟩
        · rw [if_neg hdoc] at HE
          have q1 : (n0.k != 1) = true := by simp [hdoc]
          clear hdoc
          go_wp2_with fail
          go_ret
          exact ⟨none, 0, by rw [HE.out]; rfl, by rw [HE.out]; exact HNil.out _, HB.out⟩
      · exact absurd (HLen0.out) h0
    · rw [if_neg hlen] at HE
      have d1 : decide (P.length = T.length) = false := decide_eq_false hlen
      rw [d1]
      clear d1 hlen
      go_wp2_with fail
      go_ret
      exact ⟨none, 0, by rw [HE.out]; rfl, by rw [HE.out]; exact HNil.out _, HB.out⟩

/-! ### Right -/
set_option maxHeartbeats 2000000 in
theorem right_any (A : Option Addr) (c : Nat) (T : List Nd) (hT : Bd T) (w : World) (h : Tr w w.heap.size A T) :
    Calls Tryd.prog 11 #[.agg #[.slice A T.length c]] w fun e w' => e = .returned (.bool (decide (0 < (parP T).length))) ∧ Below w.heap.size w w' := by
  have HP : Hid (∀ W, Below w.heap.size w W → Calls Tryd.prog 14 #[.agg #[.slice A T.length c]] W (AnsI W (parP T))) := fun W hb => parents_any A c T hT W ((h.below hb).more hb.size)
  clear h hT
  generalize parP T = P at *
  go_enter Tryd.func11, Tryd.ntmps11
  go_wp2_with fail
  refine (HP.out _ ((Below.refl _ _).alloc (Nat.le_refl _) _)).mono ?_
  rintro e w1 ⟨PA, pc, rfl, _, hb⟩
  have HB : Hid (Below w.heap.size w w1) := ((Below.refl _ _).alloc (Nat.le_refl _) _).trans (hb.mono (by simp))
  clear hb
  go_wp2_with fail
  go_ret
  exact ⟨by first | rfl | exact retB (by simp), HB.out⟩
end Go.Proofs.YtdfhgcknelgdmaaDoor
