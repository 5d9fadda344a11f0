/-
  PROVED: contracts of the document's walk and Right: they answer 'wk' with looks at the nodes. Conditions: the tree is small ('Bd') and has at most 4000 nodes.
-/
import Derived.Test.YtdfhgcknelgdmaaDoorOwn
import Derived.Test.YtdfhgcknelgdmaaDoorFields
namespace Go.Proofs.YtdfhgcknelgdmaaDoor
open Go.ChangeShapes Go.WideShapes Go.ChangeAt Go.RowKit Go.Sort
set_option linter.unusedVariables false

/-- What walk tells. -/
def outW : Option (List Int) → Int
  | none => -1
  | some P => (P.length : Int)

def wkR (T : List Nd) (d i : Nat) (ks : List Int) (R : Option (List Int)) (w : World) (B : Nat) (s10 s11 : Value) (wr : World) : Prop :=
  ∃ (k : Nat) (Q : List Int), k ≤ ks.length ∧ s11 = .int .i64 k ∧ s10 = .int .i64 Q.length ∧ i < Q.length ∧ Q.length ≤ T.length ∧ wkL (wk T (ckB T) d) i (ks.drop k) Q = R ∧ Below B w wr

theorem wk_out {T : List Nd} {ck : Nd → Int → Bool} {p : Int} {P : List Int} (h : T.length ≤ P.length) : ∀ d, wk T ck d p P = none
  | 0 => rfl
  | d + 1 => by rw [wk, List.getElem?_eq_none (by omega)]
theorem wk_bad {T : List Nd} {ck : Nd → Int → Bool} {p : Int} {P : List Int} {n : Nd} (hn : T[P.length]? = some n) (hc : ck n p = false) (d : Nat) : wk T ck (d + 1) p P = none := by
  rw [wk, hn]; simp [hc]
theorem wk_good {T : List Nd} {ck : Nd → Int → Bool} {p : Int} {P : List Int} {n : Nd} (hn : T[P.length]? = some n) (hc : ck n p = true) (d : Nat) : wk T ck (d + 1) p P = wkL (wk T ck d) P.length n.ks (P ++ [p]) := by
  rw [wk, hn]; simp [hc]

/-- No such node. -/
theorem walk_out (A : Option Addr) (c L : Nat) (hL : L ≤ 4000) (i : Nat) (p deep : Int) (hi : L ≤ i) (hi2 : i ≤ 100000) (w : World) :
    Calls Tryd.prog 24 #[.agg #[.slice A L c], .int .i64 i, .int .i64 p, .int .i64 deep] w fun e w' => e = .returned (.int .i64 (-1)) ∧ Below w.heap.size w w' := by
  have q : ¬ i < L := by omega
  go_enter Tryd.func24, Tryd.ntmps24
  go_wp2_with fail
  go_ret
  exact ⟨rfl, (Below.refl _ _).alloc (Nat.le_refl _) _⟩

set_option maxRecDepth 100000 in
set_option maxHeartbeats 16000000 in
theorem walk_any (A : Option Addr) (c : Nat) (T : List Nd) (hT : Bd T) (hL : T.length ≤ 4000) : ∀ (d : Nat) (p : Int) (deep : Nat) (P : List Int) (w : World), Tr w w.heap.size A T → T.length ≤ P.length + d → deep ≤ P.length → P.length ≤ T.length → (p = -1 ∨ ∃ j : Nat, p = (j : Int) ∧ j < T.length) →
      Calls Tryd.prog 24 #[.agg #[.slice A T.length c], .int .i64 P.length, .int .i64 p, .int .i64 deep] w fun e w' => e = .returned (.int .i64 (outW (wk T (ckB T) d p P))) ∧ Below w.heap.size w w' := by
  intro d
  induction d with
  | zero =>
    intro p deep P w h hd hdp hpl hp
    exact (walk_out A c T.length hL P.length p deep (by omega) (by omega) w).mono fun e w' h => ⟨h.1, h.2⟩
  | succ d ih =>
    intro p deep P w h hd hdp hpl hp
    by_cases hlt : P.length < T.length
    · obtain ⟨i, hi⟩ : ∃ i, i = P.length := ⟨_, rfl⟩
      have hti := List.getElem?_eq_getElem hlt
      obtain ⟨n, hn⟩ : ∃ n, n = T[P.length] := ⟨_, rfl⟩
      rw [← hn] at hti
      have mk : n.ks.length ≤ 10000 := (hT.2 n (List.mem_of_getElem? hti)).2.2.2.1
      have HN := Lib.hid hti
      have HA := Lib.hid h
      have HIH : Hid (∀ (q : Int) (k : Nat) (Q : List Int) (W : World), Below w.heap.size w W → T.length ≤ Q.length + d → k ≤ Q.length → Q.length ≤ T.length → (q = -1 ∨ ∃ j : Nat, q = (j : Int) ∧ j < T.length) → Calls Tryd.prog 24 #[.agg #[.slice A T.length c], .int .i64 Q.length, .int .i64 q, .int .i64 k] W fun e w' => e = .returned (.int .i64 (outW (wk T (ckB T) d q Q))) ∧ Below W.heap.size W w') :=
        fun q k Q W hb => ih q k Q W ((h.below hb).more hb.size)
      obtain ⟨b, o, kv, pv, rfl, hb, hK, KA, kc, PA, pc, rfl, e2, e3, rfl, e5, e6⟩ := h P.length n hti
      have HKs := Lib.hid e3
      rw [← hi] at hK hlt hdp hd hpl ⊢
      have HI := Lib.hid hi
      clear ih h hti hn hi e2 e3 e5 e6
      have r0 := hK.c0
      have r1 := hK.c1
      have r2 := hK.c2
      have r3 := hK.c3
      have r4 := hK.c4
      have r5 := hK.c5
      have r6 := hK.c6
      have r7 := hK.c7
      have r8 := hK.c8
      have r9 := hK.c9
      clear hK
      have nd : ¬ (5000 : Int) < (deep : Int) := by omega
      have HF : Hid (∀ W, Calls Tryd.prog 38 #[nagg n (.slice KA n.ks.length kc) (.slice PA n.ps.length pc)] W fun e w' => e = .returned (.bool (decide (1 ≤ n.k) && (decide (n.k ≤ 18) && fitB n))) ∧ Below W.heap.size W w') := fun W => (fields_any n KA PA kc pc W).mono fun e w' h => h.below
      have HBad : Hid (ckB T n p = false → outW (wk T (ckB T) (d + 1) p P) = -1) := fun hc => by rw [wk_bad HN.out hc]; rfl
      have HCk : Hid (ckB T n p = ((decide (1 ≤ n.k) && (decide (n.k ≤ 18) && fitB n)) && (if 0 ≤ p then (match T[p.toNat]? with | some q => inB q n | none => false) else true))) := rfl
      generalize (decide (1 ≤ n.k) && (decide (n.k ≤ 18) && fitB n)) = fb at HF HCk
      have H1 : Hid (Holds ((w.alloc (.cells #[.slice (some ⟨b, o, none⟩) T.length c] 24)).alloc (.cells #[.int .i64 n.k, .int .i64 n.f, .int .i64 n.t, .int .i64 n.l, .string n.x, .string n.u, .string n.h, .bool n.g, .slice KA n.ks.length kc, .slice PA n.ps.length pc] 39)) w.heap.size 24 #[.slice (some ⟨b, o, none⟩) T.length c]) := (Holds.made w 24 _).under ((Below.refl _ _).alloc (Nat.le_refl _) _) (by simp)
      have H2 : Hid (Holds ((w.alloc (.cells #[.slice (some ⟨b, o, none⟩) T.length c] 24)).alloc (.cells #[.int .i64 n.k, .int .i64 n.f, .int .i64 n.t, .int .i64 n.l, .string n.x, .string n.u, .string n.h, .bool n.g, .slice KA n.ks.length kc, .slice PA n.ps.length pc] 39)) (w.heap.size + 1) 39 #[.int .i64 n.k, .int .i64 n.f, .int .i64 n.t, .int .i64 n.l, .string n.x, .string n.u, .string n.h, .bool n.g, .slice KA n.ks.length kc, .slice PA n.ps.length pc]) := by
        have := Holds.made (w.alloc (.cells #[.slice (some ⟨b, o, none⟩) T.length c] 24)) 39 #[.int .i64 n.k, .int .i64 n.f, .int .i64 n.t, .int .i64 n.l, .string n.x, .string n.u, .string n.h, .bool n.g, .slice KA n.ks.length kc, .slice PA n.ps.length pc]
        simp only [World.alloc, Array.size_push] at this
        exact this
      have HBB : Hid (Below w.heap.size w ((w.alloc (.cells #[.slice (some ⟨b, o, none⟩) T.length c] 24)).alloc (.cells #[.int .i64 n.k, .int .i64 n.f, .int .i64 n.t, .int .i64 n.l, .string n.x, .string n.u, .string n.h, .bool n.g, .slice KA n.ks.length kc, .slice PA n.ps.length pc] 39))) := ((Below.refl _ _).alloc (Nat.le_refl _) _).alloc (by simp) _
      go_enter Tryd.func24, Tryd.ntmps24
      go_wp2_with fail
      refine (HF.out _).mono ?_
      rintro e w1 ⟨rfl, hb1⟩
      have J1 := Lib.hid (H1.out.under hb1 H1.out.lt)
      have J2 := Lib.hid (H2.out.under hb1 H2.out.lt)
      have JB : Hid (Below w.heap.size w w1) := HBB.out.trans (hb1.mono (by simp; omega))
      have z2 : w.heap.size + 1 < w1.heap.size := J2.out.lt
      clear hb1 H1 H2 HBB r0 r1 r2 r3 r4 r5 r6 r7 r8 r9
      cases fb with
      | false =>
        have HV : Hid (outW (wk T (ckB T) (d + 1) p P) = -1) := HBad.out (by rw [HCk.out]; rfl)
        go_wp2_with fail
        go_ret
        exact ⟨by rw [HV.out]; rfl, JB.out⟩
      | true =>
        have a1 : w1.cell? ⟨w.heap.size, 0, none⟩ = some (.slice (some ⟨b, o, none⟩) T.length c) := J1.out.at 0
        have x0 : w1.cell? ⟨w.heap.size + 1, 0, none⟩ = some (.int .i64 n.k) := J2.out.at 0
        have x1 : w1.cell? ⟨w.heap.size + 1, 1, none⟩ = some (.int .i64 n.f) := J2.out.at 1
        have x2 : w1.cell? ⟨w.heap.size + 1, 2, none⟩ = some (.int .i64 n.t) := J2.out.at 2
        have x3 : w1.cell? ⟨w.heap.size + 1, 3, none⟩ = some (.int .i64 n.l) := J2.out.at 3
        have x4 : w1.cell? ⟨w.heap.size + 1, 4, none⟩ = some (.string n.x) := J2.out.at 4
        have x5 : w1.cell? ⟨w.heap.size + 1, 5, none⟩ = some (.string n.u) := J2.out.at 5
        have x6 : w1.cell? ⟨w.heap.size + 1, 6, none⟩ = some (.string n.h) := J2.out.at 6
        have x7 : w1.cell? ⟨w.heap.size + 1, 7, none⟩ = some (.bool n.g) := J2.out.at 7
        have x8 : w1.cell? ⟨w.heap.size + 1, 8, none⟩ = some (.slice KA n.ks.length kc) := J2.out.at 8
        have x9 : w1.cell? ⟨w.heap.size + 1, 9, none⟩ = some (.slice PA n.ps.length pc) := J2.out.at 9
        have y1 := cell_regrown a1
        have s0 := cell_regrown x0
        have s1 := cell_regrown x1
        have s2 := cell_regrown x2
        have s3 := cell_regrown x3
        have s4 := cell_regrown x4
        have s5 := cell_regrown x5
        have s6 := cell_regrown x6
        have s7 := cell_regrown x7
        have s8 := cell_regrown x8
        have s9 := cell_regrown x9
        rcases hp with rfl | ⟨j, rfl, hjT⟩
        · have HCkT : Hid (ckB T n (-1) = true) := by show _ = _; rw [HCk.out]; rfl
          have HO : Hid True := trivial
          go_wp2_with fail
          refine wp_region_quiet_below Tryd.mixed (by kernel_rfl) ?_
          repeat (go_big_quiet_step (fail))
          refine wpQuiet_nil ?_
          intro _ hw'
          obtain ⟨⟨dq, osq⟩, hw''⟩ := hw'
          subst hw''
          have HZ : Hid (Below w1.heap.size w1 (grow (redrawn w1 dq) osq)) := below_regrown w1 dq osq
          clear y1 s0 s1 s2 s3 s4 s5 s6 s7 s8 s9 
          generalize grow (redrawn w1 dq) osq = w3 at HZ ⊢
          have HV : Hid (outW (wk T (ckB T) (d + 1) (-1) P) = outW (wkL (wk T (ckB T) d) i n.ks (P ++ [-1]))) := by show _ = _; rw [wk_good HN.out HCkT.out, HI.out]
          obtain ⟨R, hR⟩ : ∃ R, R = wkL (wk T (ckB T) d) i n.ks (P ++ [-1]) := ⟨_, rfl⟩
          rw [← hR] at HV
          have HR := Lib.hid hR
          clear hR a1 x0 x1 x2 x3 x4 x5 x6 x7 x8 x9
          have L1 := Lib.hid (J1.out.under HZ.out J1.out.lt)
          have L2 := Lib.hid (J2.out.under HZ.out z2)
          have LB : Hid (Below w.heap.size w w3) := JB.out.trans (HZ.out.mono (by omega))
          have z3 : w.heap.size + 1 < w3.heap.size := L2.out.lt
          go_wp2_with fail
          go_loopw [10, 11] (fun s10 s11 wr => wkR T d i n.ks R w3 w3.heap.size s10 s11 wr) (fun _ v _ => n.ks.length - (intOf v).toNat)
          case atStart => exact ⟨0, P ++ [-1], Nat.zero_le _, rfl, by rw [List.length_append, ← HI.out]; simp, by rw [List.length_append, ← HI.out]; simp, by rw [List.length_append, ← HI.out]; simp; omega, by rw [List.drop_zero]; exact HR.out.symm, Below.refl _ _⟩
          case round =>
            obtain ⟨k, Q, hk, rfl, rfl, hiQ, hQT, hwk, hB⟩ := hrel
            have HW := Lib.hid hwk
            have M1 := Lib.hid (L1.out.under hB L1.out.lt)
            have M2 := Lib.hid (L2.out.under hB z3)
            have MB : Hid (Below w.heap.size w wr) := LB.out.trans (hB.mono (by omega))
            have HB3 := Lib.hid hB
            clear hwk hB
            have m1 : wr.cell? ⟨w.heap.size, 0, none⟩ = some (.slice (some ⟨b, o, none⟩) T.length c) := M1.out.at 0
            have m8 : wr.cell? ⟨w.heap.size + 1, 8, none⟩ = some (.slice KA n.ks.length kc) := M2.out.at 8
            by_cases hkl : k < n.ks.length
            · obtain ⟨y, hy⟩ : ∃ y, y = n.ks[k] := ⟨_, rfl⟩
              have hky : n.ks[k]? = some y := by rw [hy]; exact List.getElem?_eq_getElem hkl
              have HD : Hid (n.ks.drop k = y :: n.ks.drop (k + 1)) := by show _ = _; rw [hy]; exact List.drop_eq_getElem_cons hkl
              obtain ⟨bk, ok, rfl, hbk, cy⟩ := (HKs.out.below MB.out) k y hky
              clear hy hky
              have HS : Hid ((if y = (Q.length : Int) then (match wk T (ckB T) d (i : Int) Q with | none => none | some Q' => wkL (wk T (ckB T) d) i (n.ks.drop (k + 1)) Q') else none) = R) := by
                have := HW.out
                rw [HD.out, wkL_cons] at this
                exact this
              clear HW HD
              by_cases hyq : y = (Q.length : Int)
              · subst hyq
                have HS2 : Hid ((match wk T (ckB T) d (i : Int) Q with | none => none | some Q' => wkL (wk T (ckB T) d) i (n.ks.drop (k + 1)) Q') = R) := by have := HS.out; rw [if_pos rfl] at this; exact this
                clear HS
                have HC : Hid (∀ W, Below w.heap.size w W → Calls Tryd.prog 24 #[.agg #[.slice (some ⟨b, o, none⟩) T.length c], .int .i64 Q.length, .int .i64 (i : Int), .int .i64 ((deep : Int) + 1)] W fun e w' => e = .returned (.int .i64 (outW (wk T (ckB T) d (i : Int) Q))) ∧ Below W.heap.size W w') := fun W hb => by
                  have := HIH.out (i : Int) (deep + 1) Q W hb (by omega) (by omega) hQT (Or.inr ⟨i, rfl, by omega⟩)
                  rw [show (((deep + 1 : Nat)) : Int) = (deep : Int) + 1 by omega] at this
                  exact this
                go_wp2_with fail
                refine (HC.out _ MB.out).mono ?_
                rintro e w5 ⟨rfl, hb5⟩
                have N5 := Lib.hid (HB3.out.trans (hb5.mono HB3.out.size))
                clear hb5 HC
                cases hwv : wk T (ckB T) d (i : Int) Q with
                | none =>
                  have HRn : Hid (R = none) := by have := HS2.out; rw [hwv] at this; exact this.symm
                  clear hwv
                  simp only [outW]
                  go_wp2_with fail
                  go_ret
                  exact ⟨by rw [HV.out, HRn.out]; rfl, LB.out.trans (N5.out.mono (by omega))⟩
                | some Q' =>
                  have HRs : Hid (wkL (wk T (ckB T) d) i (n.ks.drop (k + 1)) Q' = R) := by have := HS2.out; rw [hwv] at this; exact this
                  have hq1 := wk_bound T (ckB T) d _ _ _ hwv
                  have hq2 := pre_len (wk_pre T (ckB T) d _ _ _ hwv)
                  rw [List.length_append] at hq2
                  have hq3 : i < Q'.length := by simp at hq2; omega
                  clear hwv hq2
                  simp only [outW]
                  have hq4 : ¬ (Q'.length : Int) < 0 := by omega
                  go_wp2_with fail
                  go_roundw
                  case rel => exact ⟨k + 1, Q', by omega, by go_num, rfl, hq3, hq1, HRs.out, N5.out⟩
                  case measure => simp [intOf]; omega
              · have HRn : Hid (R = none) := by have := HS.out; rw [if_neg hyq] at this; exact this.symm
                have q1 : (y != (Q.length : Int)) = true := by simp [hyq]
                clear hyq HS
                go_wp2_with fail
                go_ret
                exact ⟨by rw [HV.out, HRn.out]; rfl, MB.out⟩
            · have HRs : Hid (R = some Q) := by have := HW.out; rw [List.drop_eq_nil_of_le (by omega)] at this; exact this.symm
              go_wp2_with fail
              go_ret
              exact ⟨by rw [HV.out, HRs.out]; rfl, MB.out⟩
        · obtain ⟨q, hq⟩ : ∃ q, q = T[j] := ⟨_, rfl⟩
          have htq : T[j]? = some q := by rw [hq]; exact List.getElem?_eq_getElem hjT
          clear hq
          have HCk2 : Hid (ckB T n (j : Int) = inB q n) := by show _ = _; rw [HCk.out, Bool.true_and, if_pos (by omega), Int.toNat_natCast, htq]
          obtain ⟨b2, o2, kv2, pv2, e2', hb2, hK2, _⟩ := (HA.out.below JB.out) j q htq
          injection e2' with e2'
          injection e2' with e1 e2
          subst e1 e2
          have u0 := cell_regrown hK2.c0
          have u1 := cell_regrown hK2.c1
          have u2 := cell_regrown hK2.c2
          have HO : Hid (∀ d os, Calls Tryd.prog 39 #[.int .i64 q.k, .int .i64 n.k] (grow (redrawn w1 d) os) fun e w'' => e = .returned (.bool (hoB q.k n.k)) ∧ ∃ p : Regrown, w'' = grow (redrawn w1 p.d) p.os) := fun d os => Calls.regrown_of ((rholds_any q.k n.k _).mono fun e w' h => ⟨h.1, by rw [h.2]; exact Below.refl _ _⟩)
          have HIn : Hid (inB q n = (decide (q.f ≤ n.f) && (decide (n.t ≤ q.t) && hoB q.k n.k))) := rfl
          clear hK2 htq
          cases hho : hoB q.k n.k with
          | false =>
            rw [hho] at HO HIn
            have HV : Hid (outW (wk T (ckB T) (d + 1) (j : Int) P) = -1) := HBad.out (by rw [HCk2.out, HIn.out]; simp)
            clear hho HIn
            go_wp2_with fail
            refine wp_region_quiet_below Tryd.mixed (by kernel_rfl) ?_
            repeat (go_big_quiet_step (first | (go_at_call 39; exact HO.out _ _)))
            refine wpQuiet_nil ?_
            intro _ hw'
            obtain ⟨⟨dq, osq⟩, hw''⟩ := hw'
            subst hw''
            have HZ : Hid (Below w1.heap.size w1 (grow (redrawn w1 dq) osq)) := below_regrown w1 dq osq
            clear y1 s0 s1 s2 s3 s4 s5 s6 s7 s8 s9 u0 u1 u2
            generalize grow (redrawn w1 dq) osq = w3 at HZ ⊢
            go_wp2_with fail
            go_ret
            exact ⟨by rw [HV.out]; rfl, JB.out.trans (HZ.out.mono (by omega))⟩
          | true =>
            rw [hho] at HO HIn
            clear hho
            by_cases g1 : n.f < q.f
            · have HV : Hid (outW (wk T (ckB T) (d + 1) (j : Int) P) = -1) := HBad.out (by rw [HCk2.out, HIn.out, decide_eq_false (by omega)]; rfl)
              clear HIn
              go_wp2_with fail
              refine wp_region_quiet_below Tryd.mixed (by kernel_rfl) ?_
              repeat (go_big_quiet_step (first | (go_at_call 39; exact HO.out _ _)))
              refine wpQuiet_nil ?_
              intro _ hw'
              obtain ⟨⟨dq, osq⟩, hw''⟩ := hw'
              subst hw''
              have HZ : Hid (Below w1.heap.size w1 (grow (redrawn w1 dq) osq)) := below_regrown w1 dq osq
              clear y1 s0 s1 s2 s3 s4 s5 s6 s7 s8 s9 u0 u1 u2
              generalize grow (redrawn w1 dq) osq = w3 at HZ ⊢
              go_wp2_with fail
              go_ret
              exact ⟨by rw [HV.out]; rfl, JB.out.trans (HZ.out.mono (by omega))⟩
            · have dg1 : decide (n.f < q.f) = false := decide_eq_false g1
              by_cases g2 : q.t < n.t
              · have HV : Hid (outW (wk T (ckB T) (d + 1) (j : Int) P) = -1) := HBad.out (by rw [HCk2.out, HIn.out, decide_eq_false (show ¬ n.t ≤ q.t by omega)]; simp)
                have dg2 : decide (q.t < n.t) = true := decide_eq_true g2
                clear HIn g1 g2
                go_wp2_with fail
                refine wp_region_quiet_below Tryd.mixed (by kernel_rfl) ?_
                repeat (go_big_quiet_step (first | (go_at_call 39; exact HO.out _ _)))
                refine wpQuiet_nil ?_
                intro _ hw'
                obtain ⟨⟨dq, osq⟩, hw''⟩ := hw'
                subst hw''
                have HZ : Hid (Below w1.heap.size w1 (grow (redrawn w1 dq) osq)) := below_regrown w1 dq osq
                clear y1 s0 s1 s2 s3 s4 s5 s6 s7 s8 s9 u0 u1 u2
                generalize grow (redrawn w1 dq) osq = w3 at HZ ⊢
                go_wp2_with fail
                go_ret
                exact ⟨by rw [HV.out]; rfl, JB.out.trans (HZ.out.mono (by omega))⟩
              · have HCkT : Hid (ckB T n (j : Int) = true) := by show _ = _; rw [HCk2.out, HIn.out, decide_eq_true (show q.f ≤ n.f by omega), decide_eq_true (show n.t ≤ q.t by omega)]; rfl
                have dg2 : decide (q.t < n.t) = false := decide_eq_false g2
                clear HIn g1 g2
                go_wp2_with fail
                refine wp_region_quiet_below Tryd.mixed (by kernel_rfl) ?_
                repeat (go_big_quiet_step (first | (go_at_call 39; exact HO.out _ _)))
                refine wpQuiet_nil ?_
                intro _ hw'
                obtain ⟨⟨dq, osq⟩, hw''⟩ := hw'
                subst hw''
                have HZ : Hid (Below w1.heap.size w1 (grow (redrawn w1 dq) osq)) := below_regrown w1 dq osq
                clear y1 s0 s1 s2 s3 s4 s5 s6 s7 s8 s9 u0 u1 u2
                generalize grow (redrawn w1 dq) osq = w3 at HZ ⊢
                have HV : Hid (outW (wk T (ckB T) (d + 1) (j : Int) P) = outW (wkL (wk T (ckB T) d) i n.ks (P ++ [(j : Int)]))) := by show _ = _; rw [wk_good HN.out HCkT.out, HI.out]
                obtain ⟨R, hR⟩ : ∃ R, R = wkL (wk T (ckB T) d) i n.ks (P ++ [(j : Int)]) := ⟨_, rfl⟩
                rw [← hR] at HV
                have HR := Lib.hid hR
                clear hR a1 x0 x1 x2 x3 x4 x5 x6 x7 x8 x9
                have L1 := Lib.hid (J1.out.under HZ.out J1.out.lt)
                have L2 := Lib.hid (J2.out.under HZ.out z2)
                have LB : Hid (Below w.heap.size w w3) := JB.out.trans (HZ.out.mono (by omega))
                have z3 : w.heap.size + 1 < w3.heap.size := L2.out.lt
                go_wp2_with fail
                go_loopw [10, 11] (fun s10 s11 wr => wkR T d i n.ks R w3 w3.heap.size s10 s11 wr) (fun _ v _ => n.ks.length - (intOf v).toNat)
                case atStart => exact ⟨0, P ++ [(j : Int)], Nat.zero_le _, rfl, by rw [List.length_append, ← HI.out]; simp, by rw [List.length_append, ← HI.out]; simp, by rw [List.length_append, ← HI.out]; simp; omega, by rw [List.drop_zero]; exact HR.out.symm, Below.refl _ _⟩
                case round =>
                  obtain ⟨k, Q, hk, rfl, rfl, hiQ, hQT, hwk, hB⟩ := hrel
                  have HW := Lib.hid hwk
                  have M1 := Lib.hid (L1.out.under hB L1.out.lt)
                  have M2 := Lib.hid (L2.out.under hB z3)
                  have MB : Hid (Below w.heap.size w wr) := LB.out.trans (hB.mono (by omega))
                  have HB3 := Lib.hid hB
                  clear hwk hB
                  have m1 : wr.cell? ⟨w.heap.size, 0, none⟩ = some (.slice (some ⟨b, o, none⟩) T.length c) := M1.out.at 0
                  have m8 : wr.cell? ⟨w.heap.size + 1, 8, none⟩ = some (.slice KA n.ks.length kc) := M2.out.at 8
                  by_cases hkl : k < n.ks.length
                  · obtain ⟨y, hy⟩ : ∃ y, y = n.ks[k] := ⟨_, rfl⟩
                    have hky : n.ks[k]? = some y := by rw [hy]; exact List.getElem?_eq_getElem hkl
                    have HD : Hid (n.ks.drop k = y :: n.ks.drop (k + 1)) := by show _ = _; rw [hy]; exact List.drop_eq_getElem_cons hkl
                    obtain ⟨bk, ok, rfl, hbk, cy⟩ := (HKs.out.below MB.out) k y hky
                    clear hy hky
                    have HS : Hid ((if y = (Q.length : Int) then (match wk T (ckB T) d (i : Int) Q with | none => none | some Q' => wkL (wk T (ckB T) d) i (n.ks.drop (k + 1)) Q') else none) = R) := by
                      have := HW.out
                      rw [HD.out, wkL_cons] at this
                      exact this
                    clear HW HD
                    by_cases hyq : y = (Q.length : Int)
                    · subst hyq
                      have HS2 : Hid ((match wk T (ckB T) d (i : Int) Q with | none => none | some Q' => wkL (wk T (ckB T) d) i (n.ks.drop (k + 1)) Q') = R) := by have := HS.out; rw [if_pos rfl] at this; exact this
                      clear HS
                      have HC : Hid (∀ W, Below w.heap.size w W → Calls Tryd.prog 24 #[.agg #[.slice (some ⟨b, o, none⟩) T.length c], .int .i64 Q.length, .int .i64 (i : Int), .int .i64 ((deep : Int) + 1)] W fun e w' => e = .returned (.int .i64 (outW (wk T (ckB T) d (i : Int) Q))) ∧ Below W.heap.size W w') := fun W hb => by
                        have := HIH.out (i : Int) (deep + 1) Q W hb (by omega) (by omega) hQT (Or.inr ⟨i, rfl, by omega⟩)
                        rw [show (((deep + 1 : Nat)) : Int) = (deep : Int) + 1 by omega] at this
                        exact this
                      go_wp2_with fail
                      refine (HC.out _ MB.out).mono ?_
                      rintro e w5 ⟨rfl, hb5⟩
                      have N5 := Lib.hid (HB3.out.trans (hb5.mono HB3.out.size))
                      clear hb5 HC
                      cases hwv : wk T (ckB T) d (i : Int) Q with
                      | none =>
                        have HRn : Hid (R = none) := by have := HS2.out; rw [hwv] at this; exact this.symm
                        clear hwv
                        simp only [outW]
                        go_wp2_with fail
                        go_ret
                        exact ⟨by rw [HV.out, HRn.out]; rfl, LB.out.trans (N5.out.mono (by omega))⟩
                      | some Q' =>
                        have HRs : Hid (wkL (wk T (ckB T) d) i (n.ks.drop (k + 1)) Q' = R) := by have := HS2.out; rw [hwv] at this; exact this
                        have hq1 := wk_bound T (ckB T) d _ _ _ hwv
                        have hq2 := pre_len (wk_pre T (ckB T) d _ _ _ hwv)
                        rw [List.length_append] at hq2
                        have hq3 : i < Q'.length := by simp at hq2; omega
                        clear hwv hq2
                        simp only [outW]
                        have hq4 : ¬ (Q'.length : Int) < 0 := by omega
                        go_wp2_with fail
                        go_roundw
                        case rel => exact ⟨k + 1, Q', by omega, by go_num, rfl, hq3, hq1, HRs.out, N5.out⟩
                        case measure => simp [intOf]; omega
                    · have HRn : Hid (R = none) := by have := HS.out; rw [if_neg hyq] at this; exact this.symm
                      have q1 : (y != (Q.length : Int)) = true := by simp [hyq]
                      clear hyq HS
                      go_wp2_with fail
                      go_ret
                      exact ⟨by rw [HV.out, HRn.out]; rfl, MB.out⟩
                  · have HRs : Hid (R = some Q) := by have := HW.out; rw [List.drop_eq_nil_of_le (by omega)] at this; exact this.symm
                    go_wp2_with fail
                    go_ret
                    exact ⟨by rw [HV.out, HRs.out]; rfl, MB.out⟩
    · exact (walk_out A c T.length hL P.length p deep (by omega) (by omega) w).mono fun e w' h => ⟨by rw [h.1, wk_out (by omega)]; rfl, h.2⟩

/-! ### Right -/
/-- Is it a right tree, by the document's walk? -/
def rgB (T : List Nd) : Bool := decide (0 < T.length) && (decide (headK T = 1) && decide (outW (wk T (ckB T) T.length (-1) []) = (T.length : Int)))

set_option maxHeartbeats 8000000 in
theorem rright_any (A : Option Addr) (c : Nat) (T : List Nd) (hT : Bd T) (hL : T.length ≤ 4000) (w : World) (h : Tr w w.heap.size A T) :
    Calls Tryd.prog 12 #[.agg #[.slice A T.length c]] w fun e w' => e = .returned (.bool (rgB T)) ∧ Below w.heap.size w w' := by
  have HR : Hid (rgB T = (decide (0 < T.length) && (decide (headK T = 1) && decide (outW (wk T (ckB T) T.length (-1) []) = (T.length : Int))))) := rfl
  generalize rgB T = R at HR ⊢
  by_cases h0 : 0 < T.length
  · have ht0 := List.getElem?_eq_getElem h0
    obtain ⟨b, o, kv, pv, rfl, hb, hK, _⟩ := h 0 _ ht0
    have hk : headK T = T[0].k := by
      cases T with
      | nil => simp at h0
      | cons a T => rfl
    rw [hk, decide_eq_true h0, Bool.true_and] at HR
    have HW : Hid (∀ W, Below w.heap.size w W → Calls Tryd.prog 24 #[.agg #[.slice (some ⟨b, o, none⟩) T.length c], .int .i64 0, .int .i64 (-1), .int .i64 0] W fun e w' => e = .returned (.int .i64 (outW (wk T (ckB T) T.length (-1) []))) ∧ Below W.heap.size W w') := fun W hb => walk_any (some ⟨b, o, none⟩) c T hT hL T.length (-1) 0 [] W ((h.below hb).more hb.size) (by simp) (by simp) (by simp) (Or.inl rfl)
    generalize outW (wk T (ckB T) T.length (-1) []) = V at HW HR
    have k0 := hK.c0
    rw [Nat.zero_mul, Nat.add_zero] at k0
    clear hK hk ht0 h hT
    generalize T[0] = n0 at *
    obtain ⟨W1, hW1⟩ : ∃ W1, W1 = w.alloc (.cells #[.slice (some ⟨b, o, none⟩) T.length c] 24) := ⟨_, rfl⟩
    have x0 : W1.cell? ⟨w.heap.size, 0, none⟩ = some (.slice (some ⟨b, o, none⟩) T.length c) := by rw [hW1]; exact (Holds.made w 24 _).at 0
    have bl : Below w.heap.size w W1 := by rw [hW1]; exact (Below.refl _ _).alloc (Nat.le_refl _) _
    have x1 : W1.cell? ⟨b, o, none⟩ = some (.int .i64 n0.k) := (bl.cell (p := ⟨b, o, none⟩) hb).trans k0
    have HBl := Lib.hid bl
    have HW1 := Lib.hid hW1
    have y0 := cell_regrown x0
    have y1 := cell_regrown x1
    have HC : Hid (∀ d os, Calls Tryd.prog 24 #[.agg #[.slice (some ⟨b, o, none⟩) T.length c], .int .i64 0, .int .i64 (-1), .int .i64 0] (grow (redrawn W1 d) os) fun e w'' => e = .returned (.int .i64 V) ∧ ∃ p : Regrown, w'' = grow (redrawn W1 p.d) p.os) := fun d os => Calls.regrown_of (HW.out _ (bl.trans ((below_regrown W1 d os).mono bl.size)))
    have HEnd : Hid (∀ d os, Below w.heap.size w (grow (redrawn W1 d) os)) := fun d os => bl.trans ((below_regrown W1 d os).mono bl.size)
    clear bl hW1 k0 x0 x1 HW
    have h0z : (0 : Int) < (T.length : Int) := by omega
    by_cases hdoc : n0.k = 1
    · rw [decide_eq_true hdoc, Bool.true_and] at HR
      have q1 : (n0.k == 1) = true := by simp [hdoc]
      have q2 : (V == (T.length : Int)) = decide (V = (T.length : Int)) := by rw [Bool.eq_iff_iff]; simp
      rw [← q2] at HR
      clear hdoc q2
      go_enter Tryd.func12, Tryd.ntmps12
      go_wp2_with fail
      rw [← HW1.out]
      refine wp_region_quiet_below Tryd.mixed (by kernel_rfl) ?_
      repeat (go_big_quiet_step (first | (go_at_call 24; exact HC.out _ _)))
      refine wpQuiet_nil ?_
      intro _ hw'
      obtain ⟨⟨dq, osq⟩, hw''⟩ := hw'
      subst hw''
      have HZ := Lib.hid (HEnd.out dq osq)
      clear y0 y1
      generalize grow (redrawn W1 dq) osq = w3 at HZ ⊢
      go_wp2_with fail
      go_ret
      exact ⟨by rw [HR.out]; rfl, HZ.out⟩
    · rw [decide_eq_false hdoc, Bool.false_and] at HR
      have q1 : (n0.k == 1) = false := by simp [hdoc]
      clear hdoc
      go_enter Tryd.func12, Tryd.ntmps12
      go_wp2_with fail
      rw [← HW1.out]
      refine wp_region_quiet_below Tryd.mixed (by kernel_rfl) ?_
      repeat (go_big_quiet_step (first | (go_at_call 24; exact HC.out _ _)))
      refine wpQuiet_nil ?_
      intro _ hw'
      obtain ⟨⟨dq, osq⟩, hw''⟩ := hw'
      subst hw''
      have HZ := Lib.hid (HEnd.out dq osq)
      clear y0 y1
      generalize grow (redrawn W1 dq) osq = w3 at HZ ⊢
      go_wp2_with fail
      go_ret
      exact ⟨by rw [HR.out]; rfl, HZ.out⟩
  · rw [decide_eq_false h0, Bool.false_and] at HR
    have h0z : ¬ (0 : Int) < (T.length : Int) := by omega
    obtain ⟨W1, hW1⟩ : ∃ W1, W1 = w.alloc (.cells #[.slice A T.length c] 24) := ⟨_, rfl⟩
    have x0 : W1.cell? ⟨w.heap.size, 0, none⟩ = some (.slice A T.length c) := by rw [hW1]; exact (Holds.made w 24 _).at 0
    have bl : Below w.heap.size w W1 := by rw [hW1]; exact (Below.refl _ _).alloc (Nat.le_refl _) _
    have HW1 := Lib.hid hW1
    have y0 := cell_regrown x0
    have HEnd : Hid (∀ d os, Below w.heap.size w (grow (redrawn W1 d) os)) := fun d os => bl.trans ((below_regrown W1 d os).mono bl.size)
    clear bl hW1 x0 h hT
    go_enter Tryd.func12, Tryd.ntmps12
    go_wp2_with fail
    rw [← HW1.out]
    refine wp_region_quiet_below Tryd.mixed (by kernel_rfl) ?_
    repeat (go_big_quiet_step (fail))
    refine wpQuiet_nil ?_
    intro _ hw'
    obtain ⟨⟨dq, osq⟩, hw''⟩ := hw'
    subst hw''
    have HZ := Lib.hid (HEnd.out dq osq)
    clear y0
    generalize grow (redrawn W1 dq) osq = w3 at HZ ⊢
    go_wp2_with fail
    go_ret
    exact ⟨by rw [HR.out]; rfl, HZ.out⟩
end Go.Proofs.YtdfhgcknelgdmaaDoor
