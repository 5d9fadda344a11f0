/-
  PROVED: stetlaw02.EditOutside returns true for every text, every list of edits and every offset: a byte that no edit touches stands behind the edits where edit.Move tells. Conditions: none beside the row's own.
-/
import Derived.Test.YtdjdflannedkbaaOpen
import Derived.Test.YtdjdflannedkbaaOutPure
import Derived.Test.YtdjdflannedkbaaAlive
namespace Go.Proofs.Ytdjdflannedkbaa.editOutside
open Go.ChangeShapes Go.WideShapes Go.ChangeAt Go.RowKit Go.Joins
open Go.ChangeMaps (open_string shut_string)
set_option linter.unusedVariables false

set_option maxHeartbeats 4000000 in
theorem walk (s : ByteArray) (A : Option Addr) (c : Nat) (hA : A = none → c = 0) (es : List Ed) (hs : s.size ≤ 140737488355328) (hl : es.length ≤ 140737488355328) (hx : ∀ e ∈ es, e.x.size ≤ 140737488355328) (k : Int) (w : World) (h : Rd w w.heap.size A es) :
    Calls Try.prog 5 #[.string s, .slice A es.length c, .int .i64 k] w fun e w' => e = .returned (.bool true) ∧ Below w.heap.size w w' := by
  have HA := Lib.hid hA
  have HX := Lib.hid hx
  have mixed := Try.mixed
  clear hA hx
  cases hg : grt s.size es with
  | true =>
    go_enter Try.func5, Try.ntmps5
    go_wp2_with fail
    refine (alive_any w).mono ?_
    rintro e w1 ⟨rfl, hb1⟩
    have h1 := h.on hb1
    have hgr := great_any s A c es hs hl HX.out _ w1 h1
    rw [hg] at hgr
    clear hg h
    go_wp2_with fail
    refine hgr.mono ?_
    rintro e w2 ⟨rfl, rfl⟩
    clear hgr
    go_wp2_with fail
    go_ret
    exact ⟨rfl, hb1⟩
  | false =>
    have hq : ¬ 50000 < gl s.size es ∧ ¬ 300 < es.length := by
      have := hg; unfold grt at this
      simp only [Bool.or_eq_false_iff, decide_eq_false_iff_not] at this
      exact this
    obtain ⟨hs5, hx5⟩ := gl_small es s.size (by omega)
    have hl3 : es.length ≤ 300 := by omega
    have HX6 : Hid (∀ e ∈ es, e.x.size ≤ 60000) := fun e he => by have := hx5 e he; omega
    clear hx5 hq
    by_cases q0 : k < 0
    · have d0 : decide (k < 0) = true := decide_eq_true q0
      go_enter Try.func5, Try.ntmps5
      go_wp2_with fail
      refine (alive_any w).mono ?_
      rintro e w1 ⟨rfl, hb1⟩
      have h1 := h.on hb1
      have hgr := great_any s A c es hs hl HX.out _ w1 h1
      rw [hg] at hgr
      clear hg h
      go_wp2_with fail
      refine hgr.mono ?_
      rintro e w2 ⟨rfl, rfl⟩
      clear hgr
      go_wp2_with fail
      go_ret
      exact ⟨rfl, hb1⟩
    · obtain ⟨j, rfl⟩ : ∃ j : Nat, k = j := ⟨k.toNat, by omega⟩
      by_cases q1 : s.size ≤ j
      · have d1 : (s.size : Int) ≤ (j : Int) := by omega
        go_enter Try.func5, Try.ntmps5
        go_wp2_with fail
        refine (alive_any w).mono ?_
        rintro e w1 ⟨rfl, hb1⟩
        have h1 := h.on hb1
        have hgr := great_any s A c es hs hl HX.out _ w1 h1
        rw [hg] at hgr
        clear hg h
        go_wp2_with fail
        refine hgr.mono ?_
        rintro e w2 ⟨rfl, rfl⟩
        clear hgr
        go_wp2_with fail
        go_ret
        exact ⟨rfl, hb1⟩
      · have d1 : ¬ (s.size : Int) ≤ (j : Int) := by omega
        have d2 : j < s.size := by omega
        obtain ⟨R, hR⟩ : ∃ R, R = appR s es := ⟨_, rfl⟩
        obtain ⟨r, hr⟩ : ∃ r, r = chk s.size es := ⟨_, rfl⟩
        have HR : Hid (R = appR s es ∧ r = chk s.size es) := ⟨hR, hr⟩
        by_cases q2 : r = 0
        · have HSM : Hid (Sml es) := fun e he => by
            have := (chk_ok (hr.symm.trans q2)).1 e he
            have := HX6.out e he
            refine ⟨by omega, by omega, by omega, by omega⟩
          have HK : Hid (chk s.size es = 0) := hr.symm.trans q2
          clear hR hr
          subst q2
          go_enter Try.func5, Try.ntmps5
          go_wp2_with fail
          refine (alive_any w).mono ?_
          rintro e w1 ⟨rfl, hb1⟩
          have h1 := h.on hb1
          have hgr := great_any s A c es hs hl HX.out _ w1 h1
          rw [hg] at hgr
          clear hg h
          go_wp2_with fail
          refine hgr.mono ?_
          rintro e w2 ⟨rfl, rfl⟩
          clear hgr
          have hcp := copy_any A c HA.out es (by omega) _ w1 h1
          go_wp2_with fail
          refine hcp.mono ?_
          rintro e w2 hO
          obtain ⟨A2, c2, rfl, hc2, hA2, hr2, hb2⟩ := hO.rd
          have HA2 := Lib.hid hA2
          have h2 := h1.on hb2
          have hB2 := chain (Nat.le_refl _) hb1 hb2
          clear hcp hO hA2 hb1 hb2 h1
          have hap := apply_any s A2 c2 HA2.out es hl3 (by omega) HX6.out _ w2 hr2
          rw [← HR.out.1, ← HR.out.2] at hap
          go_wp2_with fail
          refine hap.mono ?_
          rintro e w3 ⟨rfl, hb3⟩
          have h3 := h2.on hb3
          have hB3 := chain (Nat.le_refl _) hB2 hb3
          clear hap h2 hr2 hB2 hb3
          go_wp2_with fail
          go_loop [9] (fun i => ∃ n : Nat, n ≤ es.length ∧ i = .int .i64 n ∧ Hid (∀ m (hm : m < es.length), m < n → ¬ (es[m].f ≤ j ∧ (j : Int) < es[m].t))) (fun i => es.length - (intOf i).toNat)
          case atStart => exact ⟨0, Nat.zero_le _, rfl, (show Hid _ from fun m hm h0 => absurd h0 (Nat.not_lt_zero _))⟩
          case round =>
            obtain ⟨n, hn, rfl, HF⟩ := hrel
            by_cases hlt : n < es.length
            · obtain ⟨b, o, rfl, hb, c0, c1, c2'⟩ := h3 n es[n] (List.getElem?_eq_getElem hlt)
              have HE : Hid (∃ y, y = es[n]) := ⟨_, rfl⟩
              obtain ⟨y, hy⟩ := HE.out
              rw [← hy] at c0 c1 c2'
              have HY := Lib.hid hy
              clear hy HE
              by_cases e0 : y.f ≤ (j : Int)
              · by_cases e1 : (j : Int) < y.t
                · go_wp2_with fail
                  go_ret
                  exact ⟨rfl, hB3⟩
                · have HF2 : Hid (∀ m (hm : m < es.length), m < n + 1 → ¬ (es[m].f ≤ j ∧ (j : Int) < es[m].t)) := fun m hm hmn => by
                    by_cases q : m = n
                    · subst q; rw [← HY.out]; omega
                    · exact HF.out m hm (by omega)
                  go_wp2_with fail
                  go_round
                  case rel => exact ⟨n + 1, by omega, by go_num, HF2⟩
                  case measure => simp [intOf]; omega
              · have HF2 : Hid (∀ m (hm : m < es.length), m < n + 1 → ¬ (es[m].f ≤ j ∧ (j : Int) < es[m].t)) := fun m hm hmn => by
                  by_cases q : m = n
                  · subst q; rw [← HY.out]; omega
                  · exact HF.out m hm (by omega)
                go_wp2_with fail
                go_round
                case rel => exact ⟨n + 1, by omega, by go_num, HF2⟩
                case measure => simp [intOf]; omega
            · have HN : Hid (∀ e ∈ es, ¬ (e.f ≤ j ∧ (j : Int) < e.t)) := fun e he => by
                obtain ⟨m, hm, rfl⟩ := List.getElem_of_mem he
                exact HF.out m hm (by omega)
              obtain ⟨m, hm, hmv, hbt⟩ := outside HK.out d2 HN.out
              have hm' : m < R.size := by rw [HR.out.1]; exact hm
              have hbt' : R[m] = s[j] := by simp only [HR.out.1]; exact hbt
              have HMV := Lib.hid hmv
              have hbq : (((R[m]).toNat : Int) == ((s[j]).toNat : Int)) = true := by rw [hbt']; simp
              clear hm hbt hmv hbt' HF
              have hcp := copy_any A c HA.out es (by omega) _ w3 h3
              go_wp2_with fail
              refine hcp.mono ?_
              rintro e w4 hO
              obtain ⟨A4, c4, rfl, hc4, hA4, hr4, hb4⟩ := hO.rd
              have hB4 := chain (Nat.le_refl _) hB3 hb4
              clear hcp hO hA4 hb4 hB3
              have hmv := move_any A4 c4 es hl3 j ⟨by omega, by omega⟩ HSM.out _ w4 hr4
              rw [HMV.out] at hmv
              go_wp2_with fail
              refine hmv.mono ?_
              rintro e w5 ⟨rfl, hb5⟩
              have hB5 := chain (Nat.le_refl _) hB4 hb5
              clear hmv hB4 hb5 hr4 h3
              have z0 : (0 : Int) ≤ (m : Int) := by omega
              have z1 : (m : Int) < (R.size : Int) := by omega
              have z2 : (0 : Int) ≤ (j : Int) := by omega
              have z3 : (j : Int) < (s.size : Int) := by omega
              go_wp2_with fail
              go_quiet (fail)
              go_wp2_with fail
              go_ret
              exact ⟨rfl, below_drewN hB5 _⟩
        · have d3 : ((r : Int) != 0) = true := by simpa using q2
          have HE : Hid (R = ⟨#[]⟩) := by show _ = _; rw [hR]; exact appR_no (by rw [← hr]; exact q2)
          clear hR hr q2
          go_enter Try.func5, Try.ntmps5
          go_wp2_with fail
          refine (alive_any w).mono ?_
          rintro e w1 ⟨rfl, hb1⟩
          have h1 := h.on hb1
          have hgr := great_any s A c es hs hl HX.out _ w1 h1
          rw [hg] at hgr
          clear hg h
          go_wp2_with fail
          refine hgr.mono ?_
          rintro e w2 ⟨rfl, rfl⟩
          clear hgr
          have hcp := copy_any A c HA.out es (by omega) _ w1 h1
          go_wp2_with fail
          refine hcp.mono ?_
          rintro e w2 hO
          obtain ⟨A2, c2, rfl, hc2, hA2, hr2, hb2⟩ := hO.rd
          have HA2 := Lib.hid hA2
          have h2 := h1.on hb2
          have hB2 := chain (Nat.le_refl _) hb1 hb2
          clear hcp hO hA2 hb1 hb2 h1
          have hap := apply_any s A2 c2 HA2.out es hl3 (by omega) HX6.out _ w2 hr2
          rw [← HR.out.1, ← HR.out.2] at hap
          go_wp2_with fail
          refine hap.mono ?_
          rintro e w3 ⟨rfl, hb3⟩
          have h3 := h2.on hb3
          have hB3 := chain (Nat.le_refl _) hB2 hb3
          clear hap h2 hr2 hB2 hb3
          rw [HE.out]
          go_wp2_with fail
          go_ret
          exact ⟨rfl, hB3⟩

set_option maxRecDepth 100000 in
theorem lifted (os : Os) (started : os.Started) (H : Type) (enc : TypeId × Value → H) :
    ReturnsInHanded {} Try.checked os 5 .any (Rows.editOutsideSpec.pre6 enc Try.prog Try.f5 Rows.editOutsideRow.domain false) (Rows.editOutsideSpec.post enc Try.prog Try.f5 false true false false) := by
  refine returnsInHanded_of_change_sized (C := Try.checked) Try.own started (by kernel_rfl) Try.func5
    (ChangeSpec.witness6 (enc := enc) (C := Try.checked) false ⟨#[], #[.string ByteArray.empty, .slice none 0 0, .int .i64 0], []⟩ 8 (by kernel_rfl) (by kernel_rfl) (by kernel_rfl) (by kernel_rfl)) ?_
  intro W base args ds gs before hval0 hW hcnd hsz0 _
  have hval : ∀ (j : Nat) t v, Try.f5.params[j]? = some t → args[j]? = some v → Value.okWide Try.prog W .any base t v := hval0
  have hW' := hW
  obtain ⟨p, q, hA0, hV, rfl, hfz, hnd⟩ := hW
  have hA : DataW.TrodAll enc Try.prog W 0 (fun _ => true) true Try.f5.params.toList args.toList ds p := hA0
  have hsz : (DataW.weightsEach Try.prog (Try.f5.params.toList ++ Rows.editOutsideSpec.plain.varTypes Try.prog) (ds ++ gs)).all (· ≤ reachBytes) = true := hsz0
  rw [Try.params5] at hA hval hsz
  obtain ⟨v0, vs0, d0, ds0, p0, q0, hargs, rfl, rfl, h0, r0⟩ := trodAll_cons hA
  obtain ⟨v1, vs1, d1, ds1, p1, q1, rfl, rfl, rfl, h1, r1⟩ := trodAll_cons r0
  obtain ⟨v2, vs2, d2, ds2, p2, q2, rfl, rfl, rfl, h2, r2⟩ := trodAll_cons r1
  obtain ⟨rfl, rfl, rfl⟩ := trodAll_nil r2
  obtain rfl : args = #[v0, v1, v2] := by cases args; simp_all
  obtain ⟨rfl, rfl⟩ := trodVars_none hV
  obtain ⟨a0, rfl, rfl, rfl, w0⟩ := open_string Try.underlying9 (hval 0 9 v0 rfl rfl) h0
  obtain ⟨k, rfl, rfl, rfl, w2⟩ := open_int Try.underlying3 (hval 2 3 v2 rfl rfl) h2
  have hreach : reachBytes = 140737488351232 := rfl
  have hs : a0.size ≤ 140737488355328 := by
    have := sized_string hsz (j := 0) (t := 9) rfl rfl
    simp at this
    omega
  obtain ⟨A, c, es, rfl, hAc, hrd, hl, hx⟩ := open_edits (okWide_slice Try.underlying22 (hval 1 22 v1 rfl rfl)) h1 (fun n hn => by
    have := List.all_eq_true.1 hsz n (DataW.weights_mem_each (j := 1) (t := 22) rfl rfl n hn)
    simpa using this)
  clear hA0 hval0
  simp only [List.append_nil] at hW'
  have hlt : ∀ x ∈ p1, x.block < W.heap.size := fun x hx => hW'.lt x (by simp [hx])
  refine (walk a0 A c hAc es hs hl hx k W hrd).mono fun e W' ⟨he, hg⟩ => ?_
  subst he
  exact ⟨_, rfl, _, _, _, [], [] ++ (p1 ++ ([] ++ [])), [], hW', (trodAll_cons_mk (shut_bool Try.underlying4 _) trodAll_mk0), (trodAll_cons_mk (shut_string Try.underlying9 w0) (trodAll_cons_mk (Below.trod Try.laidOut (by kernel_rfl) (of_decide_eq_true (by kernel_rfl)) h1 hg hlt) (trodAll_cons_mk (shut_int Try.underlying3 w2) trodAll_mk0))), rfl, hg.frame _, fun h => by cases h⟩

theorem over : Rows.editOutsideRow.holds Try.pinned (OpenSpec.ofChange Rows.editOutsideSpec) :=
  OpenClaim.holds_of_wide 5 Try.f5 rfl rfl rfl rfl rfl rfl rfl ⟨rfl, rfl, rfl, rfl, rfl⟩ rfl rfl rfl rfl rfl (by kernel_rfl) Try.func5 (by kernel_rfl)
    (of_decide_eq_true (by kernel_rfl)) (by unfold Func.isWrapper; first | (rw [if_pos (by decide +kernel)]; kernel_rfl) | (rw [if_neg (by decide +kernel)]; exact ⟨rfl, rfl⟩))
    (fun os started H enc _ => lifted os started H enc)

theorem proved : Rows.EditOutsideSaid :=
  over
#print axioms proved
end Go.Proofs.Ytdjdflannedkbaa.editOutside
