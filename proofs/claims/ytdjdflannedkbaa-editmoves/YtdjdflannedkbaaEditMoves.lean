/-
  PROVED: stetlaw02.EditMoves returns true for every text, every list of edits and every offset: where edit.Move answers an offset of the text is where the document's own Move does. Conditions: none beside the row's own.
-/
import Derived.Test.YtdjdflannedkbaaOpen
import Derived.Test.YtdjdflannedkbaaRefApply
import Derived.Test.YtdjdflannedkbaaAlive
namespace Go.Proofs.Ytdjdflannedkbaa.editMoves
open Go.ChangeShapes Go.WideShapes Go.ChangeAt Go.RowKit Go.Joins
open Go.ChangeMaps (open_string shut_string)
set_option linter.unusedVariables false

set_option maxHeartbeats 2000000 in
theorem walk (s : ByteArray) (A : Option Addr) (c : Nat) (hA : A = none → c = 0) (es : List Ed) (hs : s.size ≤ 140737488355328) (hl : es.length ≤ 140737488355328) (hx : ∀ e ∈ es, e.x.size ≤ 140737488355328) (k : Int) (w : World) (h : Rd w w.heap.size A es) :
    Calls Try.prog 4 #[.string s, .slice A es.length c, .int .i64 k] w fun e w' => e = .returned (.bool true) ∧ Below w.heap.size w w' := by
  have HA := Lib.hid hA
  have HX := Lib.hid hx
  clear hA hx
  cases hg : grt s.size es with
  | true =>
    go_enter Try.func4, Try.ntmps4
    go_wp2_with fail
    refine (alive_any w).mono ?_
    rintro e w1 ⟨rfl, hb1⟩
    have h1 := h.on hb1
    have hgr := great_any s A c es hs hl HX.out _ w1 h1
    rw [hg] at hgr
    clear hg h
    go_wp2_with fail
    refine hgr.mono ?_
    rintro e w2 ⟨rfl, rfl⟩
    clear hgr
    go_wp2_with fail
    go_ret
    exact ⟨rfl, hb1⟩
  | false =>
    have hq : ¬ 50000 < gl s.size es ∧ ¬ 300 < es.length := by
      have := hg; unfold grt at this
      simp only [Bool.or_eq_false_iff, decide_eq_false_iff_not] at this
      exact this
    obtain ⟨hs5, hx5⟩ := gl_small es s.size (by omega)
    have hl3 : es.length ≤ 300 := by omega
    have HX6 : Hid (∀ e ∈ es, e.x.size ≤ 60000) := fun e he => by have := hx5 e he; omega
    clear hx5 hq
    by_cases q0 : k < 0
    · have d0 : decide (k < 0) = true := decide_eq_true q0
      go_enter Try.func4, Try.ntmps4
      go_wp2_with fail
      refine (alive_any w).mono ?_
      rintro e w1 ⟨rfl, hb1⟩
      have h1 := h.on hb1
      have hgr := great_any s A c es hs hl HX.out _ w1 h1
      rw [hg] at hgr
      clear hg h
      go_wp2_with fail
      refine hgr.mono ?_
      rintro e w2 ⟨rfl, rfl⟩
      clear hgr
      go_wp2_with fail
      go_ret
      exact ⟨rfl, hb1⟩
    · by_cases q1 : (s.size : Int) < k
      · have d0 : decide (k < 0) = false := decide_eq_false q0
        have d1 : decide ((s.size : Int) < k) = true := decide_eq_true q1
        go_enter Try.func4, Try.ntmps4
        go_wp2_with fail
        refine (alive_any w).mono ?_
        rintro e w1 ⟨rfl, hb1⟩
        have h1 := h.on hb1
        have hgr := great_any s A c es hs hl HX.out _ w1 h1
        rw [hg] at hgr
        clear hg h
        go_wp2_with fail
        refine hgr.mono ?_
        rintro e w2 ⟨rfl, rfl⟩
        clear hgr
        go_wp2_with fail
        go_ret
        exact ⟨rfl, hb1⟩
      · have d0 : decide (k < 0) = false := decide_eq_false q0
        have d1 : decide ((s.size : Int) < k) = false := decide_eq_false q1
        by_cases q2 : chk s.size es = 0
        · have HM : Hid (mvB k es + mvA k es = k + mvS k (srtE es)) := mv_eq q2
          have HSM : Hid (Sml es) := fun e he => by
            have := (chk_ok q2).1 e he
            have := HX6.out e he
            refine ⟨by omega, by omega, by omega, by omega⟩
          have HK := Lib.hid q2
          clear q2
          obtain ⟨tot, htot⟩ : ∃ t, t = k + mvS k (srtE es) := ⟨_, rfl⟩
          have HT := Lib.hid htot
          clear htot
          go_enter Try.func4, Try.ntmps4
          go_wp2_with fail
          refine (alive_any w).mono ?_
          rintro e w1 ⟨rfl, hb1⟩
          have h1 := h.on hb1
          have hgr := great_any s A c es hs hl HX.out _ w1 h1
          rw [hg] at hgr
          clear hg h
          go_wp2_with fail
          refine hgr.mono ?_
          rintro e w2 ⟨rfl, rfl⟩
          clear hgr
          have hck := refCheck_any s A c es (by omega) (by omega) _ w1 h1
          rw [HK.out] at hck
          go_wp2_with fail
          refine hck.mono ?_
          rintro e w2 ⟨rfl, hb2⟩
          have h2 := h1.on hb2
          have hB2 := chain (Nat.le_refl _) hb1 hb2
          clear hck h1 hb1 hb2
          have hcp := copy_any A c HA.out es (by omega) _ w2 h2
          go_wp2_with fail
          refine hcp.mono ?_
          rintro e w3 hO
          obtain ⟨A3, c3, rfl, hc3, hA3, hr3, hb3⟩ := hO.rd
          have h3 := h2.on hb3
          have hB3 := chain (Nat.le_refl _) hB2 hb3
          clear hcp hO hA3 h2 hB2 hb3
          have hmv := move_any A3 c3 es hl3 k ⟨by omega, by omega⟩ HSM.out _ w3 hr3
          rw [HM.out, ← HT.out] at hmv
          go_wp2_with fail
          refine hmv.mono ?_
          rintro e w4 ⟨rfl, hb4⟩
          have h4 := h3.on hb4
          have hB4 := chain (Nat.le_refl _) hB3 hb4
          clear hmv h3 hB3 hb4 hr3
          have hmv := refMove_any A c es hl3 k ⟨by omega, by omega⟩ HSM.out _ w4 h4
          rw [← HT.out] at hmv
          go_wp2_with fail
          refine hmv.mono ?_
          rintro e w5 ⟨rfl, hb5⟩
          have hB5 := chain (Nat.le_refl _) hB4 hb5
          clear hmv h4 hB4 hb5
          go_wp2_with fail
          go_ret
          exact ⟨rfl, hB5⟩
        · have d2 : ((chk s.size es : Int) != 0) = true := by simpa using q2
          clear q2
          obtain ⟨r, hr⟩ : ∃ r, r = chk s.size es := ⟨_, rfl⟩
          rw [← hr] at d2
          have HR := Lib.hid hr
          clear hr
          go_enter Try.func4, Try.ntmps4
          go_wp2_with fail
          refine (alive_any w).mono ?_
          rintro e w1 ⟨rfl, hb1⟩
          have h1 := h.on hb1
          have hgr := great_any s A c es hs hl HX.out _ w1 h1
          rw [hg] at hgr
          clear hg h
          go_wp2_with fail
          refine hgr.mono ?_
          rintro e w2 ⟨rfl, rfl⟩
          clear hgr
          have hck := refCheck_any s A c es (by omega) (by omega) _ w1 h1
          rw [← HR.out] at hck
          go_wp2_with fail
          refine hck.mono ?_
          rintro e w2 ⟨rfl, hb2⟩
          have hB2 := chain (Nat.le_refl _) hb1 hb2
          clear hck h1 hb1 hb2
          go_wp2_with fail
          go_ret
          exact ⟨rfl, hB2⟩

set_option maxRecDepth 100000 in
theorem lifted (os : Os) (started : os.Started) (H : Type) (enc : TypeId × Value → H) :
    ReturnsInHanded {} Try.checked os 4 .any (Rows.editMovesSpec.pre6 enc Try.prog Try.f4 Rows.editMovesRow.domain false) (Rows.editMovesSpec.post enc Try.prog Try.f4 false true false false) := by
  refine returnsInHanded_of_change_sized (C := Try.checked) Try.own started (by kernel_rfl) Try.func4
    (ChangeSpec.witness6 (enc := enc) (C := Try.checked) false ⟨#[], #[.string ByteArray.empty, .slice none 0 0, .int .i64 0], []⟩ 8 (by kernel_rfl) (by kernel_rfl) (by kernel_rfl) (by kernel_rfl)) ?_
  intro W base args ds gs before hval0 hW hcnd hsz0 _
  have hval : ∀ (j : Nat) t v, Try.f4.params[j]? = some t → args[j]? = some v → Value.okWide Try.prog W .any base t v := hval0
  have hW' := hW
  obtain ⟨p, q, hA0, hV, rfl, hfz, hnd⟩ := hW
  have hA : DataW.TrodAll enc Try.prog W 0 (fun _ => true) true Try.f4.params.toList args.toList ds p := hA0
  have hsz : (DataW.weightsEach Try.prog (Try.f4.params.toList ++ Rows.editMovesSpec.plain.varTypes Try.prog) (ds ++ gs)).all (· ≤ reachBytes) = true := hsz0
  rw [Try.params4] at hA hval hsz
  obtain ⟨v0, vs0, d0, ds0, p0, q0, hargs, rfl, rfl, h0, r0⟩ := trodAll_cons hA
  obtain ⟨v1, vs1, d1, ds1, p1, q1, rfl, rfl, rfl, h1, r1⟩ := trodAll_cons r0
  obtain ⟨v2, vs2, d2, ds2, p2, q2, rfl, rfl, rfl, h2, r2⟩ := trodAll_cons r1
  obtain ⟨rfl, rfl, rfl⟩ := trodAll_nil r2
  obtain rfl : args = #[v0, v1, v2] := by cases args; simp_all
  obtain ⟨rfl, rfl⟩ := trodVars_none hV
  obtain ⟨a0, rfl, rfl, rfl, w0⟩ := open_string Try.underlying9 (hval 0 9 v0 rfl rfl) h0
  obtain ⟨k, rfl, rfl, rfl, w2⟩ := open_int Try.underlying3 (hval 2 3 v2 rfl rfl) h2
  have hreach : reachBytes = 140737488351232 := rfl
  have hs : a0.size ≤ 140737488355328 := by
    have := sized_string hsz (j := 0) (t := 9) rfl rfl
    simp at this
    omega
  obtain ⟨A, c, es, rfl, hAc, hrd, hl, hx⟩ := open_edits (okWide_slice Try.underlying22 (hval 1 22 v1 rfl rfl)) h1 (fun n hn => by
    have := List.all_eq_true.1 hsz n (DataW.weights_mem_each (j := 1) (t := 22) rfl rfl n hn)
    simpa using this)
  clear hA0 hval0
  simp only [List.append_nil] at hW'
  have hlt : ∀ x ∈ p1, x.block < W.heap.size := fun x hx => hW'.lt x (by simp [hx])
  refine (walk a0 A c hAc es hs hl hx k W hrd).mono fun e W' ⟨he, hg⟩ => ?_
  subst he
  exact ⟨_, rfl, _, _, _, [], [] ++ (p1 ++ ([] ++ [])), [], hW', (trodAll_cons_mk (shut_bool Try.underlying4 _) trodAll_mk0), (trodAll_cons_mk (shut_string Try.underlying9 w0) (trodAll_cons_mk (Below.trod Try.laidOut (by kernel_rfl) (of_decide_eq_true (by kernel_rfl)) h1 hg hlt) (trodAll_cons_mk (shut_int Try.underlying3 w2) trodAll_mk0))), rfl, hg.frame _, fun h => by cases h⟩

theorem over : Rows.editMovesRow.holds Try.pinned (OpenSpec.ofChange Rows.editMovesSpec) :=
  OpenClaim.holds_of_wide 4 Try.f4 rfl rfl rfl rfl rfl rfl rfl ⟨rfl, rfl, rfl, rfl, rfl⟩ rfl rfl rfl rfl rfl (by kernel_rfl) Try.func4 (by kernel_rfl)
    (of_decide_eq_true (by kernel_rfl)) (by unfold Func.isWrapper; first | (rw [if_pos (by decide +kernel)]; kernel_rfl) | (rw [if_neg (by decide +kernel)]; exact ⟨rfl, rfl⟩))
    (fun os started H enc _ => lifted os started H enc)

theorem proved : Rows.EditMovesSaid :=
  over
#print axioms proved
end Go.Proofs.Ytdjdflannedkbaa.editMoves
