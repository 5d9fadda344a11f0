/-
  PROVED: stetlaw02.EditApplies returns true for every text and every list of edits: edit.Sorted, Check and Apply answer what the document's own answer, and the edits are left as they were. Conditions: none beside the row's own.
-/
import Derived.Test.YtdjdflannedkbaaOpen
import Derived.Test.YtdjdflannedkbaaRefApply
import Derived.Test.YtdjdflannedkbaaAlive
namespace Go.Proofs.Ytdjdflannedkbaa.editApplies
open Go.ChangeShapes Go.WideShapes Go.ChangeAt Go.RowKit Go.Joins
open Go.ChangeMaps (open_string shut_string)
set_option linter.unusedVariables false

set_option maxHeartbeats 2000000 in
theorem walk (s : ByteArray) (A : Option Addr) (c : Nat) (hA : A = none → c = 0) (es : List Ed) (hs : s.size ≤ 140737488355328) (hl : es.length ≤ 140737488355328) (hx : ∀ e ∈ es, e.x.size ≤ 140737488355328) (w : World) (h : Rd w w.heap.size A es) :
    Calls Try.prog 3 #[.string s, .slice A es.length c] w fun e w' => e = .returned (.bool true) ∧ Below w.heap.size w w' := by
  have HA := Lib.hid hA
  have HX := Lib.hid hx
  clear hA hx
  cases hg : grt s.size es with
  | true =>
    go_enter Try.func3, Try.ntmps3
    go_wp2_with fail
    refine (alive_any w).mono ?_
    rintro e w1 ⟨rfl, hb1⟩
    have hgr := great_any s A c es hs hl HX.out _ w1 (h.below hb1)
    rw [hg] at hgr
    clear hg
    go_wp2_with fail
    refine hgr.mono ?_
    rintro e w2 ⟨rfl, rfl⟩
    clear hgr
    go_wp2_with fail
    go_ret
    exact ⟨rfl, hb1⟩
  | false =>
    have hq : ¬ 50000 < gl s.size es ∧ ¬ 300 < es.length := by
      have := hg; unfold grt at this
      simp only [Bool.or_eq_false_iff, decide_eq_false_iff_not] at this
      exact this
    obtain ⟨hs5, hx5⟩ := gl_small es s.size (by omega)
    have hl3 : es.length ≤ 300 := by omega
    have HX6 : Hid (∀ e ∈ es, e.x.size ≤ 60000) := fun e he => by have := hx5 e he; omega
    clear hx5 hq
    obtain ⟨R, hR⟩ : ∃ R, R = appR s es := ⟨_, rfl⟩
    obtain ⟨r, hr⟩ : ∃ r, r = chk s.size es := ⟨_, rfl⟩
    have HR : Hid (R = appR s es ∧ r = chk s.size es) := ⟨hR, hr⟩
    clear hR hr
    go_enter Try.func3, Try.ntmps3
    go_wp2_with fail
    refine (alive_any w).mono ?_
    rintro e w1 ⟨rfl, hb1⟩
    have h1 := h.on hb1
    have hgr := great_any s A c es hs hl HX.out _ w1 h1
    rw [hg] at hgr
    clear hg h
    go_wp2_with fail
    refine hgr.mono ?_
    rintro e w2 ⟨rfl, rfl⟩
    clear hgr
    have hcp := copy_any A c HA.out es (by omega) _ w1 h1
    go_wp2_with fail
    refine hcp.mono ?_
    rintro e w2 hO
    obtain ⟨A2, c2, rfl, hc2, hA2, hr2, hb2⟩ := hO.rd
    have HA2 := Lib.hid hA2
    have h2 := h1.on hb2
    have hB2 := chain (Nat.le_refl _) hb1 hb2
    clear hcp hO hA2 hb1 hb2 h1
    have hap := apply_any s A2 c2 HA2.out es hl3 (by omega) HX6.out _ w2 hr2
    rw [← HR.out.1, ← HR.out.2] at hap
    go_wp2_with fail
    refine hap.mono ?_
    rintro e w3 ⟨rfl, hb3⟩
    have h3 := h2.on hb3
    have hr3 := hr2.on hb3
    have hB3 := chain (Nat.le_refl _) hB2 hb3
    clear hap h2 hr2 hB2 hb3
    have hra := refApply_any s A c es hl3 (by omega) HX6.out _ w3 h3
    rw [← HR.out.1, ← HR.out.2] at hra
    go_wp2_with fail
    refine hra.mono ?_
    rintro e w4 ⟨rfl, hb4⟩
    have h4 := h3.on hb4
    have hr4 := hr3.on hb4
    have hB4 := chain (Nat.le_refl _) hB3 hb4
    clear hra h3 hr3 hB3 hb4
    have hck := check_any s A2 c2 HA2.out es (by omega) _ w4 hr4
    rw [← HR.out.2] at hck
    go_wp2_with fail
    refine hck.mono ?_
    rintro e w5 ⟨rfl, hb5⟩
    have h5 := h4.on hb5
    have hr5 := hr4.on hb5
    have hB5 := chain (Nat.le_refl _) hB4 hb5
    clear hck h4 hr4 hB4 hb5
    have hso := sorted_any A2 c2 HA2.out es (by omega) _ w5 hr5
    go_wp2_with fail
    refine hso.mono ?_
    rintro e w6 hO
    obtain ⟨A6, c6, rfl, hc6, _, hr6, hb6⟩ := hO.rd
    have h6 := h5.on hb6
    have ho6 := hr5.on hb6
    have hB6 := chain (Nat.le_refl _) hB5 hb6
    clear hso hO h5 hr5 hB5 hb6
    have hrs := refSorted_any A c es (by omega) _ w6 h6
    go_wp2_with fail
    refine hrs.mono ?_
    rintro e w7 hO
    obtain ⟨A7, c7, rfl, hc7, _, hr7, hb7⟩ := hO.rd
    have h7 := h6.on hb7
    have ho7 := ho6.on hb7
    have hs7 := hr6.on hb7
    have hB7 := chain (Nat.le_refl _) hB6 hb7
    clear hrs hO h6 ho6 hr6 hB6 hb7
    have hsl : (srtE es).length ≤ 1000000 := by rw [srt_len]; omega
    have hsm := same_yes A6 A7 c6 c7 (srtE es) hsl _ _ w7 hs7 hr7
    go_wp2_with fail
    refine hsm.mono ?_
    rintro e w8 ⟨rfl, n8, rfl⟩
    clear hsm hs7 hr7
    have hsm := same_yes A2 A c2 c es (by omega) _ _ (w7.drewN n8) (ho7.drewN n8) (h7.drewN n8)
    go_wp2_with fail
    refine hsm.mono ?_
    rintro e w9 ⟨rfl, n9, rfl⟩
    clear hsm ho7 h7
    go_wp2_with fail
    go_ret
    exact ⟨rfl, below_drewN hB7 _⟩

set_option maxRecDepth 100000 in
theorem lifted (os : Os) (started : os.Started) (H : Type) (enc : TypeId × Value → H) :
    ReturnsInHanded {} Try.checked os 3 .any (Rows.editAppliesSpec.pre6 enc Try.prog Try.f3 Rows.editAppliesRow.domain false) (Rows.editAppliesSpec.post enc Try.prog Try.f3 false true false false) := by
  refine returnsInHanded_of_change_sized (C := Try.checked) Try.own started (by kernel_rfl) Try.func3
    (ChangeSpec.witness6 (enc := enc) (C := Try.checked) false ⟨#[], #[.string ByteArray.empty, .slice none 0 0], []⟩ 8 (by kernel_rfl) (by kernel_rfl) (by kernel_rfl) (by kernel_rfl)) ?_
  intro W base args ds gs before hval0 hW hcnd hsz0 _
  have hval : ∀ (j : Nat) t v, Try.f3.params[j]? = some t → args[j]? = some v → Value.okWide Try.prog W .any base t v := hval0
  have hW' := hW
  obtain ⟨p, q, hA0, hV, rfl, hfz, hnd⟩ := hW
  have hA : DataW.TrodAll enc Try.prog W 0 (fun _ => true) true Try.f3.params.toList args.toList ds p := hA0
  have hsz : (DataW.weightsEach Try.prog (Try.f3.params.toList ++ Rows.editAppliesSpec.plain.varTypes Try.prog) (ds ++ gs)).all (· ≤ reachBytes) = true := hsz0
  rw [Try.params3] at hA hval hsz
  obtain ⟨v0, vs0, d0, ds0, p0, q0, hargs, rfl, rfl, h0, r0⟩ := trodAll_cons hA
  obtain ⟨v1, vs1, d1, ds1, p1, q1, rfl, rfl, rfl, h1, r1⟩ := trodAll_cons r0
  obtain ⟨rfl, rfl, rfl⟩ := trodAll_nil r1
  obtain rfl : args = #[v0, v1] := by cases args; simp_all
  obtain ⟨rfl, rfl⟩ := trodVars_none hV
  obtain ⟨a0, rfl, rfl, rfl, w0⟩ := open_string Try.underlying9 (hval 0 9 v0 rfl rfl) h0
  have hreach : reachBytes = 140737488351232 := rfl
  have hs : a0.size ≤ 140737488355328 := by
    have := sized_string hsz (j := 0) (t := 9) rfl rfl
    simp at this
    omega
  obtain ⟨A, c, es, rfl, hAc, hrd, hl, hx⟩ := open_edits (okWide_slice Try.underlying22 (hval 1 22 v1 rfl rfl)) h1 (fun n hn => by
    have := List.all_eq_true.1 hsz n (DataW.weights_mem_each (j := 1) (t := 22) rfl rfl n hn)
    simpa using this)
  clear hA0 hval0
  simp only [List.append_nil] at hW'
  have hlt : ∀ x ∈ p1, x.block < W.heap.size := fun x hx => hW'.lt x (by simp [hx])
  refine (walk a0 A c hAc es hs hl hx W hrd).mono fun e W' ⟨he, hg⟩ => ?_
  subst he
  exact ⟨_, rfl, _, _, _, [], [] ++ (p1 ++ []), [], hW', (trodAll_cons_mk (shut_bool Try.underlying4 _) trodAll_mk0), (trodAll_cons_mk (shut_string Try.underlying9 w0) (trodAll_cons_mk (Below.trod Try.laidOut (by kernel_rfl) (of_decide_eq_true (by kernel_rfl)) h1 hg hlt) trodAll_mk0)), rfl, hg.frame _, fun h => by cases h⟩

theorem over : Rows.editAppliesRow.holds Try.pinned (OpenSpec.ofChange Rows.editAppliesSpec) :=
  OpenClaim.holds_of_wide 3 Try.f3 rfl rfl rfl rfl rfl rfl rfl ⟨rfl, rfl, rfl, rfl, rfl⟩ rfl rfl rfl rfl rfl (by kernel_rfl) Try.func3 (by kernel_rfl)
    (of_decide_eq_true (by kernel_rfl)) (by unfold Func.isWrapper; first | (rw [if_pos (by decide +kernel)]; kernel_rfl) | (rw [if_neg (by decide +kernel)]; exact ⟨rfl, rfl⟩))
    (fun os started H enc _ => lifted os started H enc)

theorem proved : Rows.EditAppliesSaid :=
  over
#print axioms proved
end Go.Proofs.Ytdjdflannedkbaa.editApplies
