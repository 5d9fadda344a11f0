/-
  PROVED: stetlaw02.EditParts returns true for every text and every list of edits: edits that are done one after the other, the last one first, make what they make together. Conditions: none beside the row's own.
-/
import Derived.Test.YtdjdflannedkbaaOpen
import Derived.Test.YtdjdflannedkbaaPartPure
import Derived.Test.YtdjdflannedkbaaAlive
namespace Go.Proofs.Ytdjdflannedkbaa.editParts
open Go.ChangeShapes Go.WideShapes Go.ChangeAt Go.RowKit Go.Joins
open Go.ChangeMaps (open_string shut_string)
set_option linter.unusedVariables false

/-- One edit in a new block. -/
theorem rd_one (w : World) (a : Ed) : Rd (w.alloc (.cells #[.int .i64 a.f, .int .i64 a.t, .string a.x] 34)) (w.heap.size + 1) (some ⟨w.heap.size, 0, none⟩) [a] := by
  intro i l hi
  match i, hi with
  | 0, hi => simp at hi; subst hi; exact ⟨_, _, rfl, by omega, by simp, by simp, by simp⟩

set_option maxHeartbeats 4000000 in
theorem walk (s : ByteArray) (A : Option Addr) (c : Nat) (hA : A = none → c = 0) (es : List Ed) (hs : s.size ≤ 140737488355328) (hl : es.length ≤ 140737488355328) (hx : ∀ e ∈ es, e.x.size ≤ 140737488355328) (w : World) (h : Rd w w.heap.size A es) :
    Calls Try.prog 7 #[.string s, .slice A es.length c] w fun e w' => e = .returned (.bool true) ∧ Below w.heap.size w w' := by
  have HA := Lib.hid hA
  have HX := Lib.hid hx
  clear hA hx
  cases hg : grt s.size es with
  | true =>
    go_enter Try.func7, Try.ntmps7
    go_wp2_with fail
    refine (alive_any w).mono ?_
    rintro e w1 ⟨rfl, hb1⟩
    have h1 := h.on hb1
    have hgr := great_any s A c es hs hl HX.out _ w1 h1
    rw [hg] at hgr
    clear hg h
    go_wp2_with fail
    refine hgr.mono ?_
    rintro e w2 ⟨rfl, rfl⟩
    clear hgr
    go_wp2_with fail
    go_ret
    exact ⟨rfl, hb1⟩
  | false =>
    have hgs : s.size + sumX es ≤ 50000 := by
      have := hg; unfold grt at this
      simp only [Bool.or_eq_false_iff, decide_eq_false_iff_not] at this
      exact gl_sum es s.size (by omega)
    have hq : ¬ 50000 < gl s.size es ∧ ¬ 300 < es.length := by
      have := hg; unfold grt at this
      simp only [Bool.or_eq_false_iff, decide_eq_false_iff_not] at this
      exact this
    obtain ⟨hs5, hx5⟩ := gl_small es s.size (by omega)
    have hl3 : es.length ≤ 300 := by omega
    have HX6 : Hid (∀ e ∈ es, e.x.size ≤ 60000) := fun e he => by have := hx5 e he; omega
    clear hx5 hq
    obtain ⟨R, hR⟩ : ∃ R, R = appR s es := ⟨_, rfl⟩
    obtain ⟨r, hr⟩ : ∃ r, r = chk s.size es := ⟨_, rfl⟩
    have HR : Hid (R = appR s es ∧ r = chk s.size es) := ⟨hR, hr⟩
    by_cases q2 : r = 0
    · have HRG : Hid (Right s.size (srtE es)) := right_of_chk (hr.symm.trans q2)
      have HRB : Hid (R = appB s (srtE es)) := by show _ = _; rw [hR, appR_ok (hr.symm.trans q2)]; rfl
      have hsx : s.size + sumX (srtE es) ≤ 50000 := by rw [sumX_perm (srt_perm es)]; exact hgs
      have HX7 : Hid (∀ e ∈ srtE es, e.x.size ≤ 60000) := fun e he => HX6.out e ((srt_perm es).mem_iff.1 he)
      have hlen : (srtE es).length ≤ 300 := by rw [srt_len]; exact hl3
      clear hR hr
      subst q2
      go_enter Try.func7, Try.ntmps7
      go_wp2_with fail
      refine (alive_any w).mono ?_
      rintro e w1 ⟨rfl, hb1⟩
      have h1 := h.on hb1
      have hgr := great_any s A c es hs hl HX.out _ w1 h1
      rw [hg] at hgr
      clear hg h
      go_wp2_with fail
      refine hgr.mono ?_
      rintro e w2 ⟨rfl, rfl⟩
      clear hgr
      have hcp := copy_any A c HA.out es (by omega) _ w1 h1
      go_wp2_with fail
      refine hcp.mono ?_
      rintro e w2 hO
      obtain ⟨A2, c2, rfl, hc2, hA2, hr2, hb2⟩ := hO.rd
      have HA2 := Lib.hid hA2
      have h2 := h1.on hb2
      have hB2 := chain (Nat.le_refl _) hb1 hb2
      clear hcp hO hA2 hb1 hb2 h1
      have hap := apply_any s A2 c2 HA2.out es hl3 (by omega) HX6.out _ w2 hr2
      rw [← HR.out.1, ← HR.out.2] at hap
      go_wp2_with fail
      refine hap.mono ?_
      rintro e w3 ⟨rfl, hb3⟩
      have h3 := h2.on hb3
      have hB3 := chain (Nat.le_refl _) hB2 hb3
      clear hap h2 hr2 hB2 hb3
      have hcp := copy_any A c HA.out es (by omega) _ w3 h3
      go_wp2_with fail
      refine hcp.mono ?_
      rintro e w4 hO
      obtain ⟨A4, c4, rfl, hc4, hA4, hr4, hb4⟩ := hO.rd
      have HA4 := Lib.hid hA4
      have hB4 := chain (Nat.le_refl _) hB3 hb4
      clear hcp hO hA4 hb4 hB3 h3
      have hso := sorted_any A4 c4 HA4.out es (by omega) _ w4 hr4
      go_wp2_with fail
      refine hso.mono ?_
      rintro e w5 hO
      obtain ⟨A5, c5, rfl, hc5, _, hr5, hb5⟩ := hO.rd
      have hB5 := chain (Nat.le_refl _) hB4 hb5
      clear hso hO hb5 hB4 hr4
      obtain ⟨L, hL⟩ : ∃ L, L = srtE es := ⟨_, rfl⟩
      rw [← hL] at HRG HRB hsx hr5 hc5 HX7 hlen ⊢
      clear hL
      go_wp2_with fail
      go_loopw [8, 9, 10, 11] (fun t i _ _ wr => ∃ (m : Nat), m ≤ L.length ∧ i = .int .i64 ((m : Int) - 1) ∧ t = .string (appB s (L.drop m)) ∧ Below w5.heap.size w5 wr) (fun _ i _ _ _ => (intOf i + 1).toNat)
      case atStart => exact ⟨L.length, Nat.le_refl _, rfl, by rw [List.drop_length, appB_nil], Below.refl _ _⟩
      case round =>
        obtain ⟨m, hm, rfl, rfl, hB⟩ := hrel
        have hBz := hB.size
        by_cases hm0 : 0 < m
        · obtain ⟨m, rfl⟩ : ∃ n, m = n + 1 := ⟨m - 1, by omega⟩
          have hlt : m < L.length := by omega
          obtain ⟨b, o, rfl, hb, c0, c1, c2'⟩ := (hr5.below hB) m L[m] (List.getElem?_eq_getElem hlt)
          have HD := Lib.hid (List.drop_eq_getElem_cons hlt)
          have hst := part_step (s := s) (e := L[m]) (M := L.drop (m + 1)) (by rw [← HD.out]; exact HRG.out.drop m)
          rw [← HD.out] at hst
          have hxx := HX7.out _ (List.getElem_mem hlt)
          have hsz := appB_small HRG.out (m + 1)
          generalize L[m] = y at c0 c1 c2' hst hxx HD
          obtain ⟨T, hT⟩ : ∃ T, T = appB s (L.drop (m + 1)) := ⟨_, rfl⟩
          rw [← hT] at hst hsz ⊢
          have hap := apply_any T (some ⟨wr.heap.size, 0, none⟩) 1 (fun h => by cases h) [y] (by simp) (by omega) (fun e he => by simp at he; subst he; exact hxx) _ _ (rd_one wr y)
          rw [hst.2, hst.1] at hap
          obtain ⟨T2, hT2⟩ : ∃ T, T = appB s (L.drop m) := ⟨_, rfl⟩
          rw [← hT2] at hap
          have HT2 := Lib.hid hT2
          have e1 : (((m + 1 : Nat) : Int) - 1) = (m : Int) := by omega
          rw [e1]
          clear hT hst HD hT2 e1
          have z0 : (0 : Int) ≤ (m : Int) := by omega
          have z1 : (m : Int) < (L.length : Int) := by omega
          go_wp2_with fail
          refine hap.mono ?_
          rintro e w6 ⟨rfl, hb6⟩
          have hB6 := chain (Nat.le_refl _) (hB.alloc hBz (.cells #[.int .i64 y.f, .int .i64 y.t, .string y.x] 34)) hb6
          clear hap hb6 c0 c1 c2'
          go_wp2_with fail
          go_roundw
          case rel => exact ⟨m, by omega, rfl, by rw [HT2.out], hB6⟩
          case measure => simp [intOf]
        · obtain rfl : m = 0 := by omega
          have HT : Hid (appB s (L.drop 0) = R) := by show _ = _; rw [List.drop_zero, HRB.out]
          rw [HT.out]
          go_wp2_with fail
          go_ret
          exact ⟨rfl, chain (Nat.le_refl _) hB5 hB⟩
    · have d3 : ((r : Int) != 0) = true := by simpa using q2
      clear hR hr q2
      go_enter Try.func7, Try.ntmps7
      go_wp2_with fail
      refine (alive_any w).mono ?_
      rintro e w1 ⟨rfl, hb1⟩
      have h1 := h.on hb1
      have hgr := great_any s A c es hs hl HX.out _ w1 h1
      rw [hg] at hgr
      clear hg h
      go_wp2_with fail
      refine hgr.mono ?_
      rintro e w2 ⟨rfl, rfl⟩
      clear hgr
      have hcp := copy_any A c HA.out es (by omega) _ w1 h1
      go_wp2_with fail
      refine hcp.mono ?_
      rintro e w2 hO
      obtain ⟨A2, c2, rfl, hc2, hA2, hr2, hb2⟩ := hO.rd
      have HA2 := Lib.hid hA2
      have h2 := h1.on hb2
      have hB2 := chain (Nat.le_refl _) hb1 hb2
      clear hcp hO hA2 hb1 hb2 h1
      have hap := apply_any s A2 c2 HA2.out es hl3 (by omega) HX6.out _ w2 hr2
      rw [← HR.out.1, ← HR.out.2] at hap
      go_wp2_with fail
      refine hap.mono ?_
      rintro e w3 ⟨rfl, hb3⟩
      have h3 := h2.on hb3
      have hB3 := chain (Nat.le_refl _) hB2 hb3
      clear hap h2 hr2 hB2 hb3
      go_wp2_with fail
      go_ret
      exact ⟨rfl, hB3⟩

set_option maxRecDepth 100000 in
theorem lifted (os : Os) (started : os.Started) (H : Type) (enc : TypeId × Value → H) :
    ReturnsInHanded {} Try.checked os 7 .any (Rows.editPartsSpec.pre6 enc Try.prog Try.f7 Rows.editPartsRow.domain false) (Rows.editPartsSpec.post enc Try.prog Try.f7 false true false false) := by
  refine returnsInHanded_of_change_sized (C := Try.checked) Try.own started (by kernel_rfl) Try.func7
    (ChangeSpec.witness6 (enc := enc) (C := Try.checked) false ⟨#[], #[.string ByteArray.empty, .slice none 0 0], []⟩ 8 (by kernel_rfl) (by kernel_rfl) (by kernel_rfl) (by kernel_rfl)) ?_
  intro W base args ds gs before hval0 hW hcnd hsz0 _
  have hval : ∀ (j : Nat) t v, Try.f7.params[j]? = some t → args[j]? = some v → Value.okWide Try.prog W .any base t v := hval0
  have hW' := hW
  obtain ⟨p, q, hA0, hV, rfl, hfz, hnd⟩ := hW
  have hA : DataW.TrodAll enc Try.prog W 0 (fun _ => true) true Try.f7.params.toList args.toList ds p := hA0
  have hsz : (DataW.weightsEach Try.prog (Try.f7.params.toList ++ Rows.editPartsSpec.plain.varTypes Try.prog) (ds ++ gs)).all (· ≤ reachBytes) = true := hsz0
  rw [Try.params7] at hA hval hsz
  obtain ⟨v0, vs0, d0, ds0, p0, q0, hargs, rfl, rfl, h0, r0⟩ := trodAll_cons hA
  obtain ⟨v1, vs1, d1, ds1, p1, q1, rfl, rfl, rfl, h1, r1⟩ := trodAll_cons r0
  obtain ⟨rfl, rfl, rfl⟩ := trodAll_nil r1
  obtain rfl : args = #[v0, v1] := by cases args; simp_all
  obtain ⟨rfl, rfl⟩ := trodVars_none hV
  obtain ⟨a0, rfl, rfl, rfl, w0⟩ := open_string Try.underlying9 (hval 0 9 v0 rfl rfl) h0
  have hreach : reachBytes = 140737488351232 := rfl
  have hs : a0.size ≤ 140737488355328 := by
    have := sized_string hsz (j := 0) (t := 9) rfl rfl
    simp at this
    omega
  obtain ⟨A, c, es, rfl, hAc, hrd, hl, hx⟩ := open_edits (okWide_slice Try.underlying22 (hval 1 22 v1 rfl rfl)) h1 (fun n hn => by
    have := List.all_eq_true.1 hsz n (DataW.weights_mem_each (j := 1) (t := 22) rfl rfl n hn)
    simpa using this)
  clear hA0 hval0
  simp only [List.append_nil] at hW'
  have hlt : ∀ x ∈ p1, x.block < W.heap.size := fun x hx => hW'.lt x (by simp [hx])
  refine (walk a0 A c hAc es hs hl hx W hrd).mono fun e W' ⟨he, hg⟩ => ?_
  subst he
  exact ⟨_, rfl, _, _, _, [], [] ++ (p1 ++ []), [], hW', (trodAll_cons_mk (shut_bool Try.underlying4 _) trodAll_mk0), (trodAll_cons_mk (shut_string Try.underlying9 w0) (trodAll_cons_mk (Below.trod Try.laidOut (by kernel_rfl) (of_decide_eq_true (by kernel_rfl)) h1 hg hlt) trodAll_mk0)), rfl, hg.frame _, fun h => by cases h⟩

theorem over : Rows.editPartsRow.holds Try.pinned (OpenSpec.ofChange Rows.editPartsSpec) :=
  OpenClaim.holds_of_wide 7 Try.f7 rfl rfl rfl rfl rfl rfl rfl ⟨rfl, rfl, rfl, rfl, rfl⟩ rfl rfl rfl rfl rfl (by kernel_rfl) Try.func7 (by kernel_rfl)
    (of_decide_eq_true (by kernel_rfl)) (by unfold Func.isWrapper; first | (rw [if_pos (by decide +kernel)]; kernel_rfl) | (rw [if_neg (by decide +kernel)]; exact ⟨rfl, rfl⟩))
    (fun os started H enc _ => lifted os started H enc)

theorem proved : Rows.EditPartsSaid :=
  over
#print axioms proved
end Go.Proofs.Ytdjdflannedkbaa.editParts
