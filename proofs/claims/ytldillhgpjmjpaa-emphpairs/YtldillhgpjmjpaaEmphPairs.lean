/-
  PROVED: stetlaw12.EmphPairs returns true for every list of rows: emph.Pairs and Left answer what the document's own answer, and the rows are left as they were. Conditions: none beside the row's own.
-/
import Derived.Test.YtldillhgpjmjpaaOpen2
import Derived.Test.YtldillhgpjmjpaaRefPL
namespace Go.Proofs.Ytldillhgpjmjpaa.emphPairs
open Go.ChangeShapes Go.WideShapes Go.ChangeAt Go.RowKit Go.Joins Go.Sort
set_option linter.unusedVariables false

set_option maxHeartbeats 4000000 in
set_option maxRecDepth 100000 in
theorem walk (A : Option Addr) (c : Nat) (hA : A = none → c = 0) (L : List Rw) (hl : L.length ≤ 140737488355328) (hm : ∀ r ∈ L, (Lit.int .u8 r.m).wf = true) (w : World) (h : Rdc w w.heap.size A (rcells L)) :
    Calls Try.prog 3 #[.slice A L.length c] w fun e w' => e = .returned (.bool true) ∧ Below w.heap.size w w' := by
  have HM := Lib.hid hm
  have HA := Lib.hid hA
  have HR := Lib.hid h
  clear hm hA h
  go_enter Try.func3, Try.ntmps3
  go_wp2_with fail
  refine (alive_any w).mono ?_
  rintro e w1 ⟨rfl, hb1⟩
  have R1 := Lib.hid (HR.out.on hb1)
  have B1 := Lib.hid hb1
  clear hb1 HR
  go_wp2_with fail
  refine (great_any A c L hl _ w1 R1.out).mono ?_
  rintro e w2 ⟨⟨b, rfl, hbL⟩, hw⟩
  subst hw
  cases b with
  | true =>
    clear hbL
    go_wp2_with fail
    go_ret
    exact ⟨rfl, B1.out⟩
  | false =>
    have hl3 := hbL rfl
    clear hbL
    go_wp2_with fail
    refine (copy_any A c HA.out L (by omega) _ w1 R1.out).mono ?_
    rintro e w2 hO
    obtain ⟨A2, c2, rfl, hc2, _, hr2, hb2⟩ := hO.rd
    have RO2 := Lib.hid hr2
    have R2 := Lib.hid (R1.out.on hb2)
    have B2 := Lib.hid (chain (Nat.le_refl _) B1.out hb2)
    clear hO hr2 hb2 R1 B1
    go_wp2_with fail
    refine (pairs_any A2 c2 L (by omega) HM.out w2 RO2.out).mono ?_
    rintro e w3 hO
    obtain ⟨A3, c3, rfl, hc3, _, hr3, hb3⟩ := hO.rd
    have RP3 := Lib.hid hr3
    have RO3 := Lib.hid (RO2.out.on hb3)
    have R3 := Lib.hid (R2.out.on hb3)
    have B3 := Lib.hid (chain (Nat.le_refl _) B2.out hb3)
    clear hO hr3 hb3 R2 B2 RO2
    go_wp2_with fail
    refine (refPairs_any A c L (by omega) w3 R3.out).mono ?_
    rintro e w4 hO
    obtain ⟨A4, c4, rfl, hc4, _, hr4, hb4⟩ := hO.rd
    have RQ4 := Lib.hid hr4
    have RP4 := Lib.hid (RP3.out.on hb4)
    have RO4 := Lib.hid (RO3.out.on hb4)
    have R4 := Lib.hid (R3.out.on hb4)
    have B4 := Lib.hid (chain (Nat.le_refl _) B3.out hb4)
    clear hO hr4 hb4 R3 B3 RO3 RP3
    go_wp2_with fail
    refine (left_made A2 c2 L (by omega) HM.out w4 RO4.out).mono ?_
    rintro e w5 hO
    obtain ⟨A5, c5, rfl, hc5, _, hr5, hb5⟩ := hO.rd
    have RL5 := Lib.hid hr5
    have RQ5 := Lib.hid (RQ4.out.on hb5)
    have RP5 := Lib.hid (RP4.out.on hb5)
    have RO5 := Lib.hid (RO4.out.on hb5)
    have R5 := Lib.hid (R4.out.on hb5)
    have B5 := Lib.hid (chain (Nat.le_refl _) B4.out hb5)
    clear hO hr5 hb5 R4 B4 RO4 RP4 RQ4
    go_wp2_with fail
    refine (refLeft_any A c L (by omega) w5 R5.out).mono ?_
    rintro e w6 hO
    obtain ⟨A6, c6, rfl, hc6, _, hr6, hb6⟩ := hO.rd
    have RM6 := Lib.hid hr6
    have RL6 := Lib.hid (RL5.out.on hb6)
    have RQ6 := Lib.hid (RQ5.out.on hb6)
    have RP6 := Lib.hid (RP5.out.on hb6)
    have RO6 := Lib.hid (RO5.out.on hb6)
    have R6 := Lib.hid (R5.out.on hb6)
    have B6 := Lib.hid (chain (Nat.le_refl _) B5.out hb6)
    clear hO hr6 hb6 R5 B5 RO5 RP5 RQ5 RL5
    go_wp2_with fail
    refine (ints_yes A5 A6 c5 c6 (leftM L) (by simp [leftM]; omega) _ _ w6 RL6.out RM6.out).mono ?_
    rintro e w7 ⟨rfl, n7, rfl⟩
    clear RL6 RM6
    go_wp2_with fail
    refine (same_yes A2 A c2 c L (by omega) _ _ (w6.drewN n7) (RO6.out.drewN n7) (R6.out.drewN n7)).mono ?_
    rintro e w8 ⟨rfl, n8, rfl⟩
    clear RO6 R6
    obtain ⟨P, hP⟩ : ∃ P, P = pairsM L := ⟨_, rfl⟩
    have RP7 : Hid (Rdc ((w6.drewN n7).drewN n8) w6.heap.size A3 (bcells P)) := by show Rdc _ _ _ _; rw [hP]; exact RP6.out
    have RQ7 : Hid (Rdc ((w6.drewN n7).drewN n8) w6.heap.size A4 (bcells P)) := by show Rdc _ _ _ _; rw [hP]; exact RQ6.out
    have B7 : Hid (Below w.heap.size w ((w6.drewN n7).drewN n8)) := below_drewN (below_drewN B6.out n7) n8
    rw [← hP]
    have hPl : P.length ≤ 361200 * 1048576 := by
      rw [hP]
      have h1 := expand_len (runM L L.length).2.2 (run_q L L.length)
      have h2 := run_len L 600 L.length (by omega)
      have h3 : L.length * 601 ≤ 600 * 601 := Nat.mul_le_mul_right _ (by omega)
      exact Nat.le_trans h1 (Nat.mul_le_mul_right _ (by omega))
    clear RP6 RQ6 B6 hP
    obtain ⟨w9, hw9⟩ : ∃ w9, w9 = (w6.drewN n7).drewN n8 := ⟨_, rfl⟩
    rw [← hw9] at RP7 RQ7 B7 ⊢
    clear hw9
    go_wp2_with fail
    go_loopw [6] (fun v wr => ∃ i n : Nat, i ≤ P.length ∧ v = .int .i64 i ∧ wr = w9.drewN n) (fun v _ => P.length - (intOf v).toNat)
    case atStart => exact ⟨0, 0, Nat.zero_le _, rfl, rfl⟩
    case round =>
      obtain ⟨i, n, hi, rfl, rfl⟩ := hrel
      by_cases hlt : i < P.length
      · obtain ⟨b, o, rfl, hb, r0, r1, r2⟩ := RP7.out.pair (List.getElem?_eq_getElem hlt)
        obtain ⟨b', o', rfl, hb', k0, k1, k2⟩ := RQ7.out.pair (List.getElem?_eq_getElem hlt)
        generalize P[i].1 = x at *
        generalize P[i].2.1 = y at *
        generalize P[i].2.2 = z at *
        go_wp2_with fail
        go_quiet (fail)
        go_wp2_with fail
        go_roundw
        case rel => exact ⟨i + 1, n + nq, by omega, by go_num, rfl⟩
        case measure => simp [intOf]; omega
      · go_wp2_with fail
        go_ret
        exact ⟨rfl, below_drewN B7.out n⟩

set_option maxRecDepth 100000 in
theorem lifted (os : Os) (started : os.Started) (H : Type) (enc : TypeId × Value → H) :
    ReturnsInHanded {} Try.checked os 3 .any (Rows.emphPairsSpec.pre6 enc Try.prog Try.f3 Rows.emphPairsRow.domain false) (Rows.emphPairsSpec.post enc Try.prog Try.f3 false true false false) := by
  refine returnsInHanded_of_change_sized (C := Try.checked) Try.own started (by kernel_rfl) Try.func3
    (ChangeSpec.witness6 (enc := enc) (C := Try.checked) false ⟨#[], #[.slice none 0 0], []⟩ 8 (by kernel_rfl) (by kernel_rfl) (by kernel_rfl) (by kernel_rfl)) ?_
  intro W base args ds gs before hval0 hW hcnd hsz0 _
  have hval : ∀ (j : Nat) t v, Try.f3.params[j]? = some t → args[j]? = some v → Value.okWide Try.prog W .any base t v := hval0
  have hW' := hW
  obtain ⟨p, q, hA0, hV, rfl, hfz, hnd⟩ := hW
  have hA : DataW.TrodAll enc Try.prog W 0 (fun _ => true) true Try.f3.params.toList args.toList ds p := hA0
  have hsz : (DataW.weightsEach Try.prog (Try.f3.params.toList ++ Rows.emphPairsSpec.plain.varTypes Try.prog) (ds ++ gs)).all (· ≤ reachBytes) = true := hsz0
  rw [Try.params3] at hA hval hsz
  obtain ⟨v0, vs0, d0, ds0, p0, q0, hargs, rfl, rfl, h0, r0⟩ := trodAll_cons hA
  obtain ⟨rfl, rfl, rfl⟩ := trodAll_nil r0
  obtain rfl : args = #[v0] := by cases args; simp_all
  obtain ⟨rfl, rfl⟩ := trodVars_none hV
  obtain ⟨A, c, L, rfl, hAc, hrd, hl, hm, hn⟩ := open_runs (okWide_slice Try.underlying22 (hval 0 22 v0 rfl rfl)) h0 (fun n hn => by
    have := List.all_eq_true.1 hsz n (DataW.weights_mem_each (j := 0) (t := 22) rfl rfl n hn)
    simpa using this)
  clear hA0 hval0
  simp only [List.append_nil] at hW'
  have hlt : ∀ x ∈ p0, x.block < W.heap.size := fun x hx => hW'.lt x (by simp [hx])
  refine (walk A c hAc L hl hm W hrd).mono fun e W' ⟨he, hg⟩ => ?_
  subst he
  exact ⟨_, rfl, _, _, _, [], p0 ++ [], [], hW', (trodAll_cons_mk (shut_bool Try.underlying4 _) trodAll_mk0), (trodAll_cons_mk (Below.trod Try.laidOut (by kernel_rfl) (of_decide_eq_true (by kernel_rfl)) h0 hg hlt) trodAll_mk0), rfl, hg.frame _, fun h => by cases h⟩

theorem over : Rows.emphPairsRow.holds Try.pinned (OpenSpec.ofChange Rows.emphPairsSpec) :=
  OpenClaim.holds_of_wide 3 Try.f3 rfl rfl rfl rfl rfl rfl rfl ⟨rfl, rfl, rfl, rfl, rfl⟩ rfl rfl rfl rfl rfl (by kernel_rfl) Try.func3 (by kernel_rfl)
    (of_decide_eq_true (by kernel_rfl)) (by unfold Func.isWrapper; first | (rw [if_pos (by decide +kernel)]; kernel_rfl) | (rw [if_neg (by decide +kernel)]; exact ⟨rfl, rfl⟩))
    (fun os started H enc _ => lifted os started H enc)

theorem proved : Rows.EmphPairsSaid :=
  over
#print axioms proved
end Go.Proofs.Ytldillhgpjmjpaa.emphPairs
