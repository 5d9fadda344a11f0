/-
  PROVED: stetlaw12.EmphNested returns true for every list of rows: the pairs that emph.Pairs answers are within each other or apart. Conditions: none beside the row's own.
-/
import Derived.Test.YtldillhgpjmjpaaOpen2
import Derived.Test.YtldillhgpjmjpaaPairs
import Derived.Test.YtldillhgpjmjpaaInvPure
namespace Go.Proofs.Ytldillhgpjmjpaa.emphNested
open Go.ChangeShapes Go.WideShapes Go.ChangeAt Go.RowKit Go.Joins Go.Sort
set_option linter.unusedVariables false

set_option maxHeartbeats 4000000 in
set_option maxRecDepth 100000 in
theorem walk (A : Option Addr) (c : Nat) (hA : A = none → c = 0) (L : List Rw) (hl : L.length ≤ 140737488355328) (hm : ∀ r ∈ L, (Lit.int .u8 r.m).wf = true) (w : World) (h : Rdc w w.heap.size A (rcells L)) :
    Calls Try.prog 5 #[.slice A L.length c] w fun e w' => e = .returned (.bool true) ∧ Below w.heap.size w w' := by
  have HM := Lib.hid hm
  have HA := Lib.hid hA
  have HR := Lib.hid h
  clear hm hA h
  go_enter Try.func5, Try.ntmps5
  go_wp2_with fail
  refine (alive_any w).mono ?_
  rintro e w1 ⟨rfl, hb1⟩
  have R1 := Lib.hid (HR.out.on hb1)
  have B1 := Lib.hid hb1
  clear hb1 HR
  go_wp2_with fail
  refine (great_any A c L hl _ w1 R1.out).mono ?_
  rintro e w2 ⟨⟨b, rfl, hbL⟩, hw⟩
  subst hw
  cases b with
  | true =>
    clear hbL
    go_wp2_with fail
    go_ret
    exact ⟨rfl, B1.out⟩
  | false =>
    have hl3 := hbL rfl
    clear hbL
    go_wp2_with fail
    refine (copy_any A c HA.out L (by omega) _ w1 R1.out).mono ?_
    rintro e w2 hO
    obtain ⟨A2, c2, rfl, hc2, _, hr2, hb2⟩ := hO.rd
    have RO2 := Lib.hid hr2
    have R2 := Lib.hid (R1.out.on hb2)
    have B2 := Lib.hid (chain (Nat.le_refl _) B1.out hb2)
    clear hO hr2 hb2 R1 B1
    go_wp2_with fail
    refine (pairs_any A2 c2 L (by omega) HM.out w2 RO2.out).mono ?_
    rintro e w3 hO
    obtain ⟨A3, c3, rfl, hc3, _, hr3, hb3⟩ := hO.rd
    have RP3 := Lib.hid hr3
    have R3 := Lib.hid (R2.out.on hb3)
    have B3 := Lib.hid (chain (Nat.le_refl _) B2.out hb3)
    clear hO hr3 hb3 R2 B2 RO2
    have hPl : (pairsM L).length ≤ 361200 * 1048576 := by
      have h1 := expand_len (runM L L.length).2.2 (run_q L L.length)
      have h2 := run_len L 600 L.length (by omega)
      have h3 : L.length * 601 ≤ 600 * 601 := Nat.mul_le_mul_right _ (by omega)
      exact Nat.le_trans h1 (Nat.mul_le_mul_right _ (by omega))
    have hNNs := pairs_nn L
    generalize pairsM L = P at *
    have HNs := Lib.hid hNNs
    clear hNNs
    have hBz3 := B3.out.size
    go_wp2_with fail
    go_loopw [4] (fun v wr => ∃ i : Nat, i ≤ P.length ∧ v = .int .i64 i ∧ Below w3.heap.size w3 wr) (fun v _ => P.length - (intOf v).toNat)
    case atStart => exact ⟨0, Nat.zero_le _, rfl, Below.refl _ _⟩
    case round =>
      obtain ⟨i, hi, rfl, hB⟩ := hrel
      by_cases hlt : i < P.length
      · obtain ⟨b', o', e1, hb', q0, q1, q2⟩ := RP3.out.pair (List.getElem?_eq_getElem hlt)
        have HQ := Lib.hid (And.intro q0 q1)
        have HNi : Hid (∀ k (hk : k < i), NN (P[k]'(by omega)) P[i]) := fun k hk => List.pairwise_iff_getElem.1 HNs.out k i (by omega) hlt hk
        obtain ⟨bo, hbo⟩ : ∃ bo, bo = P[i].1 := ⟨_, rfl⟩
        obtain ⟨bc, hbc⟩ : ∃ bc, bc = P[i].2.1 := ⟨_, rfl⟩
        obtain ⟨bn, hbn⟩ : ∃ bn, bn = P[i].2.2 := ⟨_, rfl⟩
        have HBB : Hid (P[i] = (bo, bc, bn)) := by show _ = _; rw [hbo, hbc, hbn]
        rw [← hbo] at q0
        rw [← hbc] at q1
        rw [← hbn] at q2
        clear hbo hbc hbn HQ
        have HQ := Lib.hid (And.intro q0 (And.intro q1 q2))
        clear q0 q1 q2
        go_wp2_with fail
        go_loopw [5] (fun v wr => ∃ k : Nat, k ≤ i ∧ v = .int .i64 k ∧ Below w3.heap.size w3 wr) (fun v _ => i - (intOf v).toNat)
        case atStart => exact ⟨0, Nat.zero_le _, rfl, hB⟩
        case round =>
          clear hB
          obtain ⟨k, hk, rfl, hB2⟩ := hrel
          have hBz : w3.heap.size ≤ wr.heap.size := hB2.size
          by_cases hki : k < i
          · have hkl : k < P.length := by omega
            obtain ⟨b'', o'', e2, hb'', k0, k1, k2⟩ := RP3.out.pair (List.getElem?_eq_getElem hkl)
            rw [e1] at e2
            cases e2
            have hNN := HNi.out k hki
            obtain ⟨ao, hao⟩ : ∃ ao, ao = P[k].1 := ⟨_, rfl⟩
            obtain ⟨ac, hac⟩ : ∃ ac, ac = P[k].2.1 := ⟨_, rfl⟩
            obtain ⟨an, han⟩ : ∃ an, an = P[k].2.2 := ⟨_, rfl⟩
            rw [HBB.out] at hNN
            unfold NN at hNN
            simp only at hNN
            rw [← hao, ← hac] at hNN
            rw [← hao] at k0
            rw [← hac] at k1
            rw [← han] at k2
            obtain ⟨q0, q1, q2⟩ := HQ.out
            have s0 := (hB2.cell (p := ⟨b', o' + i * 3, none⟩) (by have := World.block_lt_of_cell? _ _ q0; omega)).trans q0
            have s1 := (hB2.cell (p := ⟨b', o' + i * 3 + 1, none⟩) (by have := World.block_lt_of_cell? _ _ q1; omega)).trans q1
            have s2 := (hB2.cell (p := ⟨b', o' + i * 3 + 2, none⟩) (by have := World.block_lt_of_cell? _ _ q2; omega)).trans q2
            have t0 := (hB2.cell (p := ⟨b', o' + k * 3, none⟩) (by have := World.block_lt_of_cell? _ _ k0; omega)).trans k0
            have t1 := (hB2.cell (p := ⟨b', o' + k * 3 + 1, none⟩) (by have := World.block_lt_of_cell? _ _ k1; omega)).trans k1
            have t2 := (hB2.cell (p := ⟨b', o' + k * 3 + 2, none⟩) (by have := World.block_lt_of_cell? _ _ k2; omega)).trans k2
            have hbw : b' < wr.heap.size := World.block_lt_of_cell? _ _ s0
            subst e1
            clear q0 q1 q2 k0 k1 k2 hao hac han
            have hklz : (k : Int) < (P.length : Int) := by omega
            have hilz : (i : Int) < (P.length : Int) := by omega
            by_cases hp1 : ao < bo
            · have zp1 : decide (ao < bo) = true := by simpa using hp1
              have yp1 : decide ((ao : Int) < (bo : Int)) = true := by simp; omega
              by_cases hp2 : bo < ac
              · have zp2 : decide (bo < ac) = true := by simpa using hp2
                have yp2 : decide ((bo : Int) < (ac : Int)) = true := by simp; omega
                have hp3 : ¬ ac < bc := by omega
                have zp3 : decide (ac < bc) = false := by simpa using hp3
                have yp3 : decide ((ac : Int) < (bc : Int)) = false := by simp; omega
                by_cases hp4 : bo < ao
                · exact absurd hp4 (by omega)
                · have zp4 : decide (bo < ao) = false := by simpa using hp4
                  have yp4 : decide ((bo : Int) < (ao : Int)) = false := by simp; omega
                  clear hNN
                  go_wp2_with fail
                  go_roundw
                  case rel => exact ⟨k + 1, by omega, by go_num, (hB2.alloc hBz _).alloc (by simp; omega) _⟩
                  case measure => simp [intOf]; omega
              · have zp2 : decide (bo < ac) = false := by simpa using hp2
                have yp2 : decide ((bo : Int) < (ac : Int)) = false := by simp; omega
                by_cases hp4 : bo < ao
                · exact absurd hp4 (by omega)
                · have zp4 : decide (bo < ao) = false := by simpa using hp4
                  have yp4 : decide ((bo : Int) < (ao : Int)) = false := by simp; omega
                  clear hNN
                  go_wp2_with fail
                  go_roundw
                  case rel => exact ⟨k + 1, by omega, by go_num, (hB2.alloc hBz _).alloc (by simp; omega) _⟩
                  case measure => simp [intOf]; omega
            · have zp1 : decide (ao < bo) = false := by simpa using hp1
              have yp1 : decide ((ao : Int) < (bo : Int)) = false := by simp; omega
              by_cases hp4 : bo < ao
              · have zp4 : decide (bo < ao) = true := by simpa using hp4
                have yp4 : decide ((bo : Int) < (ao : Int)) = true := by simp; omega
                by_cases hp5 : ao < bc
                · have zp5 : decide (ao < bc) = true := by simpa using hp5
                  have yp5 : decide ((ao : Int) < (bc : Int)) = true := by simp; omega
                  have hp6 : ¬ bc < ac := by omega
                  have zp6 : decide (bc < ac) = false := by simpa using hp6
                  have yp6 : decide ((bc : Int) < (ac : Int)) = false := by simp; omega
                  clear hNN
                  go_wp2_with fail
                  go_roundw
                  case rel => exact ⟨k + 1, by omega, by go_num, (hB2.alloc hBz _).alloc (by simp; omega) _⟩
                  case measure => simp [intOf]; omega
                · have zp5 : decide (ao < bc) = false := by simpa using hp5
                  have yp5 : decide ((ao : Int) < (bc : Int)) = false := by simp; omega
                  clear hNN
                  go_wp2_with fail
                  go_roundw
                  case rel => exact ⟨k + 1, by omega, by go_num, (hB2.alloc hBz _).alloc (by simp; omega) _⟩
                  case measure => simp [intOf]; omega
              · have zp4 : decide (bo < ao) = false := by simpa using hp4
                have yp4 : decide ((bo : Int) < (ao : Int)) = false := by simp; omega
                clear hNN
                go_wp2_with fail
                go_roundw
                case rel => exact ⟨k + 1, by omega, by go_num, (hB2.alloc hBz _).alloc (by simp; omega) _⟩
                case measure => simp [intOf]; omega
          · have hki2 : k = i := by omega
            subst hki2
            go_wp2_with fail
            go_roundw
            case rel => exact ⟨k + 1, by omega, by go_num, hB2⟩
            case measure => simp [intOf]; omega
      · go_wp2_with fail
        go_ret
        exact ⟨rfl, B3.out.trans (hB.mono hBz3)⟩

set_option maxRecDepth 100000 in
theorem lifted (os : Os) (started : os.Started) (H : Type) (enc : TypeId × Value → H) :
    ReturnsInHanded {} Try.checked os 5 .any (Rows.emphNestedSpec.pre6 enc Try.prog Try.f5 Rows.emphNestedRow.domain false) (Rows.emphNestedSpec.post enc Try.prog Try.f5 false true false false) := by
  refine returnsInHanded_of_change_sized (C := Try.checked) Try.own started (by kernel_rfl) Try.func5
    (ChangeSpec.witness6 (enc := enc) (C := Try.checked) false ⟨#[], #[.slice none 0 0], []⟩ 8 (by kernel_rfl) (by kernel_rfl) (by kernel_rfl) (by kernel_rfl)) ?_
  intro W base args ds gs before hval0 hW hcnd hsz0 _
  have hval : ∀ (j : Nat) t v, Try.f5.params[j]? = some t → args[j]? = some v → Value.okWide Try.prog W .any base t v := hval0
  have hW' := hW
  obtain ⟨p, q, hA0, hV, rfl, hfz, hnd⟩ := hW
  have hA : DataW.TrodAll enc Try.prog W 0 (fun _ => true) true Try.f5.params.toList args.toList ds p := hA0
  have hsz : (DataW.weightsEach Try.prog (Try.f5.params.toList ++ Rows.emphNestedSpec.plain.varTypes Try.prog) (ds ++ gs)).all (· ≤ reachBytes) = true := hsz0
  rw [Try.params5] at hA hval hsz
  obtain ⟨v0, vs0, d0, ds0, p0, q0, hargs, rfl, rfl, h0, r0⟩ := trodAll_cons hA
  obtain ⟨rfl, rfl, rfl⟩ := trodAll_nil r0
  obtain rfl : args = #[v0] := by cases args; simp_all
  obtain ⟨rfl, rfl⟩ := trodVars_none hV
  obtain ⟨A, c, L, rfl, hAc, hrd, hl, hm, hn⟩ := open_runs (okWide_slice Try.underlying22 (hval 0 22 v0 rfl rfl)) h0 (fun n hn => by
    have := List.all_eq_true.1 hsz n (DataW.weights_mem_each (j := 0) (t := 22) rfl rfl n hn)
    simpa using this)
  clear hA0 hval0
  simp only [List.append_nil] at hW'
  have hlt : ∀ x ∈ p0, x.block < W.heap.size := fun x hx => hW'.lt x (by simp [hx])
  refine (walk A c hAc L hl hm W hrd).mono fun e W' ⟨he, hg⟩ => ?_
  subst he
  exact ⟨_, rfl, _, _, _, [], p0 ++ [], [], hW', (trodAll_cons_mk (shut_bool Try.underlying4 _) trodAll_mk0), (trodAll_cons_mk (Below.trod Try.laidOut (by kernel_rfl) (of_decide_eq_true (by kernel_rfl)) h0 hg hlt) trodAll_mk0), rfl, hg.frame _, fun h => by cases h⟩

theorem over : Rows.emphNestedRow.holds Try.pinned (OpenSpec.ofChange Rows.emphNestedSpec) :=
  OpenClaim.holds_of_wide 5 Try.f5 rfl rfl rfl rfl rfl rfl rfl ⟨rfl, rfl, rfl, rfl, rfl⟩ rfl rfl rfl rfl rfl (by kernel_rfl) Try.func5 (by kernel_rfl)
    (of_decide_eq_true (by kernel_rfl)) (by unfold Func.isWrapper; first | (rw [if_pos (by decide +kernel)]; kernel_rfl) | (rw [if_neg (by decide +kernel)]; exact ⟨rfl, rfl⟩))
    (fun os started H enc _ => lifted os started H enc)

theorem proved : Rows.EmphNestedSaid :=
  over
#print axioms proved
end Go.Proofs.Ytldillhgpjmjpaa.emphNested
