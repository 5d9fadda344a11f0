/-
  PROVED: stetlaw01.TextWhole returns true for every text: the lines that text.Lines answers are the text's parts, one behind the other, each with one end at most, at its end. Conditions: none beside the row's own.
-/
import Derived.Test.YtinbdangpehkaaaWholePure
import Derived.WalkKit
import Derived.ProofKit
import Derived.OpenShut
import Derived.ShutString
namespace Go.Proofs.Ytinbdangpehkaaa.textWhole
open Go.ChangeShapes Go.WideShapes Go.ChangeAt Go.RowKit
open Go.ChangeMaps (open_string shut_string)
set_option linter.unusedVariables false      -- a walk need not use every 'w<i>' (that an integer argument fits its kind)

theorem own : ownKnob Try.prog.godebug = none := by kernel_rfl

theorem two_lines : (linesF { data := #[97, 10, 10] } 0).length = 2 := by
  have t0 : lineTo { data := #[97, 10, 10] } 0 = 1 := by rw [lineTo_go _ 0 (by decide) (by decide), lineTo_stop _ (0 + 1) (by decide)]
  have t1 : lineTo { data := #[97, 10, 10] } 2 = 2 := by rw [lineTo_stop _ 2 (by decide)]
  have e0 : lineEnd { data := #[97, 10, 10] } 0 = 2 := by unfold lineEnd; rw [t0]; decide
  have e1 : lineEnd { data := #[97, 10, 10] } 2 = 3 := by unfold lineEnd; rw [t1]; decide
  rw [linesF_go _ 0 (by decide), e0, linesF_go _ 2 (by decide), e1, linesF_out _ 3 (by decide)]
  rfl
theorem lines_two (w : World) : Calls Try.prog 14 #[.string { data := #[97, 10, 10] }] w fun e w' => ∃ A c, e = .returned (.slice A 2 c) ∧ Below w.heap.size w w' := by
  refine (lines_any { data := #[97, 10, 10] } (by decide) w).mono ?_
  rintro e w' ⟨v, rfl, ho, hb⟩
  obtain ⟨A, c, rfl, -⟩ := own_lines ho
  exact ⟨A, c, by rw [two_lines], hb⟩
theorem chain {B : Nat} {a b c : World} (hB : B ≤ a.heap.size) (h : Below B a b) (k : Below b.heap.size b c) : Below B a c := h.trans (k.mono (Nat.le_trans hB h.size))

/-- What the law's loop goes by: the lines from place i on are those from p on. -/
def WRel (s : ByteArray) (L : List (Nat × Nat × Nat)) (w : World) (v i : Value) (wr : World) : Prop :=
  ∃ k p n : Nat, k ≤ L.length ∧ p ≤ s.size ∧ L.drop k = linesF s p ∧ v = .int .i64 p ∧ i = .int .i64 k ∧ wr = w.drewN n

set_option maxRecDepth 100000 in
set_option maxHeartbeats 4000000 in
theorem walk (a0 : ByteArray) (w0 : a0.size ≤ maxLen) (w : World) :
    Calls Try.prog 5 #[.string a0] w fun e w' => e = .returned (.bool true) ∧ Below w.heap.size w w' := by
  have hs := w0
  unfold maxLen at hs
  by_cases hl : 100000 < a0.size
  · go_enter Try.func5, Try.ntmps5
    go_wp2_with fail
    refine (lines_two _).mono ?_
    rintro e w1 ⟨A, c, rfl, hb1⟩
    go_wp2_with fail
    go_ret
    exact ⟨rfl, hb1⟩
  · have hlen := linesF_len a0 a0.size 0 (by omega)
    have g0 : decide (100000 < (a0.size : Int)) = false := by simp; omega
    go_enter Try.func5, Try.ntmps5
    go_wp2_with fail
    refine (lines_two _).mono ?_
    rintro e w1 ⟨A, c, rfl, hb1⟩
    go_wp2_with fail
    refine (lines_any a0 (by omega) _).mono ?_
    rintro e w2 ⟨v2, rfl, ho2, hb2⟩
    obtain ⟨A2, c2, rfl, hc2, hr2, -⟩ := own_lines ho2
    clear ho2
    have hB : Below w.heap.size w w2 := chain (Nat.le_refl _) hb1 hb2
    clear hb1 hb2
    have HD : Hid ((linesF a0 0).drop 0 = linesF a0 0) := List.drop_zero
    generalize hL : linesF a0 0 = L at *
    have HL := Lib.hid hL
    have HR := Lib.hid hr2
    clear hL hr2
    go_wp2_with fail
    go_loopw [4, 5] (fun v i wr => WRel a0 L w2 v i wr) (fun _ i _ => L.length - (intOf i).toNat)
    case atStart => exact ⟨0, 0, 0, Nat.zero_le _, Nat.zero_le _, HD.out.trans HL.out.symm, rfl, rfl, rfl⟩
    case round =>
      obtain ⟨k, p, n, hk, hp, hd, rfl, rfl, rfl⟩ := hrel
      by_cases hlt : k < L.length
      · obtain ⟨hps, hat, hnext⟩ := line_at hd hlt
        obtain ⟨b, o, rfl, r0, r1, r2⟩ := HR.out k _ hat
        have f1 := lineTo_ge a0 p
        have f2 := lineEnd_ge a0 p
        have f3 := lineEnd_le a0 p hp
        have f4 := lineEnd_gt a0 p hps
        have hcl := lineTo_clear a0 p
        have hec := end_cases a0 p hp
        have HCL := Lib.hid hcl
        have HEC := Lib.hid hec
        have HN := Lib.hid hnext
        clear hcl hec hnext hd hat
        simp only at r0 r1 r2
        generalize lineTo a0 p = t at *
        generalize lineEnd a0 p = e at *
        have g1 : decide (t < p) = false := by simp; omega
        have g2 : decide (e < t) = false := by simp; omega
        have g3 : decide (a0.size < e) = false := by simp; omega
        have g4 : ((e : Int) == (p : Int)) = false := by simp; omega
        go_wp2_with fail
        go_quiet (fail)
        go_wp2_with fail
        go_loop [6] (fun v => ∃ q : Nat, p ≤ q ∧ q ≤ t ∧ v = .int .i64 q) (fun v => t - (intOf v).toNat)
        case atStart => exact ⟨p, Nat.le_refl _, f1, rfl⟩
        case round =>
          obtain ⟨q, hq1, hq2, rfl⟩ := hrel
          by_cases hqt : q < t
          · have hql : q < a0.size := by omega
            have hb := HCL.out q hq1 hqt
            rw [bt_at a0 q hql] at hb
            have hn := (a0[q]'hql).toNat_lt
            have c1 : (((a0[q]'hql).toNat : Int) == 10) = false := by simp; omega
            have c2 : (((a0[q]'hql).toNat : Int) == 13) = false := by simp; omega
            clear hb
            go_wp2_with fail
            go_round
            case rel => exact ⟨q + 1, by omega, by omega, by go_num⟩
            case measure => simp [intOf]; omega
          · obtain rfl : q = t := by omega
            rcases HEC.out with ⟨h1, h2, hpc⟩ | ⟨h1, hpc⟩ | ⟨h1, hpc⟩ | ⟨h1, hpc, h3⟩
            · have hkl : (k : Int) = (L.length : Int) - 1 := by
                have e1 := HN.out
                rw [linesF_out a0 e (by omega)] at e1
                have e2 := congrArg List.length e1
                rw [List.length_drop] at e2
                simp at e2
                omega
              have c1 : ((k : Int) != (L.length : Int) - 1) = false := by simp; omega
              have he1 : a0.size ≤ e := by omega
              clear h1 h2 hkl
              go_wp2_with fail
              go_quiet (fail)
              go_wp2_with fail
              go_roundw
              case rel => exact ⟨k + 1, e, _, by omega, by omega, HN.out, rfl, by go_num, rfl⟩
              case measure => simp [intOf]; omega
            · go_wp2_with fail
              go_quiet (fail)
              go_wp2_with fail
              go_roundw
              case rel => exact ⟨k + 1, e, _, by omega, by omega, HN.out, rfl, by go_num, rfl⟩
              case measure => simp [intOf]; omega
            · go_wp2_with fail
              go_quiet (fail)
              go_wp2_with fail
              go_roundw
              case rel => exact ⟨k + 1, e, _, by omega, by omega, HN.out, rfl, by go_num, rfl⟩
              case measure => simp [intOf]; omega
            · by_cases hes : e < a0.size
              · have hb := h3 hes
                rw [bt_at a0 e hes] at hb
                have hn := (a0[e]'hes).toNat_lt
                have c1 : (((a0[e]'hes).toNat : Int) == 10) = false := by simp; omega
                clear hb h3
                go_wp2_with fail
                go_quiet (fail)
                go_wp2_with fail
                go_roundw
                case rel => exact ⟨k + 1, e, _, by omega, by omega, HN.out, rfl, by go_num, rfl⟩
                case measure => simp [intOf]; omega
              · clear h3
                go_wp2_with fail
                go_quiet (fail)
                go_wp2_with fail
                go_roundw
                case rel => exact ⟨k + 1, e, _, by omega, by omega, HN.out, rfl, by go_num, rfl⟩
                case measure => simp [intOf]; omega
      · have hd' := hd
        rw [List.drop_eq_nil_of_le (by omega)] at hd'
        have hpe : p = a0.size := by
          refine Nat.le_antisymm hp (Nat.le_of_not_lt fun hc => ?_)
          rw [linesF_go a0 p hc] at hd'
          cases hd'
        have c1 : ((p : Int) == (a0.size : Int)) = true := by simp; omega
        clear hd hd' hpe
        go_wp2_with fail
        go_ret
        exact ⟨rfl, below_drewN hB n⟩

set_option maxRecDepth 100000 in
theorem lifted (os : Os) (started : os.Started) (H : Type) (enc : TypeId × Value → H) :
    ReturnsInHanded {} Try.checked os 5 .any (Rows.textWholeSpec.pre6 enc Try.prog Try.f5 Rows.textWholeRow.domain false) (Rows.textWholeSpec.post enc Try.prog Try.f5 false true false false) := by
  refine returnsInHanded_of_change (C := Try.checked) own started (by kernel_rfl) Try.func5
    (ChangeSpec.witness6 (enc := enc) (C := Try.checked) false ⟨#[], #[.string ByteArray.empty], []⟩ 8 (by kernel_rfl) (by kernel_rfl) (by kernel_rfl) (by kernel_rfl)) ?_
  intro W base args ds gs before hval0 hW hcnd _
  have hval : ∀ (j : Nat) t v, Try.f5.params[j]? = some t → args[j]? = some v → Value.okWide Try.prog W .any base t v := hval0
  have hW' := hW
  obtain ⟨p, q, hA0, hV, rfl, hfz, hnd⟩ := hW
  have hA : DataW.TrodAll enc Try.prog W 0 (fun _ => true) true Try.f5.params.toList args.toList ds p := hA0
  rw [Try.params5] at hA hval
  obtain ⟨v0, vs0, d0, ds0, p0, q0, hargs, rfl, rfl, h0, r0⟩ := trodAll_cons hA
  obtain ⟨rfl, rfl, rfl⟩ := trodAll_nil r0
  obtain rfl : args = #[v0] := by cases args; simp_all
  obtain ⟨rfl, rfl⟩ := trodVars_none hV
  obtain ⟨a0, rfl, rfl, rfl, w0⟩ := open_string Try.underlying9 (hval 0 9 v0 rfl rfl) h0
  clear hA0 hval0
  simp only [List.append_nil] at hW'
  refine (walk a0 w0 W).mono fun e W' ⟨he, hg⟩ => ?_
  subst he
  exact ⟨_, rfl, _, _, _, [], [], [], hW', (trodAll_cons_mk (shut_bool Try.underlying4 _) trodAll_mk0), (trodAll_cons_mk (shut_string Try.underlying9 w0) trodAll_mk0), rfl, hg.frame _, fun h => by cases h⟩

theorem over : Rows.textWholeRow.holds Try.pinned (OpenSpec.ofChange Rows.textWholeSpec) :=
  OpenClaim.holds_of_wide 5 Try.f5 rfl rfl rfl rfl rfl rfl rfl ⟨rfl, rfl, rfl, rfl, rfl⟩ rfl rfl rfl rfl rfl (by kernel_rfl) Try.func5 (by kernel_rfl)
    (of_decide_eq_true (by kernel_rfl)) (by unfold Func.isWrapper; first | (rw [if_pos (by decide +kernel)]; kernel_rfl) | (rw [if_neg (by decide +kernel)]; exact ⟨rfl, rfl⟩))
    (fun os started H enc _ => lifted os started H enc)

theorem proved : Rows.TextWholeSaid :=
  over
#print axioms proved
end Go.Proofs.Ytinbdangpehkaaa.textWhole
