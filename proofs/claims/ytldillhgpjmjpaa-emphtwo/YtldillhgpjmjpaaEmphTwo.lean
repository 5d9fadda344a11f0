/-
  PROVED: stetlaw12.EmphTwo returns true for every two numbers: two rows of one mark, of which the first opens and the second closes, make pairs of two marks as long as there are two, and one of one, if one is left. Conditions: none beside the row's own.
-/
import Derived.Test.YtldillhgpjmjpaaOpen2
import Derived.Test.YtldillhgpjmjpaaTwoPure
namespace Go.Proofs.Ytldillhgpjmjpaa.emphTwo
open Go.ChangeShapes Go.WideShapes Go.ChangeAt Go.RowKit Go.Joins Go.Sort
set_option linter.unusedVariables false

theorem wf_bd {n : Int} (h : (Lit.int .i64 n).wf = true) : -9223372036854775808 ≤ n ∧ n ≤ 9223372036854775807 := by
  unfold Lit.wf at h
  rw [Bool.and_eq_true, decide_eq_true_iff, decide_eq_true_iff] at h
  exact h
def SameW (a b : World) : Prop := a = b
set_option maxHeartbeats 4000000 in
set_option maxRecDepth 100000 in
theorem walk (n m : Int) (wn : (Lit.int .i64 n).wf = true) (wm : (Lit.int .i64 m).wf = true) (w : World) :
    Calls Try.prog 7 #[.int .i64 n, .int .i64 m] w fun e w' => e = .returned (.bool true) ∧ Below w.heap.size w w' := by
  have b1 := wf_bd wn
  have b2 := wf_bd wm
  by_cases g1 : n < 1
  · clear wn wm
    go_enter Try.func7, Try.ntmps7
    go_wp2_with fail
    refine (alive_any w).mono ?_
    rintro e w1 ⟨rfl, hb1⟩
    have B1 := Lib.hid hb1
    clear hb1
    go_wp2_with fail
    go_ret
    exact ⟨rfl, B1.out⟩
  by_cases g2 : m < 1
  · clear wn wm
    go_enter Try.func7, Try.ntmps7
    go_wp2_with fail
    refine (alive_any w).mono ?_
    rintro e w1 ⟨rfl, hb1⟩
    have B1 := Lib.hid hb1
    clear hb1
    go_wp2_with fail
    go_ret
    exact ⟨rfl, B1.out⟩
  by_cases g3 : 2000 < n
  · clear wn wm
    go_enter Try.func7, Try.ntmps7
    go_wp2_with fail
    refine (alive_any w).mono ?_
    rintro e w1 ⟨rfl, hb1⟩
    have B1 := Lib.hid hb1
    clear hb1
    go_wp2_with fail
    go_ret
    exact ⟨rfl, B1.out⟩
  by_cases g4 : 2000 < m
  · clear wn wm
    go_enter Try.func7, Try.ntmps7
    go_wp2_with fail
    refine (alive_any w).mono ?_
    rintro e w1 ⟨rfl, hb1⟩
    have B1 := Lib.hid hb1
    clear hb1
    go_wp2_with fail
    go_ret
    exact ⟨rfl, B1.out⟩
  obtain ⟨a, rfl⟩ : ∃ a : Nat, n = a := ⟨n.toNat, by omega⟩
  obtain ⟨b, rfl⟩ : ∃ b : Nat, m = b := ⟨m.toNat, by omega⟩
  have ha : 1 ≤ a ∧ a ≤ 2000 := by omega
  have hb : 1 ≤ b ∧ b ≤ 2000 := by omega
  obtain ⟨k, hk⟩ : ∃ k, k = min a b := ⟨_, rfl⟩
  have HP := Lib.hid (two_pairs a b ha.1 ha.2 hb.1 hb.2)
  have HL := Lib.hid (two_left a b ha.1 ha.2 hb.1 hb.2)
  rw [← hk] at HP HL
  have hwf : ∀ r ∈ twoL a b, (Lit.int .u8 r.m).wf = true := by intro r hr; simp [twoL] at hr; rcases hr with rfl | rfl <;> rfl
  have HPc : Hid (∀ (q : Nat) (W : World), Rdc W W.heap.size (some ⟨q, 0, none⟩) (rcells (twoL a b)) → Calls Try.prog 11 #[.slice (some ⟨q, 0, none⟩) 2 2] W (OwnR W 33 3 (expB (0, 1, k)).length (bcells (expB (0, 1, k))))) := fun q W h => by
    have := pairs_any (some ⟨q, 0, none⟩) 2 (twoL a b) (by show 2 ≤ 600; omega) hwf W h
    rw [HP.out] at this
    exact this
  have HLc : Hid (∀ (q : Nat) (W : World), Rdc W W.heap.size (some ⟨q, 0, none⟩) (rcells (twoL a b)) → Calls Try.prog 14 #[.slice (some ⟨q, 0, none⟩) 2 2] W (OwnR W 3 1 2 (ints [a - k, b - k]))) := fun q W h => by
    have := left_made (some ⟨q, 0, none⟩) 2 (twoL a b) (by show 2 ≤ 600; omega) hwf W h
    rw [HL.out] at this
    exact this
  have hmin : (if b < a then (b : Int) else (a : Int)) = (k : Int) := by split <;> omega
  have hka : k ≤ a ∧ k ≤ b ∧ 1 ≤ k := by omega
  obtain ⟨N, hN⟩ : ∃ N, N = (k + 1) / 2 := ⟨_, rfl⟩
  have HNl : Hid ((expB (0, 1, k)).length = N) := by show _ = _; rw [hN, ← expN_length k]; simp [expB]
  have hq1 : ((k : Int) + 1).tdiv 2 = (N : Int) := by rw [Int.tdiv_eq_ediv_of_nonneg (by omega)]; omega
  have hq2 : ((k : Int) + 1) / 2 = (N : Int) := by omega
  obtain ⟨x, hx⟩ : ∃ x, x = a - k := ⟨_, rfl⟩
  obtain ⟨y, hy⟩ : ∃ y, y = b - k := ⟨_, rfl⟩
  have hs1 : (a : Int) - (k : Int) = (x : Int) := by omega
  have hs2 : (b : Int) - (k : Int) = (y : Int) := by omega
  rw [← hx, ← hy] at HLc
  have HPi : Hid (∀ i, i < N → (expB (0, 1, k))[i]? = some (0, 1, if i + 1 = N ∧ k % 2 = 1 then 1 else 2)) := fun i hi => by
    unfold expB
    rw [List.getElem?_map, expN_at k i (by omega), ← hN]
    rfl
  have HK := Lib.hid hN
  have hk2 : k ≤ 2000 := by omega
  have hNb : N ≤ 2000 := by omega
  generalize hP : expB (0, 1, k) = P at *
  clear HP HL hwf wn wm g1 g2 g3 g4 hk hx hy hP hN
  have c1 : ¬ (a : Int) < 1 := by omega
  have c2 : ¬ (b : Int) < 1 := by omega
  have c3 : ¬ (2000 : Int) < (a : Int) := by omega
  have c4 : ¬ (2000 : Int) < (b : Int) := by omega
  go_enter Try.func7, Try.ntmps7
  go_wp2_with fail
  refine (alive_any w).mono ?_
  rintro e w1 ⟨rfl, hb1⟩
  have B1 := Lib.hid hb1
  clear hb1
  go_wp2_with fail
  obtain ⟨w2, hw2⟩ : ∃ w2, w2 = w1.alloc (.cells #[.int .u8 95, .int .i64 a, .bool true, .bool false, .int .u8 95, .int .i64 b, .bool false, .bool true] 35) := ⟨_, rfl⟩
  have hb2 : Below w1.heap.size w1 w2 := by rw [hw2]; exact (Below.refl _ _).alloc (Nat.le_refl _) _
  have HR2 : Hid (Rdc w2 w2.heap.size (some ⟨w1.heap.size, 0, none⟩) (rcells (twoL a b))) := by
    show Rdc _ _ _ _
    rw [hw2]
    exact (rdc_lit w1 35 _ _ rfl).here
  have B2 := Lib.hid (chain (Nat.le_refl _) B1.out hb2)
  rw [← hw2]
  clear hw2 hb2 B1
  refine (HPc.out _ w2 HR2.out).mono ?_
  rintro e w3 hO
  obtain ⟨A3, c3', rfl, hc3, _, hr3, hb3⟩ := hO.rd
  rw [HNl.out] at hc3 ⊢
  have RP3 := Lib.hid hr3
  have HR3 := Lib.hid (HR2.out.on hb3)
  have B3 := Lib.hid (chain (Nat.le_refl _) B2.out hb3)
  clear hO hr3 hb3 HR2 B2 HPc
  go_wp2_with fail
  refine (HLc.out _ w3 HR3.out).mono ?_
  rintro e w4 hO
  obtain ⟨A4, c4', rfl, hc4, _, hr4, hb4⟩ := hO.rd
  have RL4 := Lib.hid hr4
  have RP4 := Lib.hid (RP3.out.on hb4)
  have B4 := Lib.hid (chain (Nat.le_refl _) B3.out hb4)
  clear hO hr4 hb4 HR3 B3 HLc RP3
  go_wp2_with fail
  obtain ⟨w5, hw5⟩ : ∃ w5, w5 = w4.alloc (.cells #[.int .i64 x, .int .i64 y] 3) := ⟨_, rfl⟩
  have hb5 : Below w4.heap.size w4 w5 := by rw [hw5]; exact (Below.refl _ _).alloc (Nat.le_refl _) _
  have HS := Lib.hid (ints_yes A4 (some ⟨w4.heap.size, 0, none⟩) c4' 2 [x, y] (by show 2 ≤ 1000000; omega) w5.heap.size w5.heap.size w5 (RL4.out.on hb5) (by rw [hw5]; exact (rdc_lit w4 3 _ _ rfl).here))
  have HS : Hid (Calls Try.prog 13 #[.slice A4 2 c4', .slice (some ⟨w4.heap.size, 0, none⟩) 2 2] w5 fun e w' => e = .returned (.bool true) ∧ ∃ n, w' = w5.drewN n) := HS
  have RP5 := Lib.hid (RP4.out.on hb5)
  have B5 := Lib.hid (chain (Nat.le_refl _) B4.out hb5)
  rw [← hw5]
  clear hw5 hb5 RL4 RP4 B4
  refine (HS.out).mono ?_
  rintro e w6 ⟨rfl, n6, rfl⟩
  clear HS
  have B6 : Hid (Below w.heap.size w (w5.drewN n6)) := below_drewN B5.out n6
  have RP6 : Hid (Rdc (w5.drewN n6) w5.heap.size A3 (bcells P)) := RP5.out.drewN n6
  obtain ⟨w6, hw6⟩ : ∃ w6, w6 = w5.drewN n6 := ⟨_, rfl⟩
  rw [← hw6] at B6 RP6 ⊢
  clear hw6 RP5 B5
  go_wp2_with fail
  go_loopw [8] (fun v wr => ∃ i : Nat, i ≤ N ∧ v = .int .i64 i ∧ SameW w6 wr) (fun v _ => N - (intOf v).toNat)
  case atStart => exact ⟨0, Nat.zero_le _, rfl, rfl⟩
  case round =>
    obtain ⟨i, hi, rfl, hw⟩ := hrel
    unfold SameW at hw
    subst hw
    by_cases hlt : i < N
    · obtain ⟨q, o, rfl, hq, r0, r1, r2⟩ := RP6.out.pair (HPi.out i hlt)
      have hilz : (i : Int) < (N : Int) := by omega
      by_cases hlast : i + 1 = N
      · have z1 : ((i : Int) == (N : Int) - 1) = true := by rw [beq_iff_eq]; omega
        by_cases hodd : k % 2 = 1
        · have z2 : ((k : Int) % 2 == 1) = true := by rw [beq_iff_eq]; omega
          have z3 : ((k : Int).tmod 2 == 1) = true := by rw [Int.tmod_eq_emod_of_nonneg (by omega)]; exact z2
          rw [if_pos ⟨hlast, hodd⟩] at r2
          go_wp2_with fail
          go_roundw
          case rel => exact ⟨i + 1, by omega, by go_num, rfl⟩
          case measure => simp [intOf]; omega
        · have z2 : ((k : Int) % 2 == 1) = false := by rw [beq_eq_false_iff_ne]; omega
          have z3 : ((k : Int).tmod 2 == 1) = false := by rw [Int.tmod_eq_emod_of_nonneg (by omega)]; exact z2
          rw [if_neg (fun h => hodd h.2)] at r2
          go_wp2_with fail
          go_roundw
          case rel => exact ⟨i + 1, by omega, by go_num, rfl⟩
          case measure => simp [intOf]; omega
      · have z1 : ((i : Int) == (N : Int) - 1) = false := by rw [beq_eq_false_iff_ne]; omega
        rw [if_neg (fun h => hlast h.1)] at r2
        go_wp2_with fail
        go_roundw
        case rel => exact ⟨i + 1, by omega, by go_num, rfl⟩
        case measure => simp [intOf]; omega
    · go_wp2_with fail
      go_ret
      exact ⟨rfl, B6.out⟩

set_option maxRecDepth 100000 in
theorem lifted (os : Os) (started : os.Started) (H : Type) (enc : TypeId × Value → H) :
    ReturnsInHanded {} Try.checked os 7 .any (Rows.emphTwoSpec.pre6 enc Try.prog Try.f7 Rows.emphTwoRow.domain false) (Rows.emphTwoSpec.post enc Try.prog Try.f7 false true false false) := by
  refine returnsInHanded_of_change_sized (C := Try.checked) Try.own started (by kernel_rfl) Try.func7
    (ChangeSpec.witness6 (enc := enc) (C := Try.checked) false ⟨#[], #[.int .i64 0, .int .i64 0], []⟩ 8 (by kernel_rfl) (by kernel_rfl) (by kernel_rfl) (by kernel_rfl)) ?_
  intro W base args ds gs before hval0 hW hcnd hsz0 _
  have hval : ∀ (j : Nat) t v, Try.f7.params[j]? = some t → args[j]? = some v → Value.okWide Try.prog W .any base t v := hval0
  have hW' := hW
  obtain ⟨p, q, hA0, hV, rfl, hfz, hnd⟩ := hW
  have hA : DataW.TrodAll enc Try.prog W 0 (fun _ => true) true Try.f7.params.toList args.toList ds p := hA0
  have hsz : (DataW.weightsEach Try.prog (Try.f7.params.toList ++ Rows.emphTwoSpec.plain.varTypes Try.prog) (ds ++ gs)).all (· ≤ reachBytes) = true := hsz0
  rw [Try.params7] at hA hval hsz
  obtain ⟨v0, vs0, d0, ds0, p0, q0, hargs, rfl, rfl, h0, r0⟩ := trodAll_cons hA
  obtain ⟨v1, vs1, d1, ds1, p1, q1, rfl, rfl, rfl, h1, r1⟩ := trodAll_cons r0
  obtain ⟨rfl, rfl, rfl⟩ := trodAll_nil r1
  obtain rfl : args = #[v0, v1] := by cases args; simp_all
  obtain ⟨rfl, rfl⟩ := trodVars_none hV
  obtain ⟨n, rfl, rfl, rfl, wn⟩ := open_int Try.underlying3 (hval 0 3 v0 rfl rfl) h0
  obtain ⟨m, rfl, rfl, rfl, wm⟩ := open_int Try.underlying3 (hval 1 3 v1 rfl rfl) h1
  clear hA0 hval0
  simp only [List.append_nil] at hW'
  refine (walk n m wn wm W).mono fun e W' ⟨he, hg⟩ => ?_
  subst he
  exact ⟨_, rfl, _, _, _, [], [] ++ ([] ++ []), [], hW', (trodAll_cons_mk (shut_bool Try.underlying4 _) trodAll_mk0), (trodAll_cons_mk (shut_int Try.underlying3 wn) (trodAll_cons_mk (shut_int Try.underlying3 wm) trodAll_mk0)), rfl, hg.frame _, fun h => by cases h⟩

theorem over : Rows.emphTwoRow.holds Try.pinned (OpenSpec.ofChange Rows.emphTwoSpec) :=
  OpenClaim.holds_of_wide 7 Try.f7 rfl rfl rfl rfl rfl rfl rfl ⟨rfl, rfl, rfl, rfl, rfl⟩ rfl rfl rfl rfl rfl (by kernel_rfl) Try.func7 (by kernel_rfl)
    (of_decide_eq_true (by kernel_rfl)) (by unfold Func.isWrapper; first | (rw [if_pos (by decide +kernel)]; kernel_rfl) | (rw [if_neg (by decide +kernel)]; exact ⟨rfl, rfl⟩))
    (fun os started H enc _ => lifted os started H enc)

theorem proved : Rows.EmphTwoSaid :=
  over
#print axioms proved
end Go.Proofs.Ytldillhgpjmjpaa.emphTwo
