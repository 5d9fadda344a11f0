/-
  PROVED: stetlaw01.TextJoins returns true for every two texts: the lines of both with a byte 10 between are those of the first with its end, and those of the second, moved. Conditions: none beside the row's own.
-/
import Derived.Test.YtinbdangpehkaaaJoinPure
import Derived.WalkKit
import Derived.ProofKit
import Derived.OpenShut
import Derived.ShutString
namespace Go.Proofs.Ytinbdangpehkaaa.textJoins
open Go.ChangeShapes Go.WideShapes Go.ChangeAt Go.RowKit
open Go.ChangeMaps (open_string shut_string)
set_option linter.unusedVariables false      -- a walk need not use every 'w<i>' (that an integer argument fits its kind)

theorem own : ownKnob Try.prog.godebug = none := by kernel_rfl

theorem two_lines : (linesF { data := #[97, 10, 98] } 0).length = 2 := by
  have t0 : lineTo { data := #[97, 10, 98] } 0 = 1 := by rw [lineTo_go _ 0 (by decide) (by decide), lineTo_stop _ (0 + 1) (by decide)]
  have t1 : lineTo { data := #[97, 10, 98] } 2 = 3 := by rw [lineTo_go _ 2 (by decide) (by decide), lineTo_out _ (2 + 1) (by decide)]
  have e0 : lineEnd { data := #[97, 10, 98] } 0 = 2 := by unfold lineEnd; rw [t0]; decide
  have e1 : lineEnd { data := #[97, 10, 98] } 2 = 3 := by unfold lineEnd; rw [t1]; decide
  rw [linesF_go _ 0 (by decide), e0, linesF_go _ 2 (by decide), e1, linesF_out _ 3 (by decide)]
  rfl
theorem lines_two (w : World) : Calls Try.prog 14 #[.string { data := #[97, 10, 98] }] w fun e w' => ∃ A c, e = .returned (.slice A 2 c) ∧ Below w.heap.size w w' := by
  refine (lines_any { data := #[97, 10, 98] } (by decide) w).mono ?_
  rintro e w' ⟨v, rfl, ho, hb⟩
  obtain ⟨A, c, rfl, -⟩ := own_lines ho
  exact ⟨A, c, by rw [two_lines], hb⟩
theorem chain {B : Nat} {a b c : World} (hB : B ≤ a.heap.size) (h : Below B a b) (k : Below b.heap.size b c) : Below B a c := h.trans (k.mono (Nat.le_trans hB h.size))
theorem Rd.left {w : World} {A : Option Addr} {L M : List (Nat × Nat × Nat)} (h : Rd w A (L ++ M)) : Rd w A L := by
  intro i l hi
  exact h i l (by rw [List.getElem?_append_left (List.getElem?_eq_some_iff.1 hi).1]; exact hi)

set_option maxRecDepth 100000 in
set_option maxHeartbeats 1000000 in
theorem walk_idle (a0 : ByteArray) (a1 : ByteArray) (w0 : a0.size ≤ maxLen) (w1 : a1.size ≤ maxLen) (w : World) (h : 50000 < a0.size ∨ 50000 < a1.size ∨ ∃ h : 0 < a0.size, (a0[a0.size - 1]'(by omega)).toNat = 13) :
    Calls Try.prog 11 #[.string a0, .string a1] w fun e w' => e = .returned (.bool true) ∧ Below w.heap.size w w' := by
  have hs := w0
  have hs1 := w1
  unfold maxLen at hs hs1
  by_cases h1 : 50000 < a0.size
  · go_enter Try.func11, Try.ntmps11
    go_wp2_with fail
    refine (lines_two _).mono ?_
    rintro e w1 ⟨A, c, rfl, hb1⟩
    go_wp2_with fail
    go_ret
    exact ⟨rfl, hb1⟩
  by_cases h2 : 50000 < a1.size
  · go_enter Try.func11, Try.ntmps11
    go_wp2_with fail
    refine (lines_two _).mono ?_
    rintro e w1 ⟨A, c, rfl, hb1⟩
    go_wp2_with fail
    go_ret
    exact ⟨rfl, hb1⟩
  · obtain ⟨h0, h13⟩ : ∃ h : 0 < a0.size, (a0[a0.size - 1]'(by omega)).toNat = 13 := by
      rcases h with h | h | h
      · exact absurd h h1
      · exact absurd h h2
      · exact h
    have he : a0.toList.isEmpty = false := by
      rw [Lib.toList_data]
      cases hh : a0.data.toList with
      | nil =>
        have := congrArg List.length hh
        rw [len_list, List.length_nil] at this
        omega
      | cons _ _ => rfl
    have c1 : (((a0[a0.size - 1]'(by omega)).toNat : Int) == 13) = true := by simp; omega
    clear h13 h
    go_enter Try.func11, Try.ntmps11
    go_wp2_with fail
    refine (lines_two _).mono ?_
    rintro e w1 ⟨A, c, rfl, hb1⟩
    go_wp2_with fail
    go_ret
    exact ⟨rfl, hb1⟩

/-- The three calls of text.Lines, each slice by its form and its cells. -/
def HasL (L : List (Nat × Nat × Nat)) (n : Nat) (w : World) (e : Ending) (w' : World) : Prop :=
  ∃ A c, e = .returned (.slice A n c) ∧ n ≤ c ∧ Rd w' A L ∧ (∀ b o k, A = some ⟨b, o, k⟩ → b < w'.heap.size) ∧ Below w.heap.size w w'
theorem lines_has (s : ByteArray) (hs : s.size ≤ 200000) (w : World) : Calls Try.prog 14 #[.string s] w (HasL (linesF s 0) (linesF s 0).length w) := by
  refine (lines_any s hs w).mono ?_
  rintro e w' ⟨v, rfl, ho, hb⟩
  obtain ⟨A, c, rfl, hc, hr, hl⟩ := own_lines ho
  exact ⟨A, c, rfl, hc, hr, fun b o k e => (hl b o k e).2, hb⟩
theorem lines_join (a b : ByteArray) (hs : (a ++ { data := #[10] } ++ b).size ≤ 200000) (w : World) :
    Calls Try.prog 14 #[.string (a ++ { data := #[10] } ++ b)] w (HasL (linesF (a ++ { data := #[10] }) 0 ++ (linesF b 0).map (shift (a.size + 1))) ((linesF (a ++ { data := #[10] }) 0).length + (linesF b 0).length) w) := by
  refine (lines_has _ hs w).mono ?_
  rintro e w' ⟨A, c, rfl, hc, hr, hl, hb⟩
  rw [linesF_join] at hc hr
  rw [linesF_join, List.length_append, List.length_map]
  rw [List.length_append, List.length_map] at hc
  exact ⟨A, c, rfl, hc, hr, hl, hb⟩

theorem join_at {X Y : List (Nat × Nat × Nat)} {m k : Nat} {l : Nat × Nat × Nat} (h : Y[k]? = some l) : (X ++ Y.map (shift m))[X.length + k]? = some (shift m l) := by
  rw [List.getElem?_append_right (by omega), show X.length + k - X.length = k from by omega, List.getElem?_map, h]
  rfl
theorem moved (m f : Nat) : ((m + 1 + f : Nat) : Int) = (f : Int) + (m : Int) + 1 := by omega

theorem linesF_bd (s : ByteArray) : ∀ (n p : Nat), s.size - p ≤ n → ∀ l ∈ linesF s p, l.1 ≤ s.size ∧ l.2.1 ≤ s.size ∧ l.2.2 ≤ s.size
  | 0, p, h, l, hl => by rw [linesF_out s p (by omega)] at hl; cases hl
  | n + 1, p, h, l, hl => by
    by_cases hp : p < s.size
    · rw [linesF_go s p hp] at hl
      rcases List.mem_cons.1 hl with rfl | hl
      · exact ⟨Nat.le_of_lt hp, lineTo_le s p (Nat.le_of_lt hp), lineEnd_le s p (Nat.le_of_lt hp)⟩
      · have := lineEnd_gt s p hp
        exact linesF_bd s n (lineEnd s p) (by omega) l hl
    · rw [linesF_out s p (by omega)] at hl; cases hl

/-- What the law's loop goes by. -/
def JRel (Y : List (Nat × Nat × Nat)) (w : World) (i : Value) (wr : World) : Prop :=
  ∃ k : Nat, k ≤ Y.length ∧ i = .int .i64 k ∧ Below w.heap.size w wr

set_option maxRecDepth 100000 in
set_option maxHeartbeats 4000000 in
theorem walk (a0 : ByteArray) (a1 : ByteArray) (w0 : a0.size ≤ maxLen) (w1 : a1.size ≤ maxLen) (w : World) :
    Calls Try.prog 11 #[.string a0, .string a1] w fun e w' => e = .returned (.bool true) ∧ Below w.heap.size w w' := by
  by_cases hidle : 50000 < a0.size ∨ 50000 < a1.size ∨ ∃ h : 0 < a0.size, (a0[a0.size - 1]'(by omega)).toNat = 13
  · exact walk_idle a0 a1 w0 w1 w hidle
  · have h1 : a0.size ≤ 50000 := by omega
    have h2 : a1.size ≤ 50000 := by omega
    have h3 : ∀ h : 0 < a0.size, ¬ (a0[a0.size - 1]'(Nat.sub_lt h Nat.one_pos)).toNat = 13 := fun h hc => hidle (Or.inr (Or.inr ⟨h, hc⟩))
    clear hidle
    have z1 : (a0 ++ { data := #[10] }).size = a0.size + 1 := by rw [app_size]; rfl
    have z2 : (a0 ++ { data := #[10] } ++ a1).size = a0.size + 1 + a1.size := by rw [app_size, z1]
    have Z1 : Hid ((a0 ++ { data := #[10] }).size ≤ 200000) := show (a0 ++ { data := #[10] }).size ≤ 200000 from by omega
    have Z2 : Hid ((a0 ++ { data := #[10] } ++ a1).size ≤ 200000) := show (a0 ++ { data := #[10] } ++ a1).size ≤ 200000 from by omega
    have k1 := linesF_len (a0 ++ { data := #[10] }) _ 0 (Nat.le_refl _)
    have k2 := linesF_len a1 _ 0 (Nat.le_refl _)
    rw [Nat.sub_zero, z1] at k1
    rw [Nat.sub_zero] at k2
    clear z1 z2
    have H1 := Lib.hid (lines_join a0 a1 Z2.out)
    have H2 := Lib.hid (lines_has (a0 ++ { data := #[10] }) Z1.out)
    have H3 := Lib.hid (lines_has a1 (by omega))
    have HY := Lib.hid (linesF_bd a1 _ 0 (Nat.le_refl _))
    generalize linesF (a0 ++ { data := #[10] }) 0 = X at *
    generalize linesF a1 0 = Y at *
    clear Z1 Z2
    have d1 : decide (50000 < (a0.size : Int)) = false := by simp; omega
    have d2 : decide (50000 < (a1.size : Int)) = false := by simp; omega
    by_cases hne : 0 < a0.size
    · have he : a0.toList.isEmpty = false := by
        rw [Lib.toList_data]
        cases hh : a0.data.toList with
        | nil =>
          have := congrArg List.length hh
          rw [len_list, List.length_nil] at this
          omega
        | cons _ _ => rfl
      have c1 : (((a0[a0.size - 1]'(by omega)).toNat : Int) == 13) = false := by have := h3 hne; simp; omega
      clear h3
      go_enter Try.func11, Try.ntmps11
      go_wp2_with fail
      refine (lines_two _).mono ?_
      rintro e w3 ⟨A, c, rfl, hb1⟩
      go_wp2_with fail
      refine (H1.out _).mono ?_
      rintro e w5 ⟨A5, c5, rfl, hc5, hr5, hl5, hb5⟩
      have HR5 := Lib.hid hr5
      have HL5 := Lib.hid hl5
      clear hr5 hl5
      go_wp2_with fail
      refine (H2.out _).mono ?_
      rintro e w6 ⟨A6, c6, rfl, hc6, hr6, hl6, hb6⟩
      have HR6 := Lib.hid hr6
      have HL6 := Lib.hid hl6
      clear hr6 hl6
      go_wp2_with fail
      refine (H3.out _).mono ?_
      rintro e w7 ⟨A7, c7, rfl, hc7, hr7, hl7, hb7⟩
      have hb7' := hb7
      have R5 : Hid (Rd w7 A5 (X ++ Y.map (shift (a0.size + 1)))) := (HR5.out.below hb6 fun b o k e => HL5.out b o k e).below hb7 fun b o k e => Nat.lt_of_lt_of_le (HL5.out b o k e) hb6.size
      have R6 : Hid (Rd w7 A6 X) := HR6.out.below hb7 fun b o k e => HL6.out b o k e
      have R7 := Lib.hid hr7
      have P5 : Hid (∀ b o k, A5 = some ⟨b, o, k⟩ → b < w7.heap.size) := fun b o k e => Nat.lt_of_lt_of_le (HL5.out b o k e) (Nat.le_trans hb6.size hb7.size)
      have P7 := Lib.hid hl7
      have hB : Below w.heap.size w w7 := chain (Nat.le_refl _) (chain (Nat.le_refl _) (chain (Nat.le_refl _) hb1 hb5) hb6) hb7
      clear HR5 HL5 HR6 HL6 hr7 hl7 hb1 hb5 hb6 hb7 hb7' H1 H2 H3
      go_wp2_with fail
      refine (same_yes A5 A6 c5 c6 X (by omega) _ (Rd.left R5.out) R6.out).mono ?_
      rintro e w8 ⟨rfl, n, rfl⟩
      go_wp2_with fail
      go_loopw [8] (fun i wr => JRel Y w7 i wr) (fun i _ => Y.length - (intOf i).toNat)
      case atStart => exact ⟨0, Nat.zero_le _, rfl, below_drewN (Below.refl _ _) n⟩
      case round =>
        obtain ⟨k, hk, rfl, hBr⟩ := hrel
        by_cases hlt : k < Y.length
        · have hat : Y[k]? = some Y[k] := List.getElem?_eq_getElem hlt
          obtain ⟨b, o, rfl, r0, r1, r2⟩ := R5.out (X.length + k) _ (join_at hat)
          obtain ⟨b', o', rfl, q0, q1, q2⟩ := R7.out k _ hat
          have hbb := P5.out b o none rfl
          have hbb' := P7.out b' o' none rfl
          rw [← hBr.cell (p := ⟨b, _, none⟩) hbb] at r0 r1 r2
          rw [← hBr.cell (p := ⟨b', _, none⟩) hbb'] at q0 q1 q2
          obtain ⟨y1, y2, y3⟩ := HY.out _ (List.getElem_mem hlt)
          clear hat
          generalize Y[k] = l at *
          obtain ⟨f, t, e⟩ := l
          simp only [shift, moved] at r0 r1 r2 q0 q1 q2 y1 y2 y3
          have hbw : b' < wr.heap.size := Nat.lt_of_lt_of_le hbb' hBr.size
          have hsz := hBr.size
          go_wp2_with fail
          go_quiet (fail)
          go_wp2_with fail
          go_roundw
          case rel => exact ⟨k + 1, by omega, by go_num, below_drewN (hBr.alloc hsz _) _⟩
          case measure => simp [intOf]; omega
        · go_wp2_with fail
          go_ret
          exact ⟨rfl, hB.trans (hBr.mono hB.size)⟩
    · have he : a0.toList.isEmpty = true := by
        rw [Lib.toList_data]
        cases hh : a0.data.toList with
        | nil => rfl
        | cons _ _ =>
          have := congrArg List.length hh
          rw [len_list, List.length_cons] at this
          omega
      clear h3
      go_enter Try.func11, Try.ntmps11
      go_wp2_with fail
      refine (lines_two _).mono ?_
      rintro e w3 ⟨A, c, rfl, hb1⟩
      go_wp2_with fail
      refine (H1.out _).mono ?_
      rintro e w5 ⟨A5, c5, rfl, hc5, hr5, hl5, hb5⟩
      have HR5 := Lib.hid hr5
      have HL5 := Lib.hid hl5
      clear hr5 hl5
      go_wp2_with fail
      refine (H2.out _).mono ?_
      rintro e w6 ⟨A6, c6, rfl, hc6, hr6, hl6, hb6⟩
      have HR6 := Lib.hid hr6
      have HL6 := Lib.hid hl6
      clear hr6 hl6
      go_wp2_with fail
      refine (H3.out _).mono ?_
      rintro e w7 ⟨A7, c7, rfl, hc7, hr7, hl7, hb7⟩
      have hb7' := hb7
      have R5 : Hid (Rd w7 A5 (X ++ Y.map (shift (a0.size + 1)))) := (HR5.out.below hb6 fun b o k e => HL5.out b o k e).below hb7 fun b o k e => Nat.lt_of_lt_of_le (HL5.out b o k e) hb6.size
      have R6 : Hid (Rd w7 A6 X) := HR6.out.below hb7 fun b o k e => HL6.out b o k e
      have R7 := Lib.hid hr7
      have P5 : Hid (∀ b o k, A5 = some ⟨b, o, k⟩ → b < w7.heap.size) := fun b o k e => Nat.lt_of_lt_of_le (HL5.out b o k e) (Nat.le_trans hb6.size hb7.size)
      have P7 := Lib.hid hl7
      have hB : Below w.heap.size w w7 := chain (Nat.le_refl _) (chain (Nat.le_refl _) (chain (Nat.le_refl _) hb1 hb5) hb6) hb7
      clear HR5 HL5 HR6 HL6 hr7 hl7 hb1 hb5 hb6 hb7 hb7' H1 H2 H3
      go_wp2_with fail
      refine (same_yes A5 A6 c5 c6 X (by omega) _ (Rd.left R5.out) R6.out).mono ?_
      rintro e w8 ⟨rfl, n, rfl⟩
      go_wp2_with fail
      go_loopw [8] (fun i wr => JRel Y w7 i wr) (fun i _ => Y.length - (intOf i).toNat)
      case atStart => exact ⟨0, Nat.zero_le _, rfl, below_drewN (Below.refl _ _) n⟩
      case round =>
        obtain ⟨k, hk, rfl, hBr⟩ := hrel
        by_cases hlt : k < Y.length
        · have hat : Y[k]? = some Y[k] := List.getElem?_eq_getElem hlt
          obtain ⟨b, o, rfl, r0, r1, r2⟩ := R5.out (X.length + k) _ (join_at hat)
          obtain ⟨b', o', rfl, q0, q1, q2⟩ := R7.out k _ hat
          have hbb := P5.out b o none rfl
          have hbb' := P7.out b' o' none rfl
          rw [← hBr.cell (p := ⟨b, _, none⟩) hbb] at r0 r1 r2
          rw [← hBr.cell (p := ⟨b', _, none⟩) hbb'] at q0 q1 q2
          obtain ⟨y1, y2, y3⟩ := HY.out _ (List.getElem_mem hlt)
          clear hat
          generalize Y[k] = l at *
          obtain ⟨f, t, e⟩ := l
          simp only [shift, moved] at r0 r1 r2 q0 q1 q2 y1 y2 y3
          have hbw : b' < wr.heap.size := Nat.lt_of_lt_of_le hbb' hBr.size
          have hsz := hBr.size
          go_wp2_with fail
          go_quiet (fail)
          go_wp2_with fail
          go_roundw
          case rel => exact ⟨k + 1, by omega, by go_num, below_drewN (hBr.alloc hsz _) _⟩
          case measure => simp [intOf]; omega
        · go_wp2_with fail
          go_ret
          exact ⟨rfl, hB.trans (hBr.mono hB.size)⟩

set_option maxRecDepth 100000 in
theorem lifted (os : Os) (started : os.Started) (H : Type) (enc : TypeId × Value → H) :
    ReturnsInHanded {} Try.checked os 11 .any (Rows.textJoinsSpec.pre6 enc Try.prog Try.f11 Rows.textJoinsRow.domain false) (Rows.textJoinsSpec.post enc Try.prog Try.f11 false true false false) := by
  refine returnsInHanded_of_change (C := Try.checked) own started (by kernel_rfl) Try.func11
    (ChangeSpec.witness6 (enc := enc) (C := Try.checked) false ⟨#[], #[.string ByteArray.empty, .string ByteArray.empty], []⟩ 8 (by kernel_rfl) (by kernel_rfl) (by kernel_rfl) (by kernel_rfl)) ?_
  intro W base args ds gs before hval0 hW hcnd _
  have hval : ∀ (j : Nat) t v, Try.f11.params[j]? = some t → args[j]? = some v → Value.okWide Try.prog W .any base t v := hval0
  have hW' := hW
  obtain ⟨p, q, hA0, hV, rfl, hfz, hnd⟩ := hW
  have hA : DataW.TrodAll enc Try.prog W 0 (fun _ => true) true Try.f11.params.toList args.toList ds p := hA0
  rw [Try.params11] at hA hval
  obtain ⟨v0, vs0, d0, ds0, p0, q0, hargs, rfl, rfl, h0, r0⟩ := trodAll_cons hA
  obtain ⟨v1, vs1, d1, ds1, p1, q1, rfl, rfl, rfl, h1, r1⟩ := trodAll_cons r0
  obtain ⟨rfl, rfl, rfl⟩ := trodAll_nil r1
  obtain rfl : args = #[v0, v1] := by cases args; simp_all
  obtain ⟨rfl, rfl⟩ := trodVars_none hV
  obtain ⟨a0, rfl, rfl, rfl, w0⟩ := open_string Try.underlying9 (hval 0 9 v0 rfl rfl) h0
  obtain ⟨a1, rfl, rfl, rfl, w1⟩ := open_string Try.underlying9 (hval 1 9 v1 rfl rfl) h1
  clear hA0 hval0
  simp only [List.append_nil] at hW'
  refine (walk a0 a1 w0 w1 W).mono fun e W' ⟨he, hg⟩ => ?_
  subst he
  exact ⟨_, rfl, _, _, _, [], [], [], hW', (trodAll_cons_mk (shut_bool Try.underlying4 _) trodAll_mk0), (trodAll_cons_mk (shut_string Try.underlying9 w0) (trodAll_cons_mk (shut_string Try.underlying9 w1) trodAll_mk0)), rfl, hg.frame _, fun h => by cases h⟩

theorem over : Rows.textJoinsRow.holds Try.pinned (OpenSpec.ofChange Rows.textJoinsSpec) :=
  OpenClaim.holds_of_wide 11 Try.f11 rfl rfl rfl rfl rfl rfl rfl ⟨rfl, rfl, rfl, rfl, rfl⟩ rfl rfl rfl rfl rfl (by kernel_rfl) Try.func11 (by kernel_rfl)
    (of_decide_eq_true (by kernel_rfl)) (by unfold Func.isWrapper; first | (rw [if_pos (by decide +kernel)]; kernel_rfl) | (rw [if_neg (by decide +kernel)]; exact ⟨rfl, rfl⟩))
    (fun os started H enc _ => lifted os started H enc)

theorem proved : Rows.TextJoinsSaid :=
  over
#print axioms proved
end Go.Proofs.Ytinbdangpehkaaa.textJoins
