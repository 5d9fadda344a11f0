/-
  PROVED: stetlaw05.MarkBlanks returns true for every text, byte and number: blanks behind a line make no difference to what it is a mark of, where a fence's mark is none itself (the row, and its card, tied to the program's text). Conditions: none beside the row's own: the two tables of unicode/utf8 hold what their initialisers lay (the card ties them; that nothing else writes them is the translator's report, over the pruned copy of the project); no step of the walk reads them.
-/
import Derived.Test.YtinmefdcgiiejaaDoorAlive
import Derived.Test.YtinmefdcgiiejaaDoorLawPure
import Derived.Test.YtinmefdcgiiejaaDoorCards
import Derived.Test.YtinmefdcgiiejaaDoorTie
import Derived.SevenTiedAt
namespace Go.Proofs.YtinmefdcgiiejaaDoor.markBlanks
open Go.ChangeShapes Go.WideShapes Go.ChangeAt Go.RowKit
open Go.ChangeMaps (open_string shut_string)
set_option linter.unusedVariables false

theorem app_size (a b : ByteArray) : (a ++ b).size = a.size + b.size := by simp
theorem lst_app (a b : ByteArray) : lst (a ++ b) = lst a ++ lst b := by simp [lst]
theorem head_any_bd (l : List UInt8) : (headL l).2.1 ≤ l.length ∧ (headL l).2.2 ≤ l.length := by
  by_cases h : (headL l).1 = 0
  · have := head_zero l h; omega
  · have := head_facts l h; omega
set_option maxRecDepth 100000 in
set_option maxHeartbeats 8000000 in
theorem walk (a0 : ByteArray) (a1 : Int) (a2 : Int) (w0 : a0.size ≤ maxLen) (w1 : (Lit.int .u8 a1).wf = true) (w2 : (Lit.int .i64 a2).wf = true) (w : World) :
    Calls Tryd.prog 8 #[.string a0, .int .u8 a1, .int .i64 a2] w fun e w' => e = .returned (.bool true) ∧ Below w.heap.size w w' := by
  obtain ⟨c, rfl⟩ := u8_open w1
  by_cases hl : 50000 < a0.size
  · skip
    go_enter Tryd.func8, Tryd.ntmps8
    go_wp2_with fail
    refine (alive_any _).mono ?_
    rintro e x0 ⟨rfl, hb⟩
    have B0 := Lib.hid hb
    clear hb
    go_wp2_with fail
    go_ret
    exact ⟨rfl, B0.out⟩
  by_cases he : 0 < a0.size
  · have hem := emp_no a0 he
    by_cases h32 : c = 32
    · have d1 : ((c.toNat : Int) == 32) = true := eq_u8 c 32 h32
      clear h32
      go_enter Tryd.func8, Tryd.ntmps8
      go_wp2_with fail
      refine (alive_any _).mono ?_
      rintro e x0 ⟨rfl, hb⟩
      have B0 := Lib.hid hb
      clear hb
      go_wp2_with fail
      go_ret
      exact ⟨rfl, B0.out⟩
    have d1 : ((c.toNat : Int) == 32) = false := ne_u8 c 32 h32
    by_cases h9 : c = 9
    · have d2 : ((c.toNat : Int) == 9) = true := eq_u8 c 9 h9
      clear h9 h32
      go_enter Tryd.func8, Tryd.ntmps8
      go_wp2_with fail
      refine (alive_any _).mono ?_
      rintro e x0 ⟨rfl, hb⟩
      have B0 := Lib.hid hb
      clear hb
      go_wp2_with fail
      go_ret
      exact ⟨rfl, B0.out⟩
    have d2 : ((c.toNat : Int) == 9) = false := ne_u8 c 9 h9
    have hne : lst a0 ≠ [] := fun e => by
      have := lst_size a0
      rw [e] at this
      simp at this
      omega
    have hts : (a0 ++ { data := #[32, 9, 32] }).size ≤ 1000000 := by
      have : ({ data := #[32, 9, 32] } : ByteArray).size = 3 := rfl
      rw [app_size]
      omega
    have hta : lst (a0 ++ { data := #[32, 9, 32] }) = lst a0 ++ tailB := lst_app _ _
    have I1 := Lib.hid (item_any a0 (by omega))
    have I2 := Lib.hid (item_any (a0 ++ { data := #[32, 9, 32] }) hts)
    have F1 := Lib.hid (fence_any a0 (by omega))
    have F2 := Lib.hid (fence_any (a0 ++ { data := #[32, 9, 32] }) hts)
    have E1 := Lib.hid (head_any a0 (by omega))
    have E2 := Lib.hid (head_any (a0 ++ { data := #[32, 9, 32] }) hts)
    have R1 := Lib.hid (rule_any a0 (by omega))
    have R2 := Lib.hid (rule_any (a0 ++ { data := #[32, 9, 32] }) hts)
    have U1 := Lib.hid (under_any a0 (by omega))
    have U2 := Lib.hid (under_any (a0 ++ { data := #[32, 9, 32] }) hts)
    have Q1 := Lib.hid (quote_any a0)
    have Q2 := Lib.hid (quote_any (a0 ++ { data := #[32, 9, 32] }))
    have C1 := Lib.hid (closes_any a0 c a2 (by omega))
    have C2 := Lib.hid (closes_any (a0 ++ { data := #[32, 9, 32] }) c a2 hts)
    rw [hta] at I2 F2 E2 R2 U2 Q2 C2
    unfold itemV at I1 I2
    unfold fenceV at F1 F2
    unfold headV at E1 E2
    rw [item_app _ hne] at I2
    rw [fence_app _ hne] at F2
    rw [rule_app _ hne] at R2
    rw [under_app] at U2
    rw [show quoteL (lst a0 ++ tailB) = quoteL (lst a0) from beg_app _ _ hne] at Q2
    rw [closes_app _ _ _ h32] at C2
    have ha := head_app (lst a0)
    have hb1 := head_any_bd (lst a0)
    have hb2 := head_any_bd (lst a0 ++ tailB)
    rw [← hta, lst_size] at hb2
    rw [hta] at hb2
    rw [lst_size] at hb1
    generalize itemL (lst a0) = i at *
    generalize fenceL (lst a0) = f at *
    generalize headL (lst a0) = h at *
    generalize headL (lst a0 ++ tailB) = k at *
    generalize ruleL (lst a0) = r at *
    generalize underL (lst a0) = u at *
    generalize quoteL (lst a0) = q at *
    generalize closesL (lst a0) c a2 = cl at *
    obtain ⟨i1, i2, i3⟩ := i
    obtain ⟨f1, f2, f3⟩ := f
    obtain ⟨x1, x2, x3⟩ := h
    obtain ⟨y1, y2, y3⟩ := k
    simp only [] at I1 I2 F1 F2 E1 E2 ha hb1 hb2
    obtain ⟨a1, ha2, ha3, ha4⟩ := ha
    subst a1
    have o1 : ((i1.toNat : Int) == (i1.toNat : Int)) = true := beq_self_eq_true _
    have o2 : ((i2 : Int) == (i2 : Int)) = true := beq_self_eq_true _
    have o3 : ((i3 : Int) == (i3 : Int)) = true := beq_self_eq_true _
    have o4 : ((f1.toNat : Int) == (f1.toNat : Int)) = true := beq_self_eq_true _
    have o5 : ((f2 : Int) == (f2 : Int)) = true := beq_self_eq_true _
    obtain ⟨G, hG, hGl⟩ := made f3
    rw [← hG] at F1 F2
    clear hG hGl
    have o6 : (G.toList == G.toList) = true := beq_self_eq_true _
    have o7 : ((y1 : Int) == (y1 : Int)) = true := beq_self_eq_true _
    have o8 : ((x3 : Int) - x2 == (y3 : Int) - y2) = true := by simp; omega
    have o9 : (r == r) = true := beq_self_eq_true _
    have o10 : ((u : Int) == (u : Int)) = true := beq_self_eq_true _
    have o11 : (q == q) = true := beq_self_eq_true _
    have o12 : (cl == cl) = true := beq_self_eq_true _
    obtain ⟨T, hT⟩ : ∃ T, T = (a0 ++ { data := #[32, 9, 32] }) := ⟨_, rfl⟩
    rw [← hT] at I2 F2 E2 R2 U2 Q2 C2 hb2 hts
    have HT : Hid (T = (a0 ++ { data := #[32, 9, 32] })) := hT
    clear hT hta h9 h32 hne ha2
    go_enter Tryd.func8, Tryd.ntmps8
    go_wp2_with fail
    refine (alive_any _).mono ?_
    rintro e x0 ⟨rfl, hb⟩
    have B0 := Lib.hid hb
    clear hb
    go_wp2_with fail
    rw [← HT.out]
    clear HT
    refine (I1.out _).mono ?_
    rintro e y ⟨rfl, hw⟩
    rw [hw]
    clear hw
    go_wp2_with fail
    refine (I2.out _).mono ?_
    rintro e y ⟨rfl, hw⟩
    rw [hw]
    clear hw
    go_wp2_with fail
    refine (F1.out _).mono ?_
    rintro e z1 ⟨rfl, hb⟩
    have B1 := Lib.hid hb
    clear hb
    go_wp2_with fail
    refine (F2.out _).mono ?_
    rintro e z2 ⟨rfl, hb⟩
    have B2 := Lib.hid hb
    clear hb
    go_wp2_with fail
    refine (E1.out _).mono ?_
    rintro e z3 ⟨rfl, hb⟩
    have B3 := Lib.hid hb
    clear hb
    go_wp2_with fail
    refine (E2.out _).mono ?_
    rintro e z4 ⟨rfl, hb⟩
    have B4 := Lib.hid hb
    clear hb
    go_wp2_with fail
    refine (R1.out _).mono ?_
    rintro e z5 ⟨rfl, hb⟩
    have B5 := Lib.hid hb
    clear hb
    go_wp2_with fail
    refine (R2.out _).mono ?_
    rintro e z6 ⟨rfl, hb⟩
    have B6 := Lib.hid hb
    clear hb
    go_wp2_with fail
    refine (U1.out _).mono ?_
    rintro e z7 ⟨rfl, hb⟩
    have B7 := Lib.hid hb
    clear hb
    go_wp2_with fail
    refine (U2.out _).mono ?_
    rintro e z8 ⟨rfl, hb⟩
    have B8 := Lib.hid hb
    clear hb
    go_wp2_with fail
    refine (Q1.out _).mono ?_
    rintro e y ⟨rfl, hw⟩
    rw [hw]
    clear hw
    go_wp2_with fail
    refine (Q2.out _).mono ?_
    rintro e y ⟨rfl, hw⟩
    rw [hw]
    clear hw
    go_wp2_with fail
    refine (C1.out _).mono ?_
    rintro e z9 ⟨rfl, hb⟩
    have B9 := Lib.hid hb
    clear hb
    go_wp2_with fail
    refine (C2.out _).mono ?_
    rintro e z10 ⟨rfl, hb⟩
    have B10 := Lib.hid hb
    clear hb
    go_wp2_with fail
    go_ret
    exact ⟨congrArg (fun b => Ending.returned (Value.bool b)) (by simp; try omega), chain (Nat.le_refl _) (chain (Nat.le_refl _) (chain (Nat.le_refl _) (chain (Nat.le_refl _) (chain (Nat.le_refl _) (chain (Nat.le_refl _) (chain (Nat.le_refl _) (chain (Nat.le_refl _) (chain (Nat.le_refl _) (chain (Nat.le_refl _) (B0.out) B1.out) B2.out) B3.out) B4.out) B5.out) B6.out) B7.out) B8.out) B9.out) B10.out⟩
  · have hem := emp_yes a0 (by omega)
    go_enter Tryd.func8, Tryd.ntmps8
    go_wp2_with fail
    refine (alive_any _).mono ?_
    rintro e x0 ⟨rfl, hb⟩
    have B0 := Lib.hid hb
    clear hb
    go_wp2_with fail
    go_ret
    exact ⟨rfl, B0.out⟩

set_option maxRecDepth 100000 in
theorem lifted (os : Os) (started : os.Started) (H : Type) (enc : TypeId × Value → H) :
    ReturnsInHanded {} Tryd.checked os 8 .any (fun w args => (Rows.markBlanksSpec.pre enc Tryd.prog Tryd.f8 [] false w args ∧ laidMetH Tryd.prog laid2 w) ∧ sizedMet enc Tryd.prog Tryd.f8 (OpenSpec.ofChange Rows.markBlanksSpec) false w args)
      (Rows.markBlanksSpec.post enc Tryd.prog Tryd.f8 false true false false) := by
  refine returnsInHanded_of_change_and (C := Tryd.checked) (X := fun w _ => laidMetH Tryd.prog laid2 w) (fun _ _ _ hh h => h.of_heap hh) own started (by kernel_rfl) Tryd.func8
    (ChangeSpec.witness_at (enc := enc) (C := Tryd.checked) (os := os) (X := fun w _ => laidMetH Tryd.prog laid2 w) false (laidWorld os) #[.string ByteArray.empty, .int .u8 0, .int .i64 0] 8 rfl (by kernel_rfl) (by kernel_rfl) (by kernel_rfl) (by kernel_rfl) (by kernel_rfl) (laid_met os _)) ?_
  intro W base args ds gs before hval0 hW _ _ hL _
  have hval : ∀ (j : Nat) t v, Tryd.f8.params[j]? = some t → args[j]? = some v → Value.okWide Tryd.prog W .any base t v := hval0
  have hW' := hW
  obtain ⟨p, q, hA0, hV, rfl, hfz, hnd⟩ := hW
  have hA : DataW.TrodAll enc Tryd.prog W 0 (fun _ => true) true Tryd.f8.params.toList args.toList ds p := hA0
  rw [Tryd.params8] at hA hval
  obtain ⟨v0, vs0, d0, ds0, p0, q0, hargs, rfl, rfl, h0, r0⟩ := trodAll_cons hA
  obtain ⟨v1, vs1, d1, ds1, p1, q1, rfl, rfl, rfl, h1, r1⟩ := trodAll_cons r0
  obtain ⟨v2, vs2, d2, ds2, p2, q2, rfl, rfl, rfl, h2, r2⟩ := trodAll_cons r1
  obtain ⟨rfl, rfl, rfl⟩ := trodAll_nil r2
  obtain rfl : args = #[v0, v1, v2] := by cases args; simp_all
  obtain ⟨rfl, rfl⟩ := trodVars_none hV
  obtain ⟨a0, rfl, rfl, rfl, w0⟩ := open_string Tryd.underlying9 (hval 0 9 v0 rfl rfl) h0
  obtain ⟨a1, rfl, rfl, rfl, w1⟩ := open_int Tryd.underlying5 (hval 1 5 v1 rfl rfl) h1
  obtain ⟨a2, rfl, rfl, rfl, w2⟩ := open_int Tryd.underlying3 (hval 2 3 v2 rfl rfl) h2
  clear hA0 hval0
  simp only [List.append_nil] at hW'
  refine (walk a0 a1 a2 w0 w1 w2 W).mono fun e W' ⟨he, hg⟩ => ?_
  subst he
  exact ⟨_, rfl, _, _, _, [], [], [], hW', (trodAll_cons_mk (shut_bool Tryd.underlying4 _) trodAll_mk0), (trodAll_cons_mk (shut_string Tryd.underlying9 w0) (trodAll_cons_mk (shut_int Tryd.underlying5 w1) (trodAll_cons_mk (shut_int Tryd.underlying3 w2) trodAll_mk0))), rfl, hg.frame _, fun h => by cases h⟩

theorem over : Rows.MarkBlanksSaid :=
  OpenClaim.holds_of_wide 8 Tryd.f8 rfl rfl rfl rfl rfl rfl rfl ⟨rfl, rfl, rfl, rfl, rfl⟩ rfl rfl rfl rfl rfl (by kernel_rfl) Tryd.func8 (by kernel_rfl)
    (of_decide_eq_true (by kernel_rfl)) (by unfold Func.isWrapper; first | (rw [if_pos (by decide +kernel)]; kernel_rfl) | (rw [if_neg (by decide +kernel)]; exact ⟨rfl, rfl⟩))
    (fun os started H enc _ => lifted os started H enc)

theorem proved : Rows.MarkBlanksCardSaid :=
  Claim7.holds_tied_plain_at .later [] [.data, .pinned] true (true, "b3bf210a916c2fae8b3247b33df3411350ce4638cdc277a23f688113fbf56430") false
    over (fun _ h => by cases h) (by kernel_rfl) (fun _ h => by cases h) markBlanks_row_tie rfl ⟨rfl, rfl⟩ (by kernel_rfl) rfl
    (fun f fn hf hfn => by
      obtain rfl : f = 8 := Option.some.inj ((show Tryd.prog.funcNamed "stet/stetlaw05.MarkBlanks" = some 8 by kernel_rfl).symm.trans hf) |>.symm
      obtain rfl : fn = Tryd.f8 := (Option.some.inj (Tryd.func8.symm.trans hfn)).symm
      exact ⟨by kernel_rfl, fun j t ht => by
        rw [Tryd.params8] at ht
        have hm : t ∈ [9, 5, 3] := by simpa using Array.mem_of_getElem? ht
        have hall : ([9, 5, 3].all fun u => !Tryd.prog.wantsStandIn u) = true := by kernel_rfl
        exact (show Tryd.prog.wantsStandIn t = false by simpa using List.all_eq_true.1 hall t hm)⟩)
    (by kernel_rfl)
#print axioms proved
end Go.Proofs.YtinmefdcgiiejaaDoor.markBlanks
