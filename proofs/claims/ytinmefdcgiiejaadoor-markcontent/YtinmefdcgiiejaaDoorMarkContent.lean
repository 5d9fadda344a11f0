/-
  PROVED: stetlaw05.MarkContent returns true for every text: a heading's content is a part of its line, has no blanks at its ends, and is the whole content of a heading of itself (the row, and its card, tied to the program's text). Conditions: none beside the row's own: the two tables of unicode/utf8 hold what their initialisers lay (the card ties them; that nothing else writes them is the translator's report, over the pruned copy of the project); no step of the walk reads them.
-/
import Derived.Test.YtinmefdcgiiejaaDoorAlive
import Derived.Test.YtinmefdcgiiejaaDoorLawPure
import Derived.Test.YtinmefdcgiiejaaDoorCards
import Derived.Test.YtinmefdcgiiejaaDoorTie
import Derived.SevenTiedAt
namespace Go.Proofs.YtinmefdcgiiejaaDoor.markContent
open Go.ChangeShapes Go.WideShapes Go.ChangeAt Go.RowKit
open Go.ChangeMaps (open_string shut_string)
set_option linter.unusedVariables false

theorem app_size (a b : ByteArray) : (a ++ b).size = a.size + b.size := by simp
theorem lst_app (a b : ByteArray) : lst (a ++ b) = lst a ++ lst b := by simp [lst]
set_option maxHeartbeats 8000000 in
theorem walk (a0 : ByteArray) (w0 : a0.size ≤ maxLen) (w : World) :
    Calls Tryd.prog 7 #[.string a0] w fun e w' => e = .returned (.bool true) ∧ Below w.heap.size w w' := by
  by_cases hl : 50000 < a0.size
  · skip
    go_enter Tryd.func7, Tryd.ntmps7
    go_wp2_with fail
    refine (alive_any _).mono ?_
    rintro e x0 ⟨rfl, hb⟩
    have B0 := Lib.hid hb
    clear hb
    go_wp2_with fail
    go_ret
    exact ⟨rfl, B0.out⟩
  have H1 := Lib.hid (head_any a0 (by omega))
  have hz := head_zero (lst a0)
  have hf := head_facts (lst a0)
  have hlast := cont_last (behL (lst a0))
  have hhead := cont_head (lst a0)
  rw [lst_size] at hf
  unfold headV at H1
  generalize contL (trimR isB (behL (lst a0))) = C0 at *
  generalize headL (lst a0) = h at *
  obtain ⟨x, y, z⟩ := h
  simp only [] at H1 hz hf
  by_cases hx : x < 1
  · obtain ⟨hy, hzz⟩ := hz (by omega)
    have q0 : ((x : Int) == 0) = true := by simp; omega
    have q1 : ((y : Int) == 0) = true := by simp; omega
    have q2 : ((z : Int) == 0) = true := by simp; omega
    clear hz hf hlast hhead hy hzz
    go_enter Tryd.func7, Tryd.ntmps7
    go_wp2_with fail
    refine (alive_any _).mono ?_
    rintro e x0 ⟨rfl, hb⟩
    have B0 := Lib.hid hb
    clear hb
    go_wp2_with fail
    refine (H1.out _).mono ?_
    rintro e x1 ⟨rfl, hb⟩
    have B1 := Lib.hid hb
    clear hb
    go_wp2_with fail
    go_ret
    exact ⟨congrArg (fun b => Ending.returned (Value.bool b)) (by simp; try omega), chain (Nat.le_refl _) (B0.out) B1.out⟩
  · have q0 : ((x : Int) == 0) = false := by simp; omega
    obtain ⟨f1, f2, f3, f4, f5⟩ := hf (by omega)
    clear hz hf
    have hcl : lst (a0.extract y z) = C0 := by rw [lst_cut]; exact f5
    have hcz : (a0.extract y z).size = z - y := by simp; omega
    clear f5
    obtain ⟨C, hC⟩ : ∃ C, C = a0.extract y z := ⟨_, rfl⟩
    rw [← hC] at hcl hcz
    have HC : Hid (C = a0.extract y z) := hC
    clear hC
    subst hcl
    have H2 := Lib.hid (head_any ({ data := #[35, 32] } ++ C ++ { data := #[32, 35] }) (by rw [app_size, app_size, hcz]; have : ({ data := #[35, 32] } : ByteArray).size = 2 := rfl; have : ({ data := #[32, 35] } : ByteArray).size = 2 := rfl; omega))
    unfold headV at H2
    rw [lst_app, lst_app] at H2
    by_cases he : 0 < C.size
    · have hem := emp_no C he
      have hne : lst C ≠ [] := fun e => by
        have := lst_size C
        rw [e] at this
        simp at this
        omega
      have hl1 : C.size - 1 < C.size := by omega
      have g1 := hlast _ (last_at C hl1)
      have g2 : isB (C[0]'he) = false := hhead _ (by obtain ⟨m, hm⟩ := lst_cons C he; rw [hm]; rfl)
      have hm := head_made (lst C) hhead hlast hne
      rw [lst_size] at hm
      rw [show lst { data := #[35, 32] } = [35, 32] from rfl, show lst { data := #[32, 35] } = [32, 35] from rfl, hm] at H2
      simp only [] at H2
      have k1 := isB_no _ g1
      have k2 := isB_no _ g2
      have p1 : (((C[0]'he).toNat : Int) == 32) = false := by simpa using k2.1
      have p2 : (((C[0]'he).toNat : Int) == 9) = false := by simpa using k2.2
      have p3 : (((C[C.size - 1]'hl1).toNat : Int) == 32) = false := by simpa using k1.1
      have p4 : (((C[C.size - 1]'hl1).toNat : Int) == 9) = false := by simpa using k1.2
      have hwr : ((C.size : Int) - 1 + 9223372036854775808) % 18446744073709551616 - 9223372036854775808 = ((C.size - 1 : Nat) : Int) := by omega
      have hcb : C.size ≤ 50000 := by omega
      clear hlast hhead g1 g2 hm k1 k2 hne hcz
      have p5 : (((2 + C.size : Nat) : Int) == 2 + (C.size : Int)) = true := by simp
      go_enter Tryd.func7, Tryd.ntmps7
      go_wp2_with fail
      refine (alive_any _).mono ?_
      rintro e x0 ⟨rfl, hb⟩
      have B0 := Lib.hid hb
      clear hb
      go_wp2_with fail
      refine (H1.out _).mono ?_
      rintro e x1 ⟨rfl, hb⟩
      have B1 := Lib.hid hb
      clear hb
      go_upto_region 11 with fail
      rw [← HC.out]
      clear HC
      go_wp2_with fail
      refine (H2.out _).mono ?_
      rintro e x2 ⟨rfl, hb⟩
      have B2 := Lib.hid hb
      clear hb
      go_wp2_with fail
      go_ret
      exact ⟨congrArg (fun b => Ending.returned (Value.bool b)) (by simp), chain (Nat.le_refl _) (chain (Nat.le_refl _) (B0.out) B1.out) B2.out⟩
    · have hem := emp_yes C (by omega)
      rw [lst_nil C (by omega), show lst { data := #[35, 32] } = [35, 32] from rfl, show lst { data := #[32, 35] } = [32, 35] from rfl, head_bare] at H2
      simp only [] at H2
      clear hlast hhead hcz
      go_enter Tryd.func7, Tryd.ntmps7
      go_wp2_with fail
      refine (alive_any _).mono ?_
      rintro e x0 ⟨rfl, hb⟩
      have B0 := Lib.hid hb
      clear hb
      go_wp2_with fail
      refine (H1.out _).mono ?_
      rintro e x1 ⟨rfl, hb⟩
      have B1 := Lib.hid hb
      clear hb
      go_upto_region 11 with fail
      rw [← HC.out]
      clear HC
      go_wp2_with fail
      refine (H2.out _).mono ?_
      rintro e x2 ⟨rfl, hb⟩
      have B2 := Lib.hid hb
      clear hb
      go_wp2_with fail
      go_ret
      exact ⟨congrArg (fun b => Ending.returned (Value.bool b)) (by simp), chain (Nat.le_refl _) (chain (Nat.le_refl _) (B0.out) B1.out) B2.out⟩

set_option maxRecDepth 100000 in
theorem lifted (os : Os) (started : os.Started) (H : Type) (enc : TypeId × Value → H) :
    ReturnsInHanded {} Tryd.checked os 7 .any (fun w args => (Rows.markContentSpec.pre enc Tryd.prog Tryd.f7 [] false w args ∧ laidMetH Tryd.prog laid2 w) ∧ sizedMet enc Tryd.prog Tryd.f7 (OpenSpec.ofChange Rows.markContentSpec) false w args)
      (Rows.markContentSpec.post enc Tryd.prog Tryd.f7 false true false false) := by
  refine returnsInHanded_of_change_and (C := Tryd.checked) (X := fun w _ => laidMetH Tryd.prog laid2 w) (fun _ _ _ hh h => h.of_heap hh) own started (by kernel_rfl) Tryd.func7
    (ChangeSpec.witness_at (enc := enc) (C := Tryd.checked) (os := os) (X := fun w _ => laidMetH Tryd.prog laid2 w) false (laidWorld os) #[.string ByteArray.empty] 8 rfl (by kernel_rfl) (by kernel_rfl) (by kernel_rfl) (by kernel_rfl) (by kernel_rfl) (laid_met os _)) ?_
  intro W base args ds gs before hval0 hW _ _ hL _
  have hval : ∀ (j : Nat) t v, Tryd.f7.params[j]? = some t → args[j]? = some v → Value.okWide Tryd.prog W .any base t v := hval0
  have hW' := hW
  obtain ⟨p, q, hA0, hV, rfl, hfz, hnd⟩ := hW
  have hA : DataW.TrodAll enc Tryd.prog W 0 (fun _ => true) true Tryd.f7.params.toList args.toList ds p := hA0
  rw [Tryd.params7] at hA hval
  obtain ⟨v0, vs0, d0, ds0, p0, q0, hargs, rfl, rfl, h0, r0⟩ := trodAll_cons hA
  obtain ⟨rfl, rfl, rfl⟩ := trodAll_nil r0
  obtain rfl : args = #[v0] := by cases args; simp_all
  obtain ⟨rfl, rfl⟩ := trodVars_none hV
  obtain ⟨a0, rfl, rfl, rfl, w0⟩ := open_string Tryd.underlying9 (hval 0 9 v0 rfl rfl) h0
  clear hA0 hval0
  simp only [List.append_nil] at hW'
  refine (walk a0 w0 W).mono fun e W' ⟨he, hg⟩ => ?_
  subst he
  exact ⟨_, rfl, _, _, _, [], [], [], hW', (trodAll_cons_mk (shut_bool Tryd.underlying4 _) trodAll_mk0), (trodAll_cons_mk (shut_string Tryd.underlying9 w0) trodAll_mk0), rfl, hg.frame _, fun h => by cases h⟩

theorem over : Rows.MarkContentSaid :=
  OpenClaim.holds_of_wide 7 Tryd.f7 rfl rfl rfl rfl rfl rfl rfl ⟨rfl, rfl, rfl, rfl, rfl⟩ rfl rfl rfl rfl rfl (by kernel_rfl) Tryd.func7 (by kernel_rfl)
    (of_decide_eq_true (by kernel_rfl)) (by unfold Func.isWrapper; first | (rw [if_pos (by decide +kernel)]; kernel_rfl) | (rw [if_neg (by decide +kernel)]; exact ⟨rfl, rfl⟩))
    (fun os started H enc _ => lifted os started H enc)

theorem proved : Rows.MarkContentCardSaid :=
  Claim7.holds_tied_plain_at .later [] [.data, .pinned] true (true, "b3bf210a916c2fae8b3247b33df3411350ce4638cdc277a23f688113fbf56430") false
    over (fun _ h => by cases h) (by kernel_rfl) (fun _ h => by cases h) markContent_row_tie rfl ⟨rfl, rfl⟩ (by kernel_rfl) rfl
    (fun f fn hf hfn => by
      obtain rfl : f = 7 := Option.some.inj ((show Tryd.prog.funcNamed "stet/stetlaw05.MarkContent" = some 7 by kernel_rfl).symm.trans hf) |>.symm
      obtain rfl : fn = Tryd.f7 := (Option.some.inj (Tryd.func7.symm.trans hfn)).symm
      exact ⟨by kernel_rfl, fun j t ht => by
        rw [Tryd.params7] at ht
        have hm : t ∈ [9] := by simpa using Array.mem_of_getElem? ht
        have hall : ([9].all fun u => !Tryd.prog.wantsStandIn u) = true := by kernel_rfl
        exact (show Tryd.prog.wantsStandIn t = false by simpa using List.all_eq_true.1 hall t hm)⟩)
    (by kernel_rfl)
#print axioms proved
end Go.Proofs.YtinmefdcgiiejaaDoor.markContent
