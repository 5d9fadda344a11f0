/-
  PROVED: stetlaw08.LinkWritten returns true for every two texts: a destination between < and > without a byte 10, and a title between quotes or parentheses, with all their plain marks behind backslashes, are read as they are (the row, and its card, tied to the program's text). Conditions: none beside the row's own: the two tables of unicode/utf8 hold what their initialisers lay (the card ties them; that nothing else writes them is the translator's report, over the pruned copy of the project); no step of the walk reads them.
-/
import Derived.Test.YtfoheffbapifpaaDoorAlive
import Derived.Test.YtfoheffbapifpaaDoorMasked
import Derived.Test.YtfoheffbapifpaaDoorWritePure
import Derived.Test.YtfoheffbapifpaaDoorCards
import Derived.Test.YtfoheffbapifpaaDoorTie
import Derived.SevenTiedAt
namespace Go.Proofs.YtfoheffbapifpaaDoor.linkWritten
open Go.ChangeShapes Go.WideShapes Go.ChangeAt Go.RowKit
open Go.ChangeMaps (open_string shut_string)
set_option linter.unusedVariables false

/-- What the law's own loop goes by. -/
def WrRel (s : ByteArray) (w : World) (i : Value) (wr : World) : Prop :=
  ∃ j : Nat, j ≤ s.size ∧ i = .int .i64 j ∧ (∀ x ∈ (lst s).take j, x ≠ 10) ∧ wr = w
theorem take_step (s : ByteArray) (j : Nat) (hj : j < s.size) (h : ∀ x ∈ (lst s).take j, x ≠ 10) (hx : (s[j]'hj) ≠ 10) : ∀ x ∈ (lst s).take (j + 1), x ≠ 10 := by
  have hl : j < (lst s).length := by rw [lst_size]; exact hj
  rw [List.take_succ_eq_append_getElem hl]
  intro x hx'
  rcases List.mem_append.1 hx' with h1 | h1
  · exact h x h1
  · rw [List.mem_singleton.1 h1]; exact hx
theorem lst_app (a b : ByteArray) : lst (a ++ b) = lst a ++ lst b := by simp [lst]
theorem lst_three (M : ByteArray) (a b : UInt8) : lst ({ data := #[a] } ++ M ++ { data := #[b] }) = a :: (lst M ++ [b]) := by rw [lst_app, lst_app]; rfl
theorem size_three (M : ByteArray) (a b : UInt8) : ({ data := #[a] } ++ M ++ { data := #[b] } : ByteArray).size = M.size + 2 := by rw [← lst_size, lst_three, List.length_cons, List.length_append, lst_size]; rfl
set_option maxHeartbeats 8000000 in
theorem walk (a0 : ByteArray) (a1 : ByteArray) (w0 : a0.size ≤ maxLen) (w1 : a1.size ≤ maxLen) (w : World) :
    Calls Tryd.prog 6 #[.string a0, .string a1] w fun e w' => e = .returned (.bool true) ∧ Below w.heap.size w w' := by
  by_cases hl : 5000 < a0.size
  · skip
    go_enter Tryd.func6, Tryd.ntmps6
    go_wp2_with fail
    refine (alive_any _).mono ?_
    rintro e x0 ⟨rfl, hb⟩
    have B0 := Lib.hid hb
    clear hb
    go_wp2_with fail
    go_ret
    exact ⟨rfl, B0.out⟩
  by_cases hl1 : 5000 < a1.size
  · skip
    go_enter Tryd.func6, Tryd.ntmps6
    go_wp2_with fail
    refine (alive_any _).mono ?_
    rintro e x0 ⟨rfl, hb⟩
    have B0 := Lib.hid hb
    clear hb
    go_wp2_with fail
    go_ret
    exact ⟨rfl, B0.out⟩
  obtain ⟨M, hM, hM2⟩ := made (marksL (lst a0))
  obtain ⟨N, hN, hN2⟩ := made (marksL (lst a1))
  have hMs : M.size ≤ 10000 := by rw [← lst_size, hM]; have := marksL_len (lst a0); rw [lst_size] at this; omega
  have hNs : N.size ≤ 10000 := by rw [← lst_size, hN]; have := marksL_len (lst a1); rw [lst_size] at this; omega
  have HM := Lib.hid (masked_any a0 (by omega))
  have HN := Lib.hid (masked_any a1 (by omega))
  rw [hM2] at HM
  rw [hN2] at HN
  have HD : Hid ((∀ x ∈ lst a0, x ≠ 10) → ∀ W, Calls Tryd.prog 10 #[.string ({ data := #[60] } ++ M ++ { data := #[62] }), .int .i64 0] W fun r w' => r = .returned (.tuple #[.string a0, .int .i64 ((M.size : Int) + 2)]) ∧ Below W.heap.size W w') := fun hx W => by
    have h := dest_any ({ data := #[60] } ++ M ++ { data := #[62] }) ((0 : Nat) : Int) (by rw [size_three]; omega) W
    rw [frm_in _ 0 (Nat.zero_le _), List.drop_zero, lst_three, hM, dest_marks _ hx, ← hM, lst_size] at h
    unfold pairV at h
    rw [← of_lst a0 _ rfl] at h
    exact h
  have HT1 : Hid (∀ W, Calls Tryd.prog 12 #[.string ({ data := #[34] } ++ N ++ { data := #[34] }), .int .i64 0] W fun r w' => r = .returned (.tuple #[.string a1, .int .i64 ((N.size : Int) + 2)]) ∧ Below W.heap.size W w') := fun W => by
    have h := title_any ({ data := #[34] } ++ N ++ { data := #[34] }) ((0 : Nat) : Int) (by rw [size_three]; omega) W
    rw [frm_in _ 0 (Nat.zero_le _), List.drop_zero, lst_three, hN, title_quo, ← hN, lst_size] at h
    unfold pairV at h
    rw [← of_lst a1 _ rfl] at h
    exact h
  have HT2 : Hid (∀ W, Calls Tryd.prog 12 #[.string ({ data := #[40] } ++ N ++ { data := #[41] }), .int .i64 0] W fun r w' => r = .returned (.tuple #[.string a1, .int .i64 ((N.size : Int) + 2)]) ∧ Below W.heap.size W w') := fun W => by
    have h := title_any ({ data := #[40] } ++ N ++ { data := #[41] }) ((0 : Nat) : Int) (by rw [size_three]; omega) W
    rw [frm_in _ 0 (Nat.zero_le _), List.drop_zero, lst_three, hN, title_par, ← hN, lst_size] at h
    unfold pairV at h
    rw [← of_lst a1 _ rfl] at h
    exact h
  clear hM hM2 hN hN2
  go_enter Tryd.func6, Tryd.ntmps6
  go_wp2_with fail
  refine (alive_any _).mono ?_
  rintro e x0 ⟨rfl, hb⟩
  have B0 := Lib.hid hb
  clear hb
  go_wp2_with fail
  go_loopw [5] (fun i wr => WrRel a0 x0 i wr) (fun i _ => a0.size - (intOf i).toNat)
  case atStart => exact ⟨0, Nat.zero_le _, rfl, by simp, rfl⟩
  case round =>
    obtain ⟨j, hj, rfl, hall, rfl⟩ := hrel
    by_cases hlt : j < a0.size
    · have hn := (a0[j]'hlt).toNat_lt
      by_cases h10 : (a0[j]'hlt) = 10
      · have c1 : (((a0[j]'hlt).toNat : Int) == 10) = true := eqU _ 10 h10
        clear h10 hall HD HT1 HT2 HM HN
        go_wp2_with fail
        go_ret
        exact ⟨rfl, B0.out⟩
      · have c1 : (((a0[j]'hlt).toNat : Int) == 10) = false := neU _ 10 h10
        have HN2 := Lib.hid (take_step a0 j hlt hall h10)
        clear h10 hall HD HT1 HT2 HM HN
        go_wp2_with fail
        go_roundw
        case rel => exact ⟨j + 1, by omega, by go_num, HN2.out, rfl⟩
        case measure => simp [intOf]; omega
    · have HDD := Lib.hid (HD.out (by rw [List.take_of_length_le (by rw [lst_size]; omega)] at hall; exact hall))
      have q1 : (a0.toList == a0.toList) = true := beq_self_eq_true _
      have q2 : (a1.toList == a1.toList) = true := beq_self_eq_true _
      have q3 : ((M.size : Int) + 2 == (M.size : Int) + 2) = true := beq_self_eq_true _
      have q4 : ((N.size : Int) + 2 == (N.size : Int) + 2) = true := beq_self_eq_true _
      clear hall HD
      go_wp2_with fail
      refine (HM.out _).mono ?_
      rintro e y1 ⟨rfl, hb⟩
      have B1 := Lib.hid hb
      clear hb
      go_wp2_with fail
      refine (HDD.out _).mono ?_
      rintro e y2 ⟨rfl, hb⟩
      have B2 := Lib.hid hb
      clear hb
      go_wp2_with fail
      refine (HN.out _).mono ?_
      rintro e y3 ⟨rfl, hb⟩
      have B3 := Lib.hid hb
      clear hb
      go_wp2_with fail
      refine (HT1.out _).mono ?_
      rintro e y4 ⟨rfl, hb⟩
      have B4 := Lib.hid hb
      clear hb
      go_wp2_with fail
      refine (HN.out _).mono ?_
      rintro e y5 ⟨rfl, hb⟩
      have B5 := Lib.hid hb
      clear hb
      go_wp2_with fail
      refine (HT2.out _).mono ?_
      rintro e y6 ⟨rfl, hb⟩
      have B6 := Lib.hid hb
      clear hb
      go_wp2_with fail
      refine (HM.out _).mono ?_
      rintro e y7 ⟨rfl, hb⟩
      have B7 := Lib.hid hb
      clear hb
      go_wp2_with fail
      refine (HN.out _).mono ?_
      rintro e y8 ⟨rfl, hb⟩
      have B8 := Lib.hid hb
      clear hb
      go_wp2_with fail
      go_ret
      exact ⟨congrArg (fun b => Ending.returned (Value.bool b)) (by simp), chain (Nat.le_refl _) (chain (Nat.le_refl _) (chain (Nat.le_refl _) (chain (Nat.le_refl _) (chain (Nat.le_refl _) (chain (Nat.le_refl _) (chain (Nat.le_refl _) (chain (Nat.le_refl _) (B0.out) B1.out) B2.out) B3.out) B4.out) B5.out) B6.out) B7.out) B8.out⟩

set_option maxRecDepth 100000 in
theorem lifted (os : Os) (started : os.Started) (H : Type) (enc : TypeId × Value → H) :
    ReturnsInHanded {} Tryd.checked os 6 .any (fun w args => (Rows.linkWrittenSpec.pre enc Tryd.prog Tryd.f6 [] false w args ∧ laidMetH Tryd.prog laid2 w) ∧ sizedMet enc Tryd.prog Tryd.f6 (OpenSpec.ofChange Rows.linkWrittenSpec) false w args)
      (Rows.linkWrittenSpec.post enc Tryd.prog Tryd.f6 false true false false) := by
  refine returnsInHanded_of_change_and (C := Tryd.checked) (X := fun w _ => laidMetH Tryd.prog laid2 w) (fun _ _ _ hh h => h.of_heap hh) own started (by kernel_rfl) Tryd.func6
    (ChangeSpec.witness_at (enc := enc) (C := Tryd.checked) (os := os) (X := fun w _ => laidMetH Tryd.prog laid2 w) false (laidWorld os) #[.string ByteArray.empty, .string ByteArray.empty] 8 rfl (by kernel_rfl) (by kernel_rfl) (by kernel_rfl) (by kernel_rfl) (by kernel_rfl) (laid_met os _)) ?_
  intro W base args ds gs before hval0 hW _ _ hL _
  have hval : ∀ (j : Nat) t v, Tryd.f6.params[j]? = some t → args[j]? = some v → Value.okWide Tryd.prog W .any base t v := hval0
  have hW' := hW
  obtain ⟨p, q, hA0, hV, rfl, hfz, hnd⟩ := hW
  have hA : DataW.TrodAll enc Tryd.prog W 0 (fun _ => true) true Tryd.f6.params.toList args.toList ds p := hA0
  rw [Tryd.params6] at hA hval
  obtain ⟨v0, vs0, d0, ds0, p0, q0, hargs, rfl, rfl, h0, r0⟩ := trodAll_cons hA
  obtain ⟨v1, vs1, d1, ds1, p1, q1, rfl, rfl, rfl, h1, r1⟩ := trodAll_cons r0
  obtain ⟨rfl, rfl, rfl⟩ := trodAll_nil r1
  obtain rfl : args = #[v0, v1] := by cases args; simp_all
  obtain ⟨rfl, rfl⟩ := trodVars_none hV
  obtain ⟨a0, rfl, rfl, rfl, w0⟩ := open_string Tryd.underlying9 (hval 0 9 v0 rfl rfl) h0
  obtain ⟨a1, rfl, rfl, rfl, w1⟩ := open_string Tryd.underlying9 (hval 1 9 v1 rfl rfl) h1
  clear hA0 hval0
  simp only [List.append_nil] at hW'
  refine (walk a0 a1 w0 w1 W).mono fun e W' ⟨he, hg⟩ => ?_
  subst he
  exact ⟨_, rfl, _, _, _, [], [], [], hW', (trodAll_cons_mk (shut_bool Tryd.underlying4 _) trodAll_mk0), (trodAll_cons_mk (shut_string Tryd.underlying9 w0) (trodAll_cons_mk (shut_string Tryd.underlying9 w1) trodAll_mk0)), rfl, hg.frame _, fun h => by cases h⟩

theorem over : Rows.LinkWrittenSaid :=
  OpenClaim.holds_of_wide 6 Tryd.f6 rfl rfl rfl rfl rfl rfl rfl ⟨rfl, rfl, rfl, rfl, rfl⟩ rfl rfl rfl rfl rfl (by kernel_rfl) Tryd.func6 (by kernel_rfl)
    (of_decide_eq_true (by kernel_rfl)) (by unfold Func.isWrapper; first | (rw [if_pos (by decide +kernel)]; kernel_rfl) | (rw [if_neg (by decide +kernel)]; exact ⟨rfl, rfl⟩))
    (fun os started H enc _ => lifted os started H enc)

theorem proved : Rows.LinkWrittenCardSaid :=
  Claim7.holds_tied_plain_at .later [] [.data, .pinned] true (true, "aff6082a9a53a5ec51ae516706cc7bb4100bc3e83b81131cec9549d84db70d2a") false
    over (fun _ h => by cases h) (by kernel_rfl) (fun _ h => by cases h) linkWritten_row_tie rfl ⟨rfl, rfl⟩ (by kernel_rfl) rfl
    (fun f fn hf hfn => by
      obtain rfl : f = 6 := Option.some.inj ((show Tryd.prog.funcNamed "stet/stetlaw08.LinkWritten" = some 6 by kernel_rfl).symm.trans hf) |>.symm
      obtain rfl : fn = Tryd.f6 := (Option.some.inj (Tryd.func6.symm.trans hfn)).symm
      exact ⟨by kernel_rfl, fun j t ht => by
        rw [Tryd.params6] at ht
        have hm : t ∈ [9, 9] := by simpa using Array.mem_of_getElem? ht
        have hall : ([9, 9].all fun u => !Tryd.prog.wantsStandIn u) = true := by kernel_rfl
        exact (show Tryd.prog.wantsStandIn t = false by simpa using List.all_eq_true.1 hall t hm)⟩)
    (by kernel_rfl)
#print axioms proved
end Go.Proofs.YtfoheffbapifpaaDoor.linkWritten
