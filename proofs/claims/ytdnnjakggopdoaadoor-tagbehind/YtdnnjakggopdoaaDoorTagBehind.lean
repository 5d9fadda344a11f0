/-
  PROVED: stetlaw06.TagBehind returns true for all texts: what stands behind HTML makes no difference to it (the row, and its card, tied to the program's text). Conditions: none beside the row's own: the listed tables (tag's three, unicode/utf8's two) hold what their initialisers lay (the card ties them; that nothing else writes them is the translator's report, over the pruned copy of the project).
-/
import Derived.Test.YtdnnjakggopdoaaDoorAlive
import Derived.Test.YtdnnjakggopdoaaDoorBehRaw
import Derived.Test.YtdnnjakggopdoaaDoorCards
import Derived.Test.YtdnnjakggopdoaaDoorTie
import Derived.SevenTiedAt
namespace Go.Proofs.YtdnnjakggopdoaaDoor.tagBehind
open Go.ChangeShapes Go.WideShapes Go.ChangeAt Go.RowKit
open Go.ChangeMaps (open_string shut_string)
set_option linter.unusedVariables false
set_option linter.unusedSimpArgs false

theorem lst_app (a b : ByteArray) : lst (a ++ b) = lst a ++ lst b := by simp [lst]
set_option maxHeartbeats 16000000 in
set_option maxRecDepth 100000 in
theorem walk (a0 : ByteArray) (a1 : ByteArray) (w0 : a0.size ≤ maxLen) (w1 : a1.size ≤ maxLen) (w : World) (hG : Glob w) :
    Calls Tryd.prog 5 #[.string a0, .string a1] w fun e w' => e = .returned (.bool true) ∧ RowKit.Below w.heap.size w w' := by
  have HG := Lib.hid (fun w' (hb : RowKit.Below w.heap.size w w') => hG.under hb)
  have HG0 := Lib.hid hG
  clear hG
  by_cases hl0 : 20000 < a0.size
  · skip
    have q0 : decide ((20000 : Int) < (a0.size : Int)) = true := by simp; omega
    go_enter Tryd.func5, Tryd.ntmps5
    go_wp2_with fail
    refine (alive_any _ HG0.out).mono ?_
    rintro e w1 ⟨rfl, hb⟩
    have B1 := Lib.hid hb
    have G1 := Lib.hid (HG.out _ B1.out)
    clear hb
    go_wp2_with fail
    go_ret
    exact ⟨rfl, B1.out⟩
  have q0 : decide ((20000 : Int) < (a0.size : Int)) = false := by simp; omega
  by_cases hl1 : 20000 < a1.size
  · skip
    have q1 : decide ((20000 : Int) < (a1.size : Int)) = true := by simp; omega
    go_enter Tryd.func5, Tryd.ntmps5
    go_wp2_with fail
    refine (alive_any _ HG0.out).mono ?_
    rintro e w1 ⟨rfl, hb⟩
    have B1 := Lib.hid hb
    have G1 := Lib.hid (HG.out _ B1.out)
    clear hb
    go_wp2_with fail
    go_ret
    exact ⟨rfl, B1.out⟩
  have q1 : decide ((20000 : Int) < (a1.size : Int)) = false := by simp; omega
  have hs : a0.size ≤ 1000000 := by omega
  have R0 := Lib.hid (fun W (hW : Glob W) => raw_any a0 hs W hW)
  have O0 := Lib.hid (fun W => open_any a0 hs W)
  clear w0 w1
  by_cases hn : rawL (lst a0) = 0
  · have ho := raw_zero (lst a0) hn
    rw [hn] at R0
    rw [ho] at O0
    clear hn ho
    go_enter Tryd.func5, Tryd.ntmps5
    go_wp2_with fail
    refine (alive_any _ HG0.out).mono ?_
    rintro e w1 ⟨rfl, hb⟩
    have B1 := Lib.hid hb
    have G1 := Lib.hid (HG.out _ B1.out)
    clear hb
    go_wp2_with fail
    refine (R0.out _ G1.out).mono ?_
    rintro e w2 ⟨rfl, hb⟩
    have B2 := Lib.hid (chain (Nat.le_refl _) B1.out hb)
    have G2 := Lib.hid (HG.out _ B2.out)
    clear hb
    go_wp2_with fail
    refine (O0.out _).mono ?_
    rintro e w3 ⟨rfl, hb⟩
    have B3 := Lib.hid (chain (Nat.le_refl _) B2.out hb)
    have G3 := Lib.hid (HG.out _ B3.out)
    clear hb
    go_wp2_with fail
    go_ret
    exact ⟨rfl, B3.out⟩
  · obtain ⟨h3, hle, h60, h62, hag⟩ := raw_all (lst a0) _ rfl hn
    rw [lst_size] at hle
    have HO : Hid (openL (lst a0) = 0 ∨ openL (lst a0) = rawL (lst a0)) := by
      by_cases h : openL (lst a0) = 0
      · exact .inl h
      · exact .inr (raw_open _ h).symm
    obtain ⟨n, hnn⟩ : ∃ n, n = rawL (lst a0) := ⟨_, rfl⟩
    rw [← hnn] at hn h3 hle h62 hag HO R0
    obtain ⟨p, hp⟩ : ∃ p, n = p + 1 := ⟨n - 1, by omega⟩
    have e1 : (n : Int) - 1 = (p : Int) := by omega
    have R1 : Hid (∀ W, Glob W → Calls Tryd.prog 9 #[.string (a0.extract 0 n ++ a1)] W fun e w' => e = .returned (.int .i64 n) ∧ RowKit.Below W.heap.size W w') := fun W hW => by
      have hz : (a0.extract 0 n ++ a1).size ≤ 1000000 := by rw [← lst_size, lst_app, lst_head, List.length_append, List.length_take, lst_size, lst_size]; omega
      have h := raw_any _ hz W hW
      rw [lst_app, lst_head, hag _ (agr_cut _ _ _ (by rw [lst_size]; exact hle)) (by rw [List.length_append, List.length_take, lst_size]; omega)] at h
      exact h
    have R2 : Hid (∀ W, Glob W → Calls Tryd.prog 9 #[.string (a0.extract 0 n)] W fun e w' => e = .returned (.int .i64 n) ∧ RowKit.Below W.heap.size W w') := fun W hW => by
      have h := raw_any _ (head_size a0 n hs) W hW
      have hA := agr_cut (lst a0) [] n (by rw [lst_size]; exact hle)
      rw [List.append_nil] at hA
      rw [lst_head, hag _ hA (by rw [List.length_take, lst_size]; omega)] at h
      exact h
    have R3 : Hid (∀ W, Glob W → Calls Tryd.prog 9 #[.string (a0.extract 0 p)] W fun e w' => e = .returned (.int .i64 (rawL ((lst a0).take p))) ∧ RowKit.Below W.heap.size W w') := fun W hW => by
      have h := raw_any _ (head_size a0 p hs) W hW
      rw [lst_head] at h
      exact h
    have hr := raw_le ((lst a0).take p)
    rw [List.length_take, lst_size] at hr
    generalize rawL ((lst a0).take p) = r at *
    have hp0 : p < a0.size := by omega
    have h00 : 0 < a0.size := by omega
    have b0 : (((a0[0]'h00).toNat : Int) != 60) = false := by
      rw [Lib.data_getElem? a0 0 h00] at h60
      rw [Option.some.inj h60]
      rfl
    have b1 : (((a0[p]'hp0).toNat : Int) != 62) = false := by
      rw [hp, Nat.add_sub_cancel, Lib.data_getElem? a0 p hp0] at h62
      rw [Option.some.inj h62]
      rfl
    have y1 : ((n : Int) == 0) = false := by simp; omega
    have y2 : decide ((n : Int) < 3) = false := by simp; omega
    have y3 : decide (a0.size < n) = false := by simp; omega
    have y4 : ((r : Int) != (n : Int)) = true := by
      rw [bne, Bool.not_eq_true', beq_eq_false_iff_ne]
      omega
    have y5 : ((n : Int) == (n : Int)) = true := by simp
    have hpl : p ≤ a0.size := by omega
    have HP := Lib.hid hp
    generalize openL (lst a0) = o at *
    clear hp hag h60 h62 hnn
    have hro : r = 0 ∨ ¬ r = 0 := by omega
    have HOO := HO.out
    clear HO
    rcases HOO with rfl | rfl
    · rcases hro with rfl | hr0
      · skip
        go_enter Tryd.func5, Tryd.ntmps5
        go_wp2_with fail
        refine (alive_any _ HG0.out).mono ?_
        rintro e w1 ⟨rfl, hb⟩
        have B1 := Lib.hid hb
        have G1 := Lib.hid (HG.out _ B1.out)
        clear hb
        go_wp2_with fail
        refine (R0.out _ G1.out).mono ?_
        rintro e w2 ⟨rfl, hb⟩
        have B2 := Lib.hid (chain (Nat.le_refl _) B1.out hb)
        have G2 := Lib.hid (HG.out _ B2.out)
        clear hb
        go_wp2_with fail
        refine (R1.out _ G2.out).mono ?_
        rintro e w3 ⟨rfl, hb⟩
        have B3 := Lib.hid (chain (Nat.le_refl _) B2.out hb)
        have G3 := Lib.hid (HG.out _ B3.out)
        clear hb
        go_wp2_with fail
        refine (R2.out _ G3.out).mono ?_
        rintro e w4 ⟨rfl, hb⟩
        have B4 := Lib.hid (chain (Nat.le_refl _) B3.out hb)
        have G4 := Lib.hid (HG.out _ B4.out)
        clear hb
        go_wp2_with fail
        refine (R3.out _ G4.out).mono ?_
        rintro e w5 ⟨rfl, hb⟩
        have B5 := Lib.hid (chain (Nat.le_refl _) B4.out hb)
        have G5 := Lib.hid (HG.out _ B5.out)
        clear hb
        go_wp2_with fail
        refine (O0.out _).mono ?_
        rintro e w6 ⟨rfl, hb⟩
        have B6 := Lib.hid (chain (Nat.le_refl _) B5.out hb)
        have G6 := Lib.hid (HG.out _ B6.out)
        clear hb
        go_wp2_with fail
        go_ret
        exact ⟨congrArg (fun b => Ending.returned (Value.bool b)) (by simp), B6.out⟩
      · have y6 : ((r : Int) == 0) = false := by simp; omega
        go_enter Tryd.func5, Tryd.ntmps5
        go_wp2_with fail
        refine (alive_any _ HG0.out).mono ?_
        rintro e w1 ⟨rfl, hb⟩
        have B1 := Lib.hid hb
        have G1 := Lib.hid (HG.out _ B1.out)
        clear hb
        go_wp2_with fail
        refine (R0.out _ G1.out).mono ?_
        rintro e w2 ⟨rfl, hb⟩
        have B2 := Lib.hid (chain (Nat.le_refl _) B1.out hb)
        have G2 := Lib.hid (HG.out _ B2.out)
        clear hb
        go_wp2_with fail
        refine (R1.out _ G2.out).mono ?_
        rintro e w3 ⟨rfl, hb⟩
        have B3 := Lib.hid (chain (Nat.le_refl _) B2.out hb)
        have G3 := Lib.hid (HG.out _ B3.out)
        clear hb
        go_wp2_with fail
        refine (R2.out _ G3.out).mono ?_
        rintro e w4 ⟨rfl, hb⟩
        have B4 := Lib.hid (chain (Nat.le_refl _) B3.out hb)
        have G4 := Lib.hid (HG.out _ B4.out)
        clear hb
        go_wp2_with fail
        refine (R3.out _ G4.out).mono ?_
        rintro e w5 ⟨rfl, hb⟩
        have B5 := Lib.hid (chain (Nat.le_refl _) B4.out hb)
        have G5 := Lib.hid (HG.out _ B5.out)
        clear hb
        go_wp2_with fail
        refine (R3.out _ G5.out).mono ?_
        rintro e w6 ⟨rfl, hb⟩
        have B6 := Lib.hid (chain (Nat.le_refl _) B5.out hb)
        have G6 := Lib.hid (HG.out _ B6.out)
        clear hb
        go_wp2_with fail
        refine (O0.out _).mono ?_
        rintro e w7 ⟨rfl, hb⟩
        have B7 := Lib.hid (chain (Nat.le_refl _) B6.out hb)
        have G7 := Lib.hid (HG.out _ B7.out)
        clear hb
        go_wp2_with fail
        go_ret
        exact ⟨congrArg (fun b => Ending.returned (Value.bool b)) (by simp), B7.out⟩
    · rcases hro with rfl | hr0
      · skip
        go_enter Tryd.func5, Tryd.ntmps5
        go_wp2_with fail
        refine (alive_any _ HG0.out).mono ?_
        rintro e w1 ⟨rfl, hb⟩
        have B1 := Lib.hid hb
        have G1 := Lib.hid (HG.out _ B1.out)
        clear hb
        go_wp2_with fail
        refine (R0.out _ G1.out).mono ?_
        rintro e w2 ⟨rfl, hb⟩
        have B2 := Lib.hid (chain (Nat.le_refl _) B1.out hb)
        have G2 := Lib.hid (HG.out _ B2.out)
        clear hb
        go_wp2_with fail
        refine (R1.out _ G2.out).mono ?_
        rintro e w3 ⟨rfl, hb⟩
        have B3 := Lib.hid (chain (Nat.le_refl _) B2.out hb)
        have G3 := Lib.hid (HG.out _ B3.out)
        clear hb
        go_wp2_with fail
        refine (R2.out _ G3.out).mono ?_
        rintro e w4 ⟨rfl, hb⟩
        have B4 := Lib.hid (chain (Nat.le_refl _) B3.out hb)
        have G4 := Lib.hid (HG.out _ B4.out)
        clear hb
        go_wp2_with fail
        refine (R3.out _ G4.out).mono ?_
        rintro e w5 ⟨rfl, hb⟩
        have B5 := Lib.hid (chain (Nat.le_refl _) B4.out hb)
        have G5 := Lib.hid (HG.out _ B5.out)
        clear hb
        go_wp2_with fail
        refine (O0.out _).mono ?_
        rintro e w6 ⟨rfl, hb⟩
        have B6 := Lib.hid (chain (Nat.le_refl _) B5.out hb)
        have G6 := Lib.hid (HG.out _ B6.out)
        clear hb
        go_wp2_with fail
        refine (O0.out _).mono ?_
        rintro e w7 ⟨rfl, hb⟩
        have B7 := Lib.hid (chain (Nat.le_refl _) B6.out hb)
        have G7 := Lib.hid (HG.out _ B7.out)
        clear hb
        go_wp2_with fail
        go_ret
        exact ⟨congrArg (fun b => Ending.returned (Value.bool b)) (by simp), B7.out⟩
      · have y6 : ((r : Int) == 0) = false := by simp; omega
        go_enter Tryd.func5, Tryd.ntmps5
        go_wp2_with fail
        refine (alive_any _ HG0.out).mono ?_
        rintro e w1 ⟨rfl, hb⟩
        have B1 := Lib.hid hb
        have G1 := Lib.hid (HG.out _ B1.out)
        clear hb
        go_wp2_with fail
        refine (R0.out _ G1.out).mono ?_
        rintro e w2 ⟨rfl, hb⟩
        have B2 := Lib.hid (chain (Nat.le_refl _) B1.out hb)
        have G2 := Lib.hid (HG.out _ B2.out)
        clear hb
        go_wp2_with fail
        refine (R1.out _ G2.out).mono ?_
        rintro e w3 ⟨rfl, hb⟩
        have B3 := Lib.hid (chain (Nat.le_refl _) B2.out hb)
        have G3 := Lib.hid (HG.out _ B3.out)
        clear hb
        go_wp2_with fail
        refine (R2.out _ G3.out).mono ?_
        rintro e w4 ⟨rfl, hb⟩
        have B4 := Lib.hid (chain (Nat.le_refl _) B3.out hb)
        have G4 := Lib.hid (HG.out _ B4.out)
        clear hb
        go_wp2_with fail
        refine (R3.out _ G4.out).mono ?_
        rintro e w5 ⟨rfl, hb⟩
        have B5 := Lib.hid (chain (Nat.le_refl _) B4.out hb)
        have G5 := Lib.hid (HG.out _ B5.out)
        clear hb
        go_wp2_with fail
        refine (R3.out _ G5.out).mono ?_
        rintro e w6 ⟨rfl, hb⟩
        have B6 := Lib.hid (chain (Nat.le_refl _) B5.out hb)
        have G6 := Lib.hid (HG.out _ B6.out)
        clear hb
        go_wp2_with fail
        refine (O0.out _).mono ?_
        rintro e w7 ⟨rfl, hb⟩
        have B7 := Lib.hid (chain (Nat.le_refl _) B6.out hb)
        have G7 := Lib.hid (HG.out _ B7.out)
        clear hb
        go_wp2_with fail
        refine (O0.out _).mono ?_
        rintro e w8 ⟨rfl, hb⟩
        have B8 := Lib.hid (chain (Nat.le_refl _) B7.out hb)
        have G8 := Lib.hid (HG.out _ B8.out)
        clear hb
        go_wp2_with fail
        go_ret
        exact ⟨congrArg (fun b => Ending.returned (Value.bool b)) (by simp), B8.out⟩

set_option maxRecDepth 100000 in
theorem lifted (os : Os) (started : os.Started) (H : Type) (enc : TypeId × Value → H) :
    ReturnsInHanded {} Tryd.checked os 5 .any (fun w args => (Rows.tagBehindSpec.pre enc Tryd.prog Tryd.f5 [] false w args ∧ laidMetH Tryd.prog laid5 w) ∧ sizedMet enc Tryd.prog Tryd.f5 (OpenSpec.ofChange Rows.tagBehindSpec) false w args)
      (Rows.tagBehindSpec.post enc Tryd.prog Tryd.f5 false true false false) := by
  refine returns_shaped (X := fun w _ => laidMetH Tryd.prog laid5 w) (fun _ _ _ hh h => h.of_heap hh) started (by kernel_rfl) Tryd.func5
    (ChangeSpec.witness_at (enc := enc) (C := Tryd.checked) (os := os) (X := fun w _ => laidMetH Tryd.prog laid5 w) false (laidWorld os) #[.string ByteArray.empty, .string ByteArray.empty] 8 rfl (by kernel_rfl) (by kernel_rfl) (by kernel_rfl) (by kernel_rfl) (by kernel_rfl) (laid_met os _)) ?_
  intro W base args ds gs before hval0 hW hL hsh
  have hval : ∀ (j : Nat) t v, Tryd.f5.params[j]? = some t → args[j]? = some v → Value.okWide Tryd.prog W .any base t v := hval0
  have hW' := hW
  obtain ⟨p, q, hA0, hV, rfl, hfz, hnd⟩ := hW
  have hA : DataW.TrodAll enc Tryd.prog W 0 (fun _ => true) true Tryd.f5.params.toList args.toList ds p := hA0
  rw [Tryd.params5] at hA hval
  obtain ⟨v0, vs0, d0, ds0, p0, q0, hargs, rfl, rfl, h0, r0⟩ := trodAll_cons hA
  obtain ⟨v1, vs1, d1, ds1, p1, q1, rfl, rfl, rfl, h1, r1⟩ := trodAll_cons r0
  obtain ⟨rfl, rfl, rfl⟩ := trodAll_nil r1
  obtain rfl : args = #[v0, v1] := by cases args; simp_all
  obtain ⟨rfl, rfl⟩ := trodVars_none hV
  obtain ⟨a0, rfl, rfl, rfl, w0⟩ := open_string Tryd.underlying9 (hval 0 9 v0 rfl rfl) h0
  obtain ⟨a1, rfl, rfl, rfl, w1⟩ := open_string Tryd.underlying9 (hval 1 9 v1 rfl rfl) h1
  clear hA0 hval0
  simp only [List.append_nil] at hW'
  refine (walk a0 a1 w0 w1 W (glob_of hL hsh (six hsh))).mono fun e W' ⟨he, hg⟩ => ?_
  subst he
  exact ⟨_, rfl, _, _, _, [], [], [], hW', (trodAll_cons_mk (shut_bool Tryd.underlying4 _) trodAll_mk0), (trodAll_cons_mk (shut_string Tryd.underlying9 w0) (trodAll_cons_mk (shut_string Tryd.underlying9 w1) trodAll_mk0)), rfl, hg.frame _, fun h => by cases h⟩

theorem over : Rows.TagBehindSaid :=
  OpenClaim.holds_of_wide 5 Tryd.f5 rfl rfl rfl rfl rfl rfl rfl ⟨rfl, rfl, rfl, rfl, rfl⟩ rfl rfl rfl rfl rfl (by kernel_rfl) Tryd.func5 (by kernel_rfl)
    (of_decide_eq_true (by kernel_rfl)) (by unfold Func.isWrapper; first | (rw [if_pos (by decide +kernel)]; kernel_rfl) | (rw [if_neg (by decide +kernel)]; exact ⟨rfl, rfl⟩))
    (fun os started H enc _ => lifted os started H enc)

theorem proved : Rows.TagBehindCardSaid :=
  Claim7.holds_tied_plain_at .later [] [.data, .wider, .data, .data, .pinned] true (true, "983f382e791182f6ff44ae0bd4e010dfb45b40c53505750620b68fca4238e8b4") true
    over (fun _ h => by cases h) (by kernel_rfl) (fun _ h => by cases h) tagBehind_row_tie rfl ⟨rfl, rfl⟩ (by kernel_rfl) rfl
    (fun f fn hf hfn => by
      obtain rfl : f = 5 := Option.some.inj ((show Tryd.prog.funcNamed "stet/stetlaw06.TagBehind" = some 5 by kernel_rfl).symm.trans hf) |>.symm
      obtain rfl : fn = Tryd.f5 := (Option.some.inj (Tryd.func5.symm.trans hfn)).symm
      exact ⟨by kernel_rfl, fun j t ht => by
        rw [Tryd.params5] at ht
        have hm : t ∈ [9, 9] := by simpa using Array.mem_of_getElem? ht
        have hall : ([9, 9].all fun u => !Tryd.prog.wantsStandIn u) = true := by kernel_rfl
        exact (show Tryd.prog.wantsStandIn t = false by simpa using List.all_eq_true.1 hall t hm)⟩)
    (by kernel_rfl)
#print axioms proved
end Go.Proofs.YtdnnjakggopdoaaDoor.tagBehind
