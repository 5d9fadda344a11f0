/-
  PROVED: stetlaw06.TagKinds returns true for every text and number: tag.Kind and tag.Ends answer what the document's own Kind and Ends answer (the row, and its card, tied to the program's text). Conditions: none beside the row's own: the listed tables (tag's three, unicode/utf8's two) hold what their initialisers lay (the card ties them; that nothing else writes them is the translator's report, over the pruned copy of the project).
-/
import Derived.Test.YtdnnjakggopdoaaDoorAlive
import Derived.Test.YtdnnjakggopdoaaDoorRefKind
import Derived.Test.YtdnnjakggopdoaaDoorRefEnds
import Derived.Test.YtdnnjakggopdoaaDoorCards
import Derived.Test.YtdnnjakggopdoaaDoorTie
import Derived.SevenTiedAt
namespace Go.Proofs.YtdnnjakggopdoaaDoor.tagKinds
open Go.ChangeShapes Go.WideShapes Go.ChangeAt Go.RowKit
open Go.ChangeMaps (open_string shut_string)
set_option linter.unusedVariables false
set_option linter.unusedSimpArgs false

set_option maxHeartbeats 4000000 in
theorem walk (a0 : ByteArray) (a1 : Int) (w0 : a0.size ≤ maxLen) (w1 : (Lit.int .i64 a1).wf = true) (w : World) (hG : Glob w) :
    Calls Tryd.prog 4 #[.string a0, .int .i64 a1] w fun e w' => e = .returned (.bool true) ∧ RowKit.Below w.heap.size w w' := by
  have HG := Lib.hid (fun w' (hb : RowKit.Below w.heap.size w w') => hG.under hb)
  have HG0 := Lib.hid hG
  clear hG
  by_cases hl : 20000 < a0.size
  · skip
    go_enter Tryd.func4, Tryd.ntmps4
    go_wp2_with fail
    refine (alive_any _ HG0.out).mono ?_
    rintro e w1 ⟨rfl, hb⟩
    have B1 := Lib.hid hb
    have G1 := Lib.hid (HG.out _ B1.out)
    clear hb
    go_wp2_with fail
    go_ret
    exact ⟨rfl, B1.out⟩
  · have hs : a0.size ≤ 1000000 := by omega
    have hk := i64_bd w1
    have H1 := Lib.hid (fun W (hW : Glob W) => kind_any a0 hs W hW)
    have H2 : Hid (∀ W, Calls Tryd.prog 14 #[.string a0] W fun e w' => e = .returned (.int .i64 (kindL (lst a0))) ∧ Below W.heap.size W w') := fun W => refKind_any a0 hs W
    have H3 := Lib.hid (fun W (hW : Glob W) => ends_any a0 hs a1 hk W hW)
    have H4 := Lib.hid (fun W => refEnds_any a0 hs a1 hk W)
    generalize kindL (lst a0) = r at *
    generalize endsL (lst a0) a1 = q at *
    have q1 : (r == r) = true := by simp
    have q2 : (q == q) = true := by simp
    clear w0 w1 hk
    go_enter Tryd.func4, Tryd.ntmps4
    go_wp2_with fail
    refine (alive_any _ HG0.out).mono ?_
    rintro e w1 ⟨rfl, hb⟩
    have B1 := Lib.hid hb
    have G1 := Lib.hid (HG.out _ B1.out)
    clear hb
    go_wp2_with fail
    refine (H1.out _ G1.out).mono ?_
    rintro e w2 ⟨rfl, hb⟩
    have B2 := Lib.hid (chain (Nat.le_refl _) B1.out hb)
    have G2 := Lib.hid (HG.out _ B2.out)
    clear hb
    go_wp2_with fail
    refine (H2.out _).mono ?_
    rintro e w3 ⟨rfl, hb⟩
    have B3 := Lib.hid (chain (Nat.le_refl _) B2.out hb)
    have G3 := Lib.hid (HG.out _ B3.out)
    clear hb
    go_wp2_with fail
    refine (H3.out _ G3.out).mono ?_
    rintro e w4 ⟨rfl, hb⟩
    have B4 := Lib.hid (chain (Nat.le_refl _) B3.out hb)
    have G4 := Lib.hid (HG.out _ B4.out)
    clear hb
    go_wp2_with fail
    refine (H4.out _).mono ?_
    rintro e w5 ⟨rfl, hb⟩
    have B5 := Lib.hid (chain (Nat.le_refl _) B4.out hb)
    have G5 := Lib.hid (HG.out _ B5.out)
    clear hb
    go_wp2_with fail
    go_ret
    exact ⟨congrArg (fun b => Ending.returned (Value.bool b)) (by simp), B5.out⟩

set_option maxRecDepth 100000 in
theorem lifted (os : Os) (started : os.Started) (H : Type) (enc : TypeId × Value → H) :
    ReturnsInHanded {} Tryd.checked os 4 .any (fun w args => (Rows.tagKindsSpec.pre enc Tryd.prog Tryd.f4 [] false w args ∧ laidMetH Tryd.prog laid5 w) ∧ sizedMet enc Tryd.prog Tryd.f4 (OpenSpec.ofChange Rows.tagKindsSpec) false w args)
      (Rows.tagKindsSpec.post enc Tryd.prog Tryd.f4 false true false false) := by
  refine returns_shaped (X := fun w _ => laidMetH Tryd.prog laid5 w) (fun _ _ _ hh h => h.of_heap hh) started (by kernel_rfl) Tryd.func4
    (ChangeSpec.witness_at (enc := enc) (C := Tryd.checked) (os := os) (X := fun w _ => laidMetH Tryd.prog laid5 w) false (laidWorld os) #[.string ByteArray.empty, .int .i64 0] 8 rfl (by kernel_rfl) (by kernel_rfl) (by kernel_rfl) (by kernel_rfl) (by kernel_rfl) (laid_met os _)) ?_
  intro W base args ds gs before hval0 hW hL hsh
  have hval : ∀ (j : Nat) t v, Tryd.f4.params[j]? = some t → args[j]? = some v → Value.okWide Tryd.prog W .any base t v := hval0
  have hW' := hW
  obtain ⟨p, q, hA0, hV, rfl, hfz, hnd⟩ := hW
  have hA : DataW.TrodAll enc Tryd.prog W 0 (fun _ => true) true Tryd.f4.params.toList args.toList ds p := hA0
  rw [Tryd.params4] at hA hval
  obtain ⟨v0, vs0, d0, ds0, p0, q0, hargs, rfl, rfl, h0, r0⟩ := trodAll_cons hA
  obtain ⟨v1, vs1, d1, ds1, p1, q1, rfl, rfl, rfl, h1, r1⟩ := trodAll_cons r0
  obtain ⟨rfl, rfl, rfl⟩ := trodAll_nil r1
  obtain rfl : args = #[v0, v1] := by cases args; simp_all
  obtain ⟨rfl, rfl⟩ := trodVars_none hV
  obtain ⟨a0, rfl, rfl, rfl, w0⟩ := open_string Tryd.underlying9 (hval 0 9 v0 rfl rfl) h0
  obtain ⟨a1, rfl, rfl, rfl, w1⟩ := open_int Tryd.underlying3 (hval 1 3 v1 rfl rfl) h1
  clear hA0 hval0
  simp only [List.append_nil] at hW'
  refine (walk a0 a1 w0 w1 W (glob_of hL hsh (six hsh))).mono fun e W' ⟨he, hg⟩ => ?_
  subst he
  exact ⟨_, rfl, _, _, _, [], [], [], hW', (trodAll_cons_mk (shut_bool Tryd.underlying4 _) trodAll_mk0), (trodAll_cons_mk (shut_string Tryd.underlying9 w0) (trodAll_cons_mk (shut_int Tryd.underlying3 w1) trodAll_mk0)), rfl, hg.frame _, fun h => by cases h⟩

theorem over : Rows.TagKindsSaid :=
  OpenClaim.holds_of_wide 4 Tryd.f4 rfl rfl rfl rfl rfl rfl rfl ⟨rfl, rfl, rfl, rfl, rfl⟩ rfl rfl rfl rfl rfl (by kernel_rfl) Tryd.func4 (by kernel_rfl)
    (of_decide_eq_true (by kernel_rfl)) (by unfold Func.isWrapper; first | (rw [if_pos (by decide +kernel)]; kernel_rfl) | (rw [if_neg (by decide +kernel)]; exact ⟨rfl, rfl⟩))
    (fun os started H enc _ => lifted os started H enc)

theorem proved : Rows.TagKindsCardSaid :=
  Claim7.holds_tied_plain_at .later [] [.data, .wider, .data, .data, .pinned] true (true, "983f382e791182f6ff44ae0bd4e010dfb45b40c53505750620b68fca4238e8b4") true
    over (fun _ h => by cases h) (by kernel_rfl) (fun _ h => by cases h) tagKinds_row_tie rfl ⟨rfl, rfl⟩ (by kernel_rfl) rfl
    (fun f fn hf hfn => by
      obtain rfl : f = 4 := Option.some.inj ((show Tryd.prog.funcNamed "stet/stetlaw06.TagKinds" = some 4 by kernel_rfl).symm.trans hf) |>.symm
      obtain rfl : fn = Tryd.f4 := (Option.some.inj (Tryd.func4.symm.trans hfn)).symm
      exact ⟨by kernel_rfl, fun j t ht => by
        rw [Tryd.params4] at ht
        have hm : t ∈ [9, 3] := by simpa using Array.mem_of_getElem? ht
        have hall : ([9, 3].all fun u => !Tryd.prog.wantsStandIn u) = true := by kernel_rfl
        exact (show Tryd.prog.wantsStandIn t = false by simpa using List.all_eq_true.1 hall t hm)⟩)
    (by kernel_rfl)
#print axioms proved
end Go.Proofs.YtdnnjakggopdoaaDoor.tagKinds
