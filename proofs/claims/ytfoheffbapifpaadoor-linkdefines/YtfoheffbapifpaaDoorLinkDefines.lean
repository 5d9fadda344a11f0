/-
  PROVED: stetlaw08.LinkDefines returns true for every text and place: link.Define answers the document's own definition (the row, and its card, tied to the program's text). Conditions: none beside the row's own: the two tables of unicode/utf8 hold what their initialisers lay (the card ties them; that nothing else writes them is the translator's report, over the pruned copy of the project); no step of the walk reads them.
-/
import Derived.Test.YtfoheffbapifpaaDoorAlive
import Derived.Test.YtfoheffbapifpaaDoorRefDef
import Derived.Test.YtfoheffbapifpaaDoorCards
import Derived.Test.YtfoheffbapifpaaDoorTie
import Derived.SevenTiedAt
namespace Go.Proofs.YtfoheffbapifpaaDoor.linkDefines
open Go.ChangeShapes Go.WideShapes Go.ChangeAt Go.RowKit
open Go.ChangeMaps (open_string shut_string)
set_option linter.unusedVariables false

theorem tup6 (p : Int) (o : Option (List UInt8 × List UInt8 × List UInt8 × Nat × Nat)) : ∃ (X Y Z : ByteArray) (a b n : Int), defV p o = .tuple #[.agg #[.string X, .string Y, .string Z, .int .i64 a, .int .i64 b], .int .i64 n] := by
  cases o with
  | none => exact ⟨_, _, _, _, _, _, rfl⟩
  | some q => exact ⟨_, _, _, _, _, _, rfl⟩
set_option maxHeartbeats 8000000 in
theorem walk (a0 : ByteArray) (a1 : Int) (w0 : a0.size ≤ maxLen) (w1 : (Lit.int .i64 a1).wf = true) (w : World) :
    Calls Tryd.prog 4 #[.string a0, .int .i64 a1] w fun e w' => e = .returned (.bool true) ∧ Below w.heap.size w w' := by
  by_cases hl : 20000 < a0.size
  · skip
    go_enter Tryd.func4, Tryd.ntmps4
    go_wp2_with fail
    refine (alive_any _).mono ?_
    rintro e x0 ⟨rfl, hb⟩
    have B0 := Lib.hid hb
    clear hb
    go_wp2_with fail
    go_ret
    exact ⟨rfl, B0.out⟩
  have H1 := Lib.hid (define_any a0 a1 (by omega))
  have H2 := Lib.hid (refDefine_any a0 a1 (by omega))
  obtain ⟨X, Y, Z, a, b, n, hX⟩ := tup6 a1 (defL (frm a0 a1))
  rw [hX] at H1 H2
  clear hX
  have q1 : (X.toList == X.toList) = true := beq_self_eq_true _
  have q2 : (Y.toList == Y.toList) = true := beq_self_eq_true _
  have q3 : (Z.toList == Z.toList) = true := beq_self_eq_true _
  have q4 : ((a : Int) == (a : Int)) = true := beq_self_eq_true _
  have q5 : ((b : Int) == (b : Int)) = true := beq_self_eq_true _
  have q6 : ((n : Int) == (n : Int)) = true := beq_self_eq_true _
  go_enter Tryd.func4, Tryd.ntmps4
  go_wp2_with fail
  refine (alive_any _).mono ?_
  rintro e x0 ⟨rfl, hb⟩
  have B0 := Lib.hid hb
  clear hb
  go_wp2_with fail
  refine (H1.out _).mono ?_
  rintro e x1 ⟨rfl, hb⟩
  have B1 := Lib.hid (chain (Nat.le_refl _) B0.out hb)
  have hz1 := B1.out.size
  clear hb
  go_wp2_with fail
  refine (H2.out _).mono ?_
  rintro e x2 ⟨rfl, hb⟩
  have HG : Hid (Holds x2 x1.heap.size 27 #[.string X, .string Y, .string Z, .int .i64 a, .int .i64 b]) := Holds.under (Holds.made x1 27 _) hb (by simp)
  have B2 : Hid (Below w.heap.size w x2) := chain (Nat.le_refl _) (B1.out.alloc hz1 _) hb
  have hz2 := B2.out.size
  have hz3 := HG.out.lt
  clear hb
  have g0 : x2.cell? ⟨x1.heap.size, 0, none⟩ = _ := HG.out.at 0
  have g1 : x2.cell? ⟨x1.heap.size, 1, none⟩ = _ := HG.out.at 1
  have g2 : x2.cell? ⟨x1.heap.size, 2, none⟩ = _ := HG.out.at 2
  have g3 : x2.cell? ⟨x1.heap.size, 3, none⟩ = _ := HG.out.at 3
  have g4 : x2.cell? ⟨x1.heap.size, 4, none⟩ = _ := HG.out.at 4
  go_wp2_with fail
  go_ret
  exact ⟨congrArg (fun b => Ending.returned (Value.bool b)) (by simp), B2.out.alloc hz2 _⟩

set_option maxRecDepth 100000 in
theorem lifted (os : Os) (started : os.Started) (H : Type) (enc : TypeId × Value → H) :
    ReturnsInHanded {} Tryd.checked os 4 .any (fun w args => (Rows.linkDefinesSpec.pre enc Tryd.prog Tryd.f4 [] false w args ∧ laidMetH Tryd.prog laid2 w) ∧ sizedMet enc Tryd.prog Tryd.f4 (OpenSpec.ofChange Rows.linkDefinesSpec) false w args)
      (Rows.linkDefinesSpec.post enc Tryd.prog Tryd.f4 false true false false) := by
  refine returnsInHanded_of_change_and (C := Tryd.checked) (X := fun w _ => laidMetH Tryd.prog laid2 w) (fun _ _ _ hh h => h.of_heap hh) own started (by kernel_rfl) Tryd.func4
    (ChangeSpec.witness_at (enc := enc) (C := Tryd.checked) (os := os) (X := fun w _ => laidMetH Tryd.prog laid2 w) false (laidWorld os) #[.string ByteArray.empty, .int .i64 0] 8 rfl (by kernel_rfl) (by kernel_rfl) (by kernel_rfl) (by kernel_rfl) (by kernel_rfl) (laid_met os _)) ?_
  intro W base args ds gs before hval0 hW _ _ hL _
  have hval : ∀ (j : Nat) t v, Tryd.f4.params[j]? = some t → args[j]? = some v → Value.okWide Tryd.prog W .any base t v := hval0
  have hW' := hW
  obtain ⟨p, q, hA0, hV, rfl, hfz, hnd⟩ := hW
  have hA : DataW.TrodAll enc Tryd.prog W 0 (fun _ => true) true Tryd.f4.params.toList args.toList ds p := hA0
  rw [Tryd.params4] at hA hval
  obtain ⟨v0, vs0, d0, ds0, p0, q0, hargs, rfl, rfl, h0, r0⟩ := trodAll_cons hA
  obtain ⟨v1, vs1, d1, ds1, p1, q1, rfl, rfl, rfl, h1, r1⟩ := trodAll_cons r0
  obtain ⟨rfl, rfl, rfl⟩ := trodAll_nil r1
  obtain rfl : args = #[v0, v1] := by cases args; simp_all
  obtain ⟨rfl, rfl⟩ := trodVars_none hV
  obtain ⟨a0, rfl, rfl, rfl, w0⟩ := open_string Tryd.underlying9 (hval 0 9 v0 rfl rfl) h0
  obtain ⟨a1, rfl, rfl, rfl, w1⟩ := open_int Tryd.underlying3 (hval 1 3 v1 rfl rfl) h1
  clear hA0 hval0
  simp only [List.append_nil] at hW'
  refine (walk a0 a1 w0 w1 W).mono fun e W' ⟨he, hg⟩ => ?_
  subst he
  exact ⟨_, rfl, _, _, _, [], [], [], hW', (trodAll_cons_mk (shut_bool Tryd.underlying4 _) trodAll_mk0), (trodAll_cons_mk (shut_string Tryd.underlying9 w0) (trodAll_cons_mk (shut_int Tryd.underlying3 w1) trodAll_mk0)), rfl, hg.frame _, fun h => by cases h⟩

theorem over : Rows.LinkDefinesSaid :=
  OpenClaim.holds_of_wide 4 Tryd.f4 rfl rfl rfl rfl rfl rfl rfl ⟨rfl, rfl, rfl, rfl, rfl⟩ rfl rfl rfl rfl rfl (by kernel_rfl) Tryd.func4 (by kernel_rfl)
    (of_decide_eq_true (by kernel_rfl)) (by unfold Func.isWrapper; first | (rw [if_pos (by decide +kernel)]; kernel_rfl) | (rw [if_neg (by decide +kernel)]; exact ⟨rfl, rfl⟩))
    (fun os started H enc _ => lifted os started H enc)

theorem proved : Rows.LinkDefinesCardSaid :=
  Claim7.holds_tied_plain_at .later [] [.data, .pinned] true (true, "aff6082a9a53a5ec51ae516706cc7bb4100bc3e83b81131cec9549d84db70d2a") false
    over (fun _ h => by cases h) (by kernel_rfl) (fun _ h => by cases h) linkDefines_row_tie rfl ⟨rfl, rfl⟩ (by kernel_rfl) rfl
    (fun f fn hf hfn => by
      obtain rfl : f = 4 := Option.some.inj ((show Tryd.prog.funcNamed "stet/stetlaw08.LinkDefines" = some 4 by kernel_rfl).symm.trans hf) |>.symm
      obtain rfl : fn = Tryd.f4 := (Option.some.inj (Tryd.func4.symm.trans hfn)).symm
      exact ⟨by kernel_rfl, fun j t ht => by
        rw [Tryd.params4] at ht
        have hm : t ∈ [9, 3] := by simpa using Array.mem_of_getElem? ht
        have hall : ([9, 3].all fun u => !Tryd.prog.wantsStandIn u) = true := by kernel_rfl
        exact (show Tryd.prog.wantsStandIn t = false by simpa using List.all_eq_true.1 hall t hm)⟩)
    (by kernel_rfl)
#print axioms proved
end Go.Proofs.YtfoheffbapifpaaDoor.linkDefines
