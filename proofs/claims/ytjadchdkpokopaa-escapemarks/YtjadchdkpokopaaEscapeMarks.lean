/-
  PROVED: stetlaw07.EscapeMarks returns true for every text: a text whose plain marks all have a backslash ahead is told by escape.Plain as the text itself. Conditions: none beside the row's own.
-/
import Derived.Test.YtjadchdkpokopaaAlive
import Derived.Test.YtjadchdkpokopaaRefText
import Derived.WalkKit
import Derived.ProofKit
import Derived.OpenShut
import Derived.ShutString
namespace Go.Proofs.Ytjadchdkpokopaa.escapeMarks
open Go.ChangeShapes Go.WideShapes Go.ChangeAt Go.RowKit
open Go.ChangeMaps (open_string shut_string)
set_option linter.unusedVariables false      -- a walk need not use every 'w<i>' (that an integer argument fits its kind)

theorem own : ownKnob Try.prog.godebug = none := by kernel_rfl

set_option maxHeartbeats 8000000 in
set_option maxRecDepth 100000 in
theorem walk (a0 : ByteArray) (w0 : a0.size ≤ maxLen) (w : World) :
    Calls Try.prog 5 #[.string a0] w fun e w' => e = .returned (.bool true) ∧ Below w.heap.size w w' := by
  by_cases hl : 20000 < a0.size
  · go_enter Try.func5, Try.ntmps5
    go_wp2_with fail
    refine (alive_any _).mono ?_
    rintro e w1 ⟨rfl, hb⟩
    have B1 := Lib.hid hb
    have z1 := hb.size
    clear hb
    go_wp2_with fail
    go_ret
    exact ⟨rfl, B1.out⟩
  · have hs : a0.size ≤ 2000000 := by omega
    obtain ⟨i0, hi, hz0, hz1, hz2⟩ := info_parts Try.info5
    have HP : Hid (∀ W, Calls Try.prog 12 #[.string ⟨(marksL (lst a0)).toArray⟩] W fun e w' => e = .returned (.string a0) ∧ Below W.heap.size W w') := fun W => by
      have hz : (⟨(marksL (lst a0)).toArray⟩ : ByteArray).size ≤ 2000000 := by
        rw [← lst_size, lst_mk]
        have := marksL_len (lst a0)
        rw [lst_size] at this
        omega
      have h := plain_text ⟨(marksL (lst a0)).toArray⟩ hz W
      rw [lst_mk, marks_back, ← of_lst a0 _ rfl] at h
      exact h
    go_enter Try.func5, Try.ntmps5
    go_wp2_with fail
    refine (alive_any _).mono ?_
    rintro e w1 ⟨rfl, hb⟩
    have B1 := Lib.hid hb
    have z1 := hb.size
    clear hb
    go_wp2_with fail
    go_loopw [3, 4] (fun v i wr => BRel marksL a0 w1 v i wr) (fun _ i _ => a0.size - (intOf i).toNat)
    case atStart => exact ⟨0, [], Nat.zero_le _, rfl, rfl, by simp, own_empty5 _ _ (Nat.le_refl _), (fun h => by cases h), (Below.refl _ _).alloc (Nat.le_refl _) _⟩
    case round =>
      obtain ⟨p, acc, hp, rfl, hacc, hal, hown0, hnil, hB0⟩ := hrel
      have hBz := hB0.size
      have HNIL := Lib.hid hnil
      by_cases hlt : p < a0.size
      · have hn := (a0[p]'hlt).toNat_lt
        have hx := (m1_len (a0[p]'hlt)).2
        have HS := Lib.hid (fun (w2 : World) (v : Value) (x : List UInt8) (hxx : m1 (a0[p]'hlt) = x) (ho : w2.ownsRow w1.heap.size 5 1 v (acc.length + x.length) (Lib.byteCells acc ++ Lib.byteCells x)) (hv : v ≠ .slice none 0 0) (hb : Below w1.heap.size w1 w2) => brel_step (f := marksL) (n := 1) (x := x) rfl (by omega) (by rw [← hxx]; omega) hacc hal (by rw [lst_at a0 p hlt, marksL_cons, hxx]) ho hv hb)
        have hP := fun W => plain_any ((a0[p]'hlt).toNat : Int) (by omega) (by omega) W
        clear hacc hnil hx HP
        cases hpl : pl (a0[p]'hlt) with
        | true =>
          have HX : Hid (m1 (a0[p]'hlt) = [92, a0[p]'hlt]) := show m1 (a0[p]'hlt) = _ from by unfold m1; rw [if_pos hpl]
          have HP : Hid (∀ W, Calls Try.prog 18 #[.int .u8 (a0[p]'hlt).toNat] W (Grows (.bool true) W)) := fun W => by
            have := hP W
            rw [show inSps ((a0[p]'hlt).toNat : Int) plainL = true from hpl] at this
            exact this
          clear hP hpl
          go_wp2_with fail
          refine (HP.out _).mono ?_
          rintro e w2 hG
          obtain ⟨rfl, hb⟩ := hG.below
          have hown := own_below hown0 hb
          have hB1 : Below w1.heap.size w1 w2 := hB0.trans (hb.mono hBz)
          have hz2' := hB1.size
          clear hG hb HP hown0 hB0
          go_wp2_with (at_builtin; refine wpList_append_own _ rfl _ _ 28 rfl w1.heap.size 5 i0 (.int .u8 0) 1 1 Try.underlying28 hi hz0 hz1 hz2 rfl (by decide) _ _ _ rfl (hown.alloc _) ⟨w2.heap.size, 0, none⟩ 1 1 (Lib.byteCells [92]) rfl rfl (newsB _ [92]) (bytes_one _) (by unfold maxLen; omega) (by omega) (by simp; omega) ?_)
          intro v' w3 hown3 hgrow hiff
          have hge := own_block_ge hown
          have HN3 : Hid (v' ≠ .slice none 0 0) := by first | exact hiff | exact fun hv => HNIL.out (hiff.1 hv).1
          have hB3 : Below w1.heap.size w1 w3 := (hB1.alloc (by omega) _).grown hgrow (by simp; omega) (fun k hk => (hge k hk).1)
          have hz3 := hB3.size
          clear hgrow hown hiff hge hB1
          go_wp2_with (at_builtin; refine wpList_append_own _ rfl _ _ 28 rfl w1.heap.size 5 i0 (.int .u8 0) 1 1 Try.underlying28 hi hz0 hz1 hz2 rfl (by decide) _ _ _ rfl (hown3.alloc _) ⟨w3.heap.size, 0, none⟩ 1 1 (Lib.byteCells [a0[p]'hlt]) rfl rfl (newsB _ [a0[p]'hlt]) (bytes_one _) (by unfold maxLen; omega) (by omega) (by simp; omega) ?_)
          intro v4 w4 hown4 hgrow hiff
          have hge := own_block_ge hown3
          have HR := Lib.hid (HS.out w4 v4 _ HX.out (by first | exact hown4 | (rw [List.append_assoc] at hown4; exact hown4)) (by first | exact hiff | exact fun hv => HN3.out (hiff.1 hv).1) ((hB3.alloc (by omega) _).grown hgrow (by simp; omega) (fun k hk => (hge k hk).1)))
          clear hown4 hgrow hown3 hiff hge hB3 HS
          go_wp2_with fail
          go_roundw
          case rel => exact HR.out
          case measure => simp [intOf]; omega
        | false =>
          have HX : Hid (m1 (a0[p]'hlt) = [a0[p]'hlt]) := show m1 (a0[p]'hlt) = _ from by unfold m1; rw [if_neg (by rw [hpl]; simp)]
          have HP : Hid (∀ W, Calls Try.prog 18 #[.int .u8 (a0[p]'hlt).toNat] W (Grows (.bool false) W)) := fun W => by
            have := hP W
            rw [show inSps ((a0[p]'hlt).toNat : Int) plainL = false from hpl] at this
            exact this
          clear hP hpl
          go_wp2_with fail
          refine (HP.out _).mono ?_
          rintro e w2 hG
          obtain ⟨rfl, hb⟩ := hG.below
          have hown := own_below hown0 hb
          have hB1 : Below w1.heap.size w1 w2 := hB0.trans (hb.mono hBz)
          have hz2' := hB1.size
          clear hG hb HP hown0 hB0
          go_wp2_with (at_builtin; refine wpList_append_own _ rfl _ _ 28 rfl w1.heap.size 5 i0 (.int .u8 0) 1 1 Try.underlying28 hi hz0 hz1 hz2 rfl (by decide) _ _ _ rfl (hown.alloc _) ⟨w2.heap.size, 0, none⟩ 1 1 (Lib.byteCells [a0[p]'hlt]) rfl rfl (newsB _ [a0[p]'hlt]) (bytes_one _) (by unfold maxLen; omega) (by omega) (by simp; omega) ?_)
          intro v' w3 hown3 hgrow hiff
          have hge := own_block_ge hown
          have HR := Lib.hid (HS.out w3 v' _ HX.out hown3 (by first | exact hiff | exact fun hv => HNIL.out (hiff.1 hv).1) ((hB1.alloc (by omega) _).grown hgrow (by simp; omega) (fun k hk => (hge k hk).1)))
          clear hown3 hgrow hown hiff hge hB1 HS
          go_wp2_with fail
          go_roundw
          case rel => exact HR.out
          case measure => simp [intOf]; omega
      · obtain ⟨a, c, rfl, hconv⟩ := own_string hown0 hnil
        have h1 := hacc
        rw [lst_out a0 p (by omega), marksL_nil, List.append_nil] at h1
        rw [← h1] at HP
        have HB0 := Lib.hid hB0
        clear h1 hacc hnil hB0 hown0
        go_wp2_with fail
        refine (HP.out _).mono ?_
        rintro e w5 ⟨rfl, hb⟩
        have HB5 := Lib.hid (chain (Nat.le_refl _) B1.out (HB0.out.trans (hb.mono hBz)))
        clear hb HP HB0 B1
        go_wp2_with fail
        go_ret
        exact ⟨rfl, HB5.out⟩

set_option maxRecDepth 100000 in
theorem lifted (os : Os) (started : os.Started) (H : Type) (enc : TypeId × Value → H) :
    ReturnsInHanded {} Try.checked os 5 .any (Rows.escapeMarksSpec.pre6 enc Try.prog Try.f5 Rows.escapeMarksRow.domain false) (Rows.escapeMarksSpec.post enc Try.prog Try.f5 false true false false) := by
  refine returnsInHanded_of_change (C := Try.checked) own started (by kernel_rfl) Try.func5
    (ChangeSpec.witness6 (enc := enc) (C := Try.checked) false ⟨#[], #[.string ByteArray.empty], []⟩ 8 (by kernel_rfl) (by kernel_rfl) (by kernel_rfl) (by kernel_rfl)) ?_
  intro W base args ds gs before hval0 hW hcnd _
  have hval : ∀ (j : Nat) t v, Try.f5.params[j]? = some t → args[j]? = some v → Value.okWide Try.prog W .any base t v := hval0
  have hW' := hW
  obtain ⟨p, q, hA0, hV, rfl, hfz, hnd⟩ := hW
  have hA : DataW.TrodAll enc Try.prog W 0 (fun _ => true) true Try.f5.params.toList args.toList ds p := hA0
  rw [Try.params5] at hA hval
  obtain ⟨v0, vs0, d0, ds0, p0, q0, hargs, rfl, rfl, h0, r0⟩ := trodAll_cons hA
  obtain ⟨rfl, rfl, rfl⟩ := trodAll_nil r0
  obtain rfl : args = #[v0] := by cases args; simp_all
  obtain ⟨rfl, rfl⟩ := trodVars_none hV
  obtain ⟨a0, rfl, rfl, rfl, w0⟩ := open_string Try.underlying9 (hval 0 9 v0 rfl rfl) h0
  clear hA0 hval0
  simp only [List.append_nil] at hW'
  refine (walk a0 w0 W).mono fun e W' ⟨he, hg⟩ => ?_
  subst he
  exact ⟨_, rfl, _, _, _, [], [], [], hW', (trodAll_cons_mk (shut_bool Try.underlying4 _) trodAll_mk0), (trodAll_cons_mk (shut_string Try.underlying9 w0) trodAll_mk0), rfl, hg.frame _, fun h => by cases h⟩

theorem over : Rows.escapeMarksRow.holds Try.pinned (OpenSpec.ofChange Rows.escapeMarksSpec) :=
  OpenClaim.holds_of_wide 5 Try.f5 rfl rfl rfl rfl rfl rfl rfl ⟨rfl, rfl, rfl, rfl, rfl⟩ rfl rfl rfl rfl rfl (by kernel_rfl) Try.func5 (by kernel_rfl)
    (of_decide_eq_true (by kernel_rfl)) (by unfold Func.isWrapper; first | (rw [if_pos (by decide +kernel)]; kernel_rfl) | (rw [if_neg (by decide +kernel)]; exact ⟨rfl, rfl⟩))
    (fun os started H enc _ => lifted os started H enc)

theorem proved : Rows.EscapeMarksSaid :=
  over
#print axioms proved
end Go.Proofs.Ytjadchdkpokopaa.escapeMarks
