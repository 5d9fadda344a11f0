/-
  PROVED: contract of the document's own Fold: the label's bytes ('foldB'). Conditions: the text has at most 2000000 bytes.
-/
import Derived.Test.YtfoheffbapifpaaDoorRefFold
namespace Go.Proofs.YtfoheffbapifpaaDoor
open Go.ChangeShapes Go.WideShapes Go.ChangeAt Go.RowKit Go.Sort
set_option linter.unusedVariables false

/-- What the loop of the document's Fold goes by. -/
def RRel (s : ByteArray) (w : World) (v g i : Value) (wr : World) : Prop :=
  ∃ (pos : Nat) (acc : List UInt8) (gap : Bool), pos ≤ s.size ∧ i = .int .i64 pos ∧ g = .bool gap ∧ acc ++ encL (foldG gap (decide (0 < acc.length)) (runesF s pos)) = foldB s.data.toList ∧ acc.length ≤ 5 * pos ∧ wr.ownsRow w.heap.size 5 1 v acc.length (Lib.byteCells acc) ∧ v ≠ .slice none 0 0 ∧ Below w.heap.size w wr

theorem rrel_blank {s : ByteArray} {w w2 : World} {v : Value} {pos : Nat} {acc : List UInt8} {gap : Bool} (hp : pos < s.size) (hacc : acc ++ encL (foldG gap (decide (0 < acc.length)) (runesF s pos)) = foldB s.data.toList) (hl : acc.length ≤ 5 * pos)
    (hb : isBlank ((Utf8.decode s pos).1 : Int) = true) (ho : w2.ownsRow w.heap.size 5 1 v acc.length (Lib.byteCells acc)) (hv : v ≠ .slice none 0 0) (hbw : Below w.heap.size w w2) : RRel s w v (.bool true) (.int .i64 ((pos : Int) + ((Utf8.decode s pos).2 : Int))) w2 := by
  have hd := dec_bd s pos hp
  refine ⟨pos + (Utf8.decode s pos).2, acc, true, by omega, by rw [Int.natCast_add], rfl, ?_, by omega, ho, hv, hbw⟩
  rw [← hacc, runesF_go s pos hp, foldG_blank _ _ _ _ hb]
theorem encL_fold_len' (r : Int) : 1 ≤ (encL (foldR r)).length ∧ (encL (foldR r)).length ≤ 4 := by
  unfold foldR
  split
  · decide
  · rw [encL_one]; exact enc_len _
theorem rrel_no {s : ByteArray} {w w2 : World} {v : Value} {pos : Nat} {acc sep : List UInt8} {gap : Bool} (hp : pos < s.size) (hacc : acc ++ encL (foldG gap (decide (0 < acc.length)) (runesF s pos)) = foldB s.data.toList) (hl : acc.length ≤ 5 * pos)
    (hb : isBlank ((Utf8.decode s pos).1 : Int) = false) (hsep : sep = if gap = true ∧ 0 < acc.length then [32] else []) (ho : w2.ownsRow w.heap.size 5 1 v (acc.length + sep.length + (encL (foldR ((Utf8.decode s pos).1 : Int))).length) (Lib.byteCells acc ++ Lib.byteCells sep ++ Lib.byteCells (encL (foldR ((Utf8.decode s pos).1 : Int))))) (hv : v ≠ .slice none 0 0) (hbw : Below w.heap.size w w2) :
    RRel s w v (.bool false) (.int .i64 ((pos : Int) + ((Utf8.decode s pos).2 : Int))) w2 := by
  have hd := dec_bd s pos hp
  have h4 := encL_fold_len' ((Utf8.decode s pos).1 : Int)
  have hs1 : sep.length ≤ 1 := by rw [hsep]; split <;> simp
  refine ⟨pos + (Utf8.decode s pos).2, acc ++ sep ++ encL (foldR ((Utf8.decode s pos).1 : Int)), false, by omega, by rw [Int.natCast_add], rfl, ?_, by rw [List.length_append, List.length_append]; omega, ?_, hv, hbw⟩
  · rw [← hacc, runesF_go s pos hp, foldG_no _ _ _ _ hb, encL_append, encL_append]
    have e : decide (0 < (acc ++ sep ++ encL (foldR ((Utf8.decode s pos).1 : Int))).length) = true := by rw [decide_eq_true_eq, List.length_append]; omega
    rw [e]
    have e2 : encL (if gap = true ∧ decide (0 < acc.length) = true then [32] else []) = sep := by
      rw [hsep]
      simp only [decide_eq_true_eq]
      split
      · rfl
      · rfl
    rw [e2]
    simp only [List.append_assoc]
  · rw [List.length_append, List.length_append, Lib.byteCells_append, Lib.byteCells_append]
    exact ho

set_option maxHeartbeats 4000000 in
theorem refFold_any (s : ByteArray) (hs : s.size ≤ 2000000) (w : World) :
    Calls Tryd.prog 33 #[.string s] w fun e w' => e = .returned (.string ⟨(foldB s.data.toList).toArray⟩) ∧ Below w.heap.size w w' := by
  obtain ⟨i0, hi, hz0, hz1, hz2⟩ := info_parts Tryd.info5
  have hs' : s.size ≤ maxLen := by unfold maxLen; omega
  go_enter Tryd.func33, Tryd.ntmps33
  go_wp2_with fail
  go_loopw [3, 4, 5] (fun v g i wr => RRel s w v g i wr) (fun _ _ i _ => s.size - (intOf i).toNat)
  case atStart => exact ⟨0, [], false, Nat.zero_le _, rfl, rfl, by simp [foldB, runesF], by simp, own_empty5 _ _ (Nat.le_refl _), (fun h => by cases h), (Below.refl _ _).alloc (Nat.le_refl _) _⟩
  case round =>
    obtain ⟨pos, acc, gap, hp, rfl, rfl, hacc, hal, hown, hnil, hB⟩ := hrel
    have HACC := Lib.hid hacc
    have HNIL := Lib.hid hnil
    have hBz := hB.size
    clear hacc
    by_cases hlt : pos < s.size
    · obtain ⟨d1, d2, d3, d4⟩ := dec_bd s pos hlt
      obtain ⟨gg, cc, rfl⟩ := own_shape hown hnil
      clear hnil
      cases hb : isBlank ((Utf8.decode s pos).1 : Int) with
      | true =>
        have HBL := Lib.hid (fun W => refBlank_any ((Utf8.decode s pos).1 : Int) W)
        rw [hb] at HBL
        go_wp2_with fail
        refine (refRune_in s pos hlt hs' _).mono ?_
        rintro e w1 ⟨rfl, hb1⟩
        have HR := Lib.hid (rrel_blank hlt HACC.out hal hb (own_below hown hb1) HNIL.out (hB.trans (hb1.mono hBz)))
        clear hown hb1 hb
        go_wp2_with fail
        refine (HBL.out _).mono ?_
        rintro e w2 ⟨rfl, rfl⟩
        clear HBL
        go_wp2_with fail
        go_roundw
        case rel => exact HR.out
        case measure => simp [intOf]; omega
      | false =>
        have HBL := Lib.hid (fun W => refBlank_any ((Utf8.decode s pos).1 : Int) W)
        rw [hb] at HBL
        have HG : Hid (Good ((Utf8.decode s pos).1 : Int)) := by
          have h := decL_good (s.data.toList.drop pos)
          rw [Lib.decodeL_drop] at h
          exact h
        have h4 := encL_fold_len' ((Utf8.decode s pos).1 : Int)
        have HNO := Lib.hid (fun (w2 : World) (v : Value) (sep : List UInt8) h1 h2 h3 h4 => rrel_no (w := w) (w2 := w2) (v := v) (sep := sep) (gap := gap) hlt HACC.out hal hb h1 h2 h3 h4)
        go_wp2_with fail
        refine (refRune_in s pos hlt hs' _).mono ?_
        rintro e w1 ⟨rfl, hb1⟩
        have hown1 := own_below hown hb1
        have hB1 := hB.trans (hb1.mono hBz)
        have hz1' := hB1.size
        clear hown hb1 hb
        go_wp2_with fail
        refine (HBL.out _).mono ?_
        rintro e w2 ⟨rfl, rfl⟩
        clear HBL
        cases gap with
        | false =>
          go_wp2_with fail
          refine (rfold_any ((Utf8.decode s pos).1 : Int) HG.out _).mono ?_
          rintro e w3 ⟨bb, rfl, hbb, hbs, hcell, hb3⟩
          have hown3 := own_below hown1 hb3
          have hB3 : Below w.heap.size w w3 := hB1.trans (hb3.mono hz1')
          have hz3 := hB3.size
          clear hown1 hb3
          go_wp2_with (at_builtin; refine wpList_append_own _ rfl _ _ 43 rfl w.heap.size 5 i0 (.int .u8 0) 1 1 Tryd.underlying43 hi hz0 hz1 hz2 rfl (by decide) _ _ _ rfl hown3 ⟨bb, 0, none⟩ (encL (foldR ((Utf8.decode s pos).1 : Int))).length (encL (foldR ((Utf8.decode s pos).1 : Int))).length (Lib.byteCells (encL (foldR ((Utf8.decode s pos).1 : Int)))) rfl (by rw [Lib.byteCells_length, Nat.mul_one]) hcell (bytes_one _) (by unfold maxLen; omega) (by omega) (by omega) ?_)
          intro v' w4 hown' hgrow hiff
          have hge := own_block_ge hown3
          have HR := Lib.hid (HNO.out w4 v' [] (by simp) (by simpa [Lib.byteCells] using hown') (by first | exact hiff | exact fun hv => HNIL.out (hiff.1 hv).1) (hB3.grown hgrow (by omega) (fun k hk => (hge k hk).1)))
          clear hown' hgrow hown3 hiff hge hcell
          go_wp2_with fail
          go_roundw
          case rel => exact HR.out
          case measure => simp [intOf]; omega
        | true =>
          by_cases hlen : 0 < acc.length
          · have hdl : decide (0 < acc.length) = true := by simpa using hlen
            have HSEP : Hid ([32] = (if true = true ∧ 0 < acc.length then [(32 : UInt8)] else [])) := show [32] = (if true = true ∧ 0 < acc.length then [(32 : UInt8)] else []) from by simp [hlen]
            clear hlen
            go_wp2_with (at_builtin; refine wpList_append_own _ rfl _ _ 43 rfl w.heap.size 5 i0 (.int .u8 0) 1 1 Tryd.underlying43 hi hz0 hz1 hz2 rfl (by decide) _ _ _ rfl (hown1.alloc _) ⟨w2.heap.size, 0, none⟩ 1 1 [.int .u8 32] rfl rfl (new1 _ _) (one1 _) (by unfold maxLen; omega) (by omega) (by simp; omega) ?_)
            intro v1 w5 hown5 hgrow5 hiff5
            have hge5 := own_block_ge hown1
            have HN5 : Hid (v1 ≠ .slice none 0 0) := by first | exact hiff5 | exact fun hv => HNIL.out (hiff5.1 hv).1
            have hB5 : Below w.heap.size w w5 := (hB1.alloc hz1' _).grown hgrow5 (by simp; omega) (fun k hk => (hge5 k hk).1)
            have hz5 := hB5.size
            clear hgrow5 hown1 hiff5 hge5
            go_wp2_with fail
            refine (rfold_any ((Utf8.decode s pos).1 : Int) HG.out _).mono ?_
            rintro e w3 ⟨bb, rfl, hbb, hbs, hcell, hb3⟩
            have hown3 := own_below hown5 hb3
            have hB3 : Below w.heap.size w w3 := hB5.trans (hb3.mono hz5)
            have hz3 := hB3.size
            clear hown5 hb3
            go_wp2_with (at_builtin; refine wpList_append_own _ rfl _ _ 43 rfl w.heap.size 5 i0 (.int .u8 0) 1 1 Tryd.underlying43 hi hz0 hz1 hz2 rfl (by decide) _ _ _ rfl hown3 ⟨bb, 0, none⟩ (encL (foldR ((Utf8.decode s pos).1 : Int))).length (encL (foldR ((Utf8.decode s pos).1 : Int))).length (Lib.byteCells (encL (foldR ((Utf8.decode s pos).1 : Int)))) rfl (by rw [Lib.byteCells_length, Nat.mul_one]) hcell (bytes_one _) (by unfold maxLen; omega) (by omega) (by omega) ?_)
            intro v' w4 hown' hgrow hiff
            have hge := own_block_ge hown3
            have HR := Lib.hid (HNO.out w4 v' [32] HSEP.out (by rw [List.append_assoc]; exact hown') (by first | exact hiff | exact fun hv => HN5.out (hiff.1 hv).1) (hB3.grown hgrow (by omega) (fun k hk => (hge k hk).1)))
            clear hown' hgrow hown3 hiff hge hcell
            go_wp2_with fail
            go_roundw
            case rel => exact HR.out
            case measure => simp [intOf]; omega
          · have hdl : decide (0 < acc.length) = false := by simpa using hlen
            have HSEP : Hid ([] = (if true = true ∧ 0 < acc.length then [(32 : UInt8)] else [])) := show [] = (if true = true ∧ 0 < acc.length then [(32 : UInt8)] else []) from by simp [hlen]
            clear hlen
            go_wp2_with fail
            refine (rfold_any ((Utf8.decode s pos).1 : Int) HG.out _).mono ?_
            rintro e w3 ⟨bb, rfl, hbb, hbs, hcell, hb3⟩
            have hown3 := own_below hown1 hb3
            have hB3 : Below w.heap.size w w3 := hB1.trans (hb3.mono hz1')
            have hz3 := hB3.size
            clear hown1 hb3
            go_wp2_with (at_builtin; refine wpList_append_own _ rfl _ _ 43 rfl w.heap.size 5 i0 (.int .u8 0) 1 1 Tryd.underlying43 hi hz0 hz1 hz2 rfl (by decide) _ _ _ rfl hown3 ⟨bb, 0, none⟩ (encL (foldR ((Utf8.decode s pos).1 : Int))).length (encL (foldR ((Utf8.decode s pos).1 : Int))).length (Lib.byteCells (encL (foldR ((Utf8.decode s pos).1 : Int)))) rfl (by rw [Lib.byteCells_length, Nat.mul_one]) hcell (bytes_one _) (by unfold maxLen; omega) (by omega) (by omega) ?_)
            intro v' w4 hown' hgrow hiff
            have hge := own_block_ge hown3
            have HR := Lib.hid (HNO.out w4 v' [] HSEP.out (by simpa [Lib.byteCells] using hown') (by first | exact hiff | exact fun hv => HNIL.out (hiff.1 hv).1) (hB3.grown hgrow (by omega) (fun k hk => (hge k hk).1)))
            clear hown' hgrow hown3 hiff hge hcell
            go_wp2_with fail
            go_roundw
            case rel => exact HR.out
            case measure => simp [intOf]; omega
    · obtain ⟨a, c, rfl, hconv⟩ := own_string hown HNIL.out
      have h1 := HACC.out
      rw [runesF_out s pos (by omega)] at h1
      have e0 : acc ++ encL (foldG gap (decide (0 < acc.length)) []) = acc := by rw [foldG]; simp [encL]
      rw [e0] at h1
      have H1 := Lib.hid h1
      clear h1 HACC hnil
      go_wp2_with fail
      go_ret
      rw [← H1.out]
      exact ⟨rfl, hB⟩
end Go.Proofs.YtfoheffbapifpaaDoor
