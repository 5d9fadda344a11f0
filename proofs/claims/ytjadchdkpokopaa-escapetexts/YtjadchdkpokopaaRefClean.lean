/-
  PROVED: contract of the document's own Clean: it answers the text, cleaned ('cleanF'). Conditions: the text has at most 2000000 bytes.
-/
import Derived.Test.YtjadchdkpokopaaClean
import Derived.Test.YtjadchdkpokopaaRefRune
import Derived.Test.YtjadchdkpokopaaOwn
import Derived.Lib.AppendStr
import Derived.Lib.UnsafeStr
import Derived.Laws.IdiomStrings
namespace Go.Proofs.Ytjadchdkpokopaa
open Go.ChangeShapes Go.WideShapes Go.ChangeAt Go.RowKit
set_option linter.unusedVariables false

/-- What the loop of the document's Clean goes by. -/
def VRel (s : ByteArray) (w : World) (v i : Value) (wr : World) : Prop :=
  ∃ (pos : Nat) (acc : List UInt8), pos ≤ s.size ∧ i = .int .i64 pos ∧ acc ++ cleanF s pos = cleanF s 0 ∧ acc.length ≤ 4 * pos ∧ wr.ownsRow w.heap.size 5 1 v acc.length (Lib.byteCells acc) ∧ v ≠ .slice none 0 0 ∧ Below w.heap.size w wr

/-- What one round has made behind its append. -/
theorem clRound {s : ByteArray} {w w2 w3 : World} {v' : Value} {pos n : Nat} {acc piece : List UInt8} (hp : pos < s.size) (hn : n = (Utf8.decode s pos).2) (hacc : acc ++ cleanF s pos = cleanF s 0) (hal : acc.length ≤ 4 * pos)
    (hpc : piece = enc1 (Utf8.decode s pos).1) (ho : w3.ownsRow w.heap.size 5 1 v' (acc.length + piece.length) (Lib.byteCells acc ++ Lib.byteCells piece)) (hv : v' ≠ .slice none 0 0) (hB : Below w.heap.size w w3) : VRel s w v' (.int .i64 ((pos : Int) + (n : Int))) w3 := by
  subst hn
  subst hpc
  have h1 := dec_bd s pos hp
  have h2 := enc1_len (Utf8.decode s pos).1
  have hg : cleanF s pos = enc1 (Utf8.decode s pos).1 ++ cleanF s (pos + (Utf8.decode s pos).2) := cleanF_go s pos hp
  refine ⟨pos + (Utf8.decode s pos).2, acc ++ enc1 (Utf8.decode s pos).1, by omega, by rw [Int.natCast_add], ?_, by rw [List.length_append]; omega, ?_, hv, hB⟩
  · rw [← hacc, hg, List.append_assoc]
  · rw [List.length_append, Lib.byteCells_append]
    exact ho

theorem news5 (w : World) (a b c : Value) : ∀ j u, [a, b, c][j]? = some u → (w.alloc (.cells #[a, b, c] 5)).cell? ((⟨w.heap.size, 0, none⟩ : Addr).add j) = some u := by
  intro j u hj
  match j, hj with
  | 0, hj => simp at hj; subst hj; simp [Addr.add]
  | 1, hj => simp at hj; subst hj; simp [Addr.add]
  | 2, hj => simp at hj; subst hj; simp [Addr.add]
theorem one5 (a b c : Int) : ∀ u ∈ [Value.int .u8 a, .int .u8 b, .int .u8 c], u.oneCell' = true := by
  intro u hu
  simp at hu
  rcases hu with rfl | rfl | rfl <;> rfl

set_option maxHeartbeats 4000000 in
theorem refClean_any (s : ByteArray) (hs : s.size ≤ 2000000) (w : World) :
    Calls Try.prog 34 #[.string s] w fun e w' => e = .returned (.string ⟨(cleanF s 0).toArray⟩) ∧ Below w.heap.size w w' := by
  obtain ⟨i0, hi, hz0, hz1, hz2⟩ := info_parts Try.info5
  have hs' : s.size ≤ maxLen := by unfold maxLen; omega
  go_enter Try.func34, Try.ntmps34
  go_wp2_with fail
  go_loopw [3, 4] (fun v i wr => VRel s w v i wr) (fun _ i _ => s.size - (intOf i).toNat)
  case atStart => exact ⟨0, [], Nat.zero_le _, rfl, rfl, by simp, own_empty5 _ _ (Nat.le_refl _), (fun h => by cases h), (Below.refl _ _).alloc (Nat.le_refl _) _⟩
  case round =>
    obtain ⟨pos, acc, hp, rfl, hacc, hal, hown, hnil, hB⟩ := hrel
    have HACC := Lib.hid hacc
    have HNIL := Lib.hid hnil
    have hBz := hB.size
    clear hacc hnil
    by_cases hlt : pos < s.size
    · obtain ⟨d1, d2, d3, d4⟩ := dec_bd s pos hlt
      by_cases hbad : (Utf8.decode s pos).1 = 0 ∨ ((Utf8.decode s pos).1 = 65533 ∧ (Utf8.decode s pos).2 = 1)
      · have HP : Hid ([239, 191, 189] = enc1 (Utf8.decode s pos).1) := (piece_bad s pos hbad).symm
        by_cases hz : (Utf8.decode s pos).1 = 0
        · have c0 : (((Utf8.decode s pos).1 : Int) == 0) = true := by simp; omega
          clear hz hbad
          go_wp2_with fail
          refine (refRune_in s pos hlt hs' _).mono ?_
          rintro e w1 ⟨rfl, hb1⟩
          have hown1 := own_below hown hb1
          have hz1' := hb1.size
          go_wp2_with (at_builtin; refine wpList_append_own _ rfl _ _ 28 rfl w.heap.size 5 i0 (.int .u8 0) 1 1 Try.underlying28 hi hz0 hz1 hz2 rfl (by decide) _ _ _ rfl (hown1.alloc _) ⟨w1.heap.size, 0, none⟩ 3 3 [.int .u8 239, .int .u8 191, .int .u8 189] rfl rfl (news5 _ _ _ _) (one5 _ _ _) (by unfold maxLen; omega) (by omega) (by simp; omega) ?_)
          intro v' w2 hown' hgrow hiff
          have hge := own_block_ge hown1
          have HR : Hid (VRel s w v' (.int .i64 ((pos : Int) + ((Utf8.decode s pos).2 : Int))) w2) := clRound (piece := [239, 191, 189]) (w2 := w1) hlt rfl HACC.out hal HP.out hown' (by first | exact hiff | exact fun hv => HNIL.out (hiff.1 hv).1) (((hB.trans (hb1.mono hBz)).alloc (by omega) _).grown hgrow (by simp; omega) (fun k hk => (hge k hk).1))
          clear hown' hgrow hown hown1 hiff hge hb1
          go_wp2_with fail
          go_roundw
          case rel => exact HR.out
          case measure => simp [intOf]; omega
        · have c0 : (((Utf8.decode s pos).1 : Int) == 0) = false := by simp; omega
          have c1 : (((Utf8.decode s pos).1 : Int) == 65533) = true := by simp; omega
          have c2 : (((Utf8.decode s pos).2 : Int) == 1) = true := by simp; omega
          clear hz hbad
          go_wp2_with fail
          refine (refRune_in s pos hlt hs' _).mono ?_
          rintro e w1 ⟨rfl, hb1⟩
          have hown1 := own_below hown hb1
          have hz1' := hb1.size
          go_wp2_with (at_builtin; refine wpList_append_own _ rfl _ _ 28 rfl w.heap.size 5 i0 (.int .u8 0) 1 1 Try.underlying28 hi hz0 hz1 hz2 rfl (by decide) _ _ _ rfl (hown1.alloc _) ⟨w1.heap.size, 0, none⟩ 3 3 [.int .u8 239, .int .u8 191, .int .u8 189] rfl rfl (news5 _ _ _ _) (one5 _ _ _) (by unfold maxLen; omega) (by omega) (by simp; omega) ?_)
          intro v' w2 hown' hgrow hiff
          have hge := own_block_ge hown1
          have HR : Hid (VRel s w v' (.int .i64 ((pos : Int) + ((Utf8.decode s pos).2 : Int))) w2) := clRound (piece := [239, 191, 189]) (w2 := w1) hlt rfl HACC.out hal HP.out hown' (by first | exact hiff | exact fun hv => HNIL.out (hiff.1 hv).1) (((hB.trans (hb1.mono hBz)).alloc (by omega) _).grown hgrow (by simp; omega) (fun k hk => (hge k hk).1))
          clear hown' hgrow hown hown1 hiff hge hb1
          go_wp2_with fail
          go_roundw
          case rel => exact HR.out
          case measure => simp [intOf]; omega
      · have HP := Lib.hid (piece_good s pos hlt (fun h => hbad (Or.inl h)) (fun h => hbad (Or.inr h)))
        have HZ : Hid ((s.extract pos (pos + (Utf8.decode s pos).2)).size = (Utf8.decode s pos).2) := show (s.extract pos (pos + (Utf8.decode s pos).2)).size = (Utf8.decode s pos).2 from by simp; omega
        have HPL : Hid (((s.data.toList.drop pos).take (Utf8.decode s pos).2).length = (Utf8.decode s pos).2) := by
          show ((s.data.toList.drop pos).take (Utf8.decode s pos).2).length = (Utf8.decode s pos).2
          rw [List.length_take, List.length_drop, Array.length_toList]
          have : s.data.size = s.size := rfl
          omega
        have HSC : Hid (Lib.strCells (s.extract pos (pos + (Utf8.decode s pos).2)) = Lib.byteCells ((s.data.toList.drop pos).take (Utf8.decode s pos).2)) := by
          show Lib.strCells (s.extract pos (pos + (Utf8.decode s pos).2)) = Lib.byteCells ((s.data.toList.drop pos).take (Utf8.decode s pos).2)
          rw [Lib.strCells_eq, Lib.extract_data, Nat.add_sub_cancel_left]
        have c0 : (((Utf8.decode s pos).1 : Int) == 0) = false := by
          rw [beq_eq_false_iff_ne]; intro h; exact hbad (Or.inl (by omega))
        by_cases hq : (Utf8.decode s pos).1 = 65533
        · have c1 : (((Utf8.decode s pos).1 : Int) == 65533) = true := by simp; omega
          have c2 : (((Utf8.decode s pos).2 : Int) == 1) = false := by
            rw [beq_eq_false_iff_ne]; intro h; exact hbad (Or.inr ⟨hq, by omega⟩)
          clear hq hbad
          go_wp2_with fail
          refine (refRune_in s pos hlt hs' _).mono ?_
          rintro e w1 ⟨rfl, hb1⟩
          have hown1 := own_below hown hb1
          have hz1' := hb1.size
          go_wp2_with (at_builtin; refine Lib.wpList_append_own_string _ rfl _ _ 28 9 rfl w.heap.size 5 i0 Try.underlying28 Try.underlying9 hi hz0 hz1 hz2 _ _ _ rfl hown1 (s.extract pos (pos + (Utf8.decode s pos).2)) rfl (by rw [HZ.out]; unfold maxLen; omega) (by rw [HZ.out]; omega) (by omega) ?_)
          intro v' w2 hown' hgrow hiff
          have hge := own_block_ge hown1
          have HR : Hid (VRel s w v' (.int .i64 ((pos : Int) + ((Utf8.decode s pos).2 : Int))) w2) := clRound (piece := (s.data.toList.drop pos).take (Utf8.decode s pos).2) (w2 := w1) hlt rfl HACC.out hal HP.out.symm (by rw [HPL.out]; rw [HSC.out] at hown'; exact hown') (by first | exact hiff | exact fun hv => HNIL.out (hiff.1 hv).1) ((hB.trans (hb1.mono hBz)).grown hgrow (by omega) (fun k hk => (hge k hk).1))
          clear hown' hgrow hown hown1 hiff hge hb1
          go_wp2_with fail
          go_roundw
          case rel => exact HR.out
          case measure => simp [intOf]; omega
        · have c1 : (((Utf8.decode s pos).1 : Int) == 65533) = false := by
            rw [beq_eq_false_iff_ne]; intro h; exact hq (by omega)
          clear hq hbad
          go_wp2_with fail
          refine (refRune_in s pos hlt hs' _).mono ?_
          rintro e w1 ⟨rfl, hb1⟩
          have hown1 := own_below hown hb1
          have hz1' := hb1.size
          go_wp2_with (at_builtin; refine Lib.wpList_append_own_string _ rfl _ _ 28 9 rfl w.heap.size 5 i0 Try.underlying28 Try.underlying9 hi hz0 hz1 hz2 _ _ _ rfl hown1 (s.extract pos (pos + (Utf8.decode s pos).2)) rfl (by rw [HZ.out]; unfold maxLen; omega) (by rw [HZ.out]; omega) (by omega) ?_)
          intro v' w2 hown' hgrow hiff
          have hge := own_block_ge hown1
          have HR : Hid (VRel s w v' (.int .i64 ((pos : Int) + ((Utf8.decode s pos).2 : Int))) w2) := clRound (piece := (s.data.toList.drop pos).take (Utf8.decode s pos).2) (w2 := w1) hlt rfl HACC.out hal HP.out.symm (by rw [HPL.out]; rw [HSC.out] at hown'; exact hown') (by first | exact hiff | exact fun hv => HNIL.out (hiff.1 hv).1) ((hB.trans (hb1.mono hBz)).grown hgrow (by omega) (fun k hk => (hge k hk).1))
          clear hown' hgrow hown hown1 hiff hge hb1
          go_wp2_with fail
          go_roundw
          case rel => exact HR.out
          case measure => simp [intOf]; omega
    · obtain ⟨a, c, rfl, hconv⟩ := own_string hown HNIL.out
      have h1 := HACC.out
      rw [cleanF_out s pos (by omega), List.append_nil] at h1
      have H1 := Lib.hid h1
      clear h1 HACC
      go_wp2_with fail
      go_ret
      rw [← H1.out]
      exact ⟨rfl, hB⟩
end Go.Proofs.Ytjadchdkpokopaa
