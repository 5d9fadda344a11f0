/-
  PROVED: contract of the document's own Html: the clean text as HTML ('htmlL'). Conditions: the text has at most 2000000 bytes.
-/
import Derived.Test.YtjadchdkpokopaaRefText
import Derived.Test.YtjadchdkpokopaaRefClean
import Derived.Test.YtjadchdkpokopaaHtml
import Derived.Lib.SlBytesConst
namespace Go.Proofs.Ytjadchdkpokopaa
open Go.ChangeShapes Go.WideShapes Go.ChangeAt Go.RowKit Go.Sort
set_option linter.unusedVariables false

/-- The document's Clean, its answer a letter. -/
theorem refClean_text (s : ByteArray) (hs : s.size ≤ 2000000) : ∃ C : ByteArray, lst C = cleanB (lst s) ∧ C.size ≤ 8000000 ∧ ∀ W, Calls Try.prog 34 #[.string s] W fun e w' => e = .returned (.string C) ∧ Below W.heap.size W w' := by
  obtain ⟨C, h1, h2⟩ := made (cleanB (lst s))
  refine ⟨C, h1, ?_, fun W => ?_⟩
  · rw [← lst_size, h1]
    have := clean_len (lst s)
    rw [lst_size] at this
    omega
  · have := refClean_any s hs W
    rw [cleanF_is, h2] at this
    exact this
theorem newsM (w : World) (l : List UInt8) (fr : Nat × Nat) : ∀ j u, (Lib.byteCells l)[j]? = some u → (w.alloc (.cells (Lib.byteCells l).toArray 5 fr)).cell? ((⟨w.heap.size, 0, none⟩ : Addr).add j) = some u := by
  intro j u hj
  have e : (⟨w.heap.size, 0, none⟩ : Addr).add j = ⟨w.heap.size, j, none⟩ := by
    unfold Addr.add
    split
    · rename_i h; subst h; rfl
    · simp
  rw [e, World.cell?_alloc_mark]
  simpa using hj
set_option maxHeartbeats 8000000 in
theorem refHtml_text (s : ByteArray) (hs : s.size ≤ 2000000) (w : World) : Calls Try.prog 15 #[.string s] w fun e w' => e = .returned (.string ⟨(htmlL (cleanB (lst s))).toArray⟩) ∧ Below w.heap.size w w' := by
  obtain ⟨i0, hi, hz0, hz1, hz2⟩ := info_parts Try.info5
  obtain ⟨C, hC, hCs, hcall⟩ := refClean_text s hs
  have HC := Lib.hid hcall
  rw [← hC]
  clear hcall hC
  go_enter Try.func15, Try.ntmps15
  go_wp2_with fail
  refine (HC.out _).mono ?_
  rintro e W ⟨rfl, hb0⟩
  have HB0 := Lib.hid hb0
  have hz0' := hb0.size
  clear hb0 HC
  go_wp2_with fail
  go_loopw [4, 5] (fun v i wr => BRel htmlL C W v i wr) (fun _ i _ => C.size - (intOf i).toNat)
  case atStart => exact ⟨0, [], Nat.zero_le _, rfl, rfl, by simp, own_empty5 _ _ (Nat.le_refl _), (fun h => by cases h), (Below.refl _ _).alloc (Nat.le_refl _) _⟩
  case round =>
    obtain ⟨p, acc, hp, rfl, hacc, hal, hown, hnil, hB1⟩ := hrel
    have hBz := hB1.size
    have HNIL := Lib.hid hnil
    by_cases hlt : p < C.size
    · have hn := (C[p]'hlt).toNat_lt
      have hx := (h1_len (C[p]'hlt)).2
      have HS := Lib.hid (fun (w2 : World) (v : Value) (x : List UInt8) (hxx : h1 (C[p]'hlt) = x) (ho : w2.ownsRow W.heap.size 5 1 v (acc.length + x.length) (Lib.byteCells acc ++ Lib.byteCells x)) (hv : v ≠ .slice none 0 0) (hb : Below W.heap.size W w2) => brel_step (f := htmlL) (n := 1) (x := x) rfl (by omega) (by rw [← hxx]; omega) hacc hal (by rw [lst_at C p hlt, htmlL_cons, hxx]) ho hv hb)
      clear hacc hnil hx
      by_cases h38 : (C[p]'hlt) = 38
      · have HX : Hid (h1 (C[p]'hlt) = [38, 97, 109, 112, 59]) := show h1 (C[p]'hlt) = [38, 97, 109, 112, 59] from by rw [h38]; decide
        have c38 : (((C[p]'hlt).toNat : Int) == 38) = true := by rw [h38]; decide
        have hcv : (convert 28 28 (.slice (some ⟨wr.heap.size, 0, none⟩) 5 5)).run Try.prog (wr.alloc (.cells #[.int .u8 38, .int .u8 97, .int .u8 109, .int .u8 112, .int .u8 59] 5)) = .ok (.slice (some ⟨wr.heap.size, 0, none⟩) 5 5) (wr.alloc (.cells #[.int .u8 38, .int .u8 97, .int .u8 109, .int .u8 112, .int .u8 59] 5 (5, 6))) := Lib.run_convert_bytes_const wr 28 5 _ 5 5 Try.underlying28 Try.underlying5
        clear h38
        go_wp2_with (at_builtin; refine wpList_append_own _ rfl _ _ 28 rfl W.heap.size 5 i0 (.int .u8 0) 1 1 Try.underlying28 hi hz0 hz1 hz2 rfl (by decide) _ _ _ rfl (hown.alloc _) ⟨wr.heap.size, 0, none⟩ 5 5 (Lib.byteCells [38, 97, 109, 112, 59]) rfl rfl (newsM _ [38, 97, 109, 112, 59] _) (bytes_one _) (by unfold maxLen; omega) (by omega) (by simp; omega) ?_)
        intro v' w3 hown' hgrow hiff
        have hge := own_block_ge hown
        have HR := Lib.hid (HS.out w3 v' _ HX.out hown' (by first | exact hiff | exact fun hv => HNIL.out (hiff.1 hv).1) ((hB1.alloc (by omega) _).grown hgrow (by simp; omega) (fun k hk => (hge k hk).1)))
        clear hown' hgrow hown hiff hge hB1 HS
        go_wp2_with fail
        go_roundw
        case rel => exact HR.out
        case measure => simp [intOf]; omega
      by_cases h60 : (C[p]'hlt) = 60
      · have HX : Hid (h1 (C[p]'hlt) = [38, 108, 116, 59]) := show h1 (C[p]'hlt) = [38, 108, 116, 59] from by rw [h60]; decide
        have c38 : (((C[p]'hlt).toNat : Int) == 38) = false := by rw [h60]; decide
        have c60 : (((C[p]'hlt).toNat : Int) == 60) = true := by rw [h60]; decide
        have hcv : (convert 28 28 (.slice (some ⟨wr.heap.size, 0, none⟩) 4 4)).run Try.prog (wr.alloc (.cells #[.int .u8 38, .int .u8 108, .int .u8 116, .int .u8 59] 5)) = .ok (.slice (some ⟨wr.heap.size, 0, none⟩) 4 4) (wr.alloc (.cells #[.int .u8 38, .int .u8 108, .int .u8 116, .int .u8 59] 5 (4, 5))) := Lib.run_convert_bytes_const wr 28 5 _ 4 4 Try.underlying28 Try.underlying5
        clear h60
        go_wp2_with (at_builtin; refine wpList_append_own _ rfl _ _ 28 rfl W.heap.size 5 i0 (.int .u8 0) 1 1 Try.underlying28 hi hz0 hz1 hz2 rfl (by decide) _ _ _ rfl (hown.alloc _) ⟨wr.heap.size, 0, none⟩ 4 4 (Lib.byteCells [38, 108, 116, 59]) rfl rfl (newsM _ [38, 108, 116, 59] _) (bytes_one _) (by unfold maxLen; omega) (by omega) (by simp; omega) ?_)
        intro v' w3 hown' hgrow hiff
        have hge := own_block_ge hown
        have HR := Lib.hid (HS.out w3 v' _ HX.out hown' (by first | exact hiff | exact fun hv => HNIL.out (hiff.1 hv).1) ((hB1.alloc (by omega) _).grown hgrow (by simp; omega) (fun k hk => (hge k hk).1)))
        clear hown' hgrow hown hiff hge hB1 HS
        go_wp2_with fail
        go_roundw
        case rel => exact HR.out
        case measure => simp [intOf]; omega
      by_cases h62 : (C[p]'hlt) = 62
      · have HX : Hid (h1 (C[p]'hlt) = [38, 103, 116, 59]) := show h1 (C[p]'hlt) = [38, 103, 116, 59] from by rw [h62]; decide
        have c38 : (((C[p]'hlt).toNat : Int) == 38) = false := by rw [h62]; decide
        have c60 : (((C[p]'hlt).toNat : Int) == 60) = false := by rw [h62]; decide
        have c62 : (((C[p]'hlt).toNat : Int) == 62) = true := by rw [h62]; decide
        have hcv : (convert 28 28 (.slice (some ⟨wr.heap.size, 0, none⟩) 4 4)).run Try.prog (wr.alloc (.cells #[.int .u8 38, .int .u8 103, .int .u8 116, .int .u8 59] 5)) = .ok (.slice (some ⟨wr.heap.size, 0, none⟩) 4 4) (wr.alloc (.cells #[.int .u8 38, .int .u8 103, .int .u8 116, .int .u8 59] 5 (4, 5))) := Lib.run_convert_bytes_const wr 28 5 _ 4 4 Try.underlying28 Try.underlying5
        clear h62
        go_wp2_with (at_builtin; refine wpList_append_own _ rfl _ _ 28 rfl W.heap.size 5 i0 (.int .u8 0) 1 1 Try.underlying28 hi hz0 hz1 hz2 rfl (by decide) _ _ _ rfl (hown.alloc _) ⟨wr.heap.size, 0, none⟩ 4 4 (Lib.byteCells [38, 103, 116, 59]) rfl rfl (newsM _ [38, 103, 116, 59] _) (bytes_one _) (by unfold maxLen; omega) (by omega) (by simp; omega) ?_)
        intro v' w3 hown' hgrow hiff
        have hge := own_block_ge hown
        have HR := Lib.hid (HS.out w3 v' _ HX.out hown' (by first | exact hiff | exact fun hv => HNIL.out (hiff.1 hv).1) ((hB1.alloc (by omega) _).grown hgrow (by simp; omega) (fun k hk => (hge k hk).1)))
        clear hown' hgrow hown hiff hge hB1 HS
        go_wp2_with fail
        go_roundw
        case rel => exact HR.out
        case measure => simp [intOf]; omega
      by_cases h34 : (C[p]'hlt) = 34
      · have HX : Hid (h1 (C[p]'hlt) = [38, 113, 117, 111, 116, 59]) := show h1 (C[p]'hlt) = [38, 113, 117, 111, 116, 59] from by rw [h34]; decide
        have c38 : (((C[p]'hlt).toNat : Int) == 38) = false := by rw [h34]; decide
        have c60 : (((C[p]'hlt).toNat : Int) == 60) = false := by rw [h34]; decide
        have c62 : (((C[p]'hlt).toNat : Int) == 62) = false := by rw [h34]; decide
        have c34 : (((C[p]'hlt).toNat : Int) == 34) = true := by rw [h34]; decide
        have hcv : (convert 28 28 (.slice (some ⟨wr.heap.size, 0, none⟩) 6 6)).run Try.prog (wr.alloc (.cells #[.int .u8 38, .int .u8 113, .int .u8 117, .int .u8 111, .int .u8 116, .int .u8 59] 5)) = .ok (.slice (some ⟨wr.heap.size, 0, none⟩) 6 6) (wr.alloc (.cells #[.int .u8 38, .int .u8 113, .int .u8 117, .int .u8 111, .int .u8 116, .int .u8 59] 5 (6, 7))) := Lib.run_convert_bytes_const wr 28 5 _ 6 6 Try.underlying28 Try.underlying5
        clear h34
        go_wp2_with (at_builtin; refine wpList_append_own _ rfl _ _ 28 rfl W.heap.size 5 i0 (.int .u8 0) 1 1 Try.underlying28 hi hz0 hz1 hz2 rfl (by decide) _ _ _ rfl (hown.alloc _) ⟨wr.heap.size, 0, none⟩ 6 6 (Lib.byteCells [38, 113, 117, 111, 116, 59]) rfl rfl (newsM _ [38, 113, 117, 111, 116, 59] _) (bytes_one _) (by unfold maxLen; omega) (by omega) (by simp; omega) ?_)
        intro v' w3 hown' hgrow hiff
        have hge := own_block_ge hown
        have HR := Lib.hid (HS.out w3 v' _ HX.out hown' (by first | exact hiff | exact fun hv => HNIL.out (hiff.1 hv).1) ((hB1.alloc (by omega) _).grown hgrow (by simp; omega) (fun k hk => (hge k hk).1)))
        clear hown' hgrow hown hiff hge hB1 HS
        go_wp2_with fail
        go_roundw
        case rel => exact HR.out
        case measure => simp [intOf]; omega
      have HX : Hid (h1 (C[p]'hlt) = [C[p]'hlt]) := show h1 (C[p]'hlt) = _ from by unfold h1; rw [if_neg h38, if_neg h60, if_neg h62, if_neg h34]
      have c38 : (((C[p]'hlt).toNat : Int) == 38) = false := by have := ne_u8 _ 38 (by decide) h38; rw [beq_eq_false_iff_ne]; omega
      have c60 : (((C[p]'hlt).toNat : Int) == 60) = false := by have := ne_u8 _ 60 (by decide) h60; rw [beq_eq_false_iff_ne]; omega
      have c62 : (((C[p]'hlt).toNat : Int) == 62) = false := by have := ne_u8 _ 62 (by decide) h62; rw [beq_eq_false_iff_ne]; omega
      have c34 : (((C[p]'hlt).toNat : Int) == 34) = false := by have := ne_u8 _ 34 (by decide) h34; rw [beq_eq_false_iff_ne]; omega
      clear h38 h60 h62 h34
      go_wp2_with (at_builtin; refine wpList_append_own _ rfl _ _ 28 rfl W.heap.size 5 i0 (.int .u8 0) 1 1 Try.underlying28 hi hz0 hz1 hz2 rfl (by decide) _ _ _ rfl (hown.alloc _) ⟨wr.heap.size, 0, none⟩ 1 1 (Lib.byteCells [C[p]'hlt]) rfl rfl (newsB _ [C[p]'hlt]) (bytes_one _) (by unfold maxLen; omega) (by omega) (by simp; omega) ?_)
      intro v' w3 hown' hgrow hiff
      have hge := own_block_ge hown
      have HR := Lib.hid (HS.out w3 v' _ HX.out hown' (by first | exact hiff | exact fun hv => HNIL.out (hiff.1 hv).1) ((hB1.alloc (by omega) _).grown hgrow (by simp; omega) (fun k hk => (hge k hk).1)))
      clear hown' hgrow hown hiff hge hB1 HS
      go_wp2_with fail
      go_roundw
      case rel => exact HR.out
      case measure => simp [intOf]; omega
    · obtain ⟨a, c, rfl, hconv⟩ := own_string hown hnil
      have h1 := hacc
      rw [lst_out C p (by omega), htmlL_nil, List.append_nil] at h1
      have H1 := Lib.hid h1
      clear h1 hacc hnil
      go_wp2_with fail
      go_ret
      rw [← H1.out]
      exact ⟨rfl, chain (Nat.le_refl _) HB0.out hB1⟩
end Go.Proofs.Ytjadchdkpokopaa
