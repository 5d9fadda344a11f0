/-
  PROVED: contract of escape.Html: the clean text as HTML ('htmlL'). Conditions: the text has at most 2000000 bytes.
-/
import Derived.Test.YtjadchdkpokopaaPlain
import Derived.Test.YtjadchdkpokopaaClean
namespace Go.Proofs.Ytjadchdkpokopaa
open Go.ChangeShapes Go.WideShapes Go.ChangeAt Go.RowKit Go.Sort
set_option linter.unusedVariables false

/-- What the loops of escape.Html and escape.Url go by. -/
def HRel (f : List UInt8 → List UInt8) (c : ByteArray) (W : World) (i : Value) (wr : World) : Prop :=
  ∃ (p : Nat) (acc : List UInt8), p ≤ c.size ∧ i = .int .i64 p ∧ Lib.IsBuilderF 39 5 W.heap.size W.heap.size (Lib.byteCells acc) wr ∧ Below W.heap.size W wr ∧ acc ++ f ((lst c).drop p) = f (lst c) ∧ acc.length ≤ 6 * p
/-- text.Clean, its answer a letter. -/
theorem clean_text (s : ByteArray) (hs : s.size ≤ 2000000) : ∃ C : ByteArray, lst C = cleanB (lst s) ∧ C.size ≤ 8000000 ∧ ∀ W, Calls Try.prog 19 #[.string s] W fun e w' => e = .returned (.string C) ∧ Below W.heap.size W w' := by
  obtain ⟨C, h1, h2⟩ := made (cleanB (lst s))
  refine ⟨C, h1, ?_, fun W => ?_⟩
  · rw [← lst_size, h1]
    have := clean_len (lst s)
    rw [lst_size] at this
    omega
  · have := clean_any s hs W
    rw [cleanF_is, h2] at this
    exact this
theorem hrel_step {f : List UInt8 → List UInt8} {c : ByteArray} {W wr w2 : World} {p : Nat} {acc x : List UInt8} (hp : p < c.size) (hx : x.length ≤ 6) (ha : acc ++ f ((lst c).drop p) = f (lst c)) (hl : acc.length ≤ 6 * p) (hf : f ((lst c).drop p) = x ++ f ((lst c).drop (p + 1)))
    (hb : Below W.heap.size W wr) (hb2 : Below W.heap.size wr w2) (hB : Lib.IsBuilderF 39 5 W.heap.size W.heap.size (Lib.byteCells (acc ++ x)) w2) : HRel f c W (.int .i64 ((p : Int) + 1)) w2 := by
  refine ⟨p + 1, acc ++ x, by omega, by simp, hB, hb.trans hb2, ?_, by rw [List.length_append]; omega⟩
  rw [List.append_assoc, ← hf, ha]
theorem bld_str {B b : Nat} {acc x : List UInt8} {X : ByteArray} {w : World} (hX : lst X = x) (h : Lib.BuilderAtF 39 5 B b (.pointer (some ⟨b, 0, none⟩)) (Lib.byteCells acc ++ Lib.strCells X) w) : Lib.IsBuilderF 39 5 B b (Lib.byteCells (acc ++ x)) w := by
  rw [Lib.strCells_eq, show X.data.toList = x from hX, ← Lib.byteCells_append] at h
  exact Or.inr h
theorem bld_byte {B b : Nat} {acc : List UInt8} {c : UInt8} {w : World} (h : Lib.BuilderAtF 39 5 B b (.pointer (some ⟨b, 0, none⟩)) (Lib.byteCells acc ++ [.int .u8 c.toNat]) w) : Lib.IsBuilderF 39 5 B b (Lib.byteCells (acc ++ [c])) w := by
  rw [Lib.byteCells_append]
  exact Or.inr h

set_option maxHeartbeats 4000000 in
set_option maxRecDepth 100000 in
theorem html_text (s : ByteArray) (hs : s.size ≤ 2000000) (w : World) : Calls Try.prog 14 #[.string s] w fun e w' => e = .returned (.string ⟨(htmlL (cleanB (lst s))).toArray⟩) ∧ Below w.heap.size w w' := by
  obtain ⟨C, hC, hCs, hcall⟩ := clean_text s hs
  have HC := Lib.hid hcall
  rw [← hC]
  clear hcall hC
  go_enter Try.func14, Try.ntmps14
  go_wp2_with fail
  refine (HC.out _).mono ?_
  rintro e W ⟨rfl, hb0⟩
  have HB0 := Lib.hid hb0
  have hz0 := hb0.size
  clear hb0 HC
  go_wp2_with fail
  refine (Try.Builder_Grow_fresh W.heap.size W.heap.size C.size _ (Nat.le_refl _) (heap_alloc_new W _) (by simp) (by omega)).mono ?_
  rintro e w1 ⟨rfl, hA, hb1⟩
  have hz1 : W.heap.size < w1.heap.size := by have := hb1.size; simp at this; omega
  have HB1 : Hid (Below W.heap.size W w1) := ((Below.refl _ _).alloc (Nat.le_refl _) _).trans hb1
  have HI1 : Hid (Lib.IsBuilderF 39 5 W.heap.size W.heap.size (Lib.byteCells []) w1) := Or.inr (Lib.BuilderAtF.of hA)
  clear hA hb1
  go_wp2_with fail
  go_loopw [13] (fun i wr => HRel htmlL C W i wr) (fun i _ => C.size - (intOf i).toNat)
  case atStart => exact ⟨0, [], Nat.zero_le _, rfl, HI1.out, HB1.out, rfl, by simp⟩
  case round =>
    obtain ⟨p, acc, hp, rfl, hI, hbw, hacc, hal⟩ := hrel
    have HI := Lib.hid hI
    have HBW := Lib.hid hbw
    have hz := hbw.size
    by_cases hlt : p < C.size
    · have hn := (C[p]'hlt).toNat_lt
      have hx := (h1_len (C[p]'hlt)).2
      have HS := Lib.hid (fun (w2 : World) (x : List UInt8) (hxx : h1 (C[p]'hlt) = x) (hb2 : Below W.heap.size wr w2) (hB : Lib.IsBuilderF 39 5 W.heap.size W.heap.size (Lib.byteCells (acc ++ x)) w2) => hrel_step (x := x) hlt (by rw [← hxx]; exact hx) hacc hal (by rw [lst_at C p hlt, htmlL_cons, hxx]) hbw hb2 hB)
      clear hacc hI hbw
      by_cases h38 : (C[p]'hlt) = 38
      · have HX : Hid (h1 (C[p]'hlt) = [38, 97, 109, 112, 59]) := show h1 (C[p]'hlt) = [38, 97, 109, 112, 59] from by rw [h38]; decide
        have c38 : (((C[p]'hlt).toNat : Int) == 38) = true := by rw [h38]; decide
        clear h38
        go_wp2_with fail
        refine (Try.Builder_Write W.heap.size W.heap.size (Lib.byteCells acc) { data := #[38, 97, 109, 112, 59] } _ HI.out (by rw [Lib.byteCells_length]; show acc.length + 5 ≤ _; omega) (by omega)).mono ?_
        rintro e W2 ⟨rfl, g1, b1, k1⟩
        have HR := Lib.hid (HS.out W2 [38, 97, 109, 112, 59] HX.out b1 (bld_str rfl g1))
        clear g1 b1 k1 HS
        go_wp2_with fail
        go_roundw
        case rel => exact HR.out
        case measure => simp [intOf]; omega
      by_cases h60 : (C[p]'hlt) = 60
      · have HX : Hid (h1 (C[p]'hlt) = [38, 108, 116, 59]) := show h1 (C[p]'hlt) = [38, 108, 116, 59] from by rw [h60]; decide
        have c38 : (((C[p]'hlt).toNat : Int) == 38) = false := by rw [h60]; decide
        have c60 : (((C[p]'hlt).toNat : Int) == 60) = true := by rw [h60]; decide
        clear h60
        go_wp2_with fail
        refine (Try.Builder_Write W.heap.size W.heap.size (Lib.byteCells acc) { data := #[38, 108, 116, 59] } _ HI.out (by rw [Lib.byteCells_length]; show acc.length + 4 ≤ _; omega) (by omega)).mono ?_
        rintro e W2 ⟨rfl, g1, b1, k1⟩
        have HR := Lib.hid (HS.out W2 [38, 108, 116, 59] HX.out b1 (bld_str rfl g1))
        clear g1 b1 k1 HS
        go_wp2_with fail
        go_roundw
        case rel => exact HR.out
        case measure => simp [intOf]; omega
      by_cases h62 : (C[p]'hlt) = 62
      · have HX : Hid (h1 (C[p]'hlt) = [38, 103, 116, 59]) := show h1 (C[p]'hlt) = [38, 103, 116, 59] from by rw [h62]; decide
        have c38 : (((C[p]'hlt).toNat : Int) == 38) = false := by rw [h62]; decide
        have c60 : (((C[p]'hlt).toNat : Int) == 60) = false := by rw [h62]; decide
        have c62 : (((C[p]'hlt).toNat : Int) == 62) = true := by rw [h62]; decide
        clear h62
        go_wp2_with fail
        refine (Try.Builder_Write W.heap.size W.heap.size (Lib.byteCells acc) { data := #[38, 103, 116, 59] } _ HI.out (by rw [Lib.byteCells_length]; show acc.length + 4 ≤ _; omega) (by omega)).mono ?_
        rintro e W2 ⟨rfl, g1, b1, k1⟩
        have HR := Lib.hid (HS.out W2 [38, 103, 116, 59] HX.out b1 (bld_str rfl g1))
        clear g1 b1 k1 HS
        go_wp2_with fail
        go_roundw
        case rel => exact HR.out
        case measure => simp [intOf]; omega
      by_cases h34 : (C[p]'hlt) = 34
      · have HX : Hid (h1 (C[p]'hlt) = [38, 113, 117, 111, 116, 59]) := show h1 (C[p]'hlt) = [38, 113, 117, 111, 116, 59] from by rw [h34]; decide
        have c38 : (((C[p]'hlt).toNat : Int) == 38) = false := by rw [h34]; decide
        have c60 : (((C[p]'hlt).toNat : Int) == 60) = false := by rw [h34]; decide
        have c62 : (((C[p]'hlt).toNat : Int) == 62) = false := by rw [h34]; decide
        have c34 : (((C[p]'hlt).toNat : Int) == 34) = true := by rw [h34]; decide
        clear h34
        go_wp2_with fail
        refine (Try.Builder_Write W.heap.size W.heap.size (Lib.byteCells acc) { data := #[38, 113, 117, 111, 116, 59] } _ HI.out (by rw [Lib.byteCells_length]; show acc.length + 6 ≤ _; omega) (by omega)).mono ?_
        rintro e W2 ⟨rfl, g1, b1, k1⟩
        have HR := Lib.hid (HS.out W2 [38, 113, 117, 111, 116, 59] HX.out b1 (bld_str rfl g1))
        clear g1 b1 k1 HS
        go_wp2_with fail
        go_roundw
        case rel => exact HR.out
        case measure => simp [intOf]; omega
      have HX : Hid (h1 (C[p]'hlt) = [C[p]'hlt]) := show h1 (C[p]'hlt) = _ from by unfold h1; rw [if_neg h38, if_neg h60, if_neg h62, if_neg h34]
      have c38 : (((C[p]'hlt).toNat : Int) == 38) = false := by have := ne_u8 _ 38 (by decide) h38; rw [beq_eq_false_iff_ne]; omega
      have c60 : (((C[p]'hlt).toNat : Int) == 60) = false := by have := ne_u8 _ 60 (by decide) h60; rw [beq_eq_false_iff_ne]; omega
      have c62 : (((C[p]'hlt).toNat : Int) == 62) = false := by have := ne_u8 _ 62 (by decide) h62; rw [beq_eq_false_iff_ne]; omega
      have c34 : (((C[p]'hlt).toNat : Int) == 34) = false := by have := ne_u8 _ 34 (by decide) h34; rw [beq_eq_false_iff_ne]; omega
      clear h38 h60 h62 h34
      go_wp2_with fail
      refine (Try.Builder_WriteByte W.heap.size W.heap.size (Lib.byteCells acc) _ _ HI.out (by rw [Lib.byteCells_length]; omega) (by omega)).mono ?_
      rintro e W2 ⟨rfl, g1, b1, k1⟩
      have HR := Lib.hid (HS.out W2 _ HX.out b1 (bld_byte g1))
      clear g1 b1 k1 HS
      go_wp2_with fail
      go_roundw
      case rel => exact HR.out
      case measure => simp [intOf]; omega
    · have h1 := hacc
      rw [lst_out C p (by omega), htmlL_nil, List.append_nil] at h1
      have H1 := Lib.hid h1
      clear h1 hacc hI hbw
      go_wp2_with fail
      refine (Try.Builder_String_any_k W.heap.size W.heap.size acc _ HI.out (by omega)).mono ?_
      rintro e W1 ⟨rfl, _, b1, _⟩
      have B1 := Lib.hid b1
      clear b1
      go_wp2_with fail
      go_ret
      rw [← H1.out]
      exact ⟨rfl, chain (Nat.le_refl _) HB0.out (HBW.out.trans B1.out)⟩
end Go.Proofs.Ytjadchdkpokopaa
