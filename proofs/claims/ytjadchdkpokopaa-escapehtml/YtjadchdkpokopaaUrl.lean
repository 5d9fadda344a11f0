/-
  PROVED: contract of escape.Url: the clean text as a URL ('urlL'). Conditions: the text has at most 2000000 bytes.
-/
import Derived.Test.YtjadchdkpokopaaUrlHelp
namespace Go.Proofs.Ytjadchdkpokopaa
open Go.ChangeShapes Go.WideShapes Go.ChangeAt Go.RowKit Go.Sort
set_option linter.unusedVariables false

theorem hexD_at (k : Nat) (h : k < (ByteArray.mk #[48, 49, 50, 51, 52, 53, 54, 55, 56, 57, 65, 66, 67, 68, 69, 70]).size) : (ByteArray.mk #[48, 49, 50, 51, 52, 53, 54, 55, 56, 57, 65, 66, 67, 68, 69, 70])[k]'h = hexD k := by
  have hk : k < 16 := h
  have : k = 0 ∨ k = 1 ∨ k = 2 ∨ k = 3 ∨ k = 4 ∨ k = 5 ∨ k = 6 ∨ k = 7 ∨ k = 8 ∨ k = 9 ∨ k = 10 ∨ k = 11 ∨ k = 12 ∨ k = 13 ∨ k = 14 ∨ k = 15 := by omega
  rcases this with rfl | rfl | rfl | rfl | rfl | rfl | rfl | rfl | rfl | rfl | rfl | rfl | rfl | rfl | rfl | rfl <;> rfl
theorem bld_hex {B b : Nat} {acc : List UInt8} {k : Nat} {w : World} (hk : k < (ByteArray.mk #[48, 49, 50, 51, 52, 53, 54, 55, 56, 57, 65, 66, 67, 68, 69, 70]).size) (h : Lib.BuilderAtF 39 5 B b (.pointer (some ⟨b, 0, none⟩)) (Lib.byteCells acc ++ [.int .u8 ((ByteArray.mk #[48, 49, 50, 51, 52, 53, 54, 55, 56, 57, 65, 66, 67, 68, 69, 70])[k]'hk).toNat]) w) : Lib.IsBuilderF 39 5 B b (Lib.byteCells (acc ++ [hexD k])) w := by
  rw [hexD_at] at h
  exact bld_byte h

theorem url_go (c : ByteArray) (p : Nat) (hp : p < c.size) : urlL ((lst c).drop p) = u1 (c[p]'hp) ((lst c).drop (p + 1)) ++ urlL ((lst c).drop (p + 1)) := by rw [lst_at c p hp, urlL]
set_option maxHeartbeats 4000000 in
set_option maxRecDepth 100000 in
theorem url_text (s : ByteArray) (hs : s.size ≤ 2000000) (w : World) : Calls Try.prog 16 #[.string s] w fun e w' => e = .returned (.string ⟨(urlL (cleanB (lst s))).toArray⟩) ∧ Below w.heap.size w w' := by
  obtain ⟨C, hC, hCs, hcall⟩ := clean_text s hs
  have HC := Lib.hid hcall
  rw [← hC]
  clear hcall hC
  go_enter Try.func16, Try.ntmps16
  go_wp2_with fail
  refine (HC.out _).mono ?_
  rintro e W ⟨rfl, hb0⟩
  have HB0 := Lib.hid hb0
  have hz0 := hb0.size
  clear hb0 HC
  go_wp2_with fail
  refine (Try.Builder_Grow_fresh W.heap.size W.heap.size C.size _ (Nat.le_refl _) (heap_alloc_new W _) (by simp) (by omega)).mono ?_
  rintro e w1 ⟨rfl, hA, hb1⟩
  have hz1 : W.heap.size < w1.heap.size := by have := hb1.size; simp at this; omega
  have HB1 : Hid (Below W.heap.size W w1) := ((Below.refl _ _).alloc (Nat.le_refl _) _).trans hb1
  have HI1 : Hid (Lib.IsBuilderF 39 5 W.heap.size W.heap.size (Lib.byteCells []) w1) := Or.inr (Lib.BuilderAtF.of hA)
  clear hA hb1
  go_wp2_with fail
  go_loopw [14] (fun i wr => HRel urlL C W i wr) (fun i _ => C.size - (intOf i).toNat)
  case atStart => exact ⟨0, [], Nat.zero_le _, rfl, HI1.out, HB1.out, rfl, by simp⟩
  case round =>
    obtain ⟨p, acc, hp, rfl, hI, hbw, hacc, hal⟩ := hrel
    have HI := Lib.hid hI
    have HBW := Lib.hid hbw
    have hz := hbw.size
    by_cases hlt : p < C.size
    · have hn := (C[p]'hlt).toNat_lt
      have hx := (u1_len (C[p]'hlt) ((lst C).drop (p + 1))).2
      have HS := Lib.hid (fun (w2 : World) (x : List UInt8) (hxx : u1 (C[p]'hlt) ((lst C).drop (p + 1)) = x) (hb2 : Below W.heap.size wr w2) (hB : Lib.IsBuilderF 39 5 W.heap.size W.heap.size (Lib.byteCells (acc ++ x)) w2) => hrel_step (x := x) hlt (by rw [← hxx]; omega) hacc hal (by rw [url_go C p hlt, hxx]) hbw hb2 hB)
      have HST := Lib.hid (fun W => stays_any (C[p]'hlt) W)
      have hk : keep (C[p]'hlt) ((lst C).drop (p + 1)) = (stays (C[p]'hlt) || ((C[p]'hlt) == 37 && esc ((lst C).drop (p + 1)))) := rfl
      have hE := fun W => escaped_any (C.extract (p + 1) C.size) (by simp; omega) W
      rw [lst_from] at hE
      have HE := Lib.hid hE
      have h37 : ((C[p]'hlt) == 37) = (((C[p]'hlt).toNat : Int) == 37) := by
        by_cases h : (C[p]'hlt) = 37
        · rw [h]; decide
        · have h' : ((C[p]'hlt) == 37) = false := by simpa using h
          rw [h']
          have := ne_u8 _ 37 (by decide) h
          symm
          rw [beq_eq_false_iff_ne]
          omega
      rw [h37] at hk
      have HU1 : Hid (keep (C[p]'hlt) ((lst C).drop (p + 1)) = true → u1 (C[p]'hlt) ((lst C).drop (p + 1)) = [C[p]'hlt]) := fun h => by unfold u1; rw [if_pos h]
      have HU2 : Hid (keep (C[p]'hlt) ((lst C).drop (p + 1)) = false → u1 (C[p]'hlt) ((lst C).drop (p + 1)) = [37, hexD ((C[p]'hlt).toNat / 16), hexD ((C[p]'hlt).toNat % 16)]) := fun h => by unfold u1; rw [if_neg (by rw [h]; simp)]
      clear hacc hI hbw hE h37 hx
      generalize u1 (C[p]'hlt) ((lst C).drop (p + 1)) = U at *
      generalize keep (C[p]'hlt) ((lst C).drop (p + 1)) = K at *
      generalize esc ((lst C).drop (p + 1)) = E at *
      generalize stays (C[p]'hlt) = S at *
      cases S with
      | true =>
        obtain rfl : K = true := by rw [hk]; rfl
        clear hk HE
        go_wp2_with fail
        refine (HST.out _).mono ?_
        rintro e w2 ⟨rfl, rfl⟩
        clear HST
        go_wp2_with fail
        refine (Try.Builder_WriteByte W.heap.size W.heap.size (Lib.byteCells acc) _ _ HI.out (by rw [Lib.byteCells_length]; omega) (by omega)).mono ?_
        rintro e W2 ⟨rfl, g1, b1, k1⟩
        have HR := Lib.hid (HS.out W2 _ (HU1.out (by simp)) b1 (bld_byte g1))
        clear g1 b1 k1 HS HU1 HU2
        go_wp2_with fail
        go_roundw
        case rel => exact HR.out
        case measure => simp [intOf]; omega
      | false =>
        by_cases h37 : (((C[p]'hlt).toNat : Int) == 37) = true
        · rw [h37] at hk
          cases E with
          | true =>
            obtain rfl : K = true := by rw [hk]; rfl
            clear hk
            go_wp2_with fail
            refine (HST.out _).mono ?_
            rintro e w2 ⟨rfl, rfl⟩
            clear HST
            go_wp2_with fail
            refine (HE.out _).mono ?_
            rintro e w2 ⟨rfl, rfl⟩
            clear HE
            go_wp2_with fail
            refine (Try.Builder_WriteByte W.heap.size W.heap.size (Lib.byteCells acc) _ _ HI.out (by rw [Lib.byteCells_length]; omega) (by omega)).mono ?_
            rintro e W2 ⟨rfl, g1, b1, k1⟩
            have HR := Lib.hid (HS.out W2 _ (HU1.out (by simp)) b1 (bld_byte g1))
            clear g1 b1 k1 HS HU1 HU2
            go_wp2_with fail
            go_roundw
            case rel => exact HR.out
            case measure => simp [intOf]; omega
          | false =>
            obtain rfl : K = false := by rw [hk]; rfl
            clear hk
            go_wp2_with fail
            refine (HST.out _).mono ?_
            rintro e w2 ⟨rfl, rfl⟩
            clear HST
            go_wp2_with fail
            refine (HE.out _).mono ?_
            rintro e w2 ⟨rfl, rfl⟩
            clear HE
            go_wp2_with fail
            refine (Try.Builder_WriteByte W.heap.size W.heap.size (Lib.byteCells acc) _ _ HI.out (by rw [Lib.byteCells_length]; omega) (by omega)).mono ?_
            rintro e W2 ⟨rfl, g1, b1, k1⟩
            have HI2 := Lib.hid (bld_byte (c := 37) g1)
            have B2 := Lib.hid b1
            have hz2 := b1.size
            clear g1 b1 k1
            go_wp2_with fail
            refine (Try.Builder_WriteByte W.heap.size W.heap.size (Lib.byteCells (acc ++ [37])) _ _ HI2.out (by rw [Lib.byteCells_length, List.length_append, List.length_singleton]; omega) (by omega)).mono ?_
            rintro e W3 ⟨rfl, g1, b1, k1⟩
            have HI3 := Lib.hid (bld_hex _ g1)
            have B3 := Lib.hid (B2.out.trans b1)
            have hz3 := b1.size
            clear g1 b1 k1
            go_wp2_with fail
            refine (Try.Builder_WriteByte W.heap.size W.heap.size (Lib.byteCells (acc ++ [37] ++ [hexD ((C[p]'hlt).toNat / 16)])) _ _ HI3.out (by rw [Lib.byteCells_length, List.length_append, List.length_append, List.length_singleton, List.length_singleton]; omega) (by omega)).mono ?_
            rintro e W4 ⟨rfl, g1, b1, k1⟩
            have HI4 := Lib.hid (bld_hex _ g1)
            have HR := Lib.hid (HS.out W4 _ (HU2.out (by simp)) (B3.out.trans b1) (by have h := HI4.out; rw [List.append_assoc, List.append_assoc] at h; exact h))
            clear g1 b1 k1 HS HU1 HU2
            go_wp2_with fail
            go_roundw
            case rel => exact HR.out
            case measure => simp [intOf]; omega
        · rw [Bool.not_eq_true] at h37
          rw [h37] at hk
          obtain rfl : K = false := by rw [hk]; rfl
          clear hk HE
          go_wp2_with fail
          refine (HST.out _).mono ?_
          rintro e w2 ⟨rfl, rfl⟩
          clear HST
          go_wp2_with fail
          refine (Try.Builder_WriteByte W.heap.size W.heap.size (Lib.byteCells acc) _ _ HI.out (by rw [Lib.byteCells_length]; omega) (by omega)).mono ?_
          rintro e W2 ⟨rfl, g1, b1, k1⟩
          have HI2 := Lib.hid (bld_byte (c := 37) g1)
          have B2 := Lib.hid b1
          have hz2 := b1.size
          clear g1 b1 k1
          go_wp2_with fail
          refine (Try.Builder_WriteByte W.heap.size W.heap.size (Lib.byteCells (acc ++ [37])) _ _ HI2.out (by rw [Lib.byteCells_length, List.length_append, List.length_singleton]; omega) (by omega)).mono ?_
          rintro e W3 ⟨rfl, g1, b1, k1⟩
          have HI3 := Lib.hid (bld_hex _ g1)
          have B3 := Lib.hid (B2.out.trans b1)
          have hz3 := b1.size
          clear g1 b1 k1
          go_wp2_with fail
          refine (Try.Builder_WriteByte W.heap.size W.heap.size (Lib.byteCells (acc ++ [37] ++ [hexD ((C[p]'hlt).toNat / 16)])) _ _ HI3.out (by rw [Lib.byteCells_length, List.length_append, List.length_append, List.length_singleton, List.length_singleton]; omega) (by omega)).mono ?_
          rintro e W4 ⟨rfl, g1, b1, k1⟩
          have HI4 := Lib.hid (bld_hex _ g1)
          have HR := Lib.hid (HS.out W4 _ (HU2.out (by simp)) (B3.out.trans b1) (by have h := HI4.out; rw [List.append_assoc, List.append_assoc] at h; exact h))
          clear g1 b1 k1 HS HU1 HU2
          go_wp2_with fail
          go_roundw
          case rel => exact HR.out
          case measure => simp [intOf]; omega
    · have h1 := hacc
      rw [lst_out C p (by omega), urlL, List.append_nil] at h1
      have H1 := Lib.hid h1
      clear h1 hacc hI hbw
      go_wp2_with fail
      refine (Try.Builder_String_any_k W.heap.size W.heap.size acc _ HI.out (by omega)).mono ?_
      rintro e W1 ⟨rfl, _, b1, _⟩
      have B1 := Lib.hid b1
      clear b1
      go_wp2_with fail
      go_ret
      rw [← H1.out]
      exact ⟨rfl, chain (Nat.le_refl _) HB0.out (HBW.out.trans B1.out)⟩
end Go.Proofs.Ytjadchdkpokopaa
