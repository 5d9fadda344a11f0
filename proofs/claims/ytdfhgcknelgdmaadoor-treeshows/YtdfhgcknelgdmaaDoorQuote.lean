/-
  PROVED: contracts of tree.quoted, tree.level, tree.tight, tree.span. Conditions: the text has at most 10000 bytes; the table of powers of ten lies as its initialiser lays it.
-/
import Derived.Test.YtdfhgcknelgdmaaDoorShelf
import Derived.Test.YtdfhgcknelgdmaaDoorShowPure
import Derived.Test.YtdfhgcknelgdmaaDoorSame
import Derived.Lib.QuietBelow
namespace Go.Proofs.YtdfhgcknelgdmaaDoor
open Go.ChangeShapes Go.WideShapes Go.ChangeAt Go.RowKit Go.Sort
set_option linter.unusedVariables false

theorem bld_below {B b : Nat} {bs : List Value} {W W' : World} (h : Lib.IsBuilderF 58 5 B b bs W) (hb : Below W.heap.size W W') : Lib.IsBuilderF 58 5 B b bs W' := by
  have key : ∀ p, Lib.BuilderAtF 58 5 B b p bs W → Lib.BuilderAtF 58 5 B b p bs W' := fun p hp => by
    have hlt := hp.lt
    obtain ⟨h1, v, h2, h3, h4⟩ := hp
    have hg : W.grownBy W' none := ⟨hb.os, hb.tape, hb.output, hb.size, fun k hk _ => hb.block k hk⟩
    exact ⟨h1, v, (hb.block b hlt).trans h2, h3.kept hg (Classical.em _), h4⟩
  rcases h with h | h
  · exact Or.inl (key _ h)
  · exact Or.inr (key _ h)
theorem bld_str {B b : Nat} {acc x : List UInt8} {X : ByteArray} {w : World} (hX : lst X = x) (h : Lib.BuilderAtF 58 5 B b (.pointer (some ⟨b, 0, none⟩)) (Lib.byteCells acc ++ Lib.strCells X) w) : Lib.IsBuilderF 58 5 B b (Lib.byteCells (acc ++ x)) w := by
  rw [Lib.strCells_eq, show X.data.toList = x from hX, ← Lib.byteCells_append] at h
  exact Or.inr h
theorem bld_byte {B b : Nat} {acc : List UInt8} {c : UInt8} {w : World} (h : Lib.BuilderAtF 58 5 B b (.pointer (some ⟨b, 0, none⟩)) (Lib.byteCells acc ++ [.int .u8 c.toNat]) w) : Lib.IsBuilderF 58 5 B b (Lib.byteCells (acc ++ [c])) w := by
  rw [Lib.byteCells_append]
  exact Or.inr h
theorem hexD_at (k : Nat) (h : k < (ByteArray.mk #[48, 49, 50, 51, 52, 53, 54, 55, 56, 57, 97, 98, 99, 100, 101, 102]).size) : (ByteArray.mk #[48, 49, 50, 51, 52, 53, 54, 55, 56, 57, 97, 98, 99, 100, 101, 102])[k]'h = hexD k := by
  have hk : k < 16 := h
  have : k = 0 ∨ k = 1 ∨ k = 2 ∨ k = 3 ∨ k = 4 ∨ k = 5 ∨ k = 6 ∨ k = 7 ∨ k = 8 ∨ k = 9 ∨ k = 10 ∨ k = 11 ∨ k = 12 ∨ k = 13 ∨ k = 14 ∨ k = 15 := by omega
  rcases this with rfl | rfl | rfl | rfl | rfl | rfl | rfl | rfl | rfl | rfl | rfl | rfl | rfl | rfl | rfl | rfl <;> rfl

theorem bld_hex {B b : Nat} {acc : List UInt8} {k : Nat} {w : World} (hk : k < (ByteArray.mk #[48, 49, 50, 51, 52, 53, 54, 55, 56, 57, 97, 98, 99, 100, 101, 102]).size) (h : Lib.BuilderAtF 58 5 B b (.pointer (some ⟨b, 0, none⟩)) (Lib.byteCells acc ++ [.int .u8 ((ByteArray.mk #[48, 49, 50, 51, 52, 53, 54, 55, 56, 57, 97, 98, 99, 100, 101, 102])[k]'hk).toNat]) w) : Lib.IsBuilderF 58 5 B b (Lib.byteCells (acc ++ [hexD k])) w := by
  rw [hexD_at] at h
  exact bld_byte h

def QRel (s : ByteArray) (w : World) (i : Value) (wr : World) : Prop :=
  ∃ (p : Nat) (acc : List UInt8), p ≤ s.size ∧ i = .int .i64 p ∧ Lib.IsBuilderF 58 5 w.heap.size w.heap.size (Lib.byteCells acc) wr ∧ Below w.heap.size w wr ∧ acc ++ quoB ((lst s).drop p) = 34 :: quoB (lst s) ∧ acc.length ≤ 3 * p + 1
theorem qrel_step {s : ByteArray} {w wr w2 : World} {p : Nat} {acc x : List UInt8} (hp : p < s.size) (hx : escL (s[p]'hp) = x) (ha : acc ++ quoB ((lst s).drop p) = 34 :: quoB (lst s)) (hl : acc.length ≤ 3 * p + 1) (hb : Below w.heap.size w wr) (hb2 : Below w.heap.size wr w2) (hB : Lib.IsBuilderF 58 5 w.heap.size w.heap.size (Lib.byteCells (acc ++ x)) w2) : QRel s w (.int .i64 ((p : Int) + 1)) w2 := by
  refine ⟨p + 1, acc ++ x, by omega, by simp, hB, hb.trans hb2, ?_, ?_⟩
  · rw [lst_at s p hp, quoB_cons, hx] at ha
    rw [List.append_assoc]; exact ha
  · have := escL_len (s[p]'hp)
    rw [hx] at this
    rw [List.length_append]; omega

set_option maxRecDepth 100000 in
set_option maxHeartbeats 8000000 in
theorem quoted_any (s : ByteArray) (hs : s.size ≤ 10000) (w : World) : Calls Tryd.prog 55 #[.string s] w fun e w' => e = .returned (.string ⟨(quoL (lst s)).toArray⟩) ∧ Below w.heap.size w w' := by
  by_cases h0 : s.size = 0
  · have e1 : s.toList.isEmpty = true := by rw [Lib.toList_data, List.isEmpty_iff]; exact List.eq_nil_of_length_eq_zero (by rw [show s.data.toList.length = s.size from lst_size s]; exact h0)
    have HE : Hid (quoL (lst s) = []) := by unfold quoL; rw [if_pos (List.eq_nil_of_length_eq_zero (by rw [lst_size]; exact h0))]; rfl
    go_enter Tryd.func55, Tryd.ntmps55
    go_wp2_with fail
    go_ret
    exact ⟨by rw [HE.out]; rfl, Below.refl _ _⟩
  · have e1 : s.toList.isEmpty = false := by rw [Lib.toList_data, List.isEmpty_eq_false_iff]; intro e; exact h0 (by rw [← lst_size]; show s.data.toList.length = 0; rw [e]; rfl)
    have HE : Hid (quoL (lst s) = 34 :: (quoB (lst s) ++ [34])) := by unfold quoL; rw [if_neg (fun e => h0 (by rw [← lst_size, e]; rfl))]; rfl
    clear h0
    have HI0 : Hid (Lib.IsBuilderF 58 5 w.heap.size w.heap.size (Lib.byteCells []) (w.alloc (.cells #[.pointer none, .slice none 0 0] 58))) := Lib.IsBuilderF.of (Lib.fresh_isBuilder 58 5 w)
    go_enter Tryd.func55, Tryd.ntmps55
    go_wp2_with fail
    refine (Tryd.Builder_WriteByte w.heap.size w.heap.size (Lib.byteCells []) _ _ HI0.out (by rw [Lib.byteCells_length]; simp) (by simp)).mono ?_
    rintro e w1 ⟨rfl, g1, b1, k1⟩
    have HI1 := Lib.hid (bld_byte (c := 34) (acc := []) g1)
    have HB1 : Hid (Below w.heap.size w w1) := ((Below.refl _ _).alloc (Nat.le_refl _) _).trans b1
    clear g1 b1 k1 HI0
    go_wp2_with fail
    go_loopw [11] (fun i wr => QRel s w i wr) (fun i _ => s.size - (intOf i).toNat)
    case atStart => exact ⟨0, [34], Nat.zero_le _, rfl, HI1.out, HB1.out, rfl, by simp⟩
    case round =>
      obtain ⟨p, acc, hp, rfl, hI, hbw, hacc, hal⟩ := hrel
      have HI := Lib.hid hI
      have HBW := Lib.hid hbw
      have hz := hbw.size
      by_cases hlt : p < s.size
      · have hn := (s[p]'hlt).toNat_lt
        have HS := Lib.hid (fun (w2 : World) (x : List UInt8) (hxx : escL (s[p]'hlt) = x) (hb2 : Below w.heap.size wr w2) (hB : Lib.IsBuilderF 58 5 w.heap.size w.heap.size (Lib.byteCells (acc ++ x)) w2) => qrel_step hlt hxx hacc hal hbw hb2 hB)
        clear hacc hI hbw
        cases ho : oddB (s[p]'hlt) with
        | true =>
          have HX : Hid (escL (s[p]'hlt) = [92, hexD ((s[p]'hlt).toNat / 16), hexD ((s[p]'hlt).toNat % 16)]) := by unfold escL; rw [ho]; rfl
          unfold oddB at ho
          simp only [Bool.or_eq_true, decide_eq_true_eq] at ho
          have HI1 := HI
          rcases ho with h | h | h | h
          · have q1 : ((s[p]'hlt).toNat : Int) < 32 := by omega
            have hh := Lib.hid h
            clear h
            go_wp2_with fail
            refine (Tryd.Builder_WriteByte w.heap.size w.heap.size (Lib.byteCells acc) _ _ HI.out (by rw [Lib.byteCells_length]; omega) (by omega)).mono ?_
            rintro e w2 ⟨rfl, g1, b1, k1⟩
            have HI2 := Lib.hid (bld_byte (c := 92) g1)
            have B2 := Lib.hid b1
            have hz2 := b1.size
            clear g1 b1 k1
            go_wp2_with fail
            refine (Tryd.Builder_WriteByte w.heap.size w.heap.size (Lib.byteCells (acc ++ [92])) _ _ HI2.out (by rw [Lib.byteCells_length, List.length_append, List.length_singleton]; omega) (by omega)).mono ?_
            rintro e w3 ⟨rfl, g1, b1, k1⟩
            have HI3 := Lib.hid (bld_hex _ g1)
            have B3 := Lib.hid (B2.out.trans b1)
            have hz3 := b1.size
            clear g1 b1 k1
            go_wp2_with fail
            refine (Tryd.Builder_WriteByte w.heap.size w.heap.size (Lib.byteCells (acc ++ [92] ++ [hexD ((s[p]'hlt).toNat / 16)])) _ _ (by have := HI3.out; exact this) (by rw [Lib.byteCells_length]; simp; omega) (by omega)).mono ?_
            rintro e w4 ⟨rfl, g1, b1, k1⟩
            have HI4 := Lib.hid (bld_hex _ g1)
            have B4 := Lib.hid (B3.out.trans b1)
            clear g1 b1 k1
            have HR := Lib.hid (HS.out w4 _ HX.out B4.out (by have := HI4.out; simpa using this))
            clear HS HI4 HI3 HI2
            go_wp2_with fail
            go_roundw
            case rel => exact HR.out
            case measure => simp [intOf]; omega
          · have q1 : ¬ (s[p]'hlt).toNat < 32 := by omega
            have q2 : (((s[p]'hlt).toNat : Int) == 34) = true := by rw [beq_iff_eq]; omega
            have hh := Lib.hid h
            clear h
            go_wp2_with fail
            refine (Tryd.Builder_WriteByte w.heap.size w.heap.size (Lib.byteCells acc) _ _ HI.out (by rw [Lib.byteCells_length]; omega) (by omega)).mono ?_
            rintro e w2 ⟨rfl, g1, b1, k1⟩
            have HI2 := Lib.hid (bld_byte (c := 92) g1)
            have B2 := Lib.hid b1
            have hz2 := b1.size
            clear g1 b1 k1
            go_wp2_with fail
            refine (Tryd.Builder_WriteByte w.heap.size w.heap.size (Lib.byteCells (acc ++ [92])) _ _ HI2.out (by rw [Lib.byteCells_length, List.length_append, List.length_singleton]; omega) (by omega)).mono ?_
            rintro e w3 ⟨rfl, g1, b1, k1⟩
            have HI3 := Lib.hid (bld_hex _ g1)
            have B3 := Lib.hid (B2.out.trans b1)
            have hz3 := b1.size
            clear g1 b1 k1
            go_wp2_with fail
            refine (Tryd.Builder_WriteByte w.heap.size w.heap.size (Lib.byteCells (acc ++ [92] ++ [hexD ((s[p]'hlt).toNat / 16)])) _ _ (by have := HI3.out; exact this) (by rw [Lib.byteCells_length]; simp; omega) (by omega)).mono ?_
            rintro e w4 ⟨rfl, g1, b1, k1⟩
            have HI4 := Lib.hid (bld_hex _ g1)
            have B4 := Lib.hid (B3.out.trans b1)
            clear g1 b1 k1
            have HR := Lib.hid (HS.out w4 _ HX.out B4.out (by have := HI4.out; simpa using this))
            clear HS HI4 HI3 HI2
            go_wp2_with fail
            go_roundw
            case rel => exact HR.out
            case measure => simp [intOf]; omega
          · have q1 : ¬ (s[p]'hlt).toNat < 32 := by omega
            have q2 : (((s[p]'hlt).toNat : Int) == 34) = false := by rw [beq_eq_false_iff_ne]; omega
            have q3 : (((s[p]'hlt).toNat : Int) == 92) = true := by rw [beq_iff_eq]; omega
            have hh := Lib.hid h
            clear h
            go_wp2_with fail
            refine (Tryd.Builder_WriteByte w.heap.size w.heap.size (Lib.byteCells acc) _ _ HI.out (by rw [Lib.byteCells_length]; omega) (by omega)).mono ?_
            rintro e w2 ⟨rfl, g1, b1, k1⟩
            have HI2 := Lib.hid (bld_byte (c := 92) g1)
            have B2 := Lib.hid b1
            have hz2 := b1.size
            clear g1 b1 k1
            go_wp2_with fail
            refine (Tryd.Builder_WriteByte w.heap.size w.heap.size (Lib.byteCells (acc ++ [92])) _ _ HI2.out (by rw [Lib.byteCells_length, List.length_append, List.length_singleton]; omega) (by omega)).mono ?_
            rintro e w3 ⟨rfl, g1, b1, k1⟩
            have HI3 := Lib.hid (bld_hex _ g1)
            have B3 := Lib.hid (B2.out.trans b1)
            have hz3 := b1.size
            clear g1 b1 k1
            go_wp2_with fail
            refine (Tryd.Builder_WriteByte w.heap.size w.heap.size (Lib.byteCells (acc ++ [92] ++ [hexD ((s[p]'hlt).toNat / 16)])) _ _ (by have := HI3.out; exact this) (by rw [Lib.byteCells_length]; simp; omega) (by omega)).mono ?_
            rintro e w4 ⟨rfl, g1, b1, k1⟩
            have HI4 := Lib.hid (bld_hex _ g1)
            have B4 := Lib.hid (B3.out.trans b1)
            clear g1 b1 k1
            have HR := Lib.hid (HS.out w4 _ HX.out B4.out (by have := HI4.out; simpa using this))
            clear HS HI4 HI3 HI2
            go_wp2_with fail
            go_roundw
            case rel => exact HR.out
            case measure => simp [intOf]; omega
          · have q1 : ¬ (s[p]'hlt).toNat < 32 := by omega
            have q2 : (((s[p]'hlt).toNat : Int) == 34) = false := by rw [beq_eq_false_iff_ne]; omega
            have q3 : (((s[p]'hlt).toNat : Int) == 92) = false := by rw [beq_eq_false_iff_ne]; omega
            have hh := Lib.hid h
            skip
            go_wp2_with fail
            refine (Tryd.Builder_WriteByte w.heap.size w.heap.size (Lib.byteCells acc) _ _ HI.out (by rw [Lib.byteCells_length]; omega) (by omega)).mono ?_
            rintro e w2 ⟨rfl, g1, b1, k1⟩
            have HI2 := Lib.hid (bld_byte (c := 92) g1)
            have B2 := Lib.hid b1
            have hz2 := b1.size
            clear g1 b1 k1
            go_wp2_with fail
            refine (Tryd.Builder_WriteByte w.heap.size w.heap.size (Lib.byteCells (acc ++ [92])) _ _ HI2.out (by rw [Lib.byteCells_length, List.length_append, List.length_singleton]; omega) (by omega)).mono ?_
            rintro e w3 ⟨rfl, g1, b1, k1⟩
            have HI3 := Lib.hid (bld_hex _ g1)
            have B3 := Lib.hid (B2.out.trans b1)
            have hz3 := b1.size
            clear g1 b1 k1
            go_wp2_with fail
            refine (Tryd.Builder_WriteByte w.heap.size w.heap.size (Lib.byteCells (acc ++ [92] ++ [hexD ((s[p]'hlt).toNat / 16)])) _ _ (by have := HI3.out; exact this) (by rw [Lib.byteCells_length]; simp; omega) (by omega)).mono ?_
            rintro e w4 ⟨rfl, g1, b1, k1⟩
            have HI4 := Lib.hid (bld_hex _ g1)
            have B4 := Lib.hid (B3.out.trans b1)
            clear g1 b1 k1
            have HR := Lib.hid (HS.out w4 _ HX.out B4.out (by have := HI4.out; simpa using this))
            clear HS HI4 HI3 HI2
            go_wp2_with fail
            go_roundw
            case rel => exact HR.out
            case measure => simp [intOf]; omega
        | false =>
          have HX : Hid (escL (s[p]'hlt) = [s[p]'hlt]) := by unfold escL; rw [ho]; rfl
          unfold oddB at ho
          simp only [Bool.or_eq_false_iff, decide_eq_false_iff_not] at ho
          obtain ⟨o1, o2, o3, o4⟩ := ho
          have c34 : (((s[p]'hlt).toNat : Int) == 34) = false := by rw [beq_eq_false_iff_ne]; omega
          have c92 : (((s[p]'hlt).toNat : Int) == 92) = false := by rw [beq_eq_false_iff_ne]; omega
          clear o2 o3
          go_wp2_with fail
          refine (Tryd.Builder_WriteByte w.heap.size w.heap.size (Lib.byteCells acc) _ _ HI.out (by rw [Lib.byteCells_length]; omega) (by omega)).mono ?_
          rintro e w2 ⟨rfl, g1, b1, k1⟩
          have HR := Lib.hid (HS.out w2 _ HX.out b1 (bld_byte g1))
          clear g1 b1 k1 HS
          go_wp2_with fail
          go_roundw
          case rel => exact HR.out
          case measure => simp [intOf]; omega
      · have HA : Hid (acc = 34 :: quoB (lst s)) := by show acc = _; have := hacc; rw [List.drop_eq_nil_of_le (by rw [lst_size]; omega)] at this; simpa [quoB] using this
        have hl2 : acc.length ≤ 40000 := by omega
        clear hacc hI hbw
        go_wp2_with fail
        refine (Tryd.Builder_WriteByte w.heap.size w.heap.size (Lib.byteCells acc) _ _ HI.out (by rw [Lib.byteCells_length]; omega) (by omega)).mono ?_
        rintro e w2 ⟨rfl, g1, b1, k1⟩
        have HI2 := Lib.hid (bld_byte (c := 34) g1)
        have HB2 := Lib.hid (HBW.out.trans b1)
        have hz2 := b1.size
        clear g1 b1 k1
        go_wp2_with fail
        refine (Tryd.Builder_String_any_k w.heap.size w.heap.size _ _ HI2.out (by omega)).mono ?_
        rintro e w3 ⟨rfl, g1, b1, k1⟩
        have HB3 := Lib.hid (HB2.out.trans b1)
        clear g1 b1 k1
        go_wp2_with fail
        go_ret
        exact ⟨by rw [HE.out, HA.out]; rfl, HB3.out⟩
end Go.Proofs.YtdfhgcknelgdmaaDoor
