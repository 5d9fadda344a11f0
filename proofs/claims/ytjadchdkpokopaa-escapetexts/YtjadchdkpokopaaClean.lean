/-
  PROVED: contract of text.Clean: it answers the text, cleaned ('cleanB'). Conditions: the text has at most 2000000 bytes.
-/
import Derived.Test.YtjadchdkpokopaaEscPure
import Derived.Test.YtjadchdkpokopaaShelf
import Derived.Lib.OthersKept
import Derived.BigCall
namespace Go.Proofs.Ytjadchdkpokopaa
open Go.ChangeShapes Go.WideShapes Go.ChangeAt Go.RowKit
set_option linter.unusedVariables false

/-- The bytes that stand for a character in a clean text. -/
def enc1 (r : Nat) : List UInt8 := Lib.encodeRune (if r = 0 then 65533 else (r : Int))
theorem enc1_len (r : Nat) : 1 ≤ (enc1 r).length ∧ (enc1 r).length ≤ 4 := by unfold enc1; exact enc_len _
/-- A text, cleaned, from p on. -/
def cleanF (s : ByteArray) (p : Nat) : List UInt8 := encL ((runesF s p).map c0)
theorem cleanF_go (s : ByteArray) (p : Nat) (h : p < s.size) : cleanF s p = enc1 (Utf8.decode s p).1 ++ cleanF s (p + (Utf8.decode s p).2) := by
  unfold cleanF
  rw [runesF_go s p h, List.map_cons, encL_cons]
  unfold enc1 c0
  have e : (((Utf8.decode s p).1 : Int) = 0) = ((Utf8.decode s p).1 = 0) := propext ⟨fun h => by omega, fun h => by omega⟩
  simp only [e]
theorem cleanF_out (s : ByteArray) (p : Nat) (h : s.size ≤ p) : cleanF s p = [] := by unfold cleanF; rw [runesF_out s p h]; rfl
theorem cleanF_is (s : ByteArray) : cleanF s 0 = cleanB s.data.toList := rfl

/-- What the document puts in a character's place is the same. -/
theorem piece_bad (s : ByteArray) (p : Nat) (h : (Utf8.decode s p).1 = 0 ∨ ((Utf8.decode s p).1 = 65533 ∧ (Utf8.decode s p).2 = 1)) : enc1 (Utf8.decode s p).1 = [239, 191, 189] := by
  unfold enc1
  rcases h with h | ⟨h, _⟩
  · rw [h]; decide
  · rw [h]; decide
theorem piece_good (s : ByteArray) (p : Nat) (hp : p < s.size) (h0 : (Utf8.decode s p).1 ≠ 0) (h1 : ¬ ((Utf8.decode s p).1 = 65533 ∧ (Utf8.decode s p).2 = 1)) : enc1 (Utf8.decode s p).1 = (s.data.toList.drop p).take (Utf8.decode s p).2 := by
  unfold enc1
  rw [if_neg h0]
  rw [← Lib.decodeL_drop] at h1 ⊢
  exact Lib.encode_decode _ (fun he => by
    have hl := congrArg List.length he
    rw [List.length_drop, Array.length_toList, List.length_nil] at hl
    have : p < s.data.size := hp
    omega) h1
/-- What the loop of text.Clean goes by. -/
def KRel (s : ByteArray) (w : World) (K : Nat) (wr : World) : Prop :=
  ∃ (pos : Nat) (acc : List UInt8), Lib.IsBuilderF 39 5 w.heap.size w.heap.size (Lib.byteCells acc) wr ∧ wr.heap[K]? = some (.stringIter s pos) ∧ Below w.heap.size w wr ∧ acc ++ cleanF s pos = cleanF s 0 ∧ acc.length ≤ 4 * pos

set_option maxHeartbeats 4000000 in
set_option maxRecDepth 1000000 in
theorem clean_any (s : ByteArray) (hs : s.size ≤ 2000000) (w : World) :
    Calls Try.prog 19 #[.string s] w fun e w' => e = .returned (.string ⟨(cleanF s 0).toArray⟩) ∧ Below w.heap.size w w' := by
  go_enter Try.func19, Try.ntmps19
  go_wp2_with fail
  refine (Try.Builder_Grow_fresh w.heap.size w.heap.size s.size _ (Nat.le_refl _) (heap_alloc_new w _) (by simp) (by omega)).mono ?_
  rintro e w1 ⟨rfl, hA, hb1⟩
  have hz1 : w.heap.size < w1.heap.size := by have := hb1.size; simp at this; omega
  have HB1 : Hid (Below w.heap.size w w1) := ((Below.refl _ _).alloc (Nat.le_refl _) _).trans hb1
  have HI1 : Hid (Lib.IsBuilderF 39 5 w.heap.size w.heap.size (Lib.byteCells []) w1) := Or.inr (Lib.BuilderAtF.of hA)
  clear hA hb1
  go_wp2_with fail
  go_loopw [] (fun wr => KRel s w w1.heap.size wr) (fun wr => s.size - wr.iterPos w1.heap.size)
  case atStart => exact ⟨0, [], HI1.out.alloc _, World.iter_heap w1 s 0, HB1.out.alloc (Nat.le_of_lt hz1) _, rfl, by simp⟩
  case round =>
    obtain ⟨pos, acc, hI, hit, hbw, hacc, hal⟩ := hrel
    have HACC := Lib.hid hacc
    clear hacc
    have hsz : w1.heap.size < wr.heap.size := (Array.getElem?_eq_some_iff.1 hit).1
    by_cases hp : pos < s.size
    · have hnx : ∀ ty, (Instr.next (.pointer (some ⟨w1.heap.size, 0, none⟩)) true ty).run Try.prog wr = _ := fun ty => Lib.run_next_any_at wr w1.heap.size s pos ty hit hp
      obtain ⟨hw1, hw2, hw3, hd1⟩ := dec_bd s pos hp
      have hI2 := hI.iterAt hit (pos + (Utf8.decode s pos).2)
      have hit2 := Lib.iterAt_heap wr w1.heap.size s pos (pos + (Utf8.decode s pos).2) hit
      have hbw2 := Lib.below_iterAt hbw (k := w1.heap.size) (by omega) s (pos + (Utf8.decode s pos).2)
      have hsz2 : w.heap.size ≤ (wr.iterAt w1.heap.size s (pos + (Utf8.decode s pos).2)).heap.size := by rw [Lib.iterAt_size]; omega
      have HC : Hid (cleanF s pos = enc1 (Utf8.decode s pos).1 ++ cleanF s (pos + (Utf8.decode s pos).2)) := cleanF_go s pos hp
      by_cases h0 : (Utf8.decode s pos).1 = 0
      · have HE : Hid (enc1 (Utf8.decode s pos).1 = Lib.encodeRune 65533) := by
          show enc1 (Utf8.decode s pos).1 = Lib.encodeRune 65533
          unfold enc1; rw [if_pos h0]
        have c0 : (((Utf8.decode s pos).1 : Int) == 0) = true := by simp; omega
        clear h0
        go_wp2_with fail
        refine (Try.Builder_WriteRune_k w.heap.size w.heap.size _ 65533 (by omega) (by omega) _ hI2 (by rw [Lib.byteCells_length]; omega) hsz2).mono ?_
        rintro e W1 ⟨rfl, h1, b1, k1⟩
        go_wp2_with fail
        go_roundw
        case rel =>
          have hl4 := enc1_len (Utf8.decode s pos).1
          refine ⟨pos + (Utf8.decode s pos).2, acc ++ enc1 (Utf8.decode s pos).1, ?_, k1.iter hit2 (by omega), hbw2.trans b1, ?_, by rw [List.length_append]; omega⟩
          · rw [Lib.byteCells_append, HE.out, Lib.byteCells_encodeRune]; exact Or.inr h1
          · rw [← HACC.out, HC.out, List.append_assoc]
        case measure =>
          simp only [World.iterPos, k1.iter hit2 (by omega), hit]
          omega
      · have HE : Hid (enc1 (Utf8.decode s pos).1 = Lib.encodeRune ((Utf8.decode s pos).1 : Int)) := by
          show enc1 (Utf8.decode s pos).1 = Lib.encodeRune ((Utf8.decode s pos).1 : Int)
          unfold enc1; rw [if_neg h0]
        have c0 : (((Utf8.decode s pos).1 : Int) == 0) = false := by simp; omega
        clear h0
        go_wp2_with fail
        refine (Try.Builder_WriteRune_k w.heap.size w.heap.size _ _ (by omega) (by omega) _ hI2 (by rw [Lib.byteCells_length]; omega) hsz2).mono ?_
        rintro e W1 ⟨rfl, h1, b1, k1⟩
        go_wp2_with fail
        go_roundw
        case rel =>
          have hl4 := enc1_len (Utf8.decode s pos).1
          refine ⟨pos + (Utf8.decode s pos).2, acc ++ enc1 (Utf8.decode s pos).1, ?_, k1.iter hit2 (by omega), hbw2.trans b1, ?_, by rw [List.length_append]; omega⟩
          · rw [Lib.byteCells_append, HE.out, Lib.byteCells_encodeRune]; exact Or.inr h1
          · rw [← HACC.out, HC.out, List.append_assoc]
        case measure =>
          simp only [World.iterPos, k1.iter hit2 (by omega), hit]
          omega
    · have hnx : ∀ ty, (Instr.next (.pointer (some ⟨w1.heap.size, 0, none⟩)) true ty).run Try.prog wr = _ := fun ty => Lib.run_next_end_at wr w1.heap.size s pos ty hit hp
      go_wp2_with fail
      refine (Try.Builder_String_any_k w.heap.size w.heap.size acc _ hI (by omega)).mono ?_
      rintro e W1 ⟨rfl, _, b1, _⟩
      go_wp2_with fail
      go_ret
      have h1 := HACC.out
      rw [cleanF_out s pos (by omega), List.append_nil] at h1
      rw [← h1]
      exact ⟨rfl, hbw.trans b1⟩
end Go.Proofs.Ytjadchdkpokopaa
