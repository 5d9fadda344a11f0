/-
  PROVED: contracts of class.Fold and of the closure within it: the label's bytes ('foldB'). Conditions: the text has at most 2000000 bytes.
-/
import Derived.Test.YtfoheffbapifpaaDoorFoldAlg
import Derived.Test.YtfoheffbapifpaaDoorShelf
import Derived.Lib.OthersKept
import Derived.BigCall
namespace Go.Proofs.YtfoheffbapifpaaDoor
open Go.ChangeShapes Go.WideShapes Go.ChangeAt Go.RowKit Go.Sort
set_option linter.unusedVariables false

theorem grow_ind {P : World → Prop} (ha : ∀ w o, P w → P (w.alloc o)) : ∀ (l : List Obj) (w : World), P w → P (grow w l.toArray)
  | [], w, h => by simpa using h
  | o :: l, w, h => by
    have h1 := grow_ind ha l (w.alloc o) (ha w o h)
    rw [alloc_eq_grow, grow_grow, show #[o] ++ l.toArray = (o :: l).toArray by simp] at h1
    exact h1
theorem grown_builder {T e : TypeId} {B b : Nat} {bs : List Value} {w : World} (h : Lib.IsBuilderF T e B b bs w) (q : Nat) (os : Array Obj) : Lib.IsBuilderF T e B b bs (grow (w.drewN q) os) := by
  have h0 : Lib.IsBuilderF T e B b bs (w.drewN q) := h
  have := grow_ind (P := fun W => Lib.IsBuilderF T e B b bs W) (fun W o hW => hW.alloc o) os.toList _ h0
  simpa using this
theorem grown_kept {e : TypeId} {b : Option Nat} {a w : World} (h : Lib.OthersKept e b a w) (q : Nat) (os : Array Obj) : Lib.OthersKept e b a (grow (w.drewN q) os) := by
  have h0 : Lib.OthersKept e b a (w.drewN q) := h
  have := grow_ind (P := fun W => Lib.OthersKept e b a W) (fun W o hW => hW.alloc o) os.toList _ h0
  simpa using this
theorem grown_below {B : Nat} {w : World} (hB : B ≤ w.heap.size) (q : Nat) (os : Array Obj) : Below B w (grow (w.drewN q) os) :=
  (((show Grows (.bool true) w (.returned (.bool true)) (grow (w.drewN q) os) from ⟨rfl, q, os, rfl⟩).below).2).mono hB

theorem toI32f (r : Int) (h0 : -2147483648 ≤ r) (h1 : r ≤ 2147483647) : IntKind.i32.wrap r = r := by
  simp [IntKind.wrap, IntKind.signed, IntKind.bits]; omega
theorem liftZ_bd (r : Int) : 0 ≤ liftZ r ∧ liftZ r ≤ 80 := by have := liftZ_is r; omega
theorem encL_fold_len (r : Int) : 1 ≤ (encL (foldR r)).length ∧ (encL (foldR r)).length ≤ 4 := by
  unfold foldR
  split
  · decide
  · rw [encL_cons]; simp only [encL, List.flatMap_nil, List.append_nil]; exact enc_len _

/-- What the closure leaves. -/
def TurnPost (B b : Nat) (acc : List UInt8) (r : Int) (w : World) (e : Ending) (w' : World) : Prop :=
  e = .returned (.tuple #[]) ∧ Lib.IsBuilderF 45 5 B b (Lib.byteCells (acc ++ encL (foldR r))) w' ∧ Below B w w' ∧ Lib.OthersKept 5 (some b) w w'

set_option maxHeartbeats 2000000 in
theorem turn_any (r : Int) (h0 : 0 ≤ r) (h1 : r ≤ 1114111) (B b : Nat) (acc : List UInt8) (w : World) (h : Lib.IsBuilderF 45 5 B b (Lib.byteCells acc) w) (hl : acc.length ≤ 100000000) (hB : B ≤ w.heap.size) :
    Calls Tryd.prog 39 #[.int .i32 r, .pointer (some ⟨b, 0, none⟩)] w (TurnPost B b acc r w) := by
  by_cases hs : r = 223 ∨ r = 7838
  · have HF : Hid (foldR r = [115, 115]) := show foldR r = [115, 115] from by unfold foldR; rw [if_pos hs]
    have HC := Lib.hid (Tryd.Builder_Write B b (Lib.byteCells acc) ⟨#[115, 115]⟩ w h (by rw [Lib.byteCells_length]; show acc.length + 2 ≤ _; omega) hB)
    have key : Hid (∀ (e : Ending) w', (e = .returned (.tuple #[.int .i64 (ByteArray.mk #[115, 115]).size, .nilIface]) ∧ (Lib.BuilderAtF 45 5 B b (.pointer (some ⟨b, 0, none⟩)) (Lib.byteCells acc ++ Lib.strCells ⟨#[115, 115]⟩) w' ∧ Below B w w' ∧ Lib.OthersKept 5 (some b) w w')) → TurnPost B b acc r w (.returned (.tuple #[])) w') := by
      rintro e w' ⟨rfl, hA, hb, ho⟩
      refine ⟨rfl, Or.inr ?_, hb, ho⟩
      rw [HF.out, Lib.byteCells_append]
      exact hA
    clear HF h
    rcases hs with rfl | rfl
    · go_enter Tryd.func39, Tryd.ntmps39
      go_wp2_with fail
      refine HC.out.mono ?_
      rintro e w' hp
      have HP := Lib.hid (key.out e w' hp)
      obtain ⟨rfl, _⟩ := hp
      clear key HC
      go_wp2_with fail
      first | go_end0 | refine bodyPost_ret (results_none rfl _ _ _) rfl ?_
      exact HP.out
    · go_enter Tryd.func39, Tryd.ntmps39
      go_wp2_with fail
      refine HC.out.mono ?_
      rintro e w' hp
      have HP := Lib.hid (key.out e w' hp)
      obtain ⟨rfl, _⟩ := hp
      clear key HC
      go_wp2_with fail
      first | go_end0 | refine bodyPost_ret (results_none rfl _ _ _) rfl ?_
      exact HP.out
  · have q1 : ((r : Int) == 223) = false := by simp; omega
    have q2 : ((r : Int) == 7838) = false := by simp; omega
    have HF : Hid (foldR r = [r + liftZ r]) := show foldR r = [r + liftZ r] from by unfold foldR; rw [if_neg hs]
    have hz := liftZ_bd r
    have HL : Hid (∀ W, Calls Tryd.prog 41 #[.int .i64 r] W (Grows (.int .i64 (liftZ r)) W)) := fun W => lift_any r W
    have HFIN : Hid (∀ w1 w2, Lib.BuilderAtF 45 5 B b (.pointer (some ⟨b, 0, none⟩)) (Lib.byteCells acc ++ Lib.runeCells (r + liftZ r)) w2 → Below B w w1 → Lib.OthersKept 5 (some b) w w1 → Below B w1 w2 → Lib.OthersKept 5 (some b) w1 w2 → TurnPost B b acc r w (.returned (.tuple #[])) w2) := by
      intro w1 w2 hA b1 o1 b2 o2
      refine ⟨rfl, Or.inr ?_, b1.trans b2, o1.trans o2⟩
      rw [HF.out, Lib.byteCells_append, encL_cons]
      have e : encL [] = [] := rfl
      rw [e, List.append_nil, Lib.byteCells_encodeRune]
      exact hA
    have HW := Lib.hid (toI32f (liftZ r) (by omega) (by omega))
    have HW2 := Lib.hid (toI32f (r + liftZ r) (by omega) (by omega))
    generalize liftZ r = z at hz HL HFIN HW HW2
    clear HF hs
    go_enter Tryd.func39, Tryd.ntmps39
    go_wp2_with fail
    refine (HL.out _).mono ?_
    rintro e w1 ⟨rfl, q, os, hw1⟩
    have HI : Hid (Lib.IsBuilderF 45 5 B b (Lib.byteCells acc) w1) := by rw [hw1]; exact grown_builder h q os
    have HB1 : Hid (Below B w w1) := by rw [hw1]; exact grown_below hB q os
    have HO1 : Hid (Lib.OthersKept 5 (some b) w w1) := by rw [hw1]; exact grown_kept (Lib.OthersKept.refl _ _ _) q os
    have hz1 : B ≤ w1.heap.size := Nat.le_trans hB HB1.out.size
    have hw3 := HW.out
    have hw4 := HW2.out
    clear hw1 HL h
    go_wp2_with fail
    refine (Tryd.Builder_WriteRune_k B b (Lib.byteCells acc) (r + z) (by omega) (by omega) w1 HI.out (by rw [Lib.byteCells_length]; omega) hz1).mono ?_
    rintro e w2 ⟨rfl, hA, b2, o2⟩
    have HP := Lib.hid (HFIN.out w1 w2 hA HB1.out HO1.out b2 o2)
    clear hA b2 o2 HFIN HI HB1 HO1
    go_wp2_with fail
    first | go_end0 | refine bodyPost_ret (results_none rfl _ _ _) rfl ?_
    exact HP.out

/-- What the loop of class.Fold goes by. -/
def FRel (s : ByteArray) (w : World) (K : Nat) (g : Value) (wr : World) : Prop :=
  ∃ (pos : Nat) (acc : List UInt8) (gap : Bool), g = .bool gap ∧ Lib.IsBuilderF 45 5 w.heap.size w.heap.size (Lib.byteCells acc) wr ∧ wr.heap[K]? = some (.stringIter s pos) ∧ Below w.heap.size w wr ∧ acc ++ encL (foldG gap (decide (0 < acc.length)) (runesF s pos)) = foldB s.data.toList ∧ acc.length ≤ 5 * pos

theorem frel_blank {s : ByteArray} {w w2 : World} {K pos : Nat} {acc : List UInt8} {gap : Bool} (hp : pos < s.size) (hacc : acc ++ encL (foldG gap (decide (0 < acc.length)) (runesF s pos)) = foldB s.data.toList) (hl : acc.length ≤ 5 * pos)
    (hb : isBlank ((Utf8.decode s pos).1 : Int) = true) (hI : Lib.IsBuilderF 45 5 w.heap.size w.heap.size (Lib.byteCells acc) w2) (hit : w2.heap[K]? = some (.stringIter s (pos + (Utf8.decode s pos).2))) (hbw : Below w.heap.size w w2) : FRel s w K (.bool true) w2 := by
  refine ⟨_, acc, true, rfl, hI, hit, hbw, ?_, by omega⟩
  rw [← hacc, runesF_go s pos hp, foldG_blank _ _ _ _ hb]
theorem frel_no {s : ByteArray} {w w2 : World} {K pos : Nat} {acc sep : List UInt8} {gap : Bool} (hp : pos < s.size) (hacc : acc ++ encL (foldG gap (decide (0 < acc.length)) (runesF s pos)) = foldB s.data.toList) (hl : acc.length ≤ 5 * pos)
    (hb : isBlank ((Utf8.decode s pos).1 : Int) = false) (hsep : sep = if gap = true ∧ 0 < acc.length then [32] else []) (hI : Lib.IsBuilderF 45 5 w.heap.size w.heap.size (Lib.byteCells (acc ++ sep ++ encL (foldR ((Utf8.decode s pos).1 : Int)))) w2) (hit : w2.heap[K]? = some (.stringIter s (pos + (Utf8.decode s pos).2))) (hbw : Below w.heap.size w w2) : FRel s w K (.bool false) w2 := by
  have h4 := encL_fold_len ((Utf8.decode s pos).1 : Int)
  have hd := (dec_bd s pos hp).1
  have hs1 : sep.length ≤ 1 := by rw [hsep]; split <;> simp
  refine ⟨_, acc ++ sep ++ encL (foldR ((Utf8.decode s pos).1 : Int)), false, rfl, hI, hit, hbw, ?_, by rw [List.length_append, List.length_append]; omega⟩
  rw [← hacc, runesF_go s pos hp, foldG_no _ _ _ _ hb, encL_append, encL_append]
  have e : decide (0 < (acc ++ sep ++ encL (foldR ((Utf8.decode s pos).1 : Int))).length) = true := by rw [decide_eq_true_eq, List.length_append]; omega
  rw [e]
  have e2 : encL (if gap = true ∧ decide (0 < acc.length) = true then [32] else []) = sep := by
    rw [hsep]
    simp only [decide_eq_true_eq]
    split
    · rfl
    · rfl
  rw [e2]
  simp only [List.append_assoc]

set_option maxHeartbeats 4000000 in
set_option maxRecDepth 1000000 in
theorem fold_any (s : ByteArray) (hs : s.size ≤ 2000000) (w : World) :
    Calls Tryd.prog 17 #[.string s] w fun e w' => e = .returned (.string ⟨(foldB s.data.toList).toArray⟩) ∧ Below w.heap.size w w' := by
  go_enter Tryd.func17, Tryd.ntmps17
  go_wp2_with fail
  refine (Tryd.Builder_Grow_fresh w.heap.size w.heap.size s.size _ (Nat.le_refl _) (heap_alloc_new w _) (by simp) (by omega)).mono ?_
  rintro e w1 ⟨rfl, hA, hb1⟩
  have hz1 : w.heap.size < w1.heap.size := by have := hb1.size; simp at this; omega
  have HB1 : Hid (Below w.heap.size w w1) := ((Below.refl _ _).alloc (Nat.le_refl _) _).trans hb1
  have HI1 : Hid (Lib.IsBuilderF 45 5 w.heap.size w.heap.size (Lib.byteCells []) w1) := Or.inr (Lib.BuilderAtF.of hA)
  clear hA hb1
  go_wp2_with fail
  go_loopw [5] (fun g wr => FRel s w w1.heap.size g wr) (fun _ wr => s.size - wr.iterPos w1.heap.size)
  case atStart => exact ⟨0, [], false, rfl, HI1.out.alloc _, World.iter_heap w1 s 0, HB1.out.alloc (Nat.le_of_lt hz1) _, by simp [foldB, runesF], by simp⟩
  case round =>
    obtain ⟨pos, acc, gap, rfl, hI, hit, hbw, hacc, hal⟩ := hrel
    have HACC := Lib.hid hacc
    clear hacc
    have hsz : w1.heap.size < wr.heap.size := (Array.getElem?_eq_some_iff.1 hit).1
    by_cases hp : pos < s.size
    · have hnx : ∀ ty, (Instr.next (.pointer (some ⟨w1.heap.size, 0, none⟩)) true ty).run Tryd.prog wr = _ := fun ty => Lib.run_next_any_at wr w1.heap.size s pos ty hit hp
      obtain ⟨hw1, hw2, hw3, hd1⟩ := dec_bd s pos hp
      have hI2 := hI.iterAt hit (pos + (Utf8.decode s pos).2)
      have hit2 := Lib.iterAt_heap wr w1.heap.size s pos (pos + (Utf8.decode s pos).2) hit
      have hbw2 := Lib.below_iterAt hbw (k := w1.heap.size) (by omega) s (pos + (Utf8.decode s pos).2)
      have hsz2 : w.heap.size ≤ (wr.iterAt w1.heap.size s (pos + (Utf8.decode s pos).2)).heap.size := by rw [Lib.iterAt_size]; omega
      have HBL := Lib.hid (fun W => blank_any ((Utf8.decode s pos).1 : Int) W)
      cases hb : isBlank ((Utf8.decode s pos).1 : Int) with
      | true =>
        rw [hb] at HBL
        go_wp2_with fail
        refine (HBL.out _).mono ?_
        rintro e w2 ⟨rfl, q, os, hw2⟩
        have hI3 : Lib.IsBuilderF 45 5 w.heap.size w.heap.size (Lib.byteCells acc) w2 := by rw [hw2]; exact grown_builder hI2 q os
        have hit3 : w2.heap[w1.heap.size]? = some (.stringIter s (pos + (Utf8.decode s pos).2)) := by
          rw [hw2]
          exact (heap_grow_old ((wr.iterAt w1.heap.size s (pos + (Utf8.decode s pos).2)).drewN q) os (by show w1.heap.size < (wr.iterAt w1.heap.size s (pos + (Utf8.decode s pos).2)).heap.size; rw [Lib.iterAt_size]; omega)).trans hit2
        have hbw3 : Below w.heap.size w w2 := by rw [hw2]; exact hbw2.trans (grown_below hsz2 q os)
        have hsz3 : w.heap.size ≤ w2.heap.size := hbw3.size
        clear hw2 hI2 hit2 hbw2 hsz2 HBL hnx
        have HR := Lib.hid (frel_blank hp HACC.out hal hb hI3 hit3 hbw3)
        have HIT := Lib.hid hit3
        clear hI3 hit3 hbw3 hb HACC
        go_wp2_with fail
        go_roundw
        case rel => exact HR.out
        case measure =>
          simp only [World.iterPos, HIT.out, hit]
          omega
      | false =>
        rw [hb] at HBL
        go_wp2_with fail
        refine (HBL.out _).mono ?_
        rintro e w2 ⟨rfl, q, os, hw2⟩
        have hI3 : Lib.IsBuilderF 45 5 w.heap.size w.heap.size (Lib.byteCells acc) w2 := by rw [hw2]; exact grown_builder hI2 q os
        have hit3 : w2.heap[w1.heap.size]? = some (.stringIter s (pos + (Utf8.decode s pos).2)) := by
          rw [hw2]
          exact (heap_grow_old ((wr.iterAt w1.heap.size s (pos + (Utf8.decode s pos).2)).drewN q) os (by show w1.heap.size < (wr.iterAt w1.heap.size s (pos + (Utf8.decode s pos).2)).heap.size; rw [Lib.iterAt_size]; omega)).trans hit2
        have hbw3 : Below w.heap.size w w2 := by rw [hw2]; exact hbw2.trans (grown_below hsz2 q os)
        have hsz3 : w.heap.size ≤ w2.heap.size := hbw3.size
        clear hw2 hI2 hit2 hbw2 hsz2 HBL hnx
        have hgood := decL_good (s.data.toList.drop pos)
        rw [Lib.decodeL_drop] at hgood
        have HIT := Lib.hid hit3
        have HNO : Hid (∀ sep w4, sep = (if gap = true ∧ 0 < acc.length then [32] else []) → Lib.IsBuilderF 45 5 w.heap.size w.heap.size (Lib.byteCells (acc ++ sep ++ encL (foldR ((Utf8.decode s pos).1 : Int)))) w4 → Below w.heap.size w2 w4 → Lib.OthersKept 5 (some w.heap.size) w2 w4 → FRel s w w1.heap.size (.bool false) w4 ∧ w4.heap[w1.heap.size]? = some (.stringIter s (pos + (Utf8.decode s pos).2))) := by
          intro sep w4 h1 h2 h3 h4
          have h5 := h4.iter HIT.out (by omega)
          exact ⟨frel_no hp HACC.out hal hb h1 h2 h5 (hbw3.trans h3), h5⟩
        have hal2 : acc.length + 1 ≤ 100000000 := by omega
        clear hbw3 hb HACC hgood hit3
        cases gap with
        | false =>
          clear HIT
          go_wp2_with fail
          refine (turn_any ((Utf8.decode s pos).1 : Int) (by omega) (by omega) w.heap.size w.heap.size acc w2 hI3 (by omega) hsz3).mono ?_
          rintro e w4 ⟨rfl, hI4, b4, o4⟩
          have HR := Lib.hid (HNO.out [] w4 (by simp) (by simpa using hI4) b4 o4)
          clear hI4 b4 o4 HNO hI3
          go_wp2_with fail
          go_roundw
          case rel => exact HR.out.1
          case measure =>
            simp only [World.iterPos, HR.out.2, hit]
            omega
        | true =>
          by_cases hlen : 0 < acc.length
          · have hdl : decide (0 < (Lib.byteCells acc).length) = true := by rw [Lib.byteCells_length]; simpa using hlen
            clear HIT
            go_wp2_with fail
            refine (Tryd.Builder_Len w.heap.size w.heap.size (Lib.byteCells acc) w2 hI3).mono ?_
            rintro e w3 ⟨rfl, rfl⟩
            go_wp2_with fail
            refine (Tryd.Builder_WriteByte w.heap.size w.heap.size (Lib.byteCells acc) 32 w3 hI3 (by rw [Lib.byteCells_length]; omega) hsz3).mono ?_
            rintro e w4 ⟨rfl, hA, b4, o4⟩
            have hI4 : Lib.IsBuilderF 45 5 w.heap.size w.heap.size (Lib.byteCells (acc ++ [32])) w4 := by
              rw [Lib.byteCells_append]; exact Or.inr hA
            have hz4 := b4.size
            have HB4 := Lib.hid b4
            have HO4 := Lib.hid o4
            clear hA b4 o4 hI3
            go_wp2_with fail
            refine (turn_any ((Utf8.decode s pos).1 : Int) (by omega) (by omega) w.heap.size w.heap.size (acc ++ [32]) w4 hI4 (by simp; omega) (by omega)).mono ?_
            rintro e w5 ⟨rfl, hI5, b5, o5⟩
            have HR := Lib.hid (HNO.out [32] w5 (by simp [hlen]) hI5 (HB4.out.trans b5) (HO4.out.trans o5))
            clear hI4 hI5 b5 o5 HB4 HO4 HNO
            go_wp2_with fail
            go_roundw
            case rel => exact HR.out.1
            case measure =>
              simp only [World.iterPos, HR.out.2, hit]
              omega
          · have hdl : decide (0 < (Lib.byteCells acc).length) = false := by rw [Lib.byteCells_length]; simpa using hlen
            clear HIT
            go_wp2_with fail
            refine (Tryd.Builder_Len w.heap.size w.heap.size (Lib.byteCells acc) w2 hI3).mono ?_
            rintro e w3 ⟨rfl, rfl⟩
            go_wp2_with fail
            refine (turn_any ((Utf8.decode s pos).1 : Int) (by omega) (by omega) w.heap.size w.heap.size acc w3 hI3 (by omega) hsz3).mono ?_
            rintro e w4 ⟨rfl, hI4, b4, o4⟩
            have HR := Lib.hid (HNO.out [] w4 (by simp [hlen]) (by simpa using hI4) b4 o4)
            clear hI4 b4 o4 HNO hI3
            go_wp2_with fail
            go_roundw
            case rel => exact HR.out.1
            case measure =>
              simp only [World.iterPos, HR.out.2, hit]
              omega
    · have hnx : ∀ ty, (Instr.next (.pointer (some ⟨w1.heap.size, 0, none⟩)) true ty).run Tryd.prog wr = _ := fun ty => Lib.run_next_end_at wr w1.heap.size s pos ty hit hp
      go_wp2_with fail
      refine (Tryd.Builder_String_any_k w.heap.size w.heap.size acc _ hI (by omega)).mono ?_
      rintro e W1 ⟨rfl, _, b1, _⟩
      go_wp2_with fail
      go_ret
      have h1 := HACC.out
      rw [runesF_out s pos (by omega)] at h1
      have e0 : acc ++ encL (foldG gap (decide (0 < acc.length)) []) = acc := by rw [foldG]; simp [encL]
      rw [e0] at h1
      rw [← h1]
      exact ⟨rfl, hbw.trans b1⟩
end Go.Proofs.YtfoheffbapifpaaDoor
