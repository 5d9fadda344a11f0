/-
  PROVED: contract of the document's own text between quotes. Conditions: the text has at most 10000 bytes.
-/
import Derived.Test.YtdfhgcknelgdmaaDoorBts
import Derived.Test.YtdfhgcknelgdmaaDoorQuote
import Derived.Test.YtdfhgcknelgdmaaDoorRefDig
import Derived.Deep.AppendLies
import Derived.Deep.RegionHeld3
namespace Go.Proofs.YtdfhgcknelgdmaaDoor
open Go.ChangeShapes Go.WideShapes Go.ChangeAt Go.RowKit Go.Sort
set_option linter.unusedVariables false

theorem hex_hi (c : UInt8) : ∃ x : Nat, x < 16 ∧ IntKind.u8.wrap ((c.toNat : Int) / 16) = (x : Int) ∧ x = c.toNat / 16 := by
  have h := c.toNat_lt
  refine ⟨c.toNat / 16, by omega, ?_, rfl⟩
  simp [IntKind.wrap, IntKind.signed, IntKind.bits]; omega
theorem hex_lo (c : UInt8) : ∃ x : Nat, x < 16 ∧ (c.toNat : Int).tmod 16 = (x : Int) ∧ x = c.toNat % 16 := by
  have h := c.toNat_lt
  refine ⟨c.toNat % 16, by omega, ?_, rfl⟩
  rw [Int.tmod_eq_emod_of_nonneg (by omega)]
  omega
theorem one3 (a b c : Int) : ∀ u ∈ [Value.int .u8 a, .int .u8 b, .int .u8 c], u.oneCell' = true := by
  intro u hu
  simp at hu
  rcases hu with rfl | rfl | rfl <;> rfl

def RQRel (s : ByteArray) (w : World) (v i : Value) (wr : World) : Prop :=
  ∃ (p : Nat) (acc : List UInt8), p ≤ s.size ∧ i = .int .i64 p ∧ acc ++ quoB ((lst s).drop p) = 34 :: quoB (lst s) ∧ acc.length ≤ 3 * p + 1 ∧ wr.ownsRow w.heap.size 5 1 v acc.length (Lib.byteCells acc) ∧ v ≠ .slice none 0 0 ∧ Below w.heap.size w wr
theorem rqrel_step {s : ByteArray} {w w2 : World} {p : Nat} {acc x : List UInt8} {v : Value} (hp : p < s.size) (hx : escL (s[p]'hp) = x) (ha : acc ++ quoB ((lst s).drop p) = 34 :: quoB (lst s)) (hl : acc.length ≤ 3 * p + 1) (ho : w2.ownsRow w.heap.size 5 1 v (acc.length + x.length) (Lib.byteCells acc ++ Lib.byteCells x)) (hv : v ≠ .slice none 0 0) (hb : Below w.heap.size w w2) : RQRel s w v (.int .i64 ((p : Int) + 1)) w2 := by
  refine ⟨p + 1, acc ++ x, by omega, by simp, ?_, ?_, by rw [List.length_append, Lib.byteCells_append]; exact ho, hv, hb⟩
  · rw [lst_at s p hp, quoB_cons, hx] at ha
    rw [List.append_assoc]; exact ha
  · have := escL_len (s[p]'hp)
    rw [hx] at this
    rw [List.length_append]; omega

set_option maxRecDepth 100000 in
set_option maxHeartbeats 16000000 in
theorem refQuoted_any (s : ByteArray) (hs : s.size ≤ 10000) (w : World) : Calls Tryd.prog 36 #[.string s] w (OwnB w (34 :: (quoB (lst s) ++ [34]))) := by
  obtain ⟨i0, hi, hz0, hz1, hz2⟩ := info_parts Tryd.info5
  have mixed := Tryd.mixed
  go_enter Tryd.func36, Tryd.ntmps36
  go_wp2_with fail
  go_loopw [4, 5] (fun v i wr => RQRel s w v i wr) (fun _ i _ => s.size - (intOf i).toNat)
  case atStart => exact ⟨0, [34], Nat.zero_le _, rfl, rfl, by simp, own_made w [34] (by decide), (fun h => by cases h), (Below.refl _ _).alloc (Nat.le_refl _) _⟩
  case round =>
    obtain ⟨p, acc, hp, rfl, hacc, hal, hown, hnil, hB⟩ := hrel
    have hBz := hB.size
    have HNIL := Lib.hid hnil
    have HB := Lib.hid hB
    clear hnil hB
    by_cases hlt : p < s.size
    · have hn := (s[p]'hlt).toNat_lt
      have HS := Lib.hid (fun (w2 : World) (v : Value) (x : List UInt8) (hxx : escL (s[p]'hlt) = x) (ho : w2.ownsRow w.heap.size 5 1 v (acc.length + x.length) (Lib.byteCells acc ++ Lib.byteCells x)) (hv : v ≠ .slice none 0 0) (hb2 : Below w.heap.size w w2) => rqrel_step hlt hxx hacc hal ho hv hb2)
      clear hacc
      obtain ⟨c, hc⟩ : ∃ c, c = (s[p]'hlt) := ⟨_, rfl⟩
      have hcn : (s[p]'hlt).toNat = c.toNat := by rw [hc]
      rw [← hc] at HS hn
      clear hc
      cases ho : oddB c with
      | true =>
        have HX : Hid (escL c = [92, hexD (c.toNat / 16), hexD (c.toNat % 16)]) := by unfold escL; rw [ho]; rfl
        unfold oddB at ho
        simp only [Bool.or_eq_true, decide_eq_true_eq] at ho
        rcases ho with h | h | h | h
        · have q1 : (c.toNat : Int) < 32 := by omega
          have hh := Lib.hid h
          clear h
          go_wp2_with fail
          obtain ⟨x1, hx1, hw1, hm1⟩ := hex_hi c
          obtain ⟨x2, hx2, hw2, hm2⟩ := hex_lo c
          have HX1 := Lib.hid hm1
          have hy1 : (x1 : Int) < 16 := by omega
          have hy2 : (x2 : Int) < 16 := by omega
          have hy3 : (0 : Int) ≤ (x1 : Int) := by omega
          have hy4 : (0 : Int) ≤ (x2 : Int) := by omega
          have HX2 := Lib.hid hm2
          clear hm1 hm2
          go_region_held3 (fun w' => True) (trivial)
            ((refine step_append_lies _ (by rfl) _ _ _ (by rfl) w.heap.size 5 i0 (.int .u8 0) 1 1 Tryd.underlying56 hi hz0 hz1 hz2 rfl (by decide) _ _ _ (by rfl) ((hown.alloc _).drew)
                ⟨wr.heap.size, 0, none⟩ 3 3 [.int .u8 92, .int .u8 (((ByteArray.mk #[48, 49, 50, 51, 52, 53, 54, 55, 56, 57, 97, 98, 99, 100, 101, 102])[x1]'hx1).toNat), .int .u8 (((ByteArray.mk #[48, 49, 50, 51, 52, 53, 54, 55, 56, 57, 97, 98, 99, 100, 101, 102])[x2]'hx2).toNat)] (by rfl) (by rfl) (World.news_of_block (cs := #[.int .u8 92, .int .u8 (((ByteArray.mk #[48, 49, 50, 51, 52, 53, 54, 55, 56, 57, 97, 98, 99, 100, 101, 102])[x1]'hx1).toNat), .int .u8 (((ByteArray.mk #[48, 49, 50, 51, 52, 53, 54, 55, 56, 57, 97, 98, 99, 100, 101, 102])[x2]'hx2).toNat)]) (t := 5) (fr := (0, 0)) (heap_alloc_new wr _)) (one3 _ _ _)
                (by omega) (by unfold maxLen; omega) (by omega) (by simp; omega) (wr.heap.size + 1) (by simp) ?_; intro gg cap w3 hown' hgrow hat hlt3))
          all_goals
            have hge := own_block_ge hown
            have HR := Lib.hid (HS.out w3 _ _ HX.out (by rw [hexD_at, hexD_at, HX1.out, HX2.out] at hown'; exact hown') (fun h => by cases h) (((HB.out.alloc (by omega) _).drew).grown hgrow (by simp; omega) (fun k hk => (hge k hk).1)))
            clear hown' hgrow hown hge HB HS hat hlt3
            go_wp2_with fail
            go_roundw
            case rel => exact HR.out
            case measure => simp [intOf]; omega
        · have q1 : ¬ c.toNat < 32 := by omega
          have q2 : ((c.toNat : Int) == 34) = true := by rw [beq_iff_eq]; omega
          have hh := Lib.hid h
          clear h
          go_wp2_with fail
          obtain ⟨x1, hx1, hw1, hm1⟩ := hex_hi c
          obtain ⟨x2, hx2, hw2, hm2⟩ := hex_lo c
          have HX1 := Lib.hid hm1
          have hy1 : (x1 : Int) < 16 := by omega
          have hy2 : (x2 : Int) < 16 := by omega
          have hy3 : (0 : Int) ≤ (x1 : Int) := by omega
          have hy4 : (0 : Int) ≤ (x2 : Int) := by omega
          have HX2 := Lib.hid hm2
          clear hm1 hm2
          go_region_held3 (fun w' => True) (trivial)
            ((refine step_append_lies _ (by rfl) _ _ _ (by rfl) w.heap.size 5 i0 (.int .u8 0) 1 1 Tryd.underlying56 hi hz0 hz1 hz2 rfl (by decide) _ _ _ (by rfl) ((hown.alloc _).drew)
                ⟨wr.heap.size, 0, none⟩ 3 3 [.int .u8 92, .int .u8 (((ByteArray.mk #[48, 49, 50, 51, 52, 53, 54, 55, 56, 57, 97, 98, 99, 100, 101, 102])[x1]'hx1).toNat), .int .u8 (((ByteArray.mk #[48, 49, 50, 51, 52, 53, 54, 55, 56, 57, 97, 98, 99, 100, 101, 102])[x2]'hx2).toNat)] (by rfl) (by rfl) (World.news_of_block (cs := #[.int .u8 92, .int .u8 (((ByteArray.mk #[48, 49, 50, 51, 52, 53, 54, 55, 56, 57, 97, 98, 99, 100, 101, 102])[x1]'hx1).toNat), .int .u8 (((ByteArray.mk #[48, 49, 50, 51, 52, 53, 54, 55, 56, 57, 97, 98, 99, 100, 101, 102])[x2]'hx2).toNat)]) (t := 5) (fr := (0, 0)) (heap_alloc_new wr _)) (one3 _ _ _)
                (by omega) (by unfold maxLen; omega) (by omega) (by simp; omega) (wr.heap.size + 1) (by simp) ?_; intro gg cap w3 hown' hgrow hat hlt3))
          all_goals
            have hge := own_block_ge hown
            have HR := Lib.hid (HS.out w3 _ _ HX.out (by rw [hexD_at, hexD_at, HX1.out, HX2.out] at hown'; exact hown') (fun h => by cases h) (((HB.out.alloc (by omega) _).drew).grown hgrow (by simp; omega) (fun k hk => (hge k hk).1)))
            clear hown' hgrow hown hge HB HS hat hlt3
            go_wp2_with fail
            go_roundw
            case rel => exact HR.out
            case measure => simp [intOf]; omega
        · have q1 : ¬ c.toNat < 32 := by omega
          have q2 : ((c.toNat : Int) == 34) = false := by rw [beq_eq_false_iff_ne]; omega
          have q3 : ((c.toNat : Int) == 92) = true := by rw [beq_iff_eq]; omega
          have hh := Lib.hid h
          clear h
          go_wp2_with fail
          obtain ⟨x1, hx1, hw1, hm1⟩ := hex_hi c
          obtain ⟨x2, hx2, hw2, hm2⟩ := hex_lo c
          have HX1 := Lib.hid hm1
          have hy1 : (x1 : Int) < 16 := by omega
          have hy2 : (x2 : Int) < 16 := by omega
          have hy3 : (0 : Int) ≤ (x1 : Int) := by omega
          have hy4 : (0 : Int) ≤ (x2 : Int) := by omega
          have HX2 := Lib.hid hm2
          clear hm1 hm2
          go_region_held3 (fun w' => True) (trivial)
            ((refine step_append_lies _ (by rfl) _ _ _ (by rfl) w.heap.size 5 i0 (.int .u8 0) 1 1 Tryd.underlying56 hi hz0 hz1 hz2 rfl (by decide) _ _ _ (by rfl) ((hown.alloc _).drew)
                ⟨wr.heap.size, 0, none⟩ 3 3 [.int .u8 92, .int .u8 (((ByteArray.mk #[48, 49, 50, 51, 52, 53, 54, 55, 56, 57, 97, 98, 99, 100, 101, 102])[x1]'hx1).toNat), .int .u8 (((ByteArray.mk #[48, 49, 50, 51, 52, 53, 54, 55, 56, 57, 97, 98, 99, 100, 101, 102])[x2]'hx2).toNat)] (by rfl) (by rfl) (World.news_of_block (cs := #[.int .u8 92, .int .u8 (((ByteArray.mk #[48, 49, 50, 51, 52, 53, 54, 55, 56, 57, 97, 98, 99, 100, 101, 102])[x1]'hx1).toNat), .int .u8 (((ByteArray.mk #[48, 49, 50, 51, 52, 53, 54, 55, 56, 57, 97, 98, 99, 100, 101, 102])[x2]'hx2).toNat)]) (t := 5) (fr := (0, 0)) (heap_alloc_new wr _)) (one3 _ _ _)
                (by omega) (by unfold maxLen; omega) (by omega) (by simp; omega) (wr.heap.size + 1) (by simp) ?_; intro gg cap w3 hown' hgrow hat hlt3))
          all_goals
            have hge := own_block_ge hown
            have HR := Lib.hid (HS.out w3 _ _ HX.out (by rw [hexD_at, hexD_at, HX1.out, HX2.out] at hown'; exact hown') (fun h => by cases h) (((HB.out.alloc (by omega) _).drew).grown hgrow (by simp; omega) (fun k hk => (hge k hk).1)))
            clear hown' hgrow hown hge HB HS hat hlt3
            go_wp2_with fail
            go_roundw
            case rel => exact HR.out
            case measure => simp [intOf]; omega
        · have q1 : ¬ c.toNat < 32 := by omega
          have q2 : ((c.toNat : Int) == 34) = false := by rw [beq_eq_false_iff_ne]; omega
          have q3 : ((c.toNat : Int) == 92) = false := by rw [beq_eq_false_iff_ne]; omega
          have q4 : 126 < (c.toNat : Int) := by omega
          have hh := Lib.hid h
          clear h
          go_wp2_with fail
          obtain ⟨x1, hx1, hw1, hm1⟩ := hex_hi c
          obtain ⟨x2, hx2, hw2, hm2⟩ := hex_lo c
          have HX1 := Lib.hid hm1
          have hy1 : (x1 : Int) < 16 := by omega
          have hy2 : (x2 : Int) < 16 := by omega
          have hy3 : (0 : Int) ≤ (x1 : Int) := by omega
          have hy4 : (0 : Int) ≤ (x2 : Int) := by omega
          have HX2 := Lib.hid hm2
          clear hm1 hm2
          go_region_held3 (fun w' => True) (trivial)
            ((refine step_append_lies _ (by rfl) _ _ _ (by rfl) w.heap.size 5 i0 (.int .u8 0) 1 1 Tryd.underlying56 hi hz0 hz1 hz2 rfl (by decide) _ _ _ (by rfl) ((hown.alloc _).drew)
                ⟨wr.heap.size, 0, none⟩ 3 3 [.int .u8 92, .int .u8 (((ByteArray.mk #[48, 49, 50, 51, 52, 53, 54, 55, 56, 57, 97, 98, 99, 100, 101, 102])[x1]'hx1).toNat), .int .u8 (((ByteArray.mk #[48, 49, 50, 51, 52, 53, 54, 55, 56, 57, 97, 98, 99, 100, 101, 102])[x2]'hx2).toNat)] (by rfl) (by rfl) (World.news_of_block (cs := #[.int .u8 92, .int .u8 (((ByteArray.mk #[48, 49, 50, 51, 52, 53, 54, 55, 56, 57, 97, 98, 99, 100, 101, 102])[x1]'hx1).toNat), .int .u8 (((ByteArray.mk #[48, 49, 50, 51, 52, 53, 54, 55, 56, 57, 97, 98, 99, 100, 101, 102])[x2]'hx2).toNat)]) (t := 5) (fr := (0, 0)) (heap_alloc_new wr _)) (one3 _ _ _)
                (by omega) (by unfold maxLen; omega) (by omega) (by simp; omega) (wr.heap.size + 1) (by simp) ?_; intro gg cap w3 hown' hgrow hat hlt3))
          all_goals
            have hge := own_block_ge hown
            have HR := Lib.hid (HS.out w3 _ _ HX.out (by rw [hexD_at, hexD_at, HX1.out, HX2.out] at hown'; exact hown') (fun h => by cases h) (((HB.out.alloc (by omega) _).drew).grown hgrow (by simp; omega) (fun k hk => (hge k hk).1)))
            clear hown' hgrow hown hge HB HS hat hlt3
            go_wp2_with fail
            go_roundw
            case rel => exact HR.out
            case measure => simp [intOf]; omega
      | false =>
        have HX : Hid (escL c = [c]) := by unfold escL; rw [ho]; rfl
        unfold oddB at ho
        simp only [Bool.or_eq_false_iff, decide_eq_false_iff_not] at ho
        obtain ⟨o1, o2, o3, o4⟩ := ho
        have c34 : ((c.toNat : Int) == 34) = false := by rw [beq_eq_false_iff_ne]; omega
        have c92 : ((c.toNat : Int) == 92) = false := by rw [beq_eq_false_iff_ne]; omega
        clear o2 o3
        go_wp2_with (at_builtin; refine wpList_append_own _ rfl _ _ 56 rfl w.heap.size 5 i0 (.int .u8 0) 1 1 Tryd.underlying56 hi hz0 hz1 hz2 rfl (by decide) _ _ _ rfl (hown.alloc _) ⟨wr.heap.size, 0, none⟩ 1 1 [.int .u8 c.toNat] rfl rfl (new1 _ _) (one1 _) (by unfold maxLen; omega) (by omega) (by simp; omega) ?_)
        intro v' w3 hown' hgrow hiff
        have hge := own_block_ge hown
        have HR := Lib.hid (HS.out w3 v' _ HX.out hown' (by first | exact hiff | exact fun hv => HNIL.out (hiff.1 hv).1) ((HB.out.alloc (by omega) _).grown hgrow (by simp; omega) (fun k hk => (hge k hk).1)))
        clear hown' hgrow hown hiff hge HB HS
        go_wp2_with fail
        go_roundw
        case rel => exact HR.out
        case measure => simp [intOf]; omega
    · have HA : Hid (acc = 34 :: quoB (lst s)) := by show acc = _; have := hacc; rw [List.drop_eq_nil_of_le (by rw [lst_size]; omega)] at this; simpa [quoB] using this
      clear hacc
      go_wp2_with (at_builtin; refine wpList_append_own _ rfl _ _ 56 rfl w.heap.size 5 i0 (.int .u8 0) 1 1 Tryd.underlying56 hi hz0 hz1 hz2 rfl (by decide) _ _ _ rfl (hown.alloc _) ⟨wr.heap.size, 0, none⟩ 1 1 [.int .u8 34] rfl rfl (new1 _ _) (one1 _) (by unfold maxLen; omega) (by omega) (by simp; omega) ?_)
      intro v' w3 hown' hgrow hiff
      have hge := own_block_ge hown
      have HO3 : Hid (w3.ownsRow w.heap.size 5 1 v' (34 :: (quoB (lst s) ++ [34])).length (Lib.byteCells (34 :: (quoB (lst s) ++ [34])))) := by
        show World.ownsRow _ _ _ _ _ _ _
        rw [show 34 :: (quoB (lst s) ++ [34]) = acc ++ [34] by rw [HA.out]; rfl, List.length_append, Lib.byteCells_append]
        exact hown'
      have HB3 := Lib.hid ((HB.out.alloc (by omega) _).grown hgrow (by simp; omega) (fun k hk => (hge k hk).1))
      have HN3 : Hid (v' ≠ .slice none 0 0) := by first | exact hiff | exact fun hv => HNIL.out (hiff.1 hv).1
      clear hown' hgrow hown hiff hge HB HNIL
      go_wp2_with fail
      go_ret
      exact ⟨v', rfl, HO3.out, HN3.out, HB3.out⟩
end Go.Proofs.YtdfhgcknelgdmaaDoor
