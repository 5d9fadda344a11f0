/-
  PROVED: contracts of escape.plainAt and escape.Plain: what the bytes at a place are told as ('told'), and the text without backslashes and entities ('plG'). Conditions: the text has at most 2000000 bytes.
-/
import Derived.Test.YtfoheffbapifpaaDoorNum
import Derived.Lib.OthersKept
import Derived.BigCall
namespace Go.Proofs.YtfoheffbapifpaaDoor
open Go.ChangeShapes Go.WideShapes Go.ChangeAt Go.RowKit Go.Sort
set_option linter.unusedVariables false

theorem made (l : List UInt8) : ∃ A : ByteArray, lst A = l ∧ (⟨l.toArray⟩ : ByteArray) = A := ⟨⟨l.toArray⟩, lst_mk l, rfl⟩
theorem of_lst (s : ByteArray) (l : List UInt8) (h : lst s = l) : s = ⟨l.toArray⟩ := by rw [← h]
theorem bld_below {B b : Nat} {bs : List Value} {W W' : World} (h : Lib.IsBuilderF 45 5 B b bs W) (hb : Below W.heap.size W W') : Lib.IsBuilderF 45 5 B b bs W' := by
  have key : ∀ p, Lib.BuilderAtF 45 5 B b p bs W → Lib.BuilderAtF 45 5 B b p bs W' := fun p hp => by
    have hlt := hp.lt
    obtain ⟨h1, v, h2, h3, h4⟩ := hp
    have hg : W.grownBy W' none := ⟨hb.os, hb.tape, hb.output, hb.size, fun k hk _ => hb.block k hk⟩
    exact ⟨h1, v, (hb.block b hlt).trans h2, h3.kept hg (Classical.em _), h4⟩
  rcases h with h | h
  · exact Or.inl (key _ h)
  · exact Or.inr (key _ h)
theorem str_at (s : ByteArray) (p : Nat) (hp : p < s.size) : s.extract p (p + 1) = ⟨[s[p]'hp].toArray⟩ := by
  refine of_lst _ _ ?_
  rw [lst_cut, List.drop_take, lst_at s p hp]
  simp
/-- What plainAt leaves. -/
def ToldPost (l : List UInt8) (w : World) (e : Ending) (w' : World) : Prop := e = .returned (.tuple #[.string ⟨(told l).1.toArray⟩, .int .i64 (told l).2]) ∧ Below w.heap.size w w'
theorem told_esc (l : List UInt8) (h : escd l = true) : told l = ((l.drop 1).take 1, 2) := by unfold told; rw [if_pos h]
theorem told_ent (l : List UInt8) (p : Int × Nat) (h : escd l = false) (he : entAt l = some p) : told l = (chr p.1, p.2) := by unfold told; rw [if_neg (by rw [h]; simp), he]
theorem told_none (l : List UInt8) (h : escd l = false) (he : entAt l = none) : told l = (l.take 1, 1) := by unfold told; rw [if_neg (by rw [h]; simp), he]

/-- No backslash ahead of a plain mark: the entity, or the byte itself. -/
theorem told_rest (s : ByteArray) (p : Nat) (hp : p < s.size) (hs : s.size ≤ 2000000) (h : escd ((lst s).drop p) = false) :
    (∃ (v : Int) (n : Nat), (∀ W, Calls Tryd.prog 67 #[.string s, .int .i64 p] W fun e w' => e = .returned (.tuple #[.string ⟨(chr v).toArray⟩, .int .i64 n]) ∧ Below W.heap.size W w') ∧ 0 < n ∧ n ≤ 10 ∧ told ((lst s).drop p) = (chr v, n)) ∨
    ((∀ W, Calls Tryd.prog 67 #[.string s, .int .i64 p] W fun e w' => e = .returned (.tuple #[.string { data := #[] }, .int .i64 0]) ∧ Below W.heap.size W w') ∧ told ((lst s).drop p) = ([s[p]'hp], 1)) := by
  have hE := fun W => ent_in s p hp hs W
  cases he : entAt ((lst s).drop p) with
  | some q =>
    obtain ⟨v, n⟩ := q
    rw [he] at hE
    have hb := entAt_bd _ v n he
    exact Or.inl ⟨v, n, hE, by omega, hb.2.1, told_ent _ _ h he⟩
  | none =>
    rw [he] at hE
    refine Or.inr ⟨hE, ?_⟩
    rw [told_none _ h he, lst_at s p hp]
    rfl
theorem told_ret {l : List UInt8} {x : List UInt8} {n : Nat} (h : told l = (x, n)) {w w' : World} (hb : Below w.heap.size w w') : ToldPost l w (.returned (.tuple #[.string ⟨x.toArray⟩, .int .i64 n])) w' := by
  unfold ToldPost
  rw [h]
  exact ⟨rfl, hb⟩

set_option maxHeartbeats 4000000 in
theorem plainAt_any (s : ByteArray) (p : Nat) (hp : p < s.size) (hs : s.size ≤ 2000000) (w : World) : Calls Tryd.prog 36 #[.string s, .int .i64 p] w (ToldPost ((lst s).drop p) w) := by
  have hn := (s[p]'hp).toNat_lt
  by_cases h92 : (s[p]'hp) = 92
  · have c0 : (((s[p]'hp).toNat : Int) == 92) = true := by rw [h92]; decide
    by_cases hp1 : p + 1 < s.size
    · have hP := fun W => plain_any ((s[p + 1]'hp1).toNat : Int) (by omega) (by have := (s[p + 1]'hp1).toNat_lt; omega) W
      have he : escd ((lst s).drop p) = pl (s[p + 1]'hp1) := by
        rw [lst_at s p hp, lst_at s (p + 1) hp1, h92]
        simp [escd]
      cases hpl : pl (s[p + 1]'hp1) with
      | true =>
        have HP : Hid (∀ W, Calls Tryd.prog 45 #[.int .u8 (s[p + 1]'hp1).toNat] W (Grows (.bool true) W)) := fun W => by
          have := hP W
          rw [show inSps ((s[p + 1]'hp1).toNat : Int) plainL = true from hpl] at this
          exact this
        rw [hpl] at he
        have HR : Hid (told ((lst s).drop p) = ([s[p + 1]'hp1], 2)) := show told ((lst s).drop p) = _ from by
          rw [told_esc _ he, List.drop_drop, lst_at s (p + 1) hp1]
          rfl
        have HS : Hid (s.extract (p + 1) (p + 2) = ⟨[s[p + 1]'hp1].toArray⟩) := str_at s (p + 1) hp1
        have HF := Lib.hid (fun (w' : World) (hb : Below w.heap.size w w') => told_ret HR.out hb)
        generalize (lst s).drop p = l at *
        clear hP he hpl h92 HR
        go_enter Tryd.func36, Tryd.ntmps36
        go_wp2_with fail
        refine (HP.out _).mono ?_
        rintro e w' hG
        obtain ⟨rfl, hb⟩ := hG.below
        have HB := Lib.hid hb
        clear hG hb HP
        go_wp2_with fail
        go_ret2
        rw [HS.out]
        exact HF.out _ HB.out
      | false =>
        have HP : Hid (∀ W, Calls Tryd.prog 45 #[.int .u8 (s[p + 1]'hp1).toNat] W (Grows (.bool false) W)) := fun W => by
          have := hP W
          rw [show inSps ((s[p + 1]'hp1).toNat : Int) plainL = false from hpl] at this
          exact this
        rw [hpl] at he
        have hT := told_rest s p hp hs he
        have HS : Hid (s.extract p (p + 1) = ⟨[s[p]'hp].toArray⟩) := str_at s p hp
        clear hP he hpl h92
        rcases hT with ⟨v, n, hE, hn0, hn1, hR⟩ | ⟨hE, hR⟩
        · have HF := Lib.hid (fun (w' : World) (hb : Below w.heap.size w w') => told_ret hR hb)
          have HE := Lib.hid hE
          generalize (lst s).drop p = l at *
          clear hE hR HS
          go_enter Tryd.func36, Tryd.ntmps36
          go_wp2_with fail
          refine (HP.out _).mono ?_
          rintro e w1 hG
          obtain ⟨rfl, hb⟩ := hG.below
          have HB := Lib.hid hb
          clear hG hb HP
          go_wp2_with fail
          refine (HE.out _).mono ?_
          rintro e w2 ⟨rfl, hb⟩
          have HB2 := Lib.hid (chain (Nat.le_refl _) HB.out hb)
          clear hb HE HB
          go_wp2_with fail
          go_ret2
          exact HF.out _ HB2.out
        · have HF := Lib.hid (fun (w' : World) (hb : Below w.heap.size w w') => told_ret hR hb)
          have HE := Lib.hid hE
          generalize (lst s).drop p = l at *
          clear hE hR
          go_enter Tryd.func36, Tryd.ntmps36
          go_wp2_with fail
          refine (HP.out _).mono ?_
          rintro e w1 hG
          obtain ⟨rfl, hb⟩ := hG.below
          have HB := Lib.hid hb
          clear hG hb HP
          go_wp2_with fail
          refine (HE.out _).mono ?_
          rintro e w2 ⟨rfl, hb⟩
          have HB2 := Lib.hid (chain (Nat.le_refl _) HB.out hb)
          clear hb HE HB
          go_wp2_with fail
          go_ret2
          rw [HS.out]
          exact HF.out _ HB2.out
    · have he : escd ((lst s).drop p) = false := by
        rw [lst_at s p hp, lst_out s (p + 1) (by omega)]
        rfl
      have hT := told_rest s p hp hs he
      have HS : Hid (s.extract p (p + 1) = ⟨[s[p]'hp].toArray⟩) := str_at s p hp
      clear he h92
      rcases hT with ⟨v, n, hE, hn0, hn1, hR⟩ | ⟨hE, hR⟩
      · have HF := Lib.hid (fun (w' : World) (hb : Below w.heap.size w w') => told_ret hR hb)
        have HE := Lib.hid hE
        generalize (lst s).drop p = l at *
        clear hE hR HS
        go_enter Tryd.func36, Tryd.ntmps36
        go_wp2_with fail
        refine (HE.out _).mono ?_
        rintro e w2 ⟨rfl, hb⟩
        have HB := Lib.hid hb
        clear hb HE
        go_wp2_with fail
        go_ret2
        exact HF.out _ HB.out
      · have HF := Lib.hid (fun (w' : World) (hb : Below w.heap.size w w') => told_ret hR hb)
        have HE := Lib.hid hE
        generalize (lst s).drop p = l at *
        clear hE hR
        go_enter Tryd.func36, Tryd.ntmps36
        go_wp2_with fail
        refine (HE.out _).mono ?_
        rintro e w2 ⟨rfl, hb⟩
        have HB := Lib.hid hb
        clear hb HE
        go_wp2_with fail
        go_ret2
        rw [HS.out]
        exact HF.out _ HB.out
  · have c0 : (((s[p]'hp).toNat : Int) == 92) = false := by
      have := ne_u8 _ 92 (by decide) h92
      rw [beq_eq_false_iff_ne]
      omega
    have he : escd ((lst s).drop p) = false := by
      rw [lst_at s p hp]
      have h' : ((s[p]'hp) == 92) = false := by simpa using h92
      cases (lst s).drop (p + 1) with
      | nil => rfl
      | cons y l => show ((s[p]'hp) == 92 && pl y) = false; rw [h']; rfl
    have hT := told_rest s p hp hs he
    have HS : Hid (s.extract p (p + 1) = ⟨[s[p]'hp].toArray⟩) := str_at s p hp
    clear he h92
    rcases hT with ⟨v, n, hE, hn0, hn1, hR⟩ | ⟨hE, hR⟩
    · have HF := Lib.hid (fun (w' : World) (hb : Below w.heap.size w w') => told_ret hR hb)
      have HE := Lib.hid hE
      generalize (lst s).drop p = l at *
      clear hE hR HS
      go_enter Tryd.func36, Tryd.ntmps36
      go_wp2_with fail
      refine (HE.out _).mono ?_
      rintro e w2 ⟨rfl, hb⟩
      have HB := Lib.hid hb
      clear hb HE
      go_wp2_with fail
      go_ret2
      exact HF.out _ HB.out
    · have HF := Lib.hid (fun (w' : World) (hb : Below w.heap.size w w') => told_ret hR hb)
      have HE := Lib.hid hE
      generalize (lst s).drop p = l at *
      clear hE hR
      go_enter Tryd.func36, Tryd.ntmps36
      go_wp2_with fail
      refine (HE.out _).mono ?_
      rintro e w2 ⟨rfl, hb⟩
      have HB := Lib.hid hb
      clear hb HE
      go_wp2_with fail
      go_ret2
      rw [HS.out]
      exact HF.out _ HB.out
/-- What the loop of escape.Plain goes by. -/
def PRel (s : ByteArray) (w : World) (nx i : Value) (wr : World) : Prop :=
  ∃ (p next : Nat) (acc : List UInt8), p ≤ s.size ∧ nx = .int .i64 next ∧ i = .int .i64 p ∧ next ≤ 2000010 ∧ Lib.IsBuilderF 45 5 w.heap.size w.heap.size (Lib.byteCells acc) wr ∧ Below w.heap.size w wr ∧ acc ++ plG (next - p) ((lst s).drop p) = plG 0 (lst s) ∧ acc.length ≤ 4 * p

set_option maxHeartbeats 4000000 in
set_option maxRecDepth 100000 in
theorem plain_text (s : ByteArray) (hs : s.size ≤ 2000000) (w : World) : Calls Tryd.prog 16 #[.string s] w fun e w' => e = .returned (.string ⟨(plG 0 (lst s)).toArray⟩) ∧ Below w.heap.size w w' := by
  go_enter Tryd.func16, Tryd.ntmps16
  go_wp2_with fail
  refine (Tryd.Builder_Grow_fresh w.heap.size w.heap.size s.size _ (Nat.le_refl _) (heap_alloc_new w _) (by simp) (by omega)).mono ?_
  rintro e w1 ⟨rfl, hA, hb1⟩
  have hz1 : w.heap.size < w1.heap.size := by have := hb1.size; simp at this; omega
  have HB1 : Hid (Below w.heap.size w w1) := ((Below.refl _ _).alloc (Nat.le_refl _) _).trans hb1
  have HI1 : Hid (Lib.IsBuilderF 45 5 w.heap.size w.heap.size (Lib.byteCells []) w1) := Or.inr (Lib.BuilderAtF.of hA)
  clear hA hb1
  go_wp2_with fail
  go_loopw [4, 13] (fun nx i wr => PRel s w nx i wr) (fun _ i _ => s.size - (intOf i).toNat)
  case atStart => exact ⟨0, 0, [], Nat.zero_le _, rfl, rfl, by omega, HI1.out, HB1.out, rfl, by simp⟩
  case round =>
    obtain ⟨p, next, acc, hp, rfl, rfl, hnx, hI, hbw, hacc, hal⟩ := hrel
    have HACC := Lib.hid hacc
    have HI := Lib.hid hI
    have HBW := Lib.hid hbw
    have hz := hbw.size
    clear hacc hI hbw
    by_cases hlt : p < s.size
    · by_cases hskip : p < next
      · have HA : Hid (acc ++ plG (next - (p + 1)) ((lst s).drop (p + 1)) = plG 0 (lst s)) := show _ = _ from by
          rw [← HACC.out, lst_at s p hlt, show next - p = (next - (p + 1)) + 1 by omega, plG]
        go_wp2_with fail
        go_roundw
        case rel => exact ⟨p + 1, next, acc, by omega, rfl, by go_num, hnx, HI.out, HBW.out, HA.out, by omega⟩
        case measure => simp [intOf]; omega
      · have hle := told_len ((lst s).drop p)
        have hpos := told_pos ((lst s).drop p)
        have HT := Lib.hid (fun W => plainAt_any s p hlt hs W)
        have hA : acc ++ (told ((lst s).drop p)).1 ++ plG (p + (told ((lst s).drop p)).2 - (p + 1)) ((lst s).drop (p + 1)) = plG 0 (lst s) := by
          rw [← HACC.out, show next - p = 0 by omega, lst_at s p hlt, plG, List.append_assoc, show ∀ n, p + n - (p + 1) = n - 1 by omega]
        have HA := Lib.hid hA
        unfold ToldPost at HT
        generalize told ((lst s).drop p) = q at *
        obtain ⟨x, n⟩ := q
        obtain ⟨X, hX, hX2⟩ := made x
        simp only [] at HT HA hle hpos
        rw [hX2] at HT
        have HX := Lib.hid hX
        clear hA hX hX2
        go_wp2_with fail
        refine (HT.out _).mono ?_
        rintro e W1 ⟨rfl, hb⟩
        have HI2 := Lib.hid (bld_below HI.out hb)
        have HB2 := Lib.hid (chain (Nat.le_refl _) HBW.out hb)
        have hz2 := hb.size
        clear hb HT
        have HXS : X.size ≤ 4 := by rw [← lst_size, HX.out]; exact hle
        go_wp2_with fail
        refine (Tryd.Builder_Write w.heap.size w.heap.size (Lib.byteCells acc) X _ HI2.out (by rw [Lib.byteCells_length]; omega) (by omega)).mono ?_
        rintro e W2 ⟨rfl, h1, b1, k1⟩
        have H1 := Lib.hid h1
        have B1 := Lib.hid b1
        clear h1 b1 k1
        go_wp2_with fail
        go_roundw
        case rel =>
          refine ⟨p + 1, p + n, acc ++ x, by omega, by go_num, by go_num, by omega, ?_, HB2.out.trans B1.out, HA.out, by rw [List.length_append]; omega⟩
          have h := H1.out
          rw [Lib.strCells_eq, show X.data.toList = x from HX.out, ← Lib.byteCells_append] at h
          exact Or.inr h
        case measure => simp [intOf]; omega
    · have h1 := HACC.out
      rw [lst_out s p (by omega), show plG (next - p) [] = [] by unfold plG; rfl, List.append_nil] at h1
      have H1 := Lib.hid h1
      clear h1
      go_wp2_with fail
      refine (Tryd.Builder_String_any_k w.heap.size w.heap.size acc _ HI.out (by omega)).mono ?_
      rintro e W1 ⟨rfl, _, b1, _⟩
      have B1 := Lib.hid b1
      clear b1
      go_wp2_with fail
      go_ret
      rw [← H1.out]
      exact ⟨rfl, HBW.out.trans B1.out⟩
end Go.Proofs.YtfoheffbapifpaaDoor
