/-
  PROVED: contract of tag.other: which of the HTML that is no tag a text begins with. Conditions: the tables of the package hold what their initialisers lay; the text has at most 1000000 bytes.
-/
import Derived.Test.YtdnnjakggopdoaaDoorGlob
namespace Go.Proofs.YtdnnjakggopdoaaDoor
open Go.ChangeShapes Go.WideShapes Go.ChangeAt Go.RowKit
set_option linter.unusedVariables false

/-- Is it the i-th of the others? -/
def isO (l : List UInt8) (i : Nat) : Bool := Lib.hasPrefix l (obeg i) && (i != 2 || decide (0 < upL isL (l.drop 2) 0))
def otherL (l : List UInt8) : Int := if isO l 0 then 0 else if isO l 1 then 1 else if isO l 2 then 2 else if isO l 3 then 3 else -1
/-- What the loop of tag.other goes by. -/
def XRel (l : List UInt8) (w : World) (i : Value) (wr : World) : Prop := Below w.heap.size w wr ∧
  (i = .int .i64 0 ∨ (i = .int .i64 1 ∧ isO l 0 = false) ∨ (i = .int .i64 2 ∧ isO l 0 = false ∧ isO l 1 = false) ∨ (i = .int .i64 3 ∧ isO l 0 = false ∧ isO l 1 = false ∧ isO l 2 = false) ∨ (i = .int .i64 4 ∧ isO l 0 = false ∧ isO l 1 = false ∧ isO l 2 = false ∧ isO l 3 = false))
theorem isO_pre (l : List UInt8) (i : Nat) (h : i ≠ 2) : isO l i = Lib.hasPrefix l (obeg i) := by
  unfold isO
  have : (i != 2) = true := by simpa using h
  rw [this, Bool.true_or, Bool.and_true]
theorem cut_is (s : ByteArray) (i : Nat) (h : i ≠ 2) (q : ByteArray) (hq : lst q = obeg i) (w : World) :
    Calls Tryd.prog 41 #[.string s, .string q] w fun e w' => (∃ t : ByteArray, e = .returned (.tuple #[.string t, .bool (isO (lst s) i)])) ∧ w' = w := by
  refine (Tryd.cutPrefix s q w).mono fun e w' ⟨h1, h2⟩ => ⟨⟨⟨(Lib.trimPrefix (lst s) (lst q)).toArray⟩, ?_⟩, h2⟩
  rw [isO_pre _ _ h, ← hq]
  exact h1
theorem cut_two (s : ByteArray) (w : World) :
    Calls Tryd.prog 41 #[.string s, .string { data := #[60, 33] }] w fun e w' => e = .returned (.tuple #[.string ⟨(Lib.trimPrefix (lst s) [60, 33]).toArray⟩, .bool (Lib.hasPrefix (lst s) [60, 33])]) ∧ w' = w := Tryd.cutPrefix s { data := #[60, 33] } w
theorem isO_two (l : List UInt8) : isO l 2 = (Lib.hasPrefix l [60, 33] && decide (0 < upL isL (l.drop 2) 0)) := rfl

set_option maxHeartbeats 16000000 in
theorem other_any (s : ByteArray) (hs : s.size ≤ 1000000) (w : World) (hG : Glob w) :
    Calls Tryd.prog 18 #[.string s] w fun e w' => e = .returned (.int .i64 (otherL (lst s))) ∧ Below w.heap.size w w' := by
  have o0 := hG.o0; have o1 := hG.o1; have o2 := hG.o2; have o3 := hG.o3; have o4 := hG.o4; have o5 := hG.o5
  have o6 := hG.o6; have o7 := hG.o7; have o8 := hG.o8; have o9 := hG.o9; have o10 := hG.o10; have o11 := hG.o11
  clear hG
  go_enter Tryd.func18, Tryd.ntmps18
  go_wp2_with fail
  clear o0 o1 o2 o3 o4 o5 o6 o7 o8 o9 o10 o11
  go_loopw [8] (fun i wr => XRel (lst s) w i wr) (fun i _ => 4 - (intOf i).toNat)
  case atStart => exact ⟨Below.refl _ _, .inl rfl⟩
  case round =>
    obtain ⟨hB, hrel⟩ := hrel
    have HB := Lib.hid hB
    have hsz := hB.size
    clear hB
    rcases hrel with rfl | ⟨rfl, h0⟩ | ⟨rfl, h0, h1⟩ | ⟨rfl, h0, h1, h2⟩ | ⟨rfl, h0, h1, h2, h3⟩
    · skip
      have HA := Lib.hid (HB.out.alloc hsz (.cells #[.string { data := #[60, 33, 45, 45] }, .bool false, .string { data := #[45, 45, 62] }] 32))
      have k := idx_o0
      have HC := Lib.hid (cut_is s 0 (by decide) ({ data := #[60, 33, 45, 45] }) rfl)
      obtain ⟨v, hv⟩ : ∃ v, v = isO (lst s) 0 := ⟨_, rfl⟩
      rw [← hv] at HC
      have H := Lib.hid hv.symm
      clear hv
      cases v
      · go_wp2_with fail
        refine (HC.out _).mono ?_
        rintro e w1 ⟨⟨t, rfl⟩, rfl⟩
        go_wp2_with fail
        go_roundw
        case rel => exact ⟨HA.out, .inr (.inl ⟨rfl, H.out⟩)⟩
        case measure => simp [intOf]
      · go_wp2_with fail
        refine (HC.out _).mono ?_
        rintro e w1 ⟨⟨t, rfl⟩, rfl⟩
        go_wp2_with fail
        go_ret
        exact ⟨ret_int (by unfold otherL; rw [H.out]; rfl), HA.out⟩
    · skip
      replace h0 := Lib.hid h0
      have HA := Lib.hid (HB.out.alloc hsz (.cells #[.string { data := #[60, 63] }, .bool false, .string { data := #[63, 62] }] 32))
      have k := idx_o1
      have HC := Lib.hid (cut_is s 1 (by decide) ({ data := #[60, 63] }) rfl)
      obtain ⟨v, hv⟩ : ∃ v, v = isO (lst s) 1 := ⟨_, rfl⟩
      rw [← hv] at HC
      have H := Lib.hid hv.symm
      clear hv
      cases v
      · go_wp2_with fail
        refine (HC.out _).mono ?_
        rintro e w1 ⟨⟨t, rfl⟩, rfl⟩
        go_wp2_with fail
        go_roundw
        case rel => exact ⟨HA.out, .inr (.inr (.inl ⟨rfl, h0.out, H.out⟩))⟩
        case measure => simp [intOf]
      · go_wp2_with fail
        refine (HC.out _).mono ?_
        rintro e w1 ⟨⟨t, rfl⟩, rfl⟩
        go_wp2_with fail
        go_ret
        exact ⟨ret_int (by unfold otherL; rw [h0.out, H.out]; rfl), HA.out⟩
    · skip
      replace h0 := Lib.hid h0
      replace h1 := Lib.hid h1
      have HA := Lib.hid (HB.out.alloc hsz (.cells #[.string { data := #[60, 33] }, .bool true, .string { data := #[62] }] 32))
      have k := idx_o2
      have HC := Lib.hid (cut_two s)
      cases hp : Lib.hasPrefix (lst s) [60, 33] with
      | false =>
        have H : Hid (isO (lst s) 2 = false) := show _ = _ from by rw [isO_two, hp]; rfl
        rw [hp] at HC
        clear hp
        generalize (Lib.trimPrefix (lst s) [60, 33]).toArray = t at *
        go_wp2_with fail
        refine (HC.out _).mono ?_
        rintro e w1 ⟨rfl, rfl⟩
        go_wp2_with fail
        go_roundw
        case rel => exact ⟨HA.out, .inr (.inr (.inr (.inl ⟨rfl, h0.out, h1.out, H.out⟩)))⟩
        case measure => simp [intOf]
      | true =>
        have hd : Lib.trimPrefix (lst s) [60, 33] = (lst s).drop 2 := by unfold Lib.trimPrefix; rw [hp]; rfl
        have HR := Lib.hid (fun W => row_any 43 isL tells_letter ⟨((lst s).drop 2).toArray⟩ (by show (((lst s).drop 2).toArray).size ≤ 1000000; rw [List.size_toArray, List.length_drop, lst_size]; omega) W)
        rw [lst_mk] at HR
        have HO : Hid (isO (lst s) 2 = decide (0 < upL isL ((lst s).drop 2) 0)) := show _ = _ from by rw [isO_two, hp]; rfl
        rw [hp, hd] at HC
        clear hp hd
        generalize upL isL ((lst s).drop 2) 0 = n at *
        generalize ((lst s).drop 2).toArray = t at *
        by_cases hn : 0 < n
        · have H : Hid (isO (lst s) 2 = true) := HO.out.trans (decide_eq_true hn)
          have q : decide ((0 : Int) < (n : Int)) = true := by simp; omega
          clear HO
          go_wp2_with fail
          refine (HC.out _).mono ?_
          rintro e w1 ⟨rfl, rfl⟩
          go_wp2_with fail
          refine (HR.out _).mono ?_
          rintro e w1 ⟨rfl, rfl⟩
          go_wp2_with fail
          go_ret
          exact ⟨ret_int (by unfold otherL; rw [h0.out, h1.out, H.out]; rfl), HA.out⟩
        · have H : Hid (isO (lst s) 2 = false) := HO.out.trans (decide_eq_false hn)
          have q : decide ((0 : Int) < (n : Int)) = false := by simp; omega
          clear HO
          go_wp2_with fail
          refine (HC.out _).mono ?_
          rintro e w1 ⟨rfl, rfl⟩
          go_wp2_with fail
          refine (HR.out _).mono ?_
          rintro e w1 ⟨rfl, rfl⟩
          go_wp2_with fail
          go_roundw
          case rel => exact ⟨HA.out, .inr (.inr (.inr (.inl ⟨rfl, h0.out, h1.out, H.out⟩)))⟩
          case measure => simp [intOf]
    · skip
      replace h0 := Lib.hid h0
      replace h1 := Lib.hid h1
      replace h2 := Lib.hid h2
      have HA := Lib.hid (HB.out.alloc hsz (.cells #[.string { data := #[60, 33, 91, 67, 68, 65, 84, 65, 91] }, .bool false, .string { data := #[93, 93, 62] }] 32))
      have k := idx_o3
      have HC := Lib.hid (cut_is s 3 (by decide) ({ data := #[60, 33, 91, 67, 68, 65, 84, 65, 91] }) rfl)
      obtain ⟨v, hv⟩ : ∃ v, v = isO (lst s) 3 := ⟨_, rfl⟩
      rw [← hv] at HC
      have H := Lib.hid hv.symm
      clear hv
      cases v
      · go_wp2_with fail
        refine (HC.out _).mono ?_
        rintro e w1 ⟨⟨t, rfl⟩, rfl⟩
        go_wp2_with fail
        go_roundw
        case rel => exact ⟨HA.out, .inr (.inr (.inr (.inr ⟨rfl, h0.out, h1.out, h2.out, H.out⟩)))⟩
        case measure => simp [intOf]
      · go_wp2_with fail
        refine (HC.out _).mono ?_
        rintro e w1 ⟨⟨t, rfl⟩, rfl⟩
        go_wp2_with fail
        go_ret
        exact ⟨ret_int (by unfold otherL; rw [h0.out, h1.out, h2.out, H.out]; rfl), HA.out⟩
    · skip
      replace h0 := Lib.hid h0
      replace h1 := Lib.hid h1
      replace h2 := Lib.hid h2
      replace h3 := Lib.hid h3
      go_wp2_with fail
      go_ret
      exact ⟨ret_int (by unfold otherL; rw [h0.out, h1.out, h2.out, h3.out]; rfl), HB.out⟩
end Go.Proofs.YtdnnjakggopdoaaDoor
