/-
  PROVED: contracts of column.Indent and of the document's own Width and Indent: 'wid', 'col', 'ind'. Conditions: the text's length is at most 200000 bytes.
-/
import Derived.Test.YthlcjlikeipdlaaCols
namespace Go.Proofs.Ythlcjlikeipdlaa
open Go.ChangeShapes Go.WideShapes Go.ChangeAt Go.RowKit
set_option linter.unusedVariables false

set_option maxHeartbeats 1000000 in
theorem refWidth_any (s : ByteArray) (c : Int) (hs : s.size ≤ 200000) (w : World) :
    Calls Try.prog 13 #[.string s, .int .i64 c] w fun e w' => e = .returned (.int .i64 ((wid s 0 (bnd c) : Int) - bnd c)) ∧ w = w' := by
  have hbd := bnd_le c
  have HB := Lib.hid (begin_any c)
  generalize bnd c = b at *
  have hw := wid_bd s _ 0 b rfl
  go_enter Try.func13, Try.ntmps13
  go_wp2_with fail
  refine (HB.out _).mono ?_
  rintro e w1 ⟨rfl, rfl⟩
  go_wp2_with fail
  go_loopw [6, 5] (fun i a wr => WRel s b i a w wr) (fun i _ _ => s.size - (intOf i).toNat)
  case atStart => exact ⟨0, b, Nat.zero_le _, rfl, rfl, by omega, rfl, rfl⟩
  case round =>
    obtain ⟨p, x, hp, rfl, rfl, hx, hl, rfl⟩ := hrel
    have HL := Lib.hid hl
    clear hl
    by_cases hlt : p < s.size
    · have hn := (s[p]'hlt).toNat_lt
      have hd := wd_bd (s[p]'hlt).toNat x
      have HN := Lib.hid (wid_in s p x hlt)
      rw [bt_at s p hlt] at HN
      go_wp2_with fail
      refine (wide_any (s[p]'hlt).toNat x (by omega) _).mono ?_
      rintro e w1 ⟨rfl, rfl⟩
      go_wp2_with fail
      go_roundw
      case rel => exact ⟨p + 1, x + wd (s[p]'hlt).toNat x, by omega, by go_num, by go_num, by omega, HN.out.symm.trans HL.out, rfl⟩
      case measure => simp [intOf]; omega
    · have hx' : Hid (wid s 0 b = x) := by rw [← HL.out]; exact wid_out s p x (by omega)
      have hx2 := hx
      go_wp2_with fail
      refine (HB.out _).mono ?_
      rintro e w1 ⟨rfl, rfl⟩
      go_wp2_with fail
      go_ret
      exact ⟨ret_int (by rw [hx'.out]), rfl⟩

/-- What the loop of the document's Indent goes by. -/
def IRel (s : ByteArray) (c : Nat) (i a : Value) (w wr : World) : Prop :=
  ∃ p x : Nat, p ≤ s.size ∧ i = .int .i64 p ∧ a = .int .i64 x ∧ x ≤ c + 4 * p ∧ col s p x = col s 0 c ∧ ind s p = ind s 0 ∧ wr = w

set_option maxHeartbeats 1000000 in
theorem refIndent_any (s : ByteArray) (c : Int) (hs : s.size ≤ 200000) (w : World) :
    Calls Try.prog 9 #[.string s, .int .i64 c] w fun e w' => e = .returned (.tuple #[.int .i64 ((col s 0 (bnd c) : Int) - bnd c), .int .i64 (ind s 0)]) ∧ w = w' := by
  have hbd := bnd_le c
  have HB := Lib.hid (begin_any c)
  generalize bnd c = b at *
  go_enter Try.func9, Try.ntmps9
  go_wp2_with fail
  refine (HB.out _).mono ?_
  rintro e w1 ⟨rfl, rfl⟩
  go_wp2_with fail
  go_loopw [7, 6] (fun i a wr => IRel s b i a w wr) (fun i _ _ => s.size - (intOf i).toNat)
  case atStart => exact ⟨0, b, Nat.zero_le _, rfl, rfl, by omega, rfl, rfl, rfl⟩
  case round =>
    obtain ⟨p, x, hp, rfl, rfl, hx, hl, hi, rfl⟩ := hrel
    have HL := Lib.hid hl
    have HI := Lib.hid hi
    clear hl hi
    by_cases hb : blk s p
    · have hlt := hb.1
      have hn := (s[p]'hlt).toNat_lt
      have hd := wd_bd (s[p]'hlt).toNat x
      have HN := Lib.hid (col_in s p x hb)
      have HM := Lib.hid (ind_in s p hb)
      rw [bt_at s p hlt] at HN
      have hbb : (s[p]'hlt).toNat = 32 ∨ (s[p]'hlt).toNat = 9 := by rw [← bt_at s p hlt]; exact hb.2
      clear hb
      by_cases h1 : (s[p]'hlt).toNat = 32
      · have c1 : (((s[p]'hlt).toNat : Int) == 32) = true := by simp; omega
        clear hbb h1
        go_wp2_with fail
        refine (wide_any (s[p]'hlt).toNat x (by omega) _).mono ?_
        rintro e w1 ⟨rfl, rfl⟩
        go_wp2_with fail
        go_roundw
        case rel => exact ⟨p + 1, x + wd (s[p]'hlt).toNat x, by omega, by go_num, by go_num, by omega, HN.out.symm.trans HL.out, HM.out.symm.trans HI.out, rfl⟩
        case measure => simp [intOf]; omega
      · have c1 : (((s[p]'hlt).toNat : Int) == 32) = false := by simp; omega
        have c2 : (((s[p]'hlt).toNat : Int) == 9) = true := by simp; omega
        clear hbb h1
        go_wp2_with fail
        refine (wide_any (s[p]'hlt).toNat x (by omega) _).mono ?_
        rintro e w1 ⟨rfl, rfl⟩
        go_wp2_with fail
        go_roundw
        case rel => exact ⟨p + 1, x + wd (s[p]'hlt).toNat x, by omega, by go_num, by go_num, by omega, HN.out.symm.trans HL.out, HM.out.symm.trans HI.out, rfl⟩
        case measure => simp [intOf]; omega
    · have hx' : Hid (col s 0 b = x) := by rw [← HL.out]; exact col_out s p x hb
      have hi' : Hid (ind s 0 = p) := by rw [← HI.out]; exact ind_out s p hb
      by_cases hlt : p < s.size
      · have hn := (s[p]'hlt).toNat_lt
        have hbb : ¬ ((s[p]'hlt).toNat = 32 ∨ (s[p]'hlt).toNat = 9) := by rw [← bt_at s p hlt]; exact fun hc => hb ⟨hlt, hc⟩
        have c1 : (((s[p]'hlt).toNat : Int) == 32) = false := by simp; omega
        have c2 : (((s[p]'hlt).toNat : Int) == 9) = false := by simp; omega
        clear hbb hb
        go_wp2_with fail
        refine (HB.out _).mono ?_
        rintro e w1 ⟨rfl, rfl⟩
        go_wp2_with fail
        go_ret2
        exact ⟨ret2_int (by rw [hx'.out]) (by rw [hi'.out]), rfl⟩
      · clear hb
        go_wp2_with fail
        refine (HB.out _).mono ?_
        rintro e w1 ⟨rfl, rfl⟩
        go_wp2_with fail
        go_ret2
        exact ⟨ret2_int (by rw [hx'.out]) (by rw [hi'.out]), rfl⟩

/-- What column.Indent's loop goes by. -/
def JRel (s : ByteArray) (i : Value) (w wr : World) : Prop := ∃ p : Nat, p ≤ s.size ∧ i = .int .i64 p ∧ ind s p = ind s 0 ∧ wr = w

set_option maxHeartbeats 1000000 in
theorem indent_any (s : ByteArray) (c : Int) (hs : s.size ≤ 200000) (hc : -9223372036854775808 ≤ c) (hc' : c ≤ 9223372036854775807) (w : World) :
    Calls Try.prog 8 #[.string s, .int .i64 c] w fun e w' => e = .returned (.tuple #[.int .i64 ((col s 0 (bnd c) : Int) - bnd c), .int .i64 (ind s 0)]) ∧ w = w' := by
  have hil := ind_le s 0 (Nat.zero_le _)
  go_enter Try.func8, Try.ntmps8
  go_wp2_with fail
  go_loopw [6] (fun i wr => JRel s i w wr) (fun i _ => s.size - (intOf i).toNat)
  case atStart => exact ⟨0, Nat.zero_le _, rfl, rfl, rfl⟩
  case round =>
    obtain ⟨p, hp, rfl, hi, rfl⟩ := hrel
    have HI := Lib.hid hi
    clear hi
    by_cases hlt : p < s.size
    · have hn := (s[p]'hlt).toNat_lt
      by_cases hb : blk s p
      · have HM := Lib.hid (ind_in s p hb)
        have c1 : decide ((s[p]'hlt).toNat = 32 ∨ (s[p]'hlt).toNat = 9) = true := by rw [← bt_at s p hlt]; simpa using hb.2
        clear hb
        go_wp2_with fail
        refine (indents_any (s[p]'hlt).toNat _).mono ?_
        rw [c1]
        rintro e w1 ⟨rfl, rfl⟩
        go_wp2_with fail
        go_roundw
        case rel => exact ⟨p + 1, by omega, by go_num, HM.out.symm.trans HI.out, rfl⟩
        case measure => simp [intOf]; omega
      · have hi' : ind s 0 = p := by rw [← HI.out]; exact ind_out s p hb
        have c1 : decide ((s[p]'hlt).toNat = 32 ∨ (s[p]'hlt).toNat = 9) = false := by rw [← bt_at s p hlt]; simpa using fun hc => hb ⟨hlt, hc⟩
        clear hb
        have HW := Lib.hid (wid_ind s p (by omega) _ 0 (bnd c) rfl (by omega) hi')
        have HX := Lib.hid hi'
        have hz : (s.extract 0 p).size ≤ 200000 := by simp; omega
        clear hi'
        go_wp2_with fail
        refine (indents_any (s[p]'hlt).toNat _).mono ?_
        rw [c1]
        rintro e w1 ⟨rfl, rfl⟩
        go_wp2_with fail
        refine (width_any (s.extract 0 p) c hz hc hc' _).mono ?_
        rw [HW.out]
        rintro e w1 ⟨rfl, rfl⟩
        go_wp2_with fail
        go_ret2
        exact ⟨ret2_int rfl (by rw [HX.out]), rfl⟩
    · have hi' : ind s 0 = p := by rw [← HI.out]; exact ind_out s p (fun hc => hlt hc.1)
      have HW := Lib.hid (wid_ind s p (by omega) _ 0 (bnd c) rfl (by omega) hi')
      have HX := Lib.hid hi'
      have hz : (s.extract 0 p).size ≤ 200000 := by simp; omega
      clear hi'
      go_wp2_with fail
      refine (width_any (s.extract 0 p) c hz hc hc' _).mono ?_
      rw [HW.out]
      rintro e w1 ⟨rfl, rfl⟩
      go_wp2_with fail
      go_ret2
      exact ⟨ret2_int rfl (by rw [HX.out]), rfl⟩
end Go.Proofs.Ythlcjlikeipdlaa
