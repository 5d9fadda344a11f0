/-
  PROVED: contracts of escape.digit, escape.value and escape.character, and of the document's own letter, digit, hex, number and char: what a digit counts, the number of digits, a number's character. Conditions: as each says.
-/
import Derived.Test.YtfoheffbapifpaaDoorOwn
import Derived.Laws.Runes
import Derived.Lib.TrimByte
namespace Go.Proofs.YtfoheffbapifpaaDoor
open Go.ChangeShapes Go.WideShapes Go.ChangeAt Go.RowKit Go.Sort
set_option linter.unusedVariables false

/-- A text's bytes. -/
abbrev lst (s : ByteArray) : List UInt8 := s.data.toList
theorem ret_int {k : IntKind} {a b : Int} (h : a = b) : Ending.returned (.int k a) = .returned (.int k b) := by rw [h]
theorem ret_bool {a b : Bool} (h : a = b) : Ending.returned (.bool a) = .returned (.bool b) := by rw [h]
theorem emp_yes (s : ByteArray) (h : s.size = 0) : s.toList.isEmpty = true := by
  rw [Lib.toList_data]
  cases h' : s.data.toList with
  | nil => rfl
  | cons _ _ => have := Lib.size_eq s; rw [h', List.length_cons] at this; omega
theorem emp_no (s : ByteArray) (h : 0 < s.size) : s.toList.isEmpty = false := by
  rw [Lib.toList_data]
  cases h' : s.data.toList with
  | nil => have := Lib.size_eq s; rw [h', List.length_nil] at this; omega
  | cons _ _ => rfl
theorem lst_nil (s : ByteArray) (h : s.size = 0) : lst s = [] := List.eq_nil_of_length_eq_zero (by rw [← Lib.size_eq]; exact h)
theorem lst_size (s : ByteArray) : (lst s).length = s.size := (Lib.size_eq s).symm
theorem lst_mk (l : List UInt8) : lst ⟨l.toArray⟩ = l := by simp [lst]
theorem lst_at (s : ByteArray) (k : Nat) (h : k < s.size) : (lst s).drop k = (s[k]'h) :: (lst s).drop (k + 1) := by
  have hl : k < (lst s).length := by rw [lst_size]; exact h
  rw [List.drop_eq_getElem_cons hl]
  rfl
theorem lst_out (s : ByteArray) (k : Nat) (h : s.size ≤ k) : (lst s).drop k = [] := List.drop_eq_nil_of_le (by rw [lst_size]; exact h)
theorem lst_from (s : ByteArray) (k : Nat) : lst (s.extract k s.size) = (lst s).drop k := by
  have h := Lib.extract_mk (lst s) k s.size
  rw [Lib.mk_data] at h
  rw [lst, h]
  simp only []
  rw [List.take_of_length_le (by rw [List.length_drop, ← Lib.size_eq]; omega)]
theorem lst_cut (s : ByteArray) (k n : Nat) : lst (s.extract k n) = ((lst s).take n).drop k := by
  have h := Lib.extract_mk (lst s) k n
  rw [Lib.mk_data] at h
  rw [lst, h]
  simp only []
  rw [List.take_drop]
  by_cases hk : k ≤ n
  · rw [Nat.add_sub_cancel' hk]
  · rw [List.drop_of_length_le (by rw [List.length_take]; omega), List.drop_of_length_le (by rw [List.length_take]; omega)]

/-! ### digits -/
set_option maxHeartbeats 1000000 in
theorem digit_any (c : UInt8) (w : World) : Calls Tryd.prog 104 #[.int .u8 c.toNat] w fun e w' => e = .returned (.int .i64 (hexV c)) ∧ w = w' := by
  have hc := c.toNat_lt
  have hv := hexV_is c
  generalize hexV c = v at *
  generalize c.toNat = n at *
  by_cases h48 : 48 ≤ n ∧ n ≤ 57
  · have HV : Hid ((v : Int) = (n : Int) - 48) := show (v : Int) = (n : Int) - 48 from by omega
    clear hv
    obtain ⟨g1, g2⟩ := h48
    go_enter Tryd.func104, Tryd.ntmps104
    go_wp2_with fail
    go_ret
    exact ⟨ret_int (by have := HV.out; omega), rfl⟩
  by_cases h87 : 97 ≤ n ∧ n ≤ 102
  · have HV : Hid ((v : Int) = (n : Int) - 87) := show (v : Int) = (n : Int) - 87 from by omega
    clear hv
    obtain ⟨g1, g2⟩ := h87
    go_enter Tryd.func104, Tryd.ntmps104
    go_wp2_with fail
    go_ret
    exact ⟨ret_int (by have := HV.out; omega), rfl⟩
  by_cases h55 : 65 ≤ n ∧ n ≤ 70
  · have HV : Hid ((v : Int) = (n : Int) - 55) := show (v : Int) = (n : Int) - 55 from by omega
    clear hv
    obtain ⟨g1, g2⟩ := h55
    go_enter Tryd.func104, Tryd.ntmps104
    go_wp2_with fail
    go_ret
    exact ⟨ret_int (by have := HV.out; omega), rfl⟩
  have HV : Hid (v = 16) := show v = 16 from by omega
  clear hv
  have e1 : (decide ((48 : Int) ≤ n) && decide ((n : Int) ≤ 57)) = false := by simp; omega
  have e2 : (decide ((97 : Int) ≤ n) && decide ((n : Int) ≤ 102)) = false := by simp; omega
  have e3 : (decide ((65 : Int) ≤ n) && decide ((n : Int) ≤ 70)) = false := by simp; omega
  have hr : n < 48 ∨ (58 ≤ n ∧ n ≤ 64) ∨ (71 ≤ n ∧ n ≤ 96) ∨ 103 ≤ n := by omega
  clear e1 e2 e3 h48 h87 h55
  rcases hr with hr | ⟨hr, hr2⟩ | ⟨hr, hr2⟩ | hr
  · go_enter Tryd.func104, Tryd.ntmps104
    go_wp2_with fail
    go_ret
    exact ⟨ret_int (by have := HV.out; omega), rfl⟩
  · go_enter Tryd.func104, Tryd.ntmps104
    go_wp2_with fail
    go_ret
    exact ⟨ret_int (by have := HV.out; omega), rfl⟩
  · go_enter Tryd.func104, Tryd.ntmps104
    go_wp2_with fail
    go_ret
    exact ⟨ret_int (by have := HV.out; omega), rfl⟩
  · go_enter Tryd.func104, Tryd.ntmps104
    go_wp2_with fail
    go_ret
    exact ⟨ret_int (by have := HV.out; omega), rfl⟩
set_option maxHeartbeats 1000000 in
theorem refDigit_any (c : UInt8) (w : World) : Calls Tryd.prog 80 #[.int .u8 c.toNat] w fun e w' => e = .returned (.bool (dgt c)) ∧ w = w' := by
  have hc := c.toNat_lt
  have HV : Hid (dgt c = decide (48 ≤ c.toNat ∧ c.toNat ≤ 57)) := show dgt c = _ from rfl
  generalize dgt c = v at *
  generalize c.toNat = n at *
  go_enter Tryd.func80, Tryd.ntmps80
  go_wp2_with fail
  all_goals (go_ret; exact ⟨ret_bool (by rw [HV.out, Bool.eq_iff_iff]; simp; omega), rfl⟩)
set_option maxHeartbeats 1000000 in
theorem refLetter_any (c : UInt8) (w : World) : Calls Tryd.prog 79 #[.int .u8 c.toNat] w fun e w' => e = .returned (.bool (ltr c)) ∧ w = w' := by
  have hc := c.toNat_lt
  have HV : Hid (ltr c = decide (65 ≤ c.toNat ∧ c.toNat ≤ 90 ∨ 97 ≤ c.toNat ∧ c.toNat ≤ 122)) := show ltr c = _ from rfl
  generalize ltr c = v at *
  generalize c.toNat = n at *
  have hr : n < 65 ∨ (65 ≤ n ∧ n ≤ 90) ∨ (91 ≤ n ∧ n ≤ 96) ∨ (97 ≤ n ∧ n ≤ 122) ∨ 123 ≤ n := by omega
  rcases hr with hr | ⟨hr, hr2⟩ | ⟨hr, hr2⟩ | ⟨hr, hr2⟩ | hr
  · have HW : Hid (v = false) := show v = false from by rw [HV.out]; first | (rw [decide_eq_true_eq]; omega) | (rw [decide_eq_false_iff_not]; omega)
    clear HV
    go_enter Tryd.func79, Tryd.ntmps79
    go_wp2_with fail
    go_ret
    exact ⟨ret_bool (by first | (rw [HW.out]; done) | (rw [HW.out]; simp; omega)), rfl⟩
  · have HW : Hid (v = true) := show v = true from by rw [HV.out]; first | (rw [decide_eq_true_eq]; omega) | (rw [decide_eq_false_iff_not]; omega)
    clear HV
    go_enter Tryd.func79, Tryd.ntmps79
    go_wp2_with fail
    go_ret
    exact ⟨ret_bool (by first | (rw [HW.out]; done) | (rw [HW.out]; simp; omega)), rfl⟩
  · have HW : Hid (v = false) := show v = false from by rw [HV.out]; first | (rw [decide_eq_true_eq]; omega) | (rw [decide_eq_false_iff_not]; omega)
    clear HV
    go_enter Tryd.func79, Tryd.ntmps79
    go_wp2_with fail
    go_ret
    exact ⟨ret_bool (by first | (rw [HW.out]; done) | (rw [HW.out]; simp; omega)), rfl⟩
  · have HW : Hid (v = true) := show v = true from by rw [HV.out]; first | (rw [decide_eq_true_eq]; omega) | (rw [decide_eq_false_iff_not]; omega)
    clear HV
    go_enter Tryd.func79, Tryd.ntmps79
    go_wp2_with fail
    go_ret
    exact ⟨ret_bool (by first | (rw [HW.out]; done) | (rw [HW.out]; simp; omega)), rfl⟩
  · have HW : Hid (v = false) := show v = false from by rw [HV.out]; first | (rw [decide_eq_true_eq]; omega) | (rw [decide_eq_false_iff_not]; omega)
    clear HV
    go_enter Tryd.func79, Tryd.ntmps79
    go_wp2_with fail
    go_ret
    exact ⟨ret_bool (by first | (rw [HW.out]; done) | (rw [HW.out]; simp; omega)), rfl⟩
/-- The document's value of a digit. -/
def hexZ (c : UInt8) : Int := if hexV c < 16 then (hexV c : Int) else -1
set_option maxHeartbeats 1000000 in
theorem refHex_any (c : UInt8) (w : World) : Calls Tryd.prog 95 #[.int .u8 c.toNat] w fun e w' => e = .returned (.int .i64 (hexZ c)) ∧ w = w' := by
  have hc := c.toNat_lt
  have hv := hexV_is c
  have HD := Lib.hid (fun W => refDigit_any c W)
  have HZ : Hid (hexZ c = if hexV c < 16 then (hexV c : Int) else -1) := show hexZ c = _ from rfl
  have HDV : Hid (dgt c = decide (48 ≤ c.toNat ∧ c.toNat ≤ 57)) := show dgt c = _ from rfl
  generalize hexZ c = z at *
  generalize hexV c = v at *
  generalize dgt c = dv at *
  generalize c.toNat = n at *
  by_cases h1 : 48 ≤ n ∧ n ≤ 57
  · have HV : Hid (z = (n : Int) - 48) := show z = (n : Int) - 48 from by rw [HZ.out, if_pos (by omega)]; omega
    obtain rfl : dv = true := by rw [HDV.out, decide_eq_true_eq]; exact h1
    clear hv HZ HDV
    obtain ⟨g1, g2⟩ := h1
    go_enter Tryd.func95, Tryd.ntmps95
    go_wp2_with fail
    refine (HD.out _).mono ?_
    rintro e w1 ⟨rfl, rfl⟩
    clear HD
    go_wp2_with fail
    go_ret
    exact ⟨ret_int (by have := HV.out; omega), rfl⟩
  obtain rfl : dv = false := by rw [HDV.out, decide_eq_false_iff_not]; exact h1
  have hr : (n < 48 ∧ z = -1) ∨ (58 ≤ n ∧ n ≤ 64 ∧ z = -1) ∨ (65 ≤ n ∧ n ≤ 70 ∧ z = (n : Int) - 55) ∨ (71 ≤ n ∧ n ≤ 96 ∧ z = -1) ∨ (97 ≤ n ∧ n ≤ 102 ∧ z = (n : Int) - 87) ∨ (103 ≤ n ∧ z = -1) := by
    have e := HZ.out
    by_cases hl : v < 16
    · rw [if_pos hl] at e; omega
    · rw [if_neg hl] at e; omega
  clear hv HZ HDV h1
  rcases hr with ⟨hr, hz⟩ | ⟨hr, hr2, hz⟩ | ⟨hr, hr2, hz⟩ | ⟨hr, hr2, hz⟩ | ⟨hr, hr2, hz⟩ | ⟨hr, hz⟩
  · have HV := Lib.hid hz
    clear hz
    go_enter Tryd.func95, Tryd.ntmps95
    go_wp2_with fail
    refine (HD.out _).mono ?_
    rintro e w1 ⟨rfl, rfl⟩
    clear HD
    go_wp2_with fail
    go_ret
    exact ⟨ret_int (by have := HV.out; omega), rfl⟩
  · have HV := Lib.hid hz
    clear hz
    go_enter Tryd.func95, Tryd.ntmps95
    go_wp2_with fail
    refine (HD.out _).mono ?_
    rintro e w1 ⟨rfl, rfl⟩
    clear HD
    go_wp2_with fail
    go_ret
    exact ⟨ret_int (by have := HV.out; omega), rfl⟩
  · have HV := Lib.hid hz
    clear hz
    go_enter Tryd.func95, Tryd.ntmps95
    go_wp2_with fail
    refine (HD.out _).mono ?_
    rintro e w1 ⟨rfl, rfl⟩
    clear HD
    go_wp2_with fail
    go_ret
    exact ⟨ret_int (by have := HV.out; omega), rfl⟩
  · have HV := Lib.hid hz
    clear hz
    go_enter Tryd.func95, Tryd.ntmps95
    go_wp2_with fail
    refine (HD.out _).mono ?_
    rintro e w1 ⟨rfl, rfl⟩
    clear HD
    go_wp2_with fail
    go_ret
    exact ⟨ret_int (by have := HV.out; omega), rfl⟩
  · have HV := Lib.hid hz
    clear hz
    go_enter Tryd.func95, Tryd.ntmps95
    go_wp2_with fail
    refine (HD.out _).mono ?_
    rintro e w1 ⟨rfl, rfl⟩
    clear HD
    go_wp2_with fail
    go_ret
    exact ⟨ret_int (by have := HV.out; omega), rfl⟩
  · have HV := Lib.hid hz
    clear hz
    go_enter Tryd.func95, Tryd.ntmps95
    go_wp2_with fail
    refine (HD.out _).mono ?_
    rintro e w1 ⟨rfl, rfl⟩
    clear HD
    go_wp2_with fail
    go_ret
    exact ⟨ret_int (by have := HV.out; omega), rfl⟩

/-! ### the number of digits -/
theorem bd_step (v : Int) (j b d : Nat) (hb : b ≤ 16) (hd : d < b) (h0 : 0 ≤ v) (h : v < 16 ^ j) : 0 ≤ v * b + d ∧ v * b + d < 16 ^ (j + 1) := by
  have hp : (16 : Int) ^ (j + 1) = 16 ^ j * 16 := Int.pow_succ ..
  have h1 : 0 ≤ v * b := Int.mul_nonneg h0 (by omega)
  have h2 : v * b ≤ v * 16 := Int.mul_le_mul_of_nonneg_left (by omega) h0
  rw [hp]
  omega
theorem bd_top (j : Nat) (h : j ≤ 8) : (16 : Int) ^ j ≤ 4294967296 := by
  have : j = 0 ∨ j = 1 ∨ j = 2 ∨ j = 3 ∨ j = 4 ∨ j = 5 ∨ j = 6 ∨ j = 7 ∨ j = 8 := by omega
  rcases this with rfl | rfl | rfl | rfl | rfl | rfl | rfl | rfl | rfl <;> decide
/-- What escape.value and class.Entity answer. -/
def numRet (o : Option Int) : Ending := .returned (.tuple #[.int .i64 (o.getD 0), .bool o.isSome])
/-- What the loop of escape.value goes by. -/
def DRel (s : ByteArray) (b : Nat) (x i : Value) (w wr : World) : Prop :=
  ∃ (j : Nat) (v : Int), j ≤ s.size ∧ x = .int .i64 v ∧ i = .int .i64 j ∧ 0 ≤ v ∧ v < 16 ^ j ∧ val b ((lst s).drop j) v = val b (lst s) 0 ∧ wr = w
set_option maxHeartbeats 1000000 in
theorem value_10 (s : ByteArray) (hs : s.size ≤ 8) (w : World) : Calls Tryd.prog 98 #[.string s, .int .i64 10] w fun e w' => e = numRet (valE 10 (lst s)) ∧ w = w' := by
  go_enter Tryd.func98, Tryd.ntmps98
  go_wp2_with fail
  go_loopw [6, 11] (fun x i wr => DRel s 10 x i w wr) (fun _ i _ => s.size - (intOf i).toNat)
  case atStart => exact ⟨0, 0, Nat.zero_le _, rfl, rfl, by omega, by decide, rfl, rfl⟩
  case round =>
    obtain ⟨j, v, hj, rfl, rfl, hv0, hv1, hval, rfl⟩ := hrel
    have htop := bd_top j (by omega)
    by_cases hlt : j < s.size
    · have hd := hexV_le (s[j]'hlt)
      rw [lst_at s j hlt, val] at hval
      by_cases hd2 : hexV (s[j]'hlt) < 10
      · rw [if_pos hd2] at hval
        have hb := bd_step v j 10 _ (by decide) hd2 hv0 hv1
        have HB := Lib.hid hb
        have HL := Lib.hid hval
        have hv2 : v < 4294967296 := by omega
        clear hb hval htop hv1
        go_wp2_with fail
        refine (digit_any (s[j]'hlt) _).mono ?_
        rintro e w1 ⟨rfl, rfl⟩
        go_wp2_with fail
        go_roundw
        case rel => exact ⟨j + 1, v * 10 + (hexV (s[j]'hlt) : Int), by omega, rfl, by go_num, HB.out.1, HB.out.2, HL.out, rfl⟩
        case measure => simp [intOf]; omega
      · rw [if_neg hd2] at hval
        have HL : Hid (valE 10 (lst s) = none) := show valE 10 (lst s) = none from by
          unfold valE
          split
          · rfl
          · exact hval.symm
        clear hval htop hv1
        go_wp2_with fail
        refine (digit_any (s[j]'hlt) _).mono ?_
        rintro e w1 ⟨rfl, rfl⟩
        go_wp2_with fail
        go_ret2
        exact ⟨by rw [HL.out]; rfl, rfl⟩
    · rw [lst_out s j (by omega), val] at hval
      have HL := Lib.hid hval
      clear hval htop hv1
      by_cases he : s.size = 0
      · have hq := emp_yes s he
        have HV : Hid (valE 10 (lst s) = none) := show valE 10 (lst s) = none from by rw [lst_nil s he]; rfl
        have HW : Hid (v = 0) := show v = 0 from by
          have h := HL.out
          rw [lst_nil s he] at h
          injection h
        clear HL
        go_wp2_with fail
        go_ret2
        exact ⟨by rw [HV.out, HW.out]; rfl, rfl⟩
      · have hq := emp_no s (by omega)
        have HV : Hid (valE 10 (lst s) = some v) := show valE 10 (lst s) = some v from by
          unfold valE
          rw [if_neg (fun h => by have := lst_size s; rw [h, List.length_nil] at this; omega)]
          exact HL.out.symm
        clear HL
        go_wp2_with fail
        go_ret2
        exact ⟨by rw [HV.out]; rfl, rfl⟩
set_option maxHeartbeats 1000000 in
theorem value_16 (s : ByteArray) (hs : s.size ≤ 8) (w : World) : Calls Tryd.prog 98 #[.string s, .int .i64 16] w fun e w' => e = numRet (valE 16 (lst s)) ∧ w = w' := by
  go_enter Tryd.func98, Tryd.ntmps98
  go_wp2_with fail
  go_loopw [6, 11] (fun x i wr => DRel s 16 x i w wr) (fun _ i _ => s.size - (intOf i).toNat)
  case atStart => exact ⟨0, 0, Nat.zero_le _, rfl, rfl, by omega, by decide, rfl, rfl⟩
  case round =>
    obtain ⟨j, v, hj, rfl, rfl, hv0, hv1, hval, rfl⟩ := hrel
    have htop := bd_top j (by omega)
    by_cases hlt : j < s.size
    · have hd := hexV_le (s[j]'hlt)
      rw [lst_at s j hlt, val] at hval
      by_cases hd2 : hexV (s[j]'hlt) < 16
      · rw [if_pos hd2] at hval
        have hb := bd_step v j 16 _ (by decide) hd2 hv0 hv1
        have HB := Lib.hid hb
        have HL := Lib.hid hval
        have hv2 : v < 4294967296 := by omega
        clear hb hval htop hv1
        go_wp2_with fail
        refine (digit_any (s[j]'hlt) _).mono ?_
        rintro e w1 ⟨rfl, rfl⟩
        go_wp2_with fail
        go_roundw
        case rel => exact ⟨j + 1, v * 16 + (hexV (s[j]'hlt) : Int), by omega, rfl, by go_num, HB.out.1, HB.out.2, HL.out, rfl⟩
        case measure => simp [intOf]; omega
      · rw [if_neg hd2] at hval
        have HL : Hid (valE 16 (lst s) = none) := show valE 16 (lst s) = none from by
          unfold valE
          split
          · rfl
          · exact hval.symm
        clear hval htop hv1
        go_wp2_with fail
        refine (digit_any (s[j]'hlt) _).mono ?_
        rintro e w1 ⟨rfl, rfl⟩
        go_wp2_with fail
        go_ret2
        exact ⟨by rw [HL.out]; rfl, rfl⟩
    · rw [lst_out s j (by omega), val] at hval
      have HL := Lib.hid hval
      clear hval htop hv1
      by_cases he : s.size = 0
      · have hq := emp_yes s he
        have HV : Hid (valE 16 (lst s) = none) := show valE 16 (lst s) = none from by rw [lst_nil s he]; rfl
        have HW : Hid (v = 0) := show v = 0 from by
          have h := HL.out
          rw [lst_nil s he] at h
          injection h
        clear HL
        go_wp2_with fail
        go_ret2
        exact ⟨by rw [HV.out, HW.out]; rfl, rfl⟩
      · have hq := emp_no s (by omega)
        have HV : Hid (valE 16 (lst s) = some v) := show valE 16 (lst s) = some v from by
          unfold valE
          rw [if_neg (fun h => by have := lst_size s; rw [h, List.length_nil] at this; omega)]
          exact HL.out.symm
        clear HL
        go_wp2_with fail
        go_ret2
        exact ⟨by rw [HV.out]; rfl, rfl⟩

/-! ### a number's character -/
theorem encode_rune (r : Int) (hg : Good r) : Utf8.encode r = ⟨(Lib.encodeRune r).toArray⟩ := by
  obtain ⟨h0, h1⟩ := hg
  obtain ⟨n, rfl⟩ : ∃ n : Nat, r = (n : Int) := ⟨r.toNat, by omega⟩
  have v : Utf8.valid (n : Int) = true := by simp [Utf8.valid]; omega
  unfold Lib.encodeRune
  by_cases c1 : n < 128
  · rw [Lib.encodeRuneZ_one (by omega) (by omega)]
    simp [Utf8.encode, v, c1]
  by_cases c2 : n < 2048
  · rw [Lib.encodeRuneZ_two (by omega) (by omega)]
    have e1 : (192 + (n : Int) / 64).toNat = 192 + n / 64 := by omega
    have e2 : (128 + (n : Int) % 64).toNat = 128 + n % 64 := by omega
    simp [Utf8.encode, v, c1, c2, e1, e2]
  by_cases c3 : n < 65536
  · rw [Lib.encodeRuneZ_three (by omega)]
    have e1 : (224 + (n : Int) / 4096).toNat = 224 + n / 4096 := by omega
    have e2 : (128 + (n : Int) / 64 % 64).toNat = 128 + n / 64 % 64 := by omega
    have e3 : (128 + (n : Int) % 64).toNat = 128 + n % 64 := by omega
    simp [Utf8.encode, v, c1, c2, c3, e1, e2, e3]
  · rw [Lib.encodeRuneZ_four (by omega) (by omega)]
    have e1 : (240 + (n : Int) / 262144).toNat = 240 + n / 262144 := by omega
    have e2 : (128 + (n : Int) / 4096 % 64).toNat = 128 + n / 4096 % 64 := by omega
    have e3 : (128 + (n : Int) / 64 % 64).toNat = 128 + n / 64 % 64 := by omega
    have e4 : (128 + (n : Int) % 64).toNat = 128 + n % 64 := by omega
    simp [Utf8.encode, v, c1, c2, c3, e1, e2, e3, e4]
theorem fixN_bad (v : Int) (h : v = 0 ∨ (55296 ≤ v ∧ v ≤ 57343) ∨ 1114111 < v) : chr v = Lib.encodeRune 65533 := by unfold chr fixN; rw [if_pos h]
theorem fixN_good (v : Int) (h : ¬ (v = 0 ∨ (55296 ≤ v ∧ v ≤ 57343) ∨ 1114111 < v)) : chr v = Lib.encodeRune v := by unfold chr fixN; rw [if_neg h]
theorem enc_fffd : Utf8.encode 65533 = ⟨(Lib.encodeRune 65533).toArray⟩ := encode_rune 65533 (by unfold Good; omega)
theorem toI32 (r : Int) (h0 : -2147483648 ≤ r) (h1 : r ≤ 2147483647) : IntKind.i32.wrap r = r := by
  simp [IntKind.wrap, IntKind.signed, IntKind.bits]; omega
theorem ret_str {a b : ByteArray} (h : a = b) : Ending.returned (.string a) = .returned (.string b) := by rw [h]
set_option maxHeartbeats 1000000 in
theorem character_any (v : Int) (h0 : 0 ≤ v) (h1 : v ≤ 4294967296) (w : World) : Calls Tryd.prog 89 #[.int .i64 v] w fun e w' => e = .returned (.string ⟨(chr v).toArray⟩) ∧ w = w' := by
  by_cases hb : v = 0 ∨ (55296 ≤ v ∧ v ≤ 57343) ∨ 1114111 < v
  · have HE : Hid (Utf8.encode 65533 = ⟨(chr v).toArray⟩) := show Utf8.encode 65533 = _ from by rw [fixN_bad v hb]; exact enc_fffd
    generalize chr v = x at *
    have hw := toI32 65533 (by omega) (by omega)
    rcases hb with rfl | ⟨hb, hb2⟩ | hb
    · go_enter Tryd.func89, Tryd.ntmps89
      go_wp2_with fail
      go_ret
      exact ⟨ret_str HE.out, rfl⟩
    · have hq : ((v : Int) == 0) = false := by rw [beq_eq_false_iff_ne]; omega
      go_enter Tryd.func89, Tryd.ntmps89
      go_wp2_with fail
      go_ret
      exact ⟨ret_str HE.out, rfl⟩
    · have hq : ((v : Int) == 0) = false := by rw [beq_eq_false_iff_ne]; omega
      go_enter Tryd.func89, Tryd.ntmps89
      go_wp2_with fail
      go_ret
      exact ⟨ret_str HE.out, rfl⟩
  · have HE : Hid (Utf8.encode v = ⟨(chr v).toArray⟩) := show Utf8.encode v = _ from by rw [fixN_good v hb]; exact encode_rune v (by unfold Good; omega)
    generalize chr v = x at *
    have hw := toI32 v (by omega) (by omega)
    have hq : ((v : Int) == 0) = false := by rw [beq_eq_false_iff_ne]; omega
    have hr : v < 55296 ∨ (57344 ≤ v ∧ v ≤ 1114111) := by omega
    clear hb
    rcases hr with hr | ⟨hr, hr2⟩
    · go_enter Tryd.func89, Tryd.ntmps89
      go_wp2_with fail
      go_ret
      exact ⟨ret_str HE.out, rfl⟩
    · go_enter Tryd.func89, Tryd.ntmps89
      go_wp2_with fail
      go_ret
      exact ⟨ret_str HE.out, rfl⟩
end Go.Proofs.YtfoheffbapifpaaDoor
