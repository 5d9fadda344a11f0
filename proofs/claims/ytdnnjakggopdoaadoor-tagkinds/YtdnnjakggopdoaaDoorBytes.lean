/-
  PROVED: contracts of tag's kinds of bytes (letter, blank, letterOrDigit, nameByte, attributeFirst, attributeByte, bareByte), of the document's letter, digit, blank, and of tag.row. Conditions: the text has at most 1000000 bytes, where a loop goes through it.
-/
import Derived.Test.YtdnnjakggopdoaaDoorShelf
import Derived.Test.YtdnnjakggopdoaaDoorScanPure
import Derived.WalkKit
import Derived.ProofKit
import Derived.OpenShut
import Derived.ShutString
import Derived.IntWalk
import Derived.WalkSpells
import Derived.WalkLawsBesides
import Derived.Deep.QuietTactic
import Derived.BigQuiet
import Derived.WalkSmall
import Derived.OwnWalk
import Derived.Lib.Hide
namespace Go.Proofs.YtdnnjakggopdoaaDoor
open Go.ChangeShapes Go.WideShapes Go.ChangeAt Go.RowKit
set_option linter.unusedVariables false

/-- A text's bytes. -/
abbrev lst (s : ByteArray) : List UInt8 := s.data.toList
theorem ret_int {k : IntKind} {a b : Int} (h : a = b) : Ending.returned (.int k a) = .returned (.int k b) := by rw [h]
theorem ret_bool {a b : Bool} (h : a = b) : Ending.returned (.bool a) = .returned (.bool b) := by rw [h]
theorem chain {B : Nat} {a b c : World} (hB : B ≤ a.heap.size) (h : Below B a b) (k : Below b.heap.size b c) : Below B a c := h.trans (k.mono (Nat.le_trans hB h.size))
theorem emp_yes (s : ByteArray) (h : s.size = 0) : s.toList.isEmpty = true := by
  rw [Lib.toList_data]
  cases h' : s.data.toList with
  | nil => rfl
  | cons _ _ => have := Lib.size_eq s; rw [h', List.length_cons] at this; omega
theorem emp_no (s : ByteArray) (h : 0 < s.size) : s.toList.isEmpty = false := by
  rw [Lib.toList_data]
  cases h' : s.data.toList with
  | nil => have := Lib.size_eq s; rw [h', List.length_nil] at this; omega
  | cons _ _ => rfl
theorem lst_nil (s : ByteArray) (h : s.size = 0) : lst s = [] := List.eq_nil_of_length_eq_zero (by rw [← Lib.size_eq]; exact h)
theorem lst_cons (s : ByteArray) (h : 0 < s.size) : ∃ m, lst s = (s[0]'h) :: m := by
  have h1 := Lib.data_getElem? s 0 h
  cases h' : s.data.toList with
  | nil => rw [h'] at h1; simp at h1
  | cons a m => rw [h'] at h1; simp at h1; exact ⟨m, by rw [← h1]; exact h'⟩
theorem lst_from (s : ByteArray) (k : Nat) : lst (s.extract k s.size) = (lst s).drop k := by
  have h := Lib.extract_mk (lst s) k s.size
  rw [Lib.mk_data] at h
  rw [lst, h]
  simp only []
  rw [List.take_of_length_le (by rw [List.length_drop, ← Lib.size_eq]; omega)]
theorem lst_cut (s : ByteArray) (k n : Nat) : lst (s.extract k n) = ((lst s).take n).drop k := by
  have h := Lib.extract_mk (lst s) k n
  rw [Lib.mk_data] at h
  rw [lst, h]
  simp only []
  rw [List.take_drop]
  by_cases hk : k ≤ n
  · rw [Nat.add_sub_cancel' hk]
  · rw [List.drop_of_length_le (by rw [List.length_take]; omega), List.drop_of_length_le (by rw [List.length_take]; omega)]
theorem lst_mk (l : List UInt8) : lst ⟨l.toArray⟩ = l := by simp [lst]
theorem lst_size (s : ByteArray) : (lst s).length = s.size := (Lib.size_eq s).symm
theorem idx_has (c : UInt8) : ∀ l : List UInt8, decide (0 ≤ Lib.indexByte l c) = l.contains c
  | [] => rfl
  | b :: l => by
    have ih := idx_has c l
    have hg := Lib.indexByte_ge l c
    unfold Lib.indexByte
    by_cases h : b = c
    · subst h; simp
    · have h' : (b == c) = false := by simpa using h
      have h'' : (c == b) = false := by simp; exact fun e => h e.symm
      rw [h', List.contains_cons, h'', Bool.false_or, ← ih]
      simp only [Bool.false_eq_true, ↓reduceIte]
      by_cases h1 : Lib.indexByte l c = -1
      · rw [h1]; rfl
      · have h1' : (Lib.indexByte l c == -1) = false := by simpa using h1
        rw [h1']
        simp only [Bool.false_eq_true, ↓reduceIte]
        rw [decide_eq_decide]
        omega
theorem u8_back (c : UInt8) : ((c.toNat : Int)).toNat.toUInt8 = c := by simp
theorem eq_u8 (a b : UInt8) (h : a = b) : ((a.toNat : Int) == (b.toNat : Int)) = true := by rw [h]; simp
theorem ne_u8 (a b : UInt8) (h : a ≠ b) : ((a.toNat : Int) == (b.toNat : Int)) = false := by
  rw [beq_eq_false_iff_ne]
  exact fun e => h (UInt8.toNat_inj.1 (by exact_mod_cast e))
theorem u8_is (c : UInt8) (k : Nat) (hk : k < 256) : (c == k.toUInt8) = ((c.toNat : Int) == (k : Int)) := by
  rw [Bool.eq_iff_iff, beq_iff_eq, beq_iff_eq]
  constructor
  · intro h; subst h; simp; omega
  · intro h; exact UInt8.toNat_inj.1 (by simp; omega)
theorem S_is (c : UInt8) : isS c = (((c.toNat : Int) == 32) || ((c.toNat : Int) == 9) || ((c.toNat : Int) == 10)) := by
  unfold isS
  rw [show (c == 32) = ((c.toNat : Int) == 32) from u8_is c 32 (by omega), show (c == 9) = ((c.toNat : Int) == 9) from u8_is c 9 (by omega), show (c == 10) = ((c.toNat : Int) == 10) from u8_is c 10 (by omega)]

set_option maxHeartbeats 1000000 in
theorem blank_any (c : UInt8) (w : World) : Calls Tryd.prog 47 #[.int .u8 c.toNat] w fun e w' => e = .returned (.bool (isS c)) ∧ w' = w := by
  have HB := Lib.hid (S_is c)
  generalize isS c = v at *
  go_enter Tryd.func47, Tryd.ntmps47
  go_wp2_with fail
  all_goals go_ret
  all_goals exact ⟨ret_bool (by rw [HB.out] <;> simp [*]), rfl⟩
set_option maxHeartbeats 1000000 in
theorem refBlank_any (c : UInt8) (w : World) : Calls Tryd.prog 49 #[.int .u8 c.toNat] w fun e w' => e = .returned (.bool (isS c)) ∧ w' = w := by
  have HB := Lib.hid (S_is c)
  generalize isS c = v at *
  go_enter Tryd.func49, Tryd.ntmps49
  go_wp2_with fail
  all_goals go_ret
  all_goals exact ⟨ret_bool (by rw [HB.out] <;> simp [*]), rfl⟩
set_option maxHeartbeats 1000000 in
theorem letter_any (c : UInt8) (w : World) : Calls Tryd.prog 43 #[.int .u8 c.toNat] w fun e w' => e = .returned (.bool (isL c)) ∧ w' = w := by
  have HB : Hid (isL c = ((decide (97 ≤ c.toNat) && decide (c.toNat ≤ 122)) || (decide (65 ≤ c.toNat) && decide (c.toNat ≤ 90)))) := rfl
  generalize isL c = v at *
  go_enter Tryd.func43, Tryd.ntmps43
  go_wp2_with fail
  all_goals go_ret
  all_goals exact ⟨ret_bool (by rw [HB.out, Bool.eq_iff_iff] <;> simp <;> omega), rfl⟩
set_option maxHeartbeats 1000000 in
theorem refLetter_any (c : UInt8) (w : World) : Calls Tryd.prog 22 #[.int .u8 c.toNat] w fun e w' => e = .returned (.bool (isL c)) ∧ w' = w := by
  have HB : Hid (isL c = ((decide (97 ≤ c.toNat) && decide (c.toNat ≤ 122)) || (decide (65 ≤ c.toNat) && decide (c.toNat ≤ 90)))) := rfl
  generalize isL c = v at *
  go_enter Tryd.func22, Tryd.ntmps22
  go_wp2_with fail
  all_goals go_ret
  all_goals exact ⟨ret_bool (by rw [HB.out, Bool.eq_iff_iff] <;> simp <;> omega), rfl⟩
set_option maxHeartbeats 1000000 in
theorem refDigit_any (c : UInt8) (w : World) : Calls Tryd.prog 34 #[.int .u8 c.toNat] w fun e w' => e = .returned (.bool (isD c)) ∧ w' = w := by
  have HB : Hid (isD c = (decide (48 ≤ c.toNat) && decide (c.toNat ≤ 57))) := rfl
  generalize isD c = v at *
  go_enter Tryd.func34, Tryd.ntmps34
  go_wp2_with fail
  all_goals go_ret
  all_goals exact ⟨ret_bool (by rw [HB.out, Bool.eq_iff_iff] <;> simp <;> omega), rfl⟩

set_option maxHeartbeats 1000000 in
theorem word_any (c : UInt8) (w : World) : Calls Tryd.prog 54 #[.int .u8 c.toNat] w fun e w' => e = .returned (.bool (isW c)) ∧ w' = w := by
  have HL := Lib.hid (letter_any c)
  have HB : Hid (isW c = (isL c || (decide (48 ≤ c.toNat) && decide (c.toNat ≤ 57)))) := rfl
  generalize isW c = v at *
  generalize isL c = a at *
  cases a
  all_goals
    go_enter Tryd.func54, Tryd.ntmps54
    go_wp2_with fail
    refine (HL.out _).mono ?_
    rintro e w1 ⟨rfl, rfl⟩
    go_wp2_with fail
    all_goals go_ret
    all_goals exact ⟨ret_bool (by rw [HB.out, Bool.eq_iff_iff] <;> simp <;> omega), rfl⟩
set_option maxHeartbeats 1000000 in
theorem name_any (c : UInt8) (w : World) : Calls Tryd.prog 62 #[.int .u8 c.toNat] w fun e w' => e = .returned (.bool (isN c)) ∧ w' = w := by
  have HL := Lib.hid (word_any c)
  have HB : Hid (isN c = (isW c || ((c.toNat : Int) == 45))) := show _ = _ from by
    unfold isN
    rw [show (c == 45) = ((c.toNat : Int) == 45) from u8_is c 45 (by omega)]
  generalize isN c = v at *
  generalize isW c = a at *
  cases a
  all_goals
    go_enter Tryd.func62, Tryd.ntmps62
    go_wp2_with fail
    refine (HL.out _).mono ?_
    rintro e w1 ⟨rfl, rfl⟩
    go_wp2_with fail
    all_goals go_ret
    all_goals exact ⟨ret_bool (by rw [HB.out] <;> simp [*]), rfl⟩
set_option maxHeartbeats 1000000 in
theorem first_any (c : UInt8) (w : World) : Calls Tryd.prog 63 #[.int .u8 c.toNat] w fun e w' => e = .returned (.bool (isF c)) ∧ w' = w := by
  have HL := Lib.hid (letter_any c)
  have HB : Hid (isF c = (isL c || ((c.toNat : Int) == 95) || ((c.toNat : Int) == 58))) := show _ = _ from by
    unfold isF
    rw [show (c == 95) = ((c.toNat : Int) == 95) from u8_is c 95 (by omega), show (c == 58) = ((c.toNat : Int) == 58) from u8_is c 58 (by omega)]
  generalize isF c = v at *
  generalize isL c = a at *
  cases a
  all_goals
    go_enter Tryd.func63, Tryd.ntmps63
    go_wp2_with fail
    refine (HL.out _).mono ?_
    rintro e w1 ⟨rfl, rfl⟩
    go_wp2_with fail
    all_goals go_ret
    all_goals exact ⟨ret_bool (by rw [HB.out] <;> simp [*]), rfl⟩
theorem has_any (cs : ByteArray) (c : UInt8) (w : World) : Calls Tryd.prog 66 #[.string cs, .int .u8 c.toNat] w fun e w' => (∃ i : Int, e = .returned (.int .i64 i) ∧ decide (0 ≤ i) = (lst cs).contains c) ∧ w' = w := by
  refine (Tryd.indexByte _ _ w).mono fun e w' ⟨h1, h2⟩ => ⟨⟨_, h1, ?_⟩, h2⟩
  rw [u8_back, idx_has]
set_option maxHeartbeats 1000000 in
theorem attr_any (c : UInt8) (w : World) : Calls Tryd.prog 64 #[.int .u8 c.toNat] w fun e w' => e = .returned (.bool (isA c)) ∧ w' = w := by
  have HL := Lib.hid (word_any c)
  have HI := Lib.hid (has_any { data := #[95, 46, 58, 45] } c)
  have HB : Hid (isA c = (isW c || (lst { data := #[95, 46, 58, 45] }).contains c)) := rfl
  generalize isA c = v at *
  generalize isW c = a at *
  generalize (lst { data := #[95, 46, 58, 45] }).contains c = b at *
  cases a
  · go_enter Tryd.func64, Tryd.ntmps64
    go_wp2_with fail
    refine (HL.out _).mono ?_
    rintro e w1 ⟨rfl, rfl⟩
    go_wp2_with fail
    refine (HI.out _).mono ?_
    rintro e w2 ⟨⟨i, rfl, hi⟩, rfl⟩
    have H2 := Lib.hid hi
    clear hi
    go_wp2_with fail
    go_ret
    exact ⟨ret_bool (by rw [HB.out, ← H2.out]; rfl), rfl⟩
  · go_enter Tryd.func64, Tryd.ntmps64
    go_wp2_with fail
    refine (HL.out _).mono ?_
    rintro e w1 ⟨rfl, rfl⟩
    go_wp2_with fail
    go_ret
    exact ⟨ret_bool (by rw [HB.out]; rfl), rfl⟩
set_option maxHeartbeats 1000000 in
theorem bare_any (c : UInt8) (w : World) : Calls Tryd.prog 79 #[.int .u8 c.toNat] w fun e w' => e = .returned (.bool (isV c)) ∧ w' = w := by
  have HL := Lib.hid (blank_any c)
  have HI := Lib.hid (has_any { data := #[34, 39, 61, 60, 62, 96] } c)
  have HB : Hid (isV c = (!isS c && !(lst { data := #[34, 39, 61, 60, 62, 96] }).contains c)) := rfl
  generalize isV c = v at *
  generalize isS c = a at *
  generalize (lst { data := #[34, 39, 61, 60, 62, 96] }).contains c = b at *
  cases a
  · go_enter Tryd.func79, Tryd.ntmps79
    go_wp2_with fail
    refine (HL.out _).mono ?_
    rintro e w1 ⟨rfl, rfl⟩
    go_wp2_with fail
    refine (HI.out _).mono ?_
    rintro e w2 ⟨⟨i, rfl, hi⟩, rfl⟩
    have H2 := Lib.hid hi
    clear hi
    go_wp2_with fail
    go_ret
    exact ⟨ret_bool (by rw [HB.out, ← H2.out, Bool.eq_iff_iff]; simp), rfl⟩
  · go_enter Tryd.func79, Tryd.ntmps79
    go_wp2_with fail
    refine (HL.out _).mono ?_
    rintro e w1 ⟨rfl, rfl⟩
    go_wp2_with fail
    go_ret
    exact ⟨ret_bool (by rw [HB.out]; rfl), rfl⟩

/-- What a loop goes by that counts bytes of a kind. -/
def NRel (p : UInt8 → Bool) (s : ByteArray) (i0 : Nat) (i : Value) (w wr : World) : Prop :=
  ∃ j : Nat, j ≤ s.size ∧ i = .int .i64 j ∧ upL p (lst s) j = upL p (lst s) i0 ∧ wr = w
/-- A function of the program that tells a kind of byte. -/
def Tells (K : Nat) (p : UInt8 → Bool) : Prop := (∀ args w, (callFunc K args).run Tryd.prog w = .ok (.enter K args) w) ∧ ∀ (c : UInt8) (w : World), Calls Tryd.prog K #[.int .u8 c.toNat] w fun e w' => e = .returned (.bool (p c)) ∧ w' = w
set_option maxHeartbeats 2000000 in
theorem row_any (K : Nat) (p : UInt8 → Bool) (hK : Tells K p) (s : ByteArray) (hs : s.size ≤ 1000000) (w : World) : Calls Tryd.prog 42 #[.string s, .func (.func K) #[] #[]] w fun e w' => e = .returned (.int .i64 (upL p (lst s) 0)) ∧ w' = w := by
  obtain ⟨eK, hK⟩ := hK
  have HK := Lib.hid hK
  clear hK
  go_enter Tryd.func42, Tryd.ntmps42
  go_wp2_with fail
  go_loopw [5] (fun i wr => NRel p s 0 i w wr) (fun i _ => s.size - (intOf i).toNat)
  case atStart => exact ⟨0, Nat.zero_le _, rfl, rfl, rfl⟩
  case round =>
    obtain ⟨j, hj, rfl, hl, rfl⟩ := hrel
    have HL := Lib.hid hl
    clear hl
    by_cases hlt : j < s.size
    · have hx := Lib.data_getElem? s j hlt
      have HC := Lib.hid (HK.out (s[j]'hlt))
      cases hp : p (s[j]'hlt) with
      | true =>
        have HN := Lib.hid (upL_step p (lst s) j _ hx hp)
        rw [hp] at HC
        clear hx hp
        go_wp2_with fail
        refine (HC.out _).mono ?_
        rintro e w1 ⟨rfl, rfl⟩
        go_wp2_with fail
        go_roundw
        case rel => exact ⟨j + 1, by omega, by go_num, HN.out.trans HL.out, rfl⟩
        case measure => simp [intOf]; omega
      | false =>
        have HN := Lib.hid (upL_stop p (lst s) j (fun x h => by rw [hx] at h; cases h; exact hp))
        rw [hp] at HC
        clear hx hp
        go_wp2_with fail
        refine (HC.out _).mono ?_
        rintro e w1 ⟨rfl, rfl⟩
        go_wp2_with fail
        go_ret
        exact ⟨ret_int (by rw [← HL.out, HN.out]), rfl⟩
    · have HN := Lib.hid (upL_stop p (lst s) j (fun x h => by rw [List.getElem?_eq_none (by rw [lst_size]; omega)] at h; cases h))
      go_wp2_with fail
      go_ret
      exact ⟨ret_int (by rw [← HL.out, HN.out]), rfl⟩
theorem tells_letter : Tells 43 isL := ⟨fun args w => by kernel_rfl, letter_any⟩
theorem tells_blank : Tells 47 isS := ⟨fun args w => by kernel_rfl, blank_any⟩
theorem tells_word : Tells 54 isW := ⟨fun args w => by kernel_rfl, word_any⟩
theorem tells_name : Tells 62 isN := ⟨fun args w => by kernel_rfl, name_any⟩
theorem tells_first : Tells 63 isF := ⟨fun args w => by kernel_rfl, first_any⟩
theorem tells_attr : Tells 64 isA := ⟨fun args w => by kernel_rfl, attr_any⟩
theorem tells_bare : Tells 79 isV := ⟨fun args w => by kernel_rfl, bare_any⟩
end Go.Proofs.YtdnnjakggopdoaaDoor
