/-
  PROVED: contracts of mark.blank, mark.beginsWith, mark.endsOrBlank, mark.row, mark.rowAlone and of the document's own blank, many, blanks. Conditions: the text has at most 1000000 bytes, where a loop goes through it.
-/
import Derived.Test.YtinmefdcgiiejaaDoorShelf
import Derived.WalkKit
import Derived.ProofKit
import Derived.OpenShut
import Derived.ShutString
import Derived.IntWalk
import Derived.WalkSpells
import Derived.WalkLawsBesides
import Derived.Deep.QuietTactic
import Derived.BigQuiet
import Derived.WalkSmall
import Derived.OwnWalk
import Derived.Lib.Hide
namespace Go.Proofs.YtinmefdcgiiejaaDoor
open Go.ChangeShapes Go.WideShapes Go.ChangeAt Go.RowKit
set_option linter.unusedVariables false

/-- A text's bytes. -/
abbrev lst (s : ByteArray) : List UInt8 := s.data.toList
theorem ret_int {k : IntKind} {a b : Int} (h : a = b) : Ending.returned (.int k a) = .returned (.int k b) := by rw [h]
theorem ret_bool {a b : Bool} (h : a = b) : Ending.returned (.bool a) = .returned (.bool b) := by rw [h]
theorem chain {B : Nat} {a b c : World} (hB : B ≤ a.heap.size) (h : Below B a b) (k : Below b.heap.size b c) : Below B a c := h.trans (k.mono (Nat.le_trans hB h.size))
theorem emp_yes (s : ByteArray) (h : s.size = 0) : s.toList.isEmpty = true := by
  rw [Lib.toList_data]
  cases h' : s.data.toList with
  | nil => rfl
  | cons _ _ => have := Lib.size_eq s; rw [h', List.length_cons] at this; omega
theorem emp_no (s : ByteArray) (h : 0 < s.size) : s.toList.isEmpty = false := by
  rw [Lib.toList_data]
  cases h' : s.data.toList with
  | nil => have := Lib.size_eq s; rw [h', List.length_nil] at this; omega
  | cons _ _ => rfl
theorem lst_nil (s : ByteArray) (h : s.size = 0) : lst s = [] := List.eq_nil_of_length_eq_zero (by rw [← Lib.size_eq]; exact h)
theorem lst_cons (s : ByteArray) (h : 0 < s.size) : ∃ m, lst s = (s[0]'h) :: m := by
  have h1 := Lib.data_getElem? s 0 h
  cases h' : s.data.toList with
  | nil => rw [h'] at h1; simp at h1
  | cons a m => rw [h'] at h1; simp at h1; exact ⟨m, by rw [← h1]; exact h'⟩
theorem lst_from (s : ByteArray) (k : Nat) : lst (s.extract k s.size) = (lst s).drop k := by
  have h := Lib.extract_mk (lst s) k s.size
  rw [Lib.mk_data] at h
  rw [lst, h]
  simp only []
  rw [List.take_of_length_le (by rw [List.length_drop, ← Lib.size_eq]; omega)]
theorem lst_cut (s : ByteArray) (k n : Nat) : lst (s.extract k n) = ((lst s).take n).drop k := by
  have h := Lib.extract_mk (lst s) k n
  rw [Lib.mk_data] at h
  rw [lst, h]
  simp only []
  rw [List.take_drop]
  by_cases hk : k ≤ n
  · rw [Nat.add_sub_cancel' hk]
  · rw [List.drop_of_length_le (by rw [List.length_take]; omega), List.drop_of_length_le (by rw [List.length_take]; omega)]
theorem lst_mk (l : List UInt8) : lst ⟨l.toArray⟩ = l := by simp [lst]
theorem lst_size (s : ByteArray) : (lst s).length = s.size := (Lib.size_eq s).symm

theorem idx_has (c : UInt8) : ∀ l : List UInt8, decide (0 ≤ Lib.indexByte l c) = l.contains c
  | [] => rfl
  | b :: l => by
    have ih := idx_has c l
    have hg := Lib.indexByte_ge l c
    unfold Lib.indexByte
    by_cases h : b = c
    · subst h; simp
    · have h' : (b == c) = false := by simpa using h
      have h'' : (c == b) = false := by simp; exact fun e => h e.symm
      rw [h', List.contains_cons, h'', Bool.false_or, ← ih]
      simp only [Bool.false_eq_true, ↓reduceIte]
      by_cases h1 : Lib.indexByte l c = -1
      · rw [h1]; rfl
      · have h1' : (Lib.indexByte l c == -1) = false := by simpa using h1
        rw [h1']
        simp only [Bool.false_eq_true, ↓reduceIte]
        rw [decide_eq_decide]
        omega
theorem u8_back (c : UInt8) : ((c.toNat : Int)).toNat.toUInt8 = c := by simp
theorem has_B (c : UInt8) : [32, 9].contains c = isB c := by
  simp only [isB, List.contains, List.elem]
  cases (c == 32) <;> cases (c == 9) <;> rfl

theorem blank_any (c : UInt8) (w : World) : Calls Tryd.prog 25 #[.int .u8 c.toNat] w fun e w' => e = .returned (.bool (isB c)) ∧ w' = w := by
  have H : Hid (∀ W, Calls Tryd.prog 36 #[.string { data := #[32, 9] }, .int .u8 c.toNat] W fun e w' => (∃ i : Int, e = .returned (.int .i64 i) ∧ decide (0 ≤ i) = isB c) ∧ w' = W) := fun W => by
    refine (Tryd.indexByte _ _ W).mono fun e w' ⟨h1, h2⟩ => ⟨⟨_, h1, ?_⟩, h2⟩
    rw [u8_back, idx_has]
    exact has_B c
  go_enter Tryd.func25, Tryd.ntmps25
  go_wp2_with fail
  refine (H.out _).mono ?_
  rintro e w1 ⟨⟨i, rfl, hi⟩, rfl⟩
  have HI := Lib.hid hi
  clear hi
  go_wp2_with fail
  go_ret
  exact ⟨ret_bool HI.out, rfl⟩

theorem begins_any (s cs : ByteArray) (w : World) : Calls Tryd.prog 24 #[.string s, .string cs] w fun e w' => e = .returned (.bool (begL (lst s) (lst cs))) ∧ w' = w := by
  by_cases h0 : 0 < s.size
  · have he := emp_no s h0
    obtain ⟨m, hm⟩ := lst_cons s h0
    have H : Hid (∀ W, Calls Tryd.prog 36 #[.string cs, .int .u8 (s[0]'h0).toNat] W fun e w' => (∃ i : Int, e = .returned (.int .i64 i) ∧ decide (0 ≤ i) = begL (lst s) (lst cs)) ∧ w' = W) := fun W => by
      refine (Tryd.indexByte _ _ W).mono fun e w' ⟨h1, h2⟩ => ⟨⟨_, h1, ?_⟩, h2⟩
      rw [u8_back, idx_has, hm]
      rfl
    generalize begL (lst s) (lst cs) = v at *
    clear hm
    go_enter Tryd.func24, Tryd.ntmps24
    go_wp2_with fail
    refine (H.out _).mono ?_
    rintro e w1 ⟨⟨i, rfl, hi⟩, rfl⟩
    have HI := Lib.hid hi
    clear hi
    go_wp2_with fail
    go_ret
    exact ⟨ret_bool HI.out, rfl⟩
  · have he := emp_yes s (by omega)
    rw [lst_nil s (by omega)]
    go_enter Tryd.func24, Tryd.ntmps24
    go_wp2_with fail
    go_ret
    exact ⟨rfl, rfl⟩

theorem ends_any (s : ByteArray) (w : World) : Calls Tryd.prog 31 #[.string s] w fun e w' => e = .returned (.bool (endsL (lst s))) ∧ w' = w := by
  by_cases h0 : 0 < s.size
  · have he := emp_no s h0
    obtain ⟨m, hm⟩ := lst_cons s h0
    have H : Hid (∀ W, Calls Tryd.prog 25 #[.int .u8 (s[0]'h0).toNat] W fun e w' => e = .returned (.bool (endsL (lst s))) ∧ w' = W) := fun W => by
      rw [hm]
      exact blank_any _ W
    generalize endsL (lst s) = v at *
    clear hm
    go_enter Tryd.func31, Tryd.ntmps31
    go_wp2_with fail
    refine (H.out _).mono ?_
    rintro e w1 ⟨rfl, rfl⟩
    go_wp2_with fail
    go_ret
    exact ⟨rfl, rfl⟩
  · have he := emp_yes s (by omega)
    rw [lst_nil s (by omega)]
    go_enter Tryd.func31, Tryd.ntmps31
    go_wp2_with fail
    go_ret
    exact ⟨rfl, rfl⟩

/-- What a loop that counts one byte goes by. -/
def NRel (p : UInt8 → Bool) (s : ByteArray) (i0 : Nat) (i : Value) (w wr : World) : Prop :=
  ∃ j : Nat, j ≤ s.size ∧ i = .int .i64 j ∧ upL p (lst s) j = upL p (lst s) i0 ∧ wr = w
theorem eq_u8 (a b : UInt8) (h : a = b) : ((a.toNat : Int) == (b.toNat : Int)) = true := by rw [h]; simp
theorem ne_u8 (a b : UInt8) (h : a ≠ b) : ((a.toNat : Int) == (b.toNat : Int)) = false := by
  rw [beq_eq_false_iff_ne]
  exact fun e => h (UInt8.toNat_inj.1 (by exact_mod_cast e))

set_option maxHeartbeats 1000000 in
theorem row_any (s : ByteArray) (c : UInt8) (hs : s.size ≤ 1000000) (w : World) : Calls Tryd.prog 30 #[.string s, .int .u8 c.toNat] w fun e w' => e = .returned (.int .i64 (cnt (lst s) c)) ∧ w' = w := by
  rw [cnt_up]
  go_enter Tryd.func30, Tryd.ntmps30
  go_wp2_with fail
  go_loopw [5] (fun i wr => NRel (· == c) s 0 i w wr) (fun i _ => s.size - (intOf i).toNat)
  case atStart => exact ⟨0, Nat.zero_le _, rfl, rfl, rfl⟩
  case round =>
    obtain ⟨j, hj, rfl, hl, rfl⟩ := hrel
    have HL := Lib.hid hl
    clear hl
    by_cases hlt : j < s.size
    · have hx := Lib.data_getElem? s j hlt
      by_cases he : (s[j]'hlt) = c
      · have c1 := eq_u8 _ _ he
        have HN := Lib.hid (upL_step (· == c) (lst s) j _ hx (by simpa using he))
        clear hx he
        go_wp2_with fail
        go_roundw
        case rel => exact ⟨j + 1, by omega, by go_num, HN.out.trans HL.out, rfl⟩
        case measure => simp [intOf]; omega
      · have c1 := ne_u8 _ _ he
        have HN := Lib.hid (upL_stop (· == c) (lst s) j (fun x h => by rw [hx] at h; cases h; simpa using he))
        clear hx he
        go_wp2_with fail
        go_ret
        exact ⟨ret_int (by rw [← HL.out, HN.out]), rfl⟩
    · have HN := Lib.hid (upL_stop (· == c) (lst s) j (fun x h => by rw [List.getElem?_eq_none (by rw [lst_size]; omega)] at h; cases h))
      go_wp2_with fail
      go_ret
      exact ⟨ret_int (by rw [← HL.out, HN.out]), rfl⟩

set_option maxHeartbeats 1000000 in
theorem many_any (s : ByteArray) (c : UInt8) (hs : s.size ≤ 1000000) (w : World) : Calls Tryd.prog 28 #[.string s, .int .u8 c.toNat] w fun e w' => e = .returned (.int .i64 (cnt (lst s) c)) ∧ w' = w := by
  rw [cnt_up]
  go_enter Tryd.func28, Tryd.ntmps28
  go_wp2_with fail
  go_loopw [5] (fun i wr => NRel (· == c) s 0 i w wr) (fun i _ => s.size - (intOf i).toNat)
  case atStart => exact ⟨0, Nat.zero_le _, rfl, rfl, rfl⟩
  case round =>
    obtain ⟨j, hj, rfl, hl, rfl⟩ := hrel
    have HL := Lib.hid hl
    clear hl
    by_cases hlt : j < s.size
    · have hx := Lib.data_getElem? s j hlt
      by_cases he : (s[j]'hlt) = c
      · have c1 := eq_u8 _ _ he
        have HN := Lib.hid (upL_step (· == c) (lst s) j _ hx (by simpa using he))
        clear hx he
        go_wp2_with fail
        go_roundw
        case rel => exact ⟨j + 1, by omega, by go_num, HN.out.trans HL.out, rfl⟩
        case measure => simp [intOf]; omega
      · have c1 := ne_u8 _ _ he
        have HN := Lib.hid (upL_stop (· == c) (lst s) j (fun x h => by rw [hx] at h; cases h; simpa using he))
        clear hx he
        go_wp2_with fail
        go_ret
        exact ⟨ret_int (by rw [← HL.out, HN.out]), rfl⟩
    · have HN := Lib.hid (upL_stop (· == c) (lst s) j (fun x h => by rw [List.getElem?_eq_none (by rw [lst_size]; omega)] at h; cases h))
      go_wp2_with fail
      go_ret
      exact ⟨ret_int (by rw [← HL.out, HN.out]), rfl⟩

theorem isB_yes (c : UInt8) (h : isB c = true) : (c.toNat : Int) = 32 ∨ (c.toNat : Int) = 9 := by
  simp [isB] at h
  rcases h with rfl | rfl
  · exact .inl rfl
  · exact .inr rfl
theorem isB_no (c : UInt8) (h : isB c = false) : (c.toNat : Int) ≠ 32 ∧ (c.toNat : Int) ≠ 9 := by
  simp [isB] at h
  exact ⟨fun e => h.1 (UInt8.toNat_inj.1 (by simpa using (by omega : c.toNat = 32))), fun e => h.2 (UInt8.toNat_inj.1 (by simpa using (by omega : c.toNat = 9)))⟩

theorem refBlank_any (c : UInt8) (w : World) : Calls Tryd.prog 26 #[.int .u8 c.toNat] w fun e w' => e = .returned (.bool (isB c)) ∧ w' = w := by
  have HB : Hid (isB c = (((c.toNat : Int) == 32) || ((c.toNat : Int) == 9))) := show _ = _ from by
    rw [Bool.eq_iff_iff, Bool.or_eq_true]
    constructor
    · intro h; rcases isB_yes c h with h | h <;> simp [h]
    · intro h
      cases hb : isB c with
      | true => rfl
      | false => have := isB_no c hb; simp at h; omega
  generalize isB c = v at *
  go_enter Tryd.func26, Tryd.ntmps26
  go_wp2_with fail
  all_goals go_ret
  all_goals exact ⟨ret_bool (by rw [HB.out] <;> simp [*]), rfl⟩

/-- What the loop of the document's blanks goes by. -/
def ARel (s : ByteArray) (i0 : Nat) (i : Value) (w wr : World) : Prop :=
  ∃ j : Nat, j ≤ s.size ∧ i = .int .i64 j ∧ ((lst s).drop j).all isB = ((lst s).drop i0).all isB ∧ wr = w
theorem all_step (l : List UInt8) (j : Nat) (x : UInt8) (h : l[j]? = some x) : (l.drop j).all isB = (isB x && (l.drop (j + 1)).all isB) := by
  obtain ⟨hj, rfl⟩ := List.getElem?_eq_some_iff.1 h
  rw [List.drop_eq_getElem_cons hj, List.all_cons]

set_option maxHeartbeats 1000000 in
theorem blanks_any (s : ByteArray) (k : Nat) (hk : k ≤ s.size) (hs : s.size ≤ 1000000) (w : World) : Calls Tryd.prog 29 #[.string s, .int .i64 k] w fun e w' => e = .returned (.bool (((lst s).drop k).all isB)) ∧ w' = w := by
  go_enter Tryd.func29, Tryd.ntmps29
  go_wp2_with fail
  go_loopw [5] (fun i wr => ARel s k i w wr) (fun i _ => s.size - (intOf i).toNat)
  case atStart => exact ⟨k, hk, rfl, rfl, rfl⟩
  case round =>
    obtain ⟨j, hj, rfl, hl, rfl⟩ := hrel
    have HL := Lib.hid hl
    clear hl
    by_cases hlt : j < s.size
    · have hx := Lib.data_getElem? s j hlt
      have HN := Lib.hid (all_step (lst s) j _ hx)
      have HB := Lib.hid (refBlank_any (s[j]'hlt))
      clear hx
      cases hb : isB (s[j]'hlt) with
      | true =>
        rw [hb] at HN HB
        clear hb
        go_wp2_with fail
        refine (HB.out _).mono ?_
        rintro e w1 ⟨rfl, rfl⟩
        go_wp2_with fail
        go_roundw
        case rel => exact ⟨j + 1, by omega, by go_num, by rw [← HL.out, HN.out, Bool.true_and], rfl⟩
        case measure => simp [intOf]; omega
      | false =>
        rw [hb] at HN HB
        clear hb
        go_wp2_with fail
        refine (HB.out _).mono ?_
        rintro e w1 ⟨rfl, rfl⟩
        go_wp2_with fail
        go_ret
        exact ⟨ret_bool (by rw [← HL.out, HN.out, Bool.false_and]), rfl⟩
    · have HN : Hid (((lst s).drop j).all isB = true) := show _ = _ from by rw [List.drop_of_length_le (by rw [lst_size]; omega)]; rfl
      go_wp2_with fail
      go_ret
      exact ⟨ret_bool (by rw [← HL.out, HN.out]), rfl⟩

theorem trimLeft_B (l : List UInt8) : Lib.trimLeftS l [32, 9] = l.dropWhile isB := by
  unfold Lib.trimLeftS
  congr 1
  funext b
  exact has_B b
theorem trimRight_B (l : List UInt8) : Lib.trimRightS l [32, 9] = trimR isB l := by
  unfold Lib.trimRightS trimR
  congr 2
  funext b
  exact has_B b
theorem trim_B (l : List UInt8) : Lib.trimS l [32, 9] = trimB l := by
  unfold Lib.trimS trimB
  rw [trimRight_B, trimLeft_B]
theorem trimRight_h (l : List UInt8) : Lib.trimRightS l [35] = trimR (· == 35) l := by
  rw [Lib.trimRightS_one]
  rfl
theorem left_any (s : ByteArray) (w : World) : Calls Tryd.prog 32 #[.string s, .string { data := #[32, 9] }] w fun e w' => e = .returned (.string ⟨((lst s).dropWhile isB).toArray⟩) ∧ Below w.heap.size w w' := by
  have h := Tryd.trimLeft s { data := #[32, 9] } (by decide) (by decide) w
  rw [show (({ data := #[32, 9] } : ByteArray).data.toList) = [32, 9] from rfl, trimLeft_B] at h
  exact h
theorem right_any (s : ByteArray) (hs : s.size ≤ 1000000) (w : World) : Calls Tryd.prog 34 #[.string s, .string { data := #[32, 9] }] w fun e w' => e = .returned (.string ⟨(trimR isB (lst s)).toArray⟩) ∧ Below w.heap.size w w' := by
  have h := Tryd.trimRight s { data := #[32, 9] } hs (by decide) (by decide) w
  rw [show (({ data := #[32, 9] } : ByteArray).data.toList) = [32, 9] from rfl, trimRight_B] at h
  exact h
theorem righth_any (s : ByteArray) (hs : s.size ≤ 1000000) (w : World) : Calls Tryd.prog 34 #[.string s, .string { data := #[35] }] w fun e w' => e = .returned (.string ⟨(trimR (· == 35) (lst s)).toArray⟩) ∧ Below w.heap.size w w' := by
  have h := Tryd.trimRight s { data := #[35] } hs (by decide) (by decide) w
  rw [show (({ data := #[35] } : ByteArray).data.toList) = [35] from rfl, trimRight_h] at h
  exact h
theorem both_any (s : ByteArray) (hs : s.size ≤ 1000000) (w : World) : Calls Tryd.prog 35 #[.string s, .string { data := #[32, 9] }] w fun e w' => e = .returned (.string ⟨(trimB (lst s)).toArray⟩) ∧ Below w.heap.size w w' := by
  have h := Tryd.trim s { data := #[32, 9] } hs (by decide) (by decide) w
  rw [show (({ data := #[32, 9] } : ByteArray).data.toList) = [32, 9] from rfl, trim_B] at h
  exact h

theorem drop_all (l : List UInt8) : (l.dropWhile isB).isEmpty = l.all isB := by
  induction l with
  | nil => rfl
  | cons x l ih =>
    rw [List.dropWhile_cons, List.all_cons]
    cases h : isB x with
    | true => simpa using ih
    | false => simp

theorem alone_any (s : ByteArray) (c : UInt8) (hs : s.size ≤ 1000000) (w : World) : Calls Tryd.prog 27 #[.string s, .int .u8 c.toNat] w fun e w' => e = .returned (.int .i64 (aloneL (lst s) c)) ∧ Below w.heap.size w w' := by
  have HR := Lib.hid (row_any s c hs)
  have hn : cnt (lst s) c ≤ s.size := by rw [← lst_size]; exact cnt_le _ _
  have HT : Hid (∀ W, Calls Tryd.prog 32 #[.string (s.extract (cnt (lst s) c) s.size), .string { data := #[32, 9] }] W fun e w' => (∃ t : ByteArray, e = .returned (.string t) ∧ t.toList.isEmpty = ((lst s).drop (cnt (lst s) c)).all isB) ∧ Below W.heap.size W w') := fun W => by
    refine (left_any _ W).mono fun e w' ⟨h1, h2⟩ => ⟨⟨_, h1, ?_⟩, h2⟩
    rw [Lib.toList_data, lst_from, ← drop_all]
  unfold aloneL
  generalize cnt (lst s) c = n at *
  cases hb : ((lst s).drop n).all isB with
  | true =>
    rw [hb] at HT
    clear hb
    go_enter Tryd.func27, Tryd.ntmps27
    go_wp2_with fail
    refine (HR.out _).mono ?_
    rintro e w1 ⟨rfl, rfl⟩
    go_wp2_with fail
    refine (HT.out _).mono ?_
    rintro e w2 ⟨⟨t, rfl, ht⟩, hb⟩
    have HB := Lib.hid hb
    clear hb
    go_wp2_with fail
    go_ret
    exact ⟨rfl, HB.out⟩
  | false =>
    rw [hb] at HT
    clear hb
    go_enter Tryd.func27, Tryd.ntmps27
    go_wp2_with fail
    refine (HR.out _).mono ?_
    rintro e w1 ⟨rfl, rfl⟩
    go_wp2_with fail
    refine (HT.out _).mono ?_
    rintro e w2 ⟨⟨t, rfl, ht⟩, hb⟩
    have HB := Lib.hid hb
    clear hb
    go_wp2_with fail
    go_ret
    exact ⟨rfl, HB.out⟩
end Go.Proofs.YtinmefdcgiiejaaDoor
