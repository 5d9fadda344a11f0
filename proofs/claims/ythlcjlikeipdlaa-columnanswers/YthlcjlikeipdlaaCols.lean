/-
  PROVED: contracts of column.bounded, column.indents, column.columns, column.Width, column.Indent, column.Drop and of the document's own begin, wide, Width, Indent, Drop: both sides answer 'wid', 'col', 'ind', 'drp'. Conditions: the text's length is at most 1000000 bytes, where a loop goes through it.
-/
import Derived.Test.YthlcjlikeipdlaaRows
import Derived.Test.YthlcjlikeipdlaaColPure
import Derived.WalkKit
import Derived.ProofKit
import Derived.OpenShut
import Derived.ShutString
import Derived.IntWalk
import Derived.WalkSpells
import Derived.WalkLawsBesides
import Derived.Deep.QuietTactic
import Derived.BigQuiet
import Derived.WalkSmall
import Derived.Lib.Hide
namespace Go.Proofs.Ythlcjlikeipdlaa
open Go.ChangeShapes Go.WideShapes Go.ChangeAt Go.RowKit
set_option linter.unusedVariables false

theorem ret_int {k : IntKind} {a b : Int} (h : a = b) : Ending.returned (.int k a) = .returned (.int k b) := by rw [h]
theorem ret2_int {a b c d : Int} (h : a = c) (k : b = d) : Ending.returned (.tuple #[.int .i64 a, .int .i64 b]) = .returned (.tuple #[.int .i64 c, .int .i64 d]) := by rw [h, k]
theorem ret3_int {a b c d e f : Int} (h : a = d) (k : b = e) (l : c = f) : Ending.returned (.tuple #[.int .i64 a, .int .i64 b, .int .i64 c]) = .returned (.tuple #[.int .i64 d, .int .i64 e, .int .i64 f]) := by rw [h, k, l]

theorem bounded_any (c : Int) (hc : -9223372036854775808 ≤ c) (hc' : c ≤ 9223372036854775807) (w : World) :
    Calls Try.prog 17 #[.int .i64 c] w fun e w' => e = .returned (.int .i64 (bnd c)) ∧ w = w' := by
  have hb : ((bnd c : Nat) : Int) = min (max c 0) 1073741824 := by
    unfold bnd
    repeat' split
    all_goals omega
  have HB := Lib.hid hb
  clear hb
  go_enter Try.func17, Try.ntmps17
  go_wp2_with fail
  all_goals
    go_ret
    exact ⟨ret_int (by rw [HB.out]; omega), rfl⟩
theorem begin_any (c : Int) (w : World) :
    Calls Try.prog 15 #[.int .i64 c] w fun e w' => e = .returned (.int .i64 (bnd c)) ∧ w = w' := by
  unfold bnd
  by_cases h0 : c < 0
  · rw [if_pos h0]
    go_enter Try.func15, Try.ntmps15
    go_wp2_with fail
    go_ret
    exact ⟨rfl, rfl⟩
  · rw [if_neg h0]
    by_cases h1 : 1073741824 < c
    · rw [if_pos h1]
      go_enter Try.func15, Try.ntmps15
      go_wp2_with fail
      go_ret
      exact ⟨rfl, rfl⟩
    · rw [if_neg h1]
      go_enter Try.func15, Try.ntmps15
      go_wp2_with fail
      go_ret
      exact ⟨ret_int (by omega), rfl⟩
theorem columns_any (b a : Nat) (ha : a ≤ 4000000000) (w : World) :
    Calls Try.prog 18 #[.int .u8 b, .int .i64 a] w fun e w' => e = .returned (.int .i64 (wd b a)) ∧ w = w' := by
  unfold wd
  by_cases h : b = 9
  · rw [if_pos h]
    subst h
    go_enter Try.func18, Try.ntmps18
    go_wp2_with fail
    go_ret
    exact ⟨ret_int (by omega), rfl⟩
  · rw [if_neg h]
    have c1 : ((b : Int) == 9) = false := by simp; omega
    go_enter Try.func18, Try.ntmps18
    go_wp2_with fail
    go_ret
    exact ⟨rfl, rfl⟩
theorem wide_any (b a : Nat) (ha : a ≤ 4000000000) (w : World) :
    Calls Try.prog 16 #[.int .u8 b, .int .i64 a] w fun e w' => e = .returned (.int .i64 (wd b a)) ∧ w = w' := by
  unfold wd
  by_cases h : b = 9
  · rw [if_pos h]
    subst h
    go_enter Try.func16, Try.ntmps16
    go_wp2_with fail
    go_ret
    exact ⟨ret_int (by omega), rfl⟩
  · rw [if_neg h]
    have c1 : ((b : Int) == 9) = false := by simp; omega
    go_enter Try.func16, Try.ntmps16
    go_wp2_with fail
    go_ret
    exact ⟨rfl, rfl⟩
theorem indents_any (b : Nat) (w : World) :
    Calls Try.prog 14 #[.int .u8 b] w fun e w' => e = .returned (.bool (decide (b = 32 ∨ b = 9))) ∧ w = w' := by
  by_cases h1 : b = 32
  · subst h1
    go_enter Try.func14, Try.ntmps14
    go_wp2_with fail
    go_ret
    exact ⟨rfl, rfl⟩
  · by_cases h2 : b = 9
    · subst h2
      go_enter Try.func14, Try.ntmps14
      go_wp2_with fail
      go_ret
      exact ⟨rfl, rfl⟩
    · have c1 : ((b : Int) == 32) = false := by simp; omega
      have c2 : ((b : Int) == 9) = false := by simp; omega
      have e1 : decide (b = 32 ∨ b = 9) = false := by simp; omega
      rw [e1]
      go_enter Try.func14, Try.ntmps14
      go_wp2_with fail
      go_ret
      exact ⟨rfl, rfl⟩

/-- What Width's loop goes by. -/
def WRel (s : ByteArray) (c : Nat) (i a : Value) (w wr : World) : Prop :=
  ∃ p x : Nat, p ≤ s.size ∧ i = .int .i64 p ∧ a = .int .i64 x ∧ x ≤ c + 4 * p ∧ wid s p x = wid s 0 c ∧ wr = w

set_option maxHeartbeats 1000000 in
theorem width_any (s : ByteArray) (c : Int) (hs : s.size ≤ 200000) (hc : -9223372036854775808 ≤ c) (hc' : c ≤ 9223372036854775807) (w : World) :
    Calls Try.prog 12 #[.string s, .int .i64 c] w fun e w' => e = .returned (.int .i64 ((wid s 0 (bnd c) : Int) - bnd c)) ∧ w = w' := by
  have hbd := bnd_le c
  have HB := Lib.hid (bounded_any c hc hc')
  generalize bnd c = b at *
  have hw := wid_bd s _ 0 b rfl
  go_enter Try.func12, Try.ntmps12
  go_wp2_with fail
  refine (HB.out _).mono ?_
  rintro e w1 ⟨rfl, rfl⟩
  go_wp2_with fail
  go_loopw [13, 6] (fun i a wr => WRel s b i a w wr) (fun i _ _ => s.size - (intOf i).toNat)
  case atStart => exact ⟨0, b, Nat.zero_le _, rfl, rfl, by omega, rfl, rfl⟩
  case round =>
    obtain ⟨p, x, hp, rfl, rfl, hx, hl, rfl⟩ := hrel
    have HL := Lib.hid hl
    clear hl
    by_cases hlt : p < s.size
    · have hn := (s[p]'hlt).toNat_lt
      have hd := wd_bd (s[p]'hlt).toNat x
      have HN := Lib.hid (wid_in s p x hlt)
      rw [bt_at s p hlt] at HN
      go_wp2_with fail
      refine (columns_any (s[p]'hlt).toNat x (by omega) _).mono ?_
      rintro e w1 ⟨rfl, rfl⟩
      go_wp2_with fail
      go_roundw
      case rel => exact ⟨p + 1, x + wd (s[p]'hlt).toNat x, by omega, by go_num, by go_num, by omega, HN.out.symm.trans HL.out, rfl⟩
      case measure => simp [intOf]; omega
    · have hx' : Hid (wid s 0 b = x) := by rw [← HL.out]; exact wid_out s p x (by omega)
      go_wp2_with fail
      go_ret
      exact ⟨ret_int (by rw [hx'.out]), rfl⟩
end Go.Proofs.Ythlcjlikeipdlaa
