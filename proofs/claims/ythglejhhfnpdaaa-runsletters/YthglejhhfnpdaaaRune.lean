/-
  PROVED: contracts of text.Rune: at an offset within a text it answers the model's decoding of the character there, beyond it 0 and 0; nothing that was there before the call has turned. Conditions: the text's length fits an int.
-/
import Derived.Test.YthglejhhfnpdaaaRows
import Derived.WalkKit
import Derived.ProofKit
import Derived.OpenShut
import Derived.ShutString
import Derived.WalkSpells
import Derived.WalkLawsBesides
import Derived.Deep.QuietTactic
import Derived.BigQuiet
import Derived.Lib.Hide
import Derived.Lib.DecodeNEq
import Derived.Lib.RuneCountTail
import Derived.IntWalk
namespace Go.Proofs.Ythglejhhfnpdaaa
open Go.ChangeShapes Go.WideShapes Go.ChangeAt Go.RowKit
set_option linter.unusedVariables false

theorem dec_bd (s : ByteArray) (p : Nat) (h : p < s.size) : 1 ≤ (Utf8.decode s p).2 ∧ (Utf8.decode s p).2 ≤ 4 ∧ p + (Utf8.decode s p).2 ≤ s.size ∧ (Utf8.decode s p).1 ≤ 1114111 := by
  rw [Lib.decode_at]
  have h0 := (s.get! p).toNat_lt
  generalize (s.get! p).toNat = b0 at *
  generalize (s.get! (p+1)).toNat = b1
  generalize (s.get! (p+2)).toNat = b2
  generalize (s.get! (p+3)).toNat = b3
  unfold Lib.decodeN
  repeat' split
  all_goals simp only []
  all_goals omega

theorem ret2_int {a b c d : Int} (h : a = c) (k : b = d) : Ending.returned (.tuple #[.int .i64 a, .int .i64 b]) = .returned (.tuple #[.int .i64 c, .int .i64 d]) := by rw [h, k]

theorem iterPos_drewN (w : World) (n : Nat) (s : ByteArray) (p : Nat) : ((w.drewN n).iter s p).iterPos w.heap.size = p := World.iterPos_iter (w.drewN n) s p
theorem below_iterN (w : World) (n : Nat) (s : ByteArray) (p : Nat) : Below w.heap.size w ((w.drewN n).iter s p) := by
  unfold World.iter
  exact (below_drewN (Below.refl _ _) n).alloc (Nat.le_refl _) _

set_option maxHeartbeats 400000 in
theorem rune_in (s : ByteArray) (p : Nat) (hp : p < s.size) (hs : s.size ≤ maxLen) (w : World) :
    Calls Try.prog 20 #[.string s, .int .i64 p] w fun e w' => e = .returned (.tuple #[.int .i64 (Utf8.decode s p).1, .int .i64 (Utf8.decode s p).2]) ∧ Below w.heap.size w w' := by
  unfold maxLen at hs
  obtain ⟨d1, d2, d3, d4⟩ := dec_bd s p hp
  have hr : (s.extract p s.size).size = s.size - p := by simp
  have HD := Lib.hid (Lib.tail_decode s p 0)
  have b1 : decide ((p : Int) < 0) = false := by simp
  have b2 : decide (s.size ≤ p) = false := by simpa using hp
  go_enter Try.func20, Try.ntmps20
  go_wp2
  go_quiet (fail)
  go_wp2
  go_loopw [6] (fun n wr => ∃ pos : Nat, wr = (w.drewN nq).iter (s.extract p s.size) pos ∧ (pos = 0 ∨ (pos = (Utf8.decode s p).2 ∧ n = .int .i64 (Utf8.decode s p).1))) (fun _ wr => s.size - wr.iterPos w.heap.size)
  case atStart => exact ⟨0, rfl, Or.inl rfl⟩
  case round =>
    obtain ⟨pos, rfl, h0⟩ := hrel
    rcases h0 with rfl | ⟨rfl, rfl⟩
    · have hnx : ∀ ty, (Instr.next (.pointer (some ⟨w.heap.size, 0, none⟩)) true ty).run Try.prog ((w.drewN nq).iter (s.extract p s.size) 0) = _ := fun ty => run_next_any (w.drewN nq) (s.extract p s.size) 0 ty (by rw [hr]; omega)
      rw [HD.out] at hnx
      simp only [Nat.add_zero, Nat.zero_add] at hnx
      go_wp2
      go_roundw
      case rel => exact ⟨(Utf8.decode s p).2, rfl, Or.inr ⟨rfl, rfl⟩⟩
      case measure => rw [iterPos_drewN, iterPos_drewN]; omega
    · by_cases hlt : (Utf8.decode s p).2 < s.size - p
      · have hnx : ∀ ty, (Instr.next (.pointer (some ⟨w.heap.size, 0, none⟩)) true ty).run Try.prog ((w.drewN nq).iter (s.extract p s.size) (Utf8.decode s p).2) = _ := fun ty => run_next_any (w.drewN nq) (s.extract p s.size) (Utf8.decode s p).2 ty (by rw [hr]; omega)
        go_wp2
        go_ret2
        exact ⟨ret2_int rfl rfl, below_iterN _ _ _ _⟩
      · have hnx : ∀ ty, (Instr.next (.pointer (some ⟨w.heap.size, 0, none⟩)) true ty).run Try.prog ((w.drewN nq).iter (s.extract p s.size) (Utf8.decode s p).2) = _ := fun ty => run_next_end (w.drewN nq) (s.extract p s.size) (Utf8.decode s p).2 ty (by rw [hr]; omega)
        go_wp2
        go_ret2
        exact ⟨ret2_int rfl (by omega), below_iterN _ _ _ _⟩
theorem rune_out (s : ByteArray) (a : Int) (h : a < 0 ∨ s.size ≤ a) (hs : s.size ≤ maxLen) (w : World) :
    Calls Try.prog 20 #[.string s, .int .i64 a] w fun e w' => e = .returned (.tuple #[.int .i64 0, .int .i64 0]) ∧ w = w' := by
  unfold maxLen at hs
  by_cases h0 : a < 0
  · go_enter Try.func20, Try.ntmps20
    go_wp2
    go_ret2
    exact ⟨rfl, rfl⟩
  · have h1 : (s.size : Int) ≤ a := by omega
    go_enter Try.func20, Try.ntmps20
    go_wp2
    go_ret2
    exact ⟨rfl, rfl⟩
end Go.Proofs.Ythglejhhfnpdaaa
