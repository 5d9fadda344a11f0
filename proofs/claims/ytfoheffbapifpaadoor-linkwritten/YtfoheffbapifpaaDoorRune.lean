/-
  PROVED: bounds of the model's decoding of a character. Conditions: the offset lies within the text.
-/
import Derived.Test.YtfoheffbapifpaaDoorRows
import Derived.WalkKit
import Derived.ProofKit
import Derived.OpenShut
import Derived.ShutString
import Derived.WalkSpells
import Derived.WalkLawsBesides
import Derived.Deep.QuietTactic
import Derived.BigQuiet
import Derived.Lib.Hide
import Derived.Lib.DecodeNEq
import Derived.Lib.RuneCountTail
import Derived.IntWalk
namespace Go.Proofs.YtfoheffbapifpaaDoor
open Go.ChangeShapes Go.WideShapes Go.ChangeAt Go.RowKit
set_option linter.unusedVariables false

theorem dec_bd (s : ByteArray) (p : Nat) (h : p < s.size) : 1 ≤ (Utf8.decode s p).2 ∧ (Utf8.decode s p).2 ≤ 4 ∧ p + (Utf8.decode s p).2 ≤ s.size ∧ (Utf8.decode s p).1 ≤ 1114111 := by
  rw [Lib.decode_at]
  have h0 := (s.get! p).toNat_lt
  generalize (s.get! p).toNat = b0 at *
  generalize (s.get! (p+1)).toNat = b1
  generalize (s.get! (p+2)).toNat = b2
  generalize (s.get! (p+3)).toNat = b3
  unfold Lib.decodeN
  repeat' split
  all_goals simp only []
  all_goals omega

theorem ret2_int {a b c d : Int} (h : a = c) (k : b = d) : Ending.returned (.tuple #[.int .i64 a, .int .i64 b]) = .returned (.tuple #[.int .i64 c, .int .i64 d]) := by rw [h, k]

end Go.Proofs.YtfoheffbapifpaaDoor
