/-
  PROVED: small facts for the walk of the document's Kind. Conditions: the text has at most 1000000 bytes.
-/
import Derived.Test.YtdnnjakggopdoaaDoorKindPure
import Derived.Test.YtdnnjakggopdoaaDoorSmall
import Derived.Deep.CutBlock
import Derived.Deep.DeepCutAuto
import Derived.Deep.LoopGhost
namespace Go.Proofs.YtdnnjakggopdoaaDoor
open Go.ChangeShapes Go.WideShapes Go.ChangeAt Go.RowKit Go.Sort
set_option linter.unusedVariables false
set_option linter.unusedSimpArgs false

theorem refLetter_w (c : UInt8) (w : World) : Calls Tryd.prog 22 #[.int .u8 c.toNat] w fun e w' => e = .returned (.bool (isL c)) ∧ w = w' := (refLetter_any c w).mono fun e w' ⟨h1, h2⟩ => ⟨h1, h2.symm⟩
theorem refDigit_w (c : UInt8) (w : World) : Calls Tryd.prog 34 #[.int .u8 c.toNat] w fun e w' => e = .returned (.bool (isD c)) ∧ w = w' := (refDigit_any c w).mono fun e w' ⟨h1, h2⟩ => ⟨h1, h2.symm⟩
theorem beg_w (s p : ByteArray) (q : List UInt8) (hq : lst p = q) (w : World) : Calls Tryd.prog 20 #[.string s, .string p] w fun e w' => e = .returned (.bool (Lib.hasPrefix (lst s) q)) ∧ w = w' := (beg_lit s p q hq w).mono fun e w' ⟨h1, h2⟩ => ⟨h1, h2.symm⟩
/-- What the last loop of the document's Kind goes by. -/
def LRel (s : ByteArray) (k : Nat) (w : World) (i : Value) (wr : World) : Prop := ∃ j : Nat, j ≤ s.size ∧ i = .int .i64 j ∧ ((lst s).drop j).all isB = ((lst s).drop k).all isB ∧ w = wr
theorem all_step (l : List UInt8) (j : Nat) (x : UInt8) (h : l[j]? = some x) : (l.drop j).all isB = (isB x && (l.drop (j + 1)).all isB) := by
  obtain ⟨hj, rfl⟩ := List.getElem?_eq_some_iff.1 h
  rw [List.drop_eq_getElem_cons hj, List.all_cons]
theorem endsN_end (l : List UInt8) (k : Nat) (h : l.length ≤ k) : endsN (l.drop k) = true := by rw [List.drop_of_length_le h]; rfl
theorem endsN_at (l : List UInt8) (k : Nat) (x : UInt8) (h : l[k]? = some x) : endsN (l.drop k) = (x == 32 || x == 9 || x == 62) := by
  obtain ⟨hk, rfl⟩ := List.getElem?_eq_some_iff.1 h
  rw [List.drop_eq_getElem_cons hk]
  unfold endsN
  simp only [List.contains, List.elem]
  cases (l[k] == 32) <;> cases (l[k] == 9) <;> cases (l[k] == 62) <;> rfl

/-- The code behind so many statements. -/
def tl : Code → Code
  | .seq _ b => b
  | c => c
noncomputable def kindAt : Nat → Code
  | 0 => Tryd.f14.body.getD .skip
  | n + 1 => tl (kindAt n)
/-- What the document's Kind is to answer. -/
def KPost (s : ByteArray) (W : World) : Ending → World → Prop := fun e w' => e = .returned (.int .i64 (kindL (lst s))) ∧ RowKit.Below W.heap.size W w'
end Go.Proofs.YtdnnjakggopdoaaDoor
