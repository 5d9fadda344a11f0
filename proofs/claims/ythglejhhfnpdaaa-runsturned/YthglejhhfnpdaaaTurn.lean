/-
  PROVED: facts on a row of bytes that holds the end of a text, from its end. Conditions: none.
-/
import Derived.Test.YthglejhhfnpdaaaOwn
namespace Go.Proofs.Ythglejhhfnpdaaa
open Go.ChangeShapes Go.WideShapes Go.ChangeAt Go.RowKit Go.Sort
set_option linter.unusedVariables false

/-- The bytes from a place on, from the end. -/
def backL (s : ByteArray) (j : Nat) : List UInt8 := ((lst s).drop j).reverse
theorem backL_len (s : ByteArray) (j : Nat) : (backL s j).length = s.size - j := by unfold backL; rw [List.length_reverse, List.length_drop, lst_size]
theorem backL_end (s : ByteArray) : backL s s.size = [] := by unfold backL; rw [List.drop_of_length_le (by rw [lst_size]; exact Nat.le_refl _)]; rfl
theorem backL_step (s : ByteArray) (j : Nat) (h : j < s.size) : backL s j = backL s (j + 1) ++ [s[j]'h] := by
  unfold backL
  have h1 := Lib.data_getElem? s j h
  obtain ⟨h2, h3⟩ := List.getElem?_eq_some_iff.1 h1
  rw [List.drop_eq_getElem_cons h2, List.reverse_cons, h3]
theorem backL_all (s : ByteArray) : backL s 0 = (lst s).reverse := rfl
/-- What the loop of RunsTurned goes by. -/
def TRel (s : ByteArray) (W : World) (v i : Value) (wr : World) : Prop :=
  ∃ j : Nat, j ≤ s.size ∧ i = .int .i64 ((j : Int) - 1) ∧ (∀ k (h : k < s.size), j ≤ k → (s[k]'h).toNat < 128) ∧ wr.ownsRow W.heap.size 5 1 v (backL s j).length (Lib.byteCells (backL s j)) ∧ v ≠ .slice none 0 0 ∧ Below W.heap.size W wr
theorem trel_step {s : ByteArray} {W w2 : World} {v : Value} {j : Nat} {z : Int} (hj : j < s.size) (hz : z = (j : Int) - 1) (ha : ∀ k (h : k < s.size), j + 1 ≤ k → (s[k]'h).toNat < 128) (hb : (s[j]'hj).toNat < 128)
    (ho : w2.ownsRow W.heap.size 5 1 v ((backL s (j + 1)).length + 1) (Lib.byteCells (backL s (j + 1)) ++ Lib.byteCells [s[j]'hj])) (hv : v ≠ .slice none 0 0) (hB : Below W.heap.size W w2) : TRel s W v (.int .i64 z) w2 := by
  refine ⟨j, by omega, by rw [hz], ?_, ?_, hv, hB⟩
  · intro k h hk
    by_cases e : k = j
    · subst e; exact hb
    · exact ha k h (by omega)
  · rw [backL_step s j hj, List.length_append, Lib.byteCells_append]; exact ho
theorem turn_at (s b : ByteArray) (p n : Nat) (c : UInt8) (hb : lst b = (lst s).reverse) (hp : p < s.size) (hc : s[p]'hp = c) (hq : rowTo s c p = p + n) (hpn : p + n ≤ s.size)
    (hbf : ∀ (h0 : 0 < p) (h : p - 1 < s.size), s[p - 1]'h ≠ c) (hlow : ∀ i (h : i < s.size), (s[i]'h).toNat < 128) :
    ∃ h : s.size - (p + n) < b.size, b[s.size - (p + n)]'h = c ∧ atV b (s.size - (p + n)) c = rowV c n (bhV s (p + n)) (ahV s p) := by
  obtain ⟨h, h1, h2, h3, h4⟩ := turned s b p (p + n) c hb hp hc hq hbf hlow
  refine ⟨h, h1, ?_⟩
  unfold atV
  rw [h2, h3, h4, show s.size - p - (s.size - (p + n)) = n from by omega]
end Go.Proofs.Ythglejhhfnpdaaa
