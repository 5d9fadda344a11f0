/-
  PROVED: plain facts on the lines of a text (where a line's end stands, how many bytes it has, the list of lines), no program in it. Conditions: none.
-/
import Derived.Lib.Strings
import Derived.Laws.RangeAny
namespace Go.Proofs.Ytinbdangpehkaaa
set_option linter.unusedVariables false

/-- The byte at a place (0 beyond the end). -/
def bt (s : ByteArray) (p : Nat) : Nat := (s.get! p).toNat
theorem bt_at (s : ByteArray) (p : Nat) (h : p < s.size) : bt s p = (s[p]'h).toNat := by
  have := get_at s p h
  rw [Nat.add_zero] at this
  unfold bt
  rw [this]
theorem bt_lt (s : ByteArray) (p : Nat) : bt s p < 256 := (s.get! p).toNat_lt

/-- Where the end of the line stands that goes on at p. -/
def lineTo (s : ByteArray) (p : Nat) : Nat :=
  if p < s.size then (if bt s p = 13 ∨ bt s p = 10 then p else lineTo s (p + 1)) else p
termination_by s.size - p
/-- How many bytes the line's end has that stands at p. -/
def endLen (s : ByteArray) (p : Nat) : Nat :=
  if p < s.size then (if bt s p = 13 ∧ p + 1 < s.size ∧ bt s (p + 1) = 10 then 2 else 1) else 0
def lineEnd (s : ByteArray) (p : Nat) : Nat := lineTo s p + endLen s (lineTo s p)

theorem lineTo_stop (s : ByteArray) (p : Nat) (h : bt s p = 13 ∨ bt s p = 10) : lineTo s p = p := by
  rw [lineTo, if_pos h]
  split <;> rfl
theorem lineTo_out (s : ByteArray) (p : Nat) (h : s.size ≤ p) : lineTo s p = p := by
  rw [lineTo, if_neg (by omega)]
theorem lineTo_go (s : ByteArray) (p : Nat) (hp : p < s.size) (h : ¬ (bt s p = 13 ∨ bt s p = 10)) : lineTo s p = lineTo s (p + 1) := by
  conv => lhs; rw [lineTo, if_pos hp, if_neg h]

theorem lineTo_facts (s : ByteArray) : ∀ (n p : Nat), s.size - p = n → p ≤ lineTo s p ∧ (p ≤ s.size → lineTo s p ≤ s.size) ∧ (∀ k, p ≤ k → k < lineTo s p → bt s k ≠ 13 ∧ bt s k ≠ 10) ∧ (lineTo s p < s.size → bt s (lineTo s p) = 13 ∨ bt s (lineTo s p) = 10)
  | 0, p, h => by
    rw [lineTo_out s p (by omega)]
    exact ⟨Nat.le_refl _, fun h => h, fun k h1 h2 => by omega, fun h => by omega⟩
  | n + 1, p, h => by
    by_cases he : bt s p = 13 ∨ bt s p = 10
    · rw [lineTo_stop s p he]
      exact ⟨Nat.le_refl _, fun h => h, fun k h1 h2 => by omega, fun _ => he⟩
    · obtain ⟨h1, h2, h3, h4⟩ := lineTo_facts s n (p + 1) (by omega)
      rw [lineTo_go s p (by omega) he]
      refine ⟨by omega, fun _ => h2 (by omega), fun k k1 k2 => ?_, h4⟩
      by_cases hk : k = p
      · subst hk; omega
      · exact h3 k (by omega) k2
theorem lineTo_ge (s : ByteArray) (p : Nat) : p ≤ lineTo s p := (lineTo_facts s _ p rfl).1
theorem lineTo_le (s : ByteArray) (p : Nat) (h : p ≤ s.size) : lineTo s p ≤ s.size := (lineTo_facts s _ p rfl).2.1 h
theorem lineTo_clear (s : ByteArray) (p k : Nat) (h1 : p ≤ k) (h2 : k < lineTo s p) : bt s k ≠ 13 ∧ bt s k ≠ 10 := (lineTo_facts s _ p rfl).2.2.1 k h1 h2
theorem lineTo_end (s : ByteArray) (p : Nat) (h : lineTo s p < s.size) : bt s (lineTo s p) = 13 ∨ bt s (lineTo s p) = 10 := (lineTo_facts s _ p rfl).2.2.2 h

theorem endLen_bd (s : ByteArray) (p : Nat) (h : p ≤ s.size) : p + endLen s p ≤ s.size ∧ endLen s p ≤ 2 ∧ (p < s.size → 1 ≤ endLen s p) := by
  unfold endLen
  repeat' split
  all_goals omega
theorem lineEnd_le (s : ByteArray) (p : Nat) (h : p ≤ s.size) : lineEnd s p ≤ s.size := (endLen_bd s _ (lineTo_le s p h)).1
theorem lineEnd_ge (s : ByteArray) (p : Nat) : lineTo s p ≤ lineEnd s p := Nat.le_add_right _ _
theorem lineEnd_gt (s : ByteArray) (p : Nat) (h : p < s.size) : p < lineEnd s p := by
  have h1 := lineTo_ge s p
  have h2 := lineTo_le s p (by omega)
  have h3 := endLen_bd s (lineTo s p) h2
  unfold lineEnd
  by_cases hl : lineTo s p < s.size
  · have := h3.2.2 hl; omega
  · omega

/-- The lines from p on. -/
def linesF (s : ByteArray) (p : Nat) : List (Nat × Nat × Nat) :=
  if h : p < s.size then (p, lineTo s p, lineEnd s p) :: linesF s (lineEnd s p) else []
termination_by s.size - p
decreasing_by have := lineEnd_gt s p h; omega
theorem linesF_go (s : ByteArray) (p : Nat) (h : p < s.size) : linesF s p = (p, lineTo s p, lineEnd s p) :: linesF s (lineEnd s p) := by
  rw [linesF, dif_pos h]
theorem linesF_out (s : ByteArray) (p : Nat) (h : s.size ≤ p) : linesF s p = [] := by
  rw [linesF, dif_neg (by omega)]
theorem linesF_len (s : ByteArray) : ∀ (n p : Nat), s.size - p ≤ n → (linesF s p).length ≤ n
  | 0, p, h => by rw [linesF_out s p (by omega)]; exact Nat.le_refl _
  | n + 1, p, h => by
    by_cases hp : p < s.size
    · rw [linesF_go s p hp]
      have h1 := lineEnd_gt s p hp
      have := linesF_len s n (lineEnd s p) (by omega)
      simp only [List.length_cons]
      omega
    · rw [linesF_out s p (by omega)]; exact Nat.zero_le _

/-! The end of a line, as the program asks for it: of the rest of the text. -/
theorem rest_empty (s : ByteArray) (p : Nat) : (s.extract p s.size).toList.isEmpty = decide (s.size ≤ p) := by
  rw [Lib.extract_toList, Bool.eq_iff_iff, List.isEmpty_iff, decide_eq_true_eq, ← List.length_eq_zero_iff, List.length_take, List.length_drop, Array.length_toList]
  show min (s.size - p) (s.size - p) = 0 ↔ _
  omega
theorem rest_two (s : ByteArray) (p : Nat) (h : p + 2 ≤ s.size) : (((s.extract p s.size).extract 0 2).toList == [13, 10]) = decide (bt s p = 13 ∧ bt s (p + 1) = 10) := by
  have e : ((s.extract p s.size).extract 0 2).toList = [s[p]'(by omega), s[p + 1]'(by omega)] := by
    rw [Lib.extract_toList, Lib.extract_data]
    have h1 : p < s.data.toList.length := by rw [Array.length_toList]; exact (by omega : p < s.size)
    have h2 : p + 1 < s.data.toList.length := by rw [Array.length_toList]; exact (by omega : p + 1 < s.size)
    rw [List.drop_zero, List.take_take, Nat.sub_zero, List.drop_eq_getElem_cons h1, List.drop_eq_getElem_cons h2, show min 2 (s.size - p) = 2 from by omega]
    rfl
  rw [e, bt_at s p (by omega), bt_at s (p + 1) (by omega), Bool.eq_iff_iff, beq_iff_eq, decide_eq_true_eq]
  simp only [List.cons.injEq, and_true]
  constructor
  · rintro ⟨a, b⟩; rw [a, b]; exact ⟨rfl, rfl⟩
  · rintro ⟨a, b⟩; exact ⟨UInt8.toNat_inj.1 a, UInt8.toNat_inj.1 b⟩
end Go.Proofs.Ytinbdangpehkaaa
