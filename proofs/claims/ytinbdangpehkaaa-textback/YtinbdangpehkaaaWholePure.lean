/-
  PROVED: plain facts on the list of a text's lines: which line stands at a place of the list, and which bytes its end has. Conditions: none.
-/
import Derived.Test.YtinbdangpehkaaaSame
namespace Go.Proofs.Ytinbdangpehkaaa
open Go.RowKit
set_option linter.unusedVariables false

/-- The line at place i of the list, where what is left from there on are the lines from p on. -/
theorem line_at {s : ByteArray} {L : List (Nat × Nat × Nat)} {i p : Nat} (h : L.drop i = linesF s p) (hi : i < L.length) :
    p < s.size ∧ L[i]? = some (p, lineTo s p, lineEnd s p) ∧ L.drop (i + 1) = linesF s (lineEnd s p) := by
  have hp : p < s.size := by
    refine Nat.lt_of_not_le fun hc => ?_
    rw [linesF_out s p hc] at h
    have := congrArg List.length h
    rw [List.length_drop] at this
    simp at this
    omega
  rw [linesF_go s p hp] at h
  refine ⟨hp, ?_, ?_⟩
  · have := congrArg (·[0]?) h
    simpa using this
  · have := congrArg (List.drop 1) h
    rw [List.drop_drop] at this
    simpa using this

theorem piece_one (s : ByteArray) (t : Nat) (h : t < s.size) : (s.extract t (t + 1)).toList = [s[t]'h] := by
  rw [Lib.extract_toList]
  have h1 : t < s.data.toList.length := by rw [Array.length_toList]; exact h
  rw [List.drop_eq_getElem_cons h1, show t + 1 - t = 1 from by omega]
  rfl
theorem piece_two (s : ByteArray) (t : Nat) (h : t + 1 < s.size) : (s.extract t (t + 1 + 1)).toList = [s[t]'(by omega), s[t + 1]'h] := by
  rw [Lib.extract_toList]
  have h1 : t < s.data.toList.length := by rw [Array.length_toList]; exact (by omega : t < s.size)
  have h2 : t + 1 < s.data.toList.length := by rw [Array.length_toList]; exact h
  rw [List.drop_eq_getElem_cons h1, List.drop_eq_getElem_cons h2, show t + 1 + 1 - t = 2 from by omega]
  rfl
theorem piece_none (s : ByteArray) (t : Nat) : (s.extract t t).toList = [] := by
  rw [Lib.extract_toList, show t - t = 0 from by omega]
  rfl

/-- The bytes of a line's end: what stands between To and End, and what may stand behind it. -/
theorem end_cases (s : ByteArray) (p : Nat) (h : p ≤ s.size) :
    (lineTo s p = s.size ∧ lineEnd s p = s.size ∧ (s.extract (lineTo s p) (lineEnd s p)).toList = []) ∨
    (lineTo s p < lineEnd s p ∧ (s.extract (lineTo s p) (lineEnd s p)).toList = [10]) ∨
    (lineTo s p < lineEnd s p ∧ (s.extract (lineTo s p) (lineEnd s p)).toList = [13, 10]) ∨
    (lineTo s p < lineEnd s p ∧ (s.extract (lineTo s p) (lineEnd s p)).toList = [13] ∧ (lineEnd s p < s.size → bt s (lineEnd s p) ≠ 10)) := by
  have h1 := lineTo_le s p h
  have he := lineTo_end s p
  unfold lineEnd
  generalize lineTo s p = t at *
  by_cases ht : t < s.size
  · refine Or.inr ?_
    have e1 := bt_at s t ht
    rcases he ht with hb | hb
    · have hv : s[t]'ht = 13 := UInt8.toNat_inj.1 (by rw [← e1, hb]; rfl)
      by_cases h2 : t + 1 < s.size ∧ bt s (t + 1) = 10
      · have hl : endLen s t = 2 := by unfold endLen; rw [if_pos ht, if_pos ⟨hb, h2⟩]
        have hv2 : s[t + 1]'h2.1 = 10 := UInt8.toNat_inj.1 (by rw [← bt_at s (t + 1) h2.1, h2.2]; rfl)
        rw [hl]
        exact Or.inr (Or.inl ⟨by omega, by rw [piece_two s t h2.1, hv, hv2]⟩)
      · have hl : endLen s t = 1 := by unfold endLen; rw [if_pos ht, if_neg (by omega)]
        rw [hl]
        exact Or.inr (Or.inr ⟨by omega, by rw [piece_one s t ht, hv], fun hh hc => h2 ⟨hh, hc⟩⟩)
    · have hv : s[t]'ht = 10 := UInt8.toNat_inj.1 (by rw [← e1, hb]; rfl)
      have hl : endLen s t = 1 := by unfold endLen; rw [if_pos ht, if_neg (by omega)]
      rw [hl]
      exact Or.inl ⟨by omega, by rw [piece_one s t ht, hv]⟩
  · have hl : endLen s t = 0 := by unfold endLen; rw [if_neg ht]
    rw [hl]
    exact Or.inl ⟨by omega, by omega, piece_none s t⟩
end Go.Proofs.Ytinbdangpehkaaa
