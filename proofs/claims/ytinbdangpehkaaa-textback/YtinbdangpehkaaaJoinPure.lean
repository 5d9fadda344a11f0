/-
  PROVED: plain facts on the lines of two texts with a byte 10 between: they are the lines of the first with its end, and then those of the second, moved. Conditions: none.
-/
import Derived.Test.YtinbdangpehkaaaSame
namespace Go.Proofs.Ytinbdangpehkaaa
open Go.RowKit
set_option linter.unusedVariables false

theorem bt_list (s : ByteArray) (p : Nat) : bt s p = (s.data.toList.getD p 0).toNat := by
  unfold bt
  by_cases h : p < s.size
  · have e := get_at s p h
    rw [Nat.add_zero] at e
    rw [e, List.getD_eq_getElem?_getD, List.getElem?_eq_getElem (by simpa using h)]
    rfl
  · have h2 : s.data.toList.length ≤ p := by rw [Array.length_toList]; exact Nat.le_of_not_lt h
    rw [List.getD_eq_getElem?_getD, List.getElem?_eq_none h2]
    have : s.get! p = 0 := by
      show s.data[p]! = 0
      rw [getElem!_neg _ _ (by exact h)]
      rfl
    rw [this]
    rfl
theorem app_list (a b : ByteArray) : (a ++ b).data.toList = a.data.toList ++ b.data.toList := by simp
theorem app_size (a b : ByteArray) : (a ++ b).size = a.size + b.size := by simp
theorem len_list (a : ByteArray) : a.data.toList.length = a.size := by rw [Array.length_toList]; rfl
theorem bt_left (a b : ByteArray) (p : Nat) (h : p < a.size) : bt (a ++ b) p = bt a p := by
  rw [bt_list, bt_list, app_list, List.getD_eq_getElem?_getD, List.getD_eq_getElem?_getD, List.getElem?_append_left (by rw [len_list]; exact h)]
theorem bt_right (a b : ByteArray) (p : Nat) : bt (a ++ b) (a.size + p) = bt b p := by
  rw [bt_list, bt_list, app_list, List.getD_eq_getElem?_getD, List.getD_eq_getElem?_getD, List.getElem?_append_right (by rw [len_list]; omega), len_list, show a.size + p - a.size = p from by omega]

def shift (n : Nat) (l : Nat × Nat × Nat) : Nat × Nat × Nat := (n + l.1, n + l.2.1, n + l.2.2)

theorem lineTo_right (x b : ByteArray) : ∀ (k p : Nat), b.size - p = k → lineTo (x ++ b) (x.size + p) = x.size + lineTo b p
  | 0, p, h => by rw [lineTo_out b p (by omega), lineTo_out _ _ (by rw [app_size]; omega)]
  | k + 1, p, h => by
    by_cases he : bt b p = 13 ∨ bt b p = 10
    · rw [lineTo_stop b p he, lineTo_stop _ _ (by rw [bt_right]; exact he)]
    · rw [lineTo_go b p (by omega) he, lineTo_go _ _ (by rw [app_size]; omega) (by rw [bt_right]; exact he), Nat.add_assoc, lineTo_right x b k (p + 1) (by omega)]
theorem endLen_right (x b : ByteArray) (p : Nat) : endLen (x ++ b) (x.size + p) = endLen b p := by
  unfold endLen
  rw [app_size, bt_right, Nat.add_assoc x.size p 1, bt_right]
  by_cases h : p < b.size
  · rw [if_pos (by omega), if_pos h]
    by_cases h2 : bt b p = 13 ∧ p + 1 < b.size ∧ bt b (p + 1) = 10
    · rw [if_pos h2, if_pos ⟨h2.1, by omega, h2.2.2⟩]
    · rw [if_neg h2, if_neg (fun hc => h2 ⟨hc.1, by omega, hc.2.2⟩)]
  · rw [if_neg (by omega), if_neg h]
theorem lineEnd_right (x b : ByteArray) (p : Nat) : lineEnd (x ++ b) (x.size + p) = x.size + lineEnd b p := by
  unfold lineEnd
  rw [lineTo_right x b _ p rfl, endLen_right]
  omega
theorem linesF_right (x b : ByteArray) : ∀ (k p : Nat), b.size - p ≤ k → linesF (x ++ b) (x.size + p) = (linesF b p).map (shift x.size)
  | 0, p, h => by rw [linesF_out b p (by omega), linesF_out _ _ (by rw [app_size]; omega)]; rfl
  | k + 1, p, h => by
    by_cases hp : p < b.size
    · have := lineEnd_gt b p hp
      rw [linesF_go b p hp, linesF_go _ _ (by rw [app_size]; omega), lineEnd_right, lineTo_right x b _ p rfl, linesF_right x b k (lineEnd b p) (by omega)]
      rfl
    · rw [linesF_out b p (by omega), linesF_out _ _ (by rw [app_size]; omega)]; rfl

/-- A text that ends with a byte 10: what stands behind it turns none of its lines. -/
theorem lineTo_left (x b : ByteArray) (hx : 0 < x.size) (h10 : bt x (x.size - 1) = 10) : ∀ (k p : Nat), x.size - p = k → p < x.size → lineTo (x ++ b) p = lineTo x p ∧ lineTo x p < x.size
  | 0, p, h, hp => by omega
  | k + 1, p, h, hp => by
    by_cases he : bt x p = 13 ∨ bt x p = 10
    · rw [lineTo_stop x p he, lineTo_stop _ _ (by rw [bt_left x b p hp]; exact he)]
      exact ⟨rfl, hp⟩
    · have hp1 : p + 1 < x.size := by
        refine Nat.lt_of_not_le fun hc => he (Or.inr ?_)
        rw [← h10]
        congr 1
        omega
      rw [lineTo_go x p hp he, lineTo_go _ _ (by rw [app_size]; omega) (by rw [bt_left x b p hp]; exact he)]
      exact lineTo_left x b hx h10 k (p + 1) (by omega) hp1
theorem endLen_left (x b : ByteArray) (h10 : bt x (x.size - 1) = 10) (t : Nat) (ht : t < x.size) : endLen (x ++ b) t = endLen x t := by
  unfold endLen
  rw [app_size, if_pos (by omega), if_pos ht, bt_left x b t ht]
  by_cases h1 : t + 1 < x.size
  · rw [bt_left x b _ h1]
    by_cases h2 : bt x t = 13 ∧ bt x (t + 1) = 10
    · rw [if_pos ⟨h2.1, by omega, h2.2⟩, if_pos ⟨h2.1, h1, h2.2⟩]
    · rw [if_neg (fun hc => h2 ⟨hc.1, hc.2.2⟩), if_neg (fun hc => h2 ⟨hc.1, hc.2.2⟩)]
  · have e : t = x.size - 1 := by omega
    rw [e, h10, if_neg (by omega), if_neg (by omega)]
theorem linesF_left (x b : ByteArray) (hx : 0 < x.size) (h10 : bt x (x.size - 1) = 10) : ∀ (k p : Nat), x.size - p ≤ k → p ≤ x.size → linesF (x ++ b) p = linesF x p ++ linesF (x ++ b) x.size
  | 0, p, h, hp => by
    have e : p = x.size := by omega
    rw [e, linesF_out x _ (Nat.le_refl _)]
    rfl
  | k + 1, p, h, hp => by
    by_cases hlt : p < x.size
    · obtain ⟨e1, e2⟩ := lineTo_left x b hx h10 _ p rfl hlt
      have e3 : lineEnd (x ++ b) p = lineEnd x p := by unfold lineEnd; rw [e1, endLen_left x b h10 _ e2]
      have := lineEnd_gt x p hlt
      rw [linesF_go _ p (by rw [app_size]; omega), linesF_go x p hlt, e1, e3, linesF_left x b hx h10 k (lineEnd x p) (by omega) (lineEnd_le x p hp)]
      rfl
    · have e : p = x.size := by omega
      rw [e, linesF_out x _ (Nat.le_refl _)]
      rfl
theorem linesF_join (a b : ByteArray) : linesF (a ++ { data := #[10] } ++ b) 0 = linesF (a ++ { data := #[10] }) 0 ++ (linesF b 0).map (shift (a.size + 1)) := by
  have hz : (a ++ { data := #[10] }).size = a.size + 1 := by rw [app_size]; rfl
  have h10 : bt (a ++ { data := #[10] }) ((a ++ { data := #[10] }).size - 1) = 10 := by
    rw [hz, show a.size + 1 - 1 = a.size + 0 from by omega, bt_right]
    decide
  rw [linesF_left _ b (by omega) h10 _ 0 (Nat.le_refl _) (by omega)]
  have := linesF_right (a ++ { data := #[10] }) b _ 0 (Nat.le_refl _)
  rw [Nat.add_zero, hz] at this
  rw [hz, this]
end Go.Proofs.Ytinbdangpehkaaa
