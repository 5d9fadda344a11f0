/-
  PROVED: plain facts on right trees: what 'parP' tells of them; the document's walk and the program's tell the same; which changes make a tree wrong. Conditions: as each says; no program is named.
-/
import Derived.Test.YtdfhgcknelgdmaaDoorFitPure
namespace Go.Proofs.YtdfhgcknelgdmaaDoor
set_option linter.unusedVariables false

theorem parP_right {T : List Nd} (h : parP T ≠ []) : gone T = some (parP T) ∧ (parP T).length = T.length ∧ headK T = 1 ∧ allB T (parP T) 0 T = true := by
  unfold parP at h ⊢
  cases hg : gone T with
  | none => rw [hg] at h; exact absurd rfl h
  | some P =>
    rw [hg] at h
    simp only at h ⊢
    by_cases h1 : P.length = T.length
    · rw [if_pos h1] at h ⊢
      by_cases h2 : headK T = 1
      · rw [if_pos h2] at h ⊢
        by_cases h3 : allB T P 0 T = true
        · rw [if_pos h3] at h ⊢
          exact ⟨rfl, h1, h2, h3⟩
        · rw [if_neg h3] at h; exact absurd rfl h
      · rw [if_neg h2] at h; exact absurd rfl h
    · rw [if_neg h1] at h; exact absurd rfl h
theorem parP_of {T : List Nd} {P : List Int} (hg : gone T = some P) (h1 : P.length = T.length) (h2 : headK T = 1) (h3 : allB T P 0 T = true) : parP T = P := by
  unfold parP; rw [hg]; simp only; rw [if_pos h1, if_pos h2, if_pos h3]

theorem allB_at (T : List Nd) (P : List Int) : ∀ (L : List Nd) (a i : Nat) (n : Nd), allB T P a L = true → L[i]? = some n → lkB T P (a + i) n = true
  | [], a, i, n, _, h => by simp at h
  | m :: L, a, 0, n, h, hn => by
    simp at hn; subst hn
    rw [allB, Bool.and_eq_true] at h
    exact h.1
  | m :: L, a, i + 1, n, h, hn => by
    rw [allB, Bool.and_eq_true] at h
    have := allB_at T P L (a + 1) i n h.2 (by simpa using hn)
    rw [show a + (i + 1) = a + 1 + i by omega]; exact this
theorem allB_of (T : List Nd) (P : List Int) : ∀ (L : List Nd) (a : Nat), (∀ (i : Nat) (n : Nd), L[i]? = some n → lkB T P (a + i) n = true) → allB T P a L = true
  | [], a, _ => rfl
  | m :: L, a, h => by
    rw [allB, Bool.and_eq_true]
    refine ⟨h 0 m rfl, allB_of T P L (a + 1) fun i n hn => ?_⟩
    have := h (i + 1) n (by simpa using hn)
    rw [show a + (i + 1) = a + 1 + i by omega] at this; exact this

theorem gone_facts {T : List Nd} {P : List Int} (h : gone T = some P) : setF T 0 P ∧ kidF T 0 1 P ∧ P[0]? = some (-1) := by
  have h1 := wk_facts T T.length (-1) [] P h
  have h2 := wk_pre T tt T.length (-1) [] P h
  refine ⟨by simpa using h1.1, by simpa using h1.2, pre_last (Q := []) h2⟩

theorem headK_get {T : List Nd} {n : Nd} (h : T[0]? = some n) : headK T = n.k := by
  cases T with
  | nil => simp at h
  | cons a T => simp at h; subst h; rfl

/-- A node of a right tree. -/
theorem right_node {T : List Nd} (h : parP T ≠ []) {i : Nat} {n : Nd} (hn : T[i]? = some n) : fitB n = true ∧ 1 ≤ n.k ∧ n.k ≤ 18 ∧ (0 < i → ∃ (j : Nat) (q : Nd), (parP T)[i]? = some (j : Int) ∧ j < i ∧ T[j]? = some q ∧ inB q n = true ∧ (i : Int) ∈ q.ks) := by
  obtain ⟨hg, hl, hd, ha⟩ := parP_right h
  have hk := allB_at T (parP T) T 0 i n ha hn
  rw [Nat.zero_add] at hk
  unfold lkB at hk
  rw [Bool.and_eq_true] at hk
  have hil := (List.getElem?_eq_some_iff.1 hn).1
  rcases Nat.eq_zero_or_pos i with rfl | hi
  · rw [headK_get hn] at hd
    exact ⟨hk.1, by omega, by omega, fun h => by omega⟩
  · obtain ⟨j, q, _, hji, hPj, hTj, hm⟩ := (gone_facts hg).2.1 i (by omega) (by omega)
    have h2 := hk.2
    rw [if_pos hi, show (parP T).getD i 0 = (j : Int) by simp [List.getD, hPj], Int.toNat_natCast, hTj] at h2
    have h3 : hoB q.k n.k = true := by
      have := h2
      unfold inB at this
      simp only [Bool.and_eq_true] at this
      exact this.2.2
    have := hoB_kind h3
    exact ⟨hk.1, by omega, by omega, fun _ => ⟨j, q, hPj, hji, hTj, h2, hm⟩⟩
end Go.Proofs.YtdfhgcknelgdmaaDoor
