/-
  PROVED: what is so of the model's run: which rows may be found, how many marks are left, how many bonds there are. Conditions: none.
-/
import Derived.Test.YtldillhgpjmjpaaFindPure
namespace Go.Proofs.Ytldillhgpjmjpaa
set_option linter.unusedVariables false

theorem closeM_far (F : Nat → Bool) (c : Nat) : ∀ (k : Nat) (st : List Nat) (lf : Nat → Nat) (j : Nat), j ≠ c → j ∉ st → (closeM F c k st lf).2.1 j = lf j := by
  intro k
  induction k with
  | zero => intros; rfl
  | succ k ih =>
    intro st lf j h1 h2
    by_cases h0 : lf c = 0
    · rw [closeM_done h0]
    · cases hd : st.dropWhile (fun o => !F o) with
      | nil => rw [closeM_none hd]
      | cons o rest =>
        obtain ⟨a, e, _⟩ := dropWhile_sub (p := fun o => !F o) st
        rw [hd] at e
        rw [closeM_some h0 hd k _ rfl]
        have hjo : j ≠ o := fun hh => h2 (by rw [e, hh]; simp)
        have hjr : j ∉ rest := fun hh => h2 (by rw [e]; simp [hh])
        show (closeM F c k _ _).2.1 j = lf j
        rw [ih _ _ j h1 (by split <;> simp [hjo, hjr])]
        rw [upd_other _ _ _ _ h1, upd_other _ _ _ _ hjo]
theorem closeM_len (F : Nat → Bool) (c : Nat) : ∀ (k : Nat) (st : List Nat) (lf : Nat → Nat), (closeM F c k st lf).2.2.length ≤ k := by
  intro k
  induction k with
  | zero => intros; exact Nat.le_refl _
  | succ k ih =>
    intro st lf
    by_cases h0 : lf c = 0
    · rw [closeM_done h0]; simp
    · cases hd : st.dropWhile (fun o => !F o) with
      | nil => rw [closeM_none hd]; simp
      | cons o rest =>
        rw [closeM_some h0 hd k _ rfl]
        have := ih (if lf o - min (lf o) (lf c) = 0 then rest else o :: rest) (upd (upd lf o (lf o - min (lf o) (lf c))) c (lf c - min (lf o) (lf c)))
        simp only [List.length_cons]
        omega
theorem closeM_ok (L : List Rw) (F : Nat → Bool) (c : Nat) : ∀ (k : Nat) (st : List Nat) (lf : Nat → Nat), Ok L c st lf → Ok L c (closeM F c k st lf).1 (closeM F c k st lf).2.1 := by
  intro k
  induction k with
  | zero => intro st lf h; exact h
  | succ k ih =>
    intro st lf h
    by_cases h0 : lf c = 0
    · rw [closeM_done h0]; exact h
    · cases hd : st.dropWhile (fun o => !F o) with
      | nil => rw [closeM_none hd]; exact h
      | cons o rest =>
        obtain ⟨a, e, _⟩ := dropWhile_sub (p := fun o => !F o) st
        rw [hd] at e
        rw [closeM_some h0 hd k _ rfl]
        exact ih _ _ (h.bond e)
theorem clsM_ok (L : List Rw) (c : Nat) (s : Stk) (h : Ok L c s.1 s.2.1) : Ok L c (clsM L c s).1 (clsM L c s).2.1 := by
  unfold clsM
  split
  · exact closeM_ok L _ c _ _ _ h
  · exact h
/-- Behind a step. -/
theorem Ok.push {L : List Rw} {c : Nat} {st : List Nat} {lf : Nat → Nat} (h : Ok L c st lf) : Ok L (c + 1) (if (rw L c).o = true ∧ ¬ lf c = 0 then c :: st else st) lf := by
  refine ⟨?_, ?_, h.bd⟩
  · split
    · exact List.pairwise_cons.2 ⟨fun a ha => (h.mem a ha).1, h.srt⟩
    · exact h.srt
  · intro o ho
    split at ho
    · rename_i hq
      rcases List.mem_cons.1 ho with rfl | ho
      · exact ⟨by omega, hq.1, by omega⟩
      · obtain ⟨a, b, d⟩ := h.mem o ho
        exact ⟨by omega, b, d⟩
    · obtain ⟨a, b, d⟩ := h.mem o ho
      exact ⟨by omega, b, d⟩
theorem run_ok (L : List Rw) : ∀ n, Ok L n (runM L n).1 (runM L n).2.1
  | 0 => ⟨List.Pairwise.nil, fun o ho => by simp [runM] at ho, fun i => Nat.le_refl _⟩
  | n + 1 => (clsM_ok L n _ (run_ok L n)).push
theorem run_far (L : List Rw) : ∀ n j, n ≤ j → (runM L n).2.1 j = num (rw L j)
  | 0, j, _ => rfl
  | n + 1, j, h => by
    show (clsM L n (runM L n)).2.1 j = _
    unfold clsM
    split
    · show (closeM (FF L n) n _ _ _).2.1 j = _
      rw [closeM_far _ _ _ _ _ j (by omega) (fun hh => by have := ((run_ok L n).mem j hh).1; omega)]
      exact run_far L n j (by omega)
    · exact run_far L n j (by omega)
theorem ok_len {L : List Rw} {c : Nat} {st : List Nat} {lf : Nat → Nat} (hok : Ok L c st lf) : st.length ≤ c := by
  have h3 : st.Nodup := hok.srt.imp (fun {a b} hab e => by omega)
  have h4 : st.length ≤ (List.range c).length := List.Nodup.length_le_of_subset h3 (fun o ho => List.mem_range.2 (hok.mem o ho).1)
  simpa using h4
theorem run_len (L : List Rw) (N : Nat) : ∀ n, n ≤ N → (runM L n).2.2.length ≤ n * (N + 1)
  | 0, _ => by simp [runM]
  | n + 1, h => by
    show ((runM L n).2.2 ++ (clsM L n (runM L n)).2.2).length ≤ _
    rw [List.length_append, Nat.add_mul, Nat.one_mul]
    have h1 := run_len L N n (by omega)
    have h2 : (clsM L n (runM L n)).2.2.length ≤ N + 1 := by
      unfold clsM
      split
      · have := closeM_len (FF L n) n ((runM L n).1.length + 1) (runM L n).1 (runM L n).2.1
        have := ok_len (run_ok L n)
        show (closeM (FF L n) n _ _ _).2.2.length ≤ _
        omega
      · simp
    omega
end Go.Proofs.Ytldillhgpjmjpaa
