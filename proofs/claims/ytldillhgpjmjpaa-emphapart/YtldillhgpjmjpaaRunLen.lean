/-
  PROVED: how many pairs the model's run makes at most. Conditions: none.
-/
import Derived.Test.YtldillhgpjmjpaaRunPure
namespace Go.Proofs.Ytldillhgpjmjpaa
set_option linter.unusedVariables false

theorem closeM_q (L : List Rw) (F : Nat → Bool) (c : Nat) : ∀ (k : Nat) (st : List Nat) (lf : Nat → Nat), Ok L c st lf → ∀ b ∈ (closeM F c k st lf).2.2, b.2.2 ≤ 1048576 := by
  intro k
  induction k with
  | zero => intro st lf _ b hb; simp [closeM] at hb
  | succ k ih =>
    intro st lf h b hb
    by_cases h0 : lf c = 0
    · rw [closeM_done h0] at hb; simp at hb
    · cases hd : st.dropWhile (fun o => !F o) with
      | nil => rw [closeM_none hd] at hb; simp at hb
      | cons o rest =>
        obtain ⟨a, e, _⟩ := dropWhile_sub (p := fun o => !F o) st
        rw [hd] at e
        rw [closeM_some h0 hd k _ rfl] at hb
        rcases List.mem_cons.1 hb with rfl | hb
        · have := h.bd c
          have h2 : num (rw L c) ≤ 1048576 := by unfold num; split <;> omega
          show min (lf o) (lf c) ≤ _
          omega
        · exact ih _ _ (h.bond e) b hb
theorem run_q (L : List Rw) : ∀ n, ∀ b ∈ (runM L n).2.2, b.2.2 ≤ 1048576
  | 0, b, hb => by simp [runM] at hb
  | n + 1, b, hb => by
    have hb' : b ∈ (runM L n).2.2 ++ (clsM L n (runM L n)).2.2 := hb
    rcases List.mem_append.1 hb' with h | h
    · exact run_q L n b h
    · unfold clsM at h
      split at h
      · exact closeM_q L _ n _ _ _ (run_ok L n) b h
      · simp at h
theorem expN_len : ∀ n, (expN n).length ≤ n
  | 0 => by simp [expN]
  | 1 => by simp [expN]
  | n + 2 => by have := expN_len n; simp [expN]; omega
theorem expand_len : ∀ (l : List Bd), (∀ b ∈ l, b.2.2 ≤ 1048576) → (expand l).length ≤ l.length * 1048576
  | [], _ => by simp [expand]
  | b :: l, h => by
    rw [expand_cons, List.length_append, List.length_cons, Nat.add_mul]
    have h1 := expand_len l (fun x hx => h x (by simp [hx]))
    have h2 := h b (by simp)
    have h3 := expN_len b.2.2
    have h4 : (expB b).length = (expN b.2.2).length := by simp [expB]
    omega
/-- One pair of a bond's. -/
theorem expB_step (o c : Nat) (z : Int) (hz : 0 < z) (k : Nat) (hk : (k : Int) = if 2 < z then 2 else z) : expB (o, c, z.toNat) = (o, c, k) :: expB (o, c, (z - 2).toNat) := by
  by_cases h1 : z = 1
  · subst h1
    have : k = 1 := by omega
    subst this
    rfl
  · obtain ⟨y, rfl⟩ : ∃ y : Nat, z = ((y + 2 : Nat) : Int) := ⟨(z - 2).toNat, by omega⟩
    have : k = 2 := by split at hk <;> omega
    subst this
    rw [show (((y + 2 : Nat) : Int)).toNat = y + 2 by omega, show (((y + 2 : Nat) : Int) - 2).toNat = y by omega, expB_more]
end Go.Proofs.Ytldillhgpjmjpaa
