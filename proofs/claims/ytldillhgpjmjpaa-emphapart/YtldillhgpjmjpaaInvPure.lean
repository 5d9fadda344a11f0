/-
  PROVED: what is so of the model's pairs: of which rows they are, that they are within each other or apart, that they take what is not left. Conditions: none.
-/
import Derived.Test.YtldillhgpjmjpaaRunLen
namespace Go.Proofs.Ytldillhgpjmjpaa
set_option linter.unusedVariables false

/-- Within each other or apart. -/
def NN (a b : Bd) : Prop := ¬ (a.1 < b.1 ∧ b.1 < a.2.1 ∧ a.2.1 < b.2.1) ∧ ¬ (b.1 < a.1 ∧ a.1 < b.2.1 ∧ b.2.1 < a.2.1)
/-- What is so of the bonds up to step c. -/
structure BOk (L : List Rw) (c : Nat) (st : List Nat) (bs : List Bd) : Prop where
  rng : ∀ b ∈ bs, b.1 < b.2.1 ∧ b.2.1 ≤ c
  bet : ∀ b ∈ bs, ∀ o ∈ st, o ≤ b.1 ∨ b.2.1 ≤ o
  nn : bs.Pairwise NN
  mks : ∀ b ∈ bs, (rw L b.1).o = true ∧ (rw L b.2.1).c = true ∧ (rw L b.1).m = (rw L b.2.1).m
theorem closeM_bok (L : List Rw) (c : Nat) (hc : (rw L c).c = true) : ∀ (k : Nat) (st : List Nat) (lf : Nat → Nat) (bs : List Bd), Ok L c st lf → BOk L c st bs → BOk L c (closeM (FF L c) c k st lf).1 (bs ++ (closeM (FF L c) c k st lf).2.2) := by
  intro k
  induction k with
  | zero => intro st lf bs _ h; simpa [closeM] using h
  | succ k ih =>
    intro st lf bs hok h
    by_cases h0 : lf c = 0
    · rw [closeM_done h0]; simpa using h
    · cases hd : st.dropWhile (fun o => !FF L c o) with
      | nil => rw [closeM_none hd]; simpa using h
      | cons o rest =>
        obtain ⟨a, e, _⟩ := dropWhile_sub (p := fun o => !FF L c o) st
        rw [hd] at e
        have hF : FF L c o = true := by have := dropWhile_head st o rest hd; simpa using this
        rw [closeM_some h0 hd k _ rfl]
        have hmo := hok.mem o (by rw [e]; simp)
        have hsub : ∀ x ∈ (if lf o - min (lf o) (lf c) = 0 then rest else o :: rest), x ∈ st ∧ x ≤ o := by
          intro x hx
          have hs := hok.srt
          rw [e] at hs
          have h2 := List.pairwise_cons.1 (List.pairwise_append.1 hs).2.1
          have hx' : x = o ∨ x ∈ rest := by
            split at hx
            · exact Or.inr hx
            · exact List.mem_cons.1 hx
          rcases hx' with rfl | hx'
          · exact ⟨by rw [e]; simp, Nat.le_refl _⟩
          · exact ⟨by rw [e]; simp [hx'], Nat.le_of_lt (h2.1 x hx')⟩
        have hn : BOk L c (if lf o - min (lf o) (lf c) = 0 then rest else o :: rest) (bs ++ [(o, c, min (lf o) (lf c))]) := by
          refine ⟨?_, ?_, ?_, ?_⟩
          · intro b hb
            rcases List.mem_append.1 hb with hb | hb
            · exact h.rng b hb
            · simp at hb; subst hb; exact ⟨hmo.1, Nat.le_refl _⟩
          · intro b hb x hx
            rcases List.mem_append.1 hb with hb | hb
            · exact h.bet b hb x (hsub x hx).1
            · simp at hb; subst hb; exact Or.inl (hsub x hx).2
          · refine List.pairwise_append.2 ⟨h.nn, by simp, ?_⟩
            intro b hb y hy
            simp at hy
            subst hy
            have h1 := h.bet b hb o (by rw [e]; simp)
            have h2 := h.rng b hb
            refine ⟨fun hh => ?_, fun hh => ?_⟩
            · obtain ⟨q1, q2, _⟩ := hh
              simp only at q1 q2
              omega
            · obtain ⟨_, _, q3⟩ := hh
              simp only at q3
              omega
          · intro b hb
            rcases List.mem_append.1 hb with hb | hb
            · exact h.mks b hb
            · simp at hb
              subst hb
              refine ⟨hmo.2.1, hc, ?_⟩
              unfold FF fit at hF
              simp only [Bool.and_eq_true, decide_eq_true_eq] at hF
              exact hF.1.symm
        have := ih _ _ _ (hok.bond e) hn
        rw [List.append_assoc] at this
        exact this
theorem run_bok (L : List Rw) : ∀ n, BOk L n (runM L n).1 (runM L n).2.2
  | 0 => ⟨fun b hb => by simp [runM] at hb, fun b hb => by simp [runM] at hb, by simp [runM], fun b hb => by simp [runM] at hb⟩
  | n + 1 => by
    have h0 := run_bok L n
    have h1 : BOk L n (clsM L n (runM L n)).1 ((runM L n).2.2 ++ (clsM L n (runM L n)).2.2) := by
      unfold clsM
      split
      · rename_i hc
        exact closeM_bok L n hc _ _ _ _ (run_ok L n) h0
      · simpa using h0
    refine ⟨fun b hb => ⟨(h1.rng b hb).1, by have := (h1.rng b hb).2; omega⟩, ?_, h1.nn, h1.mks⟩
    intro b hb o ho
    have ho' : o ∈ (if (rw L n).o = true ∧ ¬ (clsM L n (runM L n)).2.1 n = 0 then n :: (clsM L n (runM L n)).1 else (clsM L n (runM L n)).1) := ho
    split at ho'
    · rcases List.mem_cons.1 ho' with rfl | ho'
      · exact Or.inr (h1.rng b hb).2
      · exact h1.bet b hb o ho'
    · exact h1.bet b hb o ho'
theorem run_lt (L : List Rw) (n : Nat) : ∀ b ∈ (runM L n).2.2, b.2.1 < n := by
  induction n with
  | zero => intro b hb; simp [runM] at hb
  | succ n ih =>
    intro b hb
    have := ((run_bok L n).rng)
    have hb' : b ∈ (runM L n).2.2 ++ (clsM L n (runM L n)).2.2 := hb
    have h1 : BOk L n (clsM L n (runM L n)).1 ((runM L n).2.2 ++ (clsM L n (runM L n)).2.2) := by
      unfold clsM
      split
      · rename_i hc
        exact closeM_bok L n hc _ _ _ _ (run_ok L n) (run_bok L n)
      · simpa using run_bok L n
    have := (h1.rng b hb').2
    omega
theorem expN_mem : ∀ (n k : Nat), k ∈ expN n → k = 1 ∨ k = 2
  | 0, k, h => by simp [expN] at h
  | 1, k, h => by simp [expN] at h; exact Or.inl h
  | n + 2, k, h => by
    rw [expN] at h
    rcases List.mem_cons.1 h with rfl | h
    · exact Or.inr rfl
    · exact expN_mem n k h
theorem mem_expand {l : List Bd} {x : Bd} (h : x ∈ expand l) : ∃ b ∈ l, x.1 = b.1 ∧ x.2.1 = b.2.1 ∧ (x.2.2 = 1 ∨ x.2.2 = 2) := by
  obtain ⟨b, hb, hx⟩ := List.mem_flatMap.1 h
  obtain ⟨k, hk, rfl⟩ := List.mem_map.1 hx
  exact ⟨b, hb, rfl, rfl, expN_mem _ _ hk⟩
/-- Pairs are within each other or apart. -/
theorem pairs_nn (L : List Rw) : (pairsM L).Pairwise NN := by
  unfold pairsM expand
  rw [List.pairwise_flatMap]
  have h := run_bok L L.length
  refine ⟨?_, ?_⟩
  · intro b hb
    have hsame : ∀ x ∈ expB b, x.1 = b.1 ∧ x.2.1 = b.2.1 := fun x hx => by
      obtain ⟨k, _, rfl⟩ := List.mem_map.1 hx
      exact ⟨rfl, rfl⟩
    refine List.pairwise_iff_getElem.2 (fun i j hi hj _ => ?_)
    obtain ⟨e1, e2⟩ := hsame _ (List.getElem_mem hi)
    obtain ⟨e3, e4⟩ := hsame _ (List.getElem_mem hj)
    unfold NN
    rw [e1, e2, e3, e4]
    omega
  · refine h.nn.imp (fun {a b} hab => ?_)
    intro x hx y hy
    obtain ⟨k, _, rfl⟩ := List.mem_map.1 hx
    obtain ⟨k', _, rfl⟩ := List.mem_map.1 hy
    exact hab
theorem pairs_ok (L : List Rw) : ∀ x ∈ pairsM L, x.1 < x.2.1 ∧ x.2.1 < L.length ∧ (x.2.2 = 1 ∨ x.2.2 = 2) ∧ (rw L x.1).o = true ∧ (rw L x.2.1).c = true ∧ (rw L x.1).m = (rw L x.2.1).m := by
  intro x hx
  obtain ⟨b, hb, e1, e2, e3⟩ := mem_expand hx
  have h := run_bok L L.length
  rw [e1, e2]
  exact ⟨(h.rng b hb).1, run_lt L _ b hb, e3, h.mks b hb⟩

/-! ### counts -/
def ctr (i : Nat) (b : Bd) : Nat := (if i = b.1 then b.2.2 else 0) + (if i = b.2.1 then b.2.2 else 0)
def sm (i : Nat) : List Bd → Nat
  | [] => 0
  | b :: l => ctr i b + sm i l
theorem sm_app (i : Nat) : ∀ (a b : List Bd), sm i (a ++ b) = sm i a + sm i b
  | [], b => by simp [sm]
  | x :: a, b => by rw [List.cons_append, sm, sm, sm_app i a b]; omega
theorem sm_expB (i o c : Nat) : ∀ q, sm i (expB (o, c, q)) = ctr i (o, c, q)
  | 0 => by simp [expB, expN, sm, ctr]
  | 1 => by simp [expB, expN, sm]
  | q + 2 => by
    rw [expB_more, sm, sm_expB i o c q]
    unfold ctr
    simp only
    split <;> split <;> omega
theorem sm_expand (i : Nat) : ∀ (l : List Bd), sm i (expand l) = sm i l
  | [] => rfl
  | b :: l => by rw [expand_cons, sm_app, sm_expand i l, sm]; congr 1; exact sm_expB i b.1 b.2.1 b.2.2
theorem closeM_sm (L : List Rw) (F : Nat → Bool) (c i : Nat) : ∀ (k : Nat) (st : List Nat) (lf : Nat → Nat), Ok L c st lf → (closeM F c k st lf).2.1 i + sm i (closeM F c k st lf).2.2 = lf i := by
  intro k
  induction k with
  | zero => intro st lf _; simp [closeM, sm]
  | succ k ih =>
    intro st lf hok
    by_cases h0 : lf c = 0
    · rw [closeM_done h0]; simp [sm]
    · cases hd : st.dropWhile (fun o => !F o) with
      | nil => rw [closeM_none hd]; simp [sm]
      | cons o rest =>
        obtain ⟨a, e, _⟩ := dropWhile_sub (p := fun o => !F o) st
        rw [hd] at e
        have hoc := (hok.mem o (by rw [e]; simp)).1
        rw [closeM_some h0 hd k _ rfl]
        have h1 := ih _ _ (hok.bond e)
        show (closeM F c k (if lf o - min (lf o) (lf c) = 0 then rest else o :: rest) (upd (upd lf o (lf o - min (lf o) (lf c))) c (lf c - min (lf o) (lf c)))).2.1 i + (ctr i (o, c, min (lf o) (lf c)) + sm i (closeM F c k (if lf o - min (lf o) (lf c) = 0 then rest else o :: rest) (upd (upd lf o (lf o - min (lf o) (lf c))) c (lf c - min (lf o) (lf c)))).2.2) = _
        have h2 : upd (upd lf o (lf o - min (lf o) (lf c))) c (lf c - min (lf o) (lf c)) i + ctr i (o, c, min (lf o) (lf c)) = lf i := by
          unfold upd ctr
          simp only
          split
          · subst_vars
            rw [if_neg (by omega)]
            omega
          · split
            · subst_vars; omega
            · omega
        omega
theorem run_sm (L : List Rw) (i : Nat) : ∀ n, (runM L n).2.1 i + sm i (runM L n).2.2 = num (rw L i)
  | 0 => by simp [runM, sm]
  | n + 1 => by
    have h0 := run_sm L i n
    show (clsM L n (runM L n)).2.1 i + sm i ((runM L n).2.2 ++ (clsM L n (runM L n)).2.2) = _
    rw [sm_app]
    have h1 : (clsM L n (runM L n)).2.1 i + sm i (clsM L n (runM L n)).2.2 = (runM L n).2.1 i := by
      unfold clsM
      split
      · exact closeM_sm L _ n i _ _ _ (run_ok L n)
      · simp [sm]
    omega
/-- A row's marks are those that are left and those of its pairs. -/
theorem pairs_sm (L : List Rw) (i : Nat) : (runM L L.length).2.1 i + sm i (pairsM L) = num (rw L i) := by
  unfold pairsM
  rw [sm_expand]
  exact run_sm L i L.length
end Go.Proofs.Ytldillhgpjmjpaa
