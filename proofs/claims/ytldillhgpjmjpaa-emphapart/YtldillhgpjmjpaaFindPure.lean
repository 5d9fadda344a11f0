/-
  PROVED: looking back through the rows that may be found; what a search remembers. Conditions: none.
-/
import Derived.Test.YtldillhgpjmjpaaPure
namespace Go.Proofs.Ytldillhgpjmjpaa
set_option linter.unusedVariables false

/-- Looking back from k on, over rows in order. -/
def fv (F : Nat → Bool) (R : List Nat) : Nat → Int
  | 0 => -1
  | k + 1 => if F (R.getD k 0) then (k : Int) else fv F R k
theorem fv_congr (F : Nat → Bool) (R R' : List Nat) : ∀ k, (∀ j, j < k → R.getD j 0 = R'.getD j 0) → fv F R k = fv F R' k
  | 0, _ => rfl
  | k + 1, h => by rw [fv, fv, h k (by omega), fv_congr F R R' k (fun j hj => h j (by omega))]
theorem fv_none (F : Nat → Bool) (R : List Nat) : ∀ k, (∀ j, j < k → F (R.getD j 0) = false) → fv F R k = -1
  | 0, _ => rfl
  | k + 1, h => by rw [fv, if_neg (by rw [h k (by omega)]; simp)]; exact fv_none F R k (fun j hj => h j (by omega))
/-- It is how many stand behind the one that is found. -/
theorem fv_eq (F : Nat → Bool) : ∀ (st : List Nat), fv F st.reverse st.length = ((st.dropWhile fun o => !F o).length : Int) - 1
  | [] => rfl
  | x :: st => by
    rw [List.length_cons, fv]
    have e : (x :: st).reverse.getD st.length 0 = x := by simp [List.getD]
    rw [e, List.dropWhile_cons]
    cases hF : F x with
    | true => simp
    | false =>
      simp only [Bool.not_false, if_true, Bool.false_eq_true, if_false]
      rw [← fv_eq F st]
      apply fv_congr
      intro j hj
      simp [List.getD, List.getElem?_append_left, hj]
theorem rev_get (st : List Nat) (j : Nat) (hj : j < st.length) : ∃ o, o ∈ st ∧ st.reverse[j]? = some o ∧ st.reverse.getD j 0 = o := by
  have h : j < st.reverse.length := by simpa using hj
  refine ⟨st.reverse[j], ?_, List.getElem?_eq_getElem h, ?_⟩
  · exact List.mem_reverse.1 (List.getElem_mem h)
  · simp [List.getD, List.getElem?_eq_getElem h]
/-- Those that stand ahead are less. -/
theorem rev_lt {st : List Nat} (hs : st.Pairwise (fun a b => b < a)) {i j : Nat} (hij : i < j) (hj : j < st.length) : st.reverse.getD i 0 < st.reverse.getD j 0 := by
  have h : st.reverse.Pairwise (fun a b => a < b) := List.pairwise_reverse.2 hs
  have h1 : i < st.reverse.length := by simp; omega
  have h2 : j < st.reverse.length := by simp; omega
  have := List.pairwise_iff_getElem.1 h i j h1 h2 hij
  simpa [List.getD, List.getElem?_eq_getElem h1, List.getElem?_eq_getElem h2] using this

/-- What is so of the rows that may be found at step c. -/
structure Ok (L : List Rw) (c : Nat) (st : List Nat) (lf : Nat → Nat) : Prop where
  srt : st.Pairwise (fun a b => b < a)
  mem : ∀ o ∈ st, o < c ∧ (rw L o).o = true ∧ 0 < lf o
  bd : ∀ i, lf i ≤ num (rw L i)
theorem num_pos {r : Rw} (h : 0 < num r) : 1 ≤ r.n ∧ r.n ≤ 1048576 := by
  unfold num at h
  split at h
  · assumption
  · omega
theorem Ok.inb {L : List Rw} {c : Nat} {st : List Nat} {lf : Nat → Nat} (h : Ok L c st lf) {o : Nat} (ho : 0 < lf o) : 1 ≤ (rw L o).n ∧ (rw L o).n ≤ 1048576 := num_pos (Nat.lt_of_lt_of_le ho (h.bd o))
/-- Behind one bond. -/
theorem Ok.bond {L : List Rw} {c : Nat} {st : List Nat} {lf : Nat → Nat} (h : Ok L c st lf) {a : List Nat} {o : Nat} {rest : List Nat} (hd : st = a ++ o :: rest) :
    Ok L c (if lf o - min (lf o) (lf c) = 0 then rest else o :: rest) (upd (upd lf o (lf o - min (lf o) (lf c))) c (lf c - min (lf o) (lf c))) := by
  subst hd
  have h1 := (List.pairwise_append.1 h.srt).2.1
  have h2 := List.pairwise_cons.1 h1
  have hoc := (h.mem o (by simp)).1
  refine ⟨?_, ?_, ?_⟩
  · split
    · exact h2.2
    · exact h1
  · intro x hx
    have hxm : x = o ∧ ¬ lf o - min (lf o) (lf c) = 0 ∨ x ∈ rest := by
      split at hx
      · exact Or.inr hx
      · rename_i hq
        rcases List.mem_cons.1 hx with e | e
        · exact Or.inl ⟨e, hq⟩
        · exact Or.inr e
    rcases hxm with ⟨rfl, hq⟩ | hx
    · obtain ⟨m1, m2, m3⟩ := h.mem x (by simp)
      refine ⟨m1, m2, ?_⟩
      rw [upd_other _ _ _ _ (by omega), upd_same]
      omega
    · obtain ⟨m1, m2, m3⟩ := h.mem x (by simp [hx])
      have hxo := h2.1 x hx
      refine ⟨m1, m2, ?_⟩
      rw [upd_other _ _ _ _ (by omega), upd_other _ _ _ _ (by omega)]
      exact m3
  · intro i
    have := h.bd i
    have := h.bd o
    have := h.bd c
    simp only [upd]
    split
    · subst_vars; omega
    · split
      · subst_vars; omega
      · omega
end Go.Proofs.Ytldillhgpjmjpaa
