/-
  PROVED: changes that make a right tree a wrong one. Conditions: as each says; no program is named.
-/
import Derived.Test.YtdfhgcknelgdmaaDoorRightPure
namespace Go.Proofs.YtdfhgcknelgdmaaDoor
set_option linter.unusedVariables false

/-- The kids of a right tree's node. -/
theorem right_kids {T : List Nd} (h : parP T ≠ []) {i : Nat} {n : Nd} (hn : T[i]? = some n) : n.ks.Pairwise (· < ·) ∧ ∀ c ∈ n.ks, ∃ m : Nat, c = (m : Int) ∧ m < T.length := by
  obtain ⟨hg, hl, _, _⟩ := parP_right h
  have hi := (List.getElem?_eq_some_iff.1 hn).1
  obtain ⟨n', hn', h1, h2⟩ := (gone_facts hg).1 i (Nat.zero_le _) (by omega)
  rw [hn] at hn'
  obtain rfl := Option.some.inj hn'
  refine ⟨h1, fun c hc => ?_⟩
  obtain ⟨m, e, _, e2, _⟩ := h2 c hc
  exact ⟨m, e, by omega⟩
theorem wrong_far {T : List Nd} {i : Nat} {n : Nd} (hn : T[i]? = some n) (h : (T.length : Int) ∈ n.ks) : parP T = [] := by
  by_cases hr : parP T = []
  · exact hr
  · obtain ⟨m, e, e2⟩ := (right_kids hr hn).2 _ h
    omega
theorem wrong_twice {T : List Nd} {i : Nat} {n : Nd} {k : Int} {l : List Int} (hn : T[i]? = some n) (h : n.ks = k :: (l ++ [k])) : parP T = [] := by
  by_cases hr : parP T = []
  · exact hr
  · have h1 := (right_kids hr hn).1
    rw [h] at h1
    have := (List.pairwise_cons.1 h1).1 k (by simp)
    omega
theorem wrong_fit {T : List Nd} {i : Nat} {n : Nd} (hn : T[i]? = some n) (h : fitB n = false ∨ n.k < 1 ∨ 18 < n.k) : parP T = [] := by
  by_cases hr : parP T = []
  · exact hr
  · obtain ⟨h1, h2, h3, _⟩ := right_node hr hn
    rcases h with h | h | h
    · rw [h1] at h; cases h
    · omega
    · omega
theorem wrong_more {T : List Nd} (hr : parP T ≠ []) (x : Nd) : parP (T ++ [x]) = [] := by
  by_cases h : parP (T ++ [x]) = []
  · exact h
  · obtain ⟨hg, hl, _, _⟩ := parP_right h
    have hT : 0 < T.length := by rw [← (parP_right hr).2.1]; exact List.length_pos_iff.2 hr
    rw [List.length_append, List.length_singleton] at hl
    obtain ⟨j, q, _, hj, _, hq, hm⟩ := (gone_facts hg).2.1 T.length hT (by omega)
    rw [List.getElem?_append_left hj] at hq
    obtain ⟨m, e, e2⟩ := (right_kids hr hq).2 _ hm
    omega
end Go.Proofs.YtdfhgcknelgdmaaDoor
