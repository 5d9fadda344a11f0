/-
  PROVED: what a tree of one's own is behind a store into one of its nodes, behind an append to one node's kids, and behind one node more. Conditions: as each says.
-/
import Derived.Test.YtdfhgcknelgdmaaDoorOwn
namespace Go.Proofs.YtdfhgcknelgdmaaDoor
open Go.ChangeShapes Go.WideShapes Go.ChangeAt Go.RowKit Go.Sort
set_option linter.unusedVariables false

theorem ncells_set : ∀ (T : List Nd) (S : List (Value × Value)) (i j : Nat) (n n' : Nd) (s s' : Value × Value) (u : Value), T[i]? = some n → S[i]? = some s → j < 10 → (ncell n s.1 s.2).set j u = ncell n' s'.1 s'.2 → (ncells T S).set (i * 10 + j) u = ncells (T.set i n') (S.set i s')
  | [], S, i, j, n, n', s, s', u, h, _, _, _ => by simp at h
  | _ :: _, [], i, j, n, n', s, s', u, _, h, _, _ => by simp at h
  | m :: T, r :: S, 0, j, n, n', s, s', u, h, h', hj, he => by
    simp at h h'
    subst h h'
    rw [Nat.zero_mul, Nat.zero_add, List.set_cons_zero, List.set_cons_zero, ncells, ncells, ← he, List.set_append_left _ _ (by exact hj)]
  | m :: T, r :: S, i + 1, j, n, n', s, s', u, h, h', hj, he => by
    have ih := ncells_set T S i j n n' s s' u (by simpa using h) (by simpa using h') hj he
    have e : (ncell m r.1 r.2).length = 10 := rfl
    rw [List.set_cons_succ, List.set_cons_succ, ncells, ncells, ← ih, List.set_append_right _ _ (by omega), e, show (i + 1) * 10 + j - 10 = i * 10 + j by omega]

/-- The block of a tree that has a node. -/
theorem OwnT.block {w : World} {base : Nat} {v : Value} {T : List Nd} {S : List (Value × Value)} (h : OwnT w base v T S) (hi : 0 < T.length) : ∃ g c, v = .slice (some ⟨g, 0, none⟩) T.length c ∧ base ≤ g ∧ g < w.heap.size := by
  rcases h.row.2 with ⟨hv, h0⟩ | ⟨g, cap, cur, hv, hb, hh, r⟩
  · omega
  · exact ⟨g, cap, hv, hb, (Array.getElem?_eq_some_iff.1 hh).1⟩
/-- A node's cells. -/
theorem OwnT.at {w : World} {base g c m : Nat} {T : List Nd} {S : List (Value × Value)} (h : OwnT w base (.slice (some ⟨g, 0, none⟩) m c) T S) {i : Nat} {n : Nd} {s : Value × Value} (hn : T[i]? = some n) (hs : S[i]? = some s) :
    Ten w g (i * 10) n s.1 s.2 ∧ ∀ j, w.frozen? ⟨g, j, none⟩ = false := by
  have hil : i < T.length := (List.getElem?_eq_some_iff.1 hn).1
  rcases h.row.2 with ⟨hv, h0⟩ | ⟨g', cap, cur, hv, hb, hh, hc, hm, hz, ht⟩
  · omega
  · injection hv with hv1 hv2 hv3
    injection hv1 with hv1
    injection hv1 with hv1
    subst hv1
    have key : ∀ j, j < 10 → w.cell? ⟨g, i * 10 + j, none⟩ = (ncell n s.1 s.2)[j]? := by
      intro j hj
      rw [← ncells_at T S i j n s hn hs hj, ← ht, List.getElem?_take_of_lt (by omega), cell_of_row w g (i * 10 + j) cur 39 (0, 0) hh]
      simp
    exact ⟨⟨key 0 (by omega), key 1 (by omega), key 2 (by omega), key 3 (by omega), key 4 (by omega), key 5 (by omega), key 6 (by omega), key 7 (by omega), key 8 (by omega), key 9 (by omega)⟩, fun j => by simp [World.frozen?, hh]⟩

/-- A store into a node: what the other blocks hold stays; the world between may have grown by the kids' row. -/
theorem OwnT.put {w w1 : World} {base g c m i j : Nat} {u : Value} {T : List Nd} {S : List (Value × Value)} {n n' : Nd} {s s' : Value × Value} (h : OwnT w base (.slice (some ⟨g, 0, none⟩) m c) T S) (hm : m = T.length) (hn : T[i]? = some n) (hs : S[i]? = some s) (hj : j < 10)
    (he : (ncell n s.1 s.2).set j u = ncell n' s'.1 s'.2) (hg : w.grownBy w1 s.1.ownBlock)
    (hk : w1.ownsRow base 3 1 s'.1 n'.ks.length (icells n'.ks)) (hp : w1.ownsRow base 42 2 s'.2 n'.ps.length (qcells n'.ps))
    (hat : s'.1.ownBlock = s.1.ownBlock ∨ ∀ k, s'.1.ownBlock = some k → w.heap.size ≤ k) :
    OwnT (w1.setCell ⟨g, i * 10 + j, none⟩ u) base (.slice (some ⟨g, 0, none⟩) m c) (T.set i n') (S.set i s') := by
  have hil : i < T.length := (List.getElem?_eq_some_iff.1 hn).1
  obtain ⟨o1, o2⟩ := h.sub i n s hn hs
  have hrow : w1.ownsRow base 39 10 (.slice (some ⟨g, 0, none⟩) m c) T.length (ncells T S) := h.row.kept hg (by
    refine Or.inr ?_
    intro e
    exact own_type o1 h.row (by decide) g e.symm rfl)
  refine ⟨by simp [h.len], ?_, ?_, ?_⟩
  · obtain ⟨h1, h2⟩ := hrow
    rw [List.length_set]
    refine ⟨by rw [ncells_len _ _ (by simp [h.len]), List.length_set], ?_⟩
    rcases h2 with ⟨h2, _⟩ | ⟨g', cap, cur, hv, hg', hh, hc, hm', hz, ht⟩
    · cases h2
    · injection hv with hv1 hv2 hv3
      injection hv1 with hv1
      injection hv1 with hv1
      subst hv1
      refine Or.inr ⟨g, cap, cur.setIfInBounds (i * 10 + j) u, by rw [hv3, hv2], hg', ?_, hc, hm', by simpa using hz, ?_⟩
      · simp [World.setCell, Array.getElem?_modify, hh]
      · rw [← ncells_set T S i j n n' s s' u hn hs hj he, ← ht]
        simp [List.take_set]
  · intro k nk sk hnk hsk
    by_cases hik : i = k
    · subst hik
      rw [List.getElem?_set_self hil] at hnk
      rw [List.getElem?_set_self (by rw [h.len]; exact hil)] at hsk
      obtain rfl := Option.some.inj hnk
      obtain rfl := Option.some.inj hsk
      exact ⟨own_set hk (fun e => own_type hk hrow (by decide) g e rfl), own_set hp (fun e => own_type hp hrow (by decide) g e rfl)⟩
    · rw [List.getElem?_set_ne hik] at hnk hsk
      obtain ⟨p1, p2⟩ := h.sub k nk sk hnk hsk
      have q1 : w1.ownsRow base 3 1 sk.1 nk.ks.length (icells nk.ks) := p1.kept hg (by
        cases hb : sk.1.ownBlock with
        | none => exact Or.inl rfl
        | some b =>
          refine Or.inr ?_
          intro e
          rcases Nat.lt_or_gt_of_ne hik with q | q
          · exact h.sep i k s sk b q hs hsk e.symm hb
          · exact h.sep k i sk s b q hsk hs hb e.symm)
      have q2 : w1.ownsRow base 42 2 sk.2 nk.ps.length (qcells nk.ps) := p2.kept hg (by
        cases hb : sk.2.ownBlock with
        | none => exact Or.inl rfl
        | some b => exact Or.inr fun e => own_type o1 p2 (by decide) b e.symm hb)
      exact ⟨own_set q1 (fun e => own_type q1 hrow (by decide) g e rfl), own_set q2 (fun e => own_type q2 hrow (by decide) g e rfl)⟩
  · have key : ∀ (k : Nat) (r : Value × Value) (b : Nat), i ≠ k → S[k]? = some r → r.1.ownBlock = some b → s'.1.ownBlock ≠ some b := by
      intro k r b hik hr hb hb'
      rcases hat with e | e
      · rw [e] at hb'
        rcases Nat.lt_or_gt_of_ne hik with q | q
        · exact h.sep i k s r b q hs hr hb' hb
        · exact h.sep k i r s b q hr hs hb hb'
      · have h1 := e b hb'
        have hk' : k < T.length := by rw [← h.len]; exact (List.getElem?_eq_some_iff.1 hr).1
        have h2 := (own_block_ge (h.sub k _ r (List.getElem?_eq_getElem hk') hr).1 b hb).2
        omega
    intro k l sk sl b hkl hsk hsl hb hb'
    by_cases hik : i = k
    · subst hik
      rw [List.getElem?_set_self (by rw [h.len]; exact hil)] at hsk
      rw [List.getElem?_set_ne (by omega)] at hsl
      obtain rfl := Option.some.inj hsk
      exact key l sl b (by omega) hsl hb' hb
    · rw [List.getElem?_set_ne hik] at hsk
      by_cases hil' : i = l
      · subst hil'
        rw [List.getElem?_set_self (by rw [h.len]; exact hil)] at hsl
        obtain rfl := Option.some.inj hsl
        exact key k sk b hik hsk hb hb'
      · rw [List.getElem?_set_ne hil'] at hsl
        exact h.sep k l sk sl b hkl hsk hsl hb hb'
theorem grown_refl (w : World) (row : Option Nat) : w.grownBy w row := ⟨rfl, rfl, rfl, Nat.le_refl _, fun _ _ _ => rfl⟩
/-- A store that leaves the kids' row. -/
theorem OwnT.put0 {w : World} {base g c m i j : Nat} {u : Value} {T : List Nd} {S : List (Value × Value)} {n n' : Nd} {s s' : Value × Value} (h : OwnT w base (.slice (some ⟨g, 0, none⟩) m c) T S) (hm : m = T.length) (hn : T[i]? = some n) (hs : S[i]? = some s) (hj : j < 10)
    (he : (ncell n s.1 s.2).set j u = ncell n' s'.1 s'.2) (hks : n'.ks = n.ks) (hk1 : s'.1 = s.1) (hp : w.ownsRow base 42 2 s'.2 n'.ps.length (qcells n'.ps)) :
    OwnT (w.setCell ⟨g, i * 10 + j, none⟩ u) base (.slice (some ⟨g, 0, none⟩) m c) (T.set i n') (S.set i s') :=
  h.put hm hn hs hj he (grown_refl _ _) (by rw [hks, hk1]; exact (h.sub i n s hn hs).1) hp (Or.inl (by rw [hk1]))
/-- What is made anew. -/
theorem own_new (w : World) (base e size : Nat) (cs : Array Value) (n : Nat) (hb : base ≤ w.heap.size) (hn : cs.size = n * size) (hm : n ≤ maxLen) : (w.alloc (.cells cs e)).ownsRow base e size (.slice (some ⟨w.heap.size, 0, none⟩) n n) n cs.toList := by
  refine ⟨by simpa using hn, Or.inr ⟨w.heap.size, n, cs, rfl, hb, heap_alloc_new w _, Nat.le_refl _, hm, hn, ?_⟩⟩
  exact List.take_of_length_le (by simp [hn])
/-- What a tree of one's own is, at a slice that is known. -/
theorem OwnT.tr' {w : World} {base m c : Nat} {A : Option Addr} {T : List Nd} {S : List (Value × Value)} (h : OwnT w base (.slice A m c) T S) : m = T.length ∧ Tr w w.heap.size A T := by
  obtain ⟨A', c', e, _, _, ht⟩ := h.tr
  injection e with e1 e2 e3
  subst e1
  exact ⟨e2, ht⟩
end Go.Proofs.YtdfhgcknelgdmaaDoor
