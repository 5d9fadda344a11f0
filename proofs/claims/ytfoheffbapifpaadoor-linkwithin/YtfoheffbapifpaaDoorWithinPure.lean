/-
  PROVED: plain facts: what a label, a destination, a title and a definition at a place are told of the text from there on, and which of them stand beside each other. No program in it. Conditions: none.
-/
import Derived.Test.YtfoheffbapifpaaDoorDefAny
namespace Go.Proofs.YtfoheffbapifpaaDoor
open Go.RowKit
set_option linter.unusedVariables false

theorem at_cut (s : ByteArray) (p k : Nat) : ((lst s).drop (p + 1))[k]? = (lst s)[p + 1 + k]? := by rw [List.getElem?_drop]
theorem get_of (s : ByteArray) (k : Nat) (c : UInt8) (h : (lst s)[k]? = some c) : ∃ hk : k < s.size, (s[k]'hk) = c := by
  have hk : k < s.size := by have := (List.getElem?_eq_some_iff.1 h).1; rw [lst_size] at this; exact this
  refine ⟨hk, ?_⟩
  rw [lst_get s k hk] at h
  exact Option.some.inj h
theorem cons_of (s : ByteArray) (p : Nat) (x : UInt8) (b : List UInt8) (h : (lst s).drop p = x :: b) : ∃ hp : p < s.size, (s[p]'hp) = x ∧ b = (lst s).drop (p + 1) := by
  by_cases hp : p < s.size
  · rw [lst_at s p hp] at h
    cases h
    exact ⟨hp, rfl, rfl⟩
  · rw [lst_out s p (by omega)] at h; cases h
/-- A label at a place. -/
theorem lab_at (s : ByteArray) (p n : Nat) (x : List UInt8) (h : labP ((lst s).drop p) = (x, n)) (hn : 0 < n) : ∃ hp : p < s.size, 3 ≤ n ∧ p + n ≤ s.size ∧ (s[p]'hp) = 91 ∧ (∃ hq : p + n - 1 < s.size, (s[p + n - 1]'hq) = 93) ∧ lst (s.extract (p + 1) (p + n - 1)) = x := by
  unfold labP at h
  cases hl : labelL ((lst s).drop p) with
  | none => rw [hl] at h; cases h; omega
  | some t =>
    rw [hl] at h
    cases h
    cases hd : (lst s).drop p with
    | nil => rw [hd] at hl; cases hl
    | cons c b =>
      rw [hd] at hl
      simp only [labelL] at hl
      split at hl
      · rename_i h91
        obtain ⟨hp, h1, hb⟩ := cons_of s p c b hd
        cases he : encG 93 [91] b with
        | none => rw [he] at hl; cases hl
        | some t' =>
          rw [he, Option.bind_some] at hl
          split at hl
          · rename_i hok
            cases hl
            obtain ⟨e1, e2, e3, _⟩ := encG_len 93 [91] b x he
            rw [hb, at_cut] at e2
            obtain ⟨hq, h93⟩ := get_of s _ _ e2
            have hpos : 0 < x.length := by
              cases x with
              | nil => simp [okLab, someL] at hok
              | cons y l => simp
            refine ⟨hp, by omega, by omega, h1.trans h91, ⟨by omega, ?_⟩, ?_⟩
            · rw [← h93]
              congr 1
              omega
            · rw [lst_cut, List.drop_take, show p + (x.length + 2) - 1 - (p + 1) = x.length by omega, ← hb]
              exact e1.symm
          · cases hl
      · cases hl
theorem told_atp (c e : UInt8) (o l : List UInt8) (h : 0 < (toldP (encO c e o l)).2) : ∃ t b, l = c :: b ∧ encG e o b = some t ∧ toldP (encO c e o l) = (plG 0 t, t.length + 2) := by
  cases l with
  | nil => simp [encO, toldP] at h
  | cons x b =>
    simp only [encO] at h ⊢
    by_cases hx : x = c
    · rw [if_pos hx] at h ⊢
      cases he : encG e o b with
      | none => rw [he] at h; simp [toldP] at h
      | some t => exact ⟨t, b, by rw [hx], he, rfl⟩
    · rw [if_neg hx] at h; simp [toldP] at h
/-- A title at a place. -/
theorem title_at (s : ByteArray) (p j : Nat) (x : List UInt8) (h : titleP ((lst s).drop p) = (x, j)) (hj : 0 < j) : ∃ hp : p < s.size, 2 ≤ j ∧ p + j ≤ s.size ∧ (s[p]'hp) ≠ 91 ∧ plG 0 (lst (s.extract (p + 1) (p + j - 1))) = x := by
  have key : ∀ (c e : UInt8) (o : List UInt8), c ≠ 91 → toldP (encO c e o ((lst s).drop p)) = (x, j) → ∃ hp : p < s.size, 2 ≤ j ∧ p + j ≤ s.size ∧ (s[p]'hp) ≠ 91 ∧ plG 0 (lst (s.extract (p + 1) (p + j - 1))) = x := by
    intro c e o hc hT
    obtain ⟨t, b, hl, he, hv⟩ := told_atp c e o ((lst s).drop p) (by rw [hT]; exact hj)
    rw [hT] at hv
    cases hv
    obtain ⟨hp, h1, hb⟩ := cons_of s p c b hl
    obtain ⟨e1, e2, e3, _⟩ := encG_len e o b t he
    rw [hb, List.length_drop, lst_size] at e3
    refine ⟨hp, by omega, by omega, by rw [h1]; exact hc, ?_⟩
    rw [lst_cut, List.drop_take, show p + (t.length + 2) - 1 - (p + 1) = t.length by omega, ← hb, ← e1]
  rw [title_is] at h
  split at h
  · exact key _ _ _ (by decide) h
  · split at h
    · exact key _ _ _ (by decide) h
    · exact key _ _ _ (by decide) h
/-- A definition begins with a label. -/
theorem def_lab (l : List UInt8) (h : (labP l).2 = 0) : defL l = none := by
  unfold defL
  rw [if_pos (.inl h)]
theorem foldG_len : ∀ (rs : List Int) (g ne : Bool), (encL (foldG g ne rs)).length ≤ 5 * rs.length
  | [], g, ne => by rw [foldG]; simp [encL]
  | r :: rs, g, ne => by
    cases h : isBlank r with
    | true => rw [foldG_blank _ _ _ _ h, List.length_cons]; have := foldG_len rs true ne; omega
    | false =>
      rw [foldG_no _ _ _ _ h, encL_append, encL_append, List.length_append, List.length_append, List.length_cons]
      have h1 := foldG_len rs false true
      have h2 := encL_fold_len r
      have h3 : (encL (if g = true ∧ ne = true then [32] else [])).length ≤ 1 := by split <;> decide
      omega
theorem foldB_len (l : List UInt8) : (foldB l).length ≤ 5 * l.length := by
  have h1 := foldG_len (runesL l) false false
  have h2 := runesL_len _ l (Nat.le_refl _)
  unfold foldB
  omega
theorem def_len (l x y z : List UInt8) (tt n : Nat) (h : defL l = some (x, y, z, tt, n)) : x.length ≤ 5 * l.length := by
  rcases def_ways l with ⟨_, h1⟩ | ⟨x', n', hl, hn, hnl, hx, ⟨_, h1⟩ | ⟨_, hn1, ⟨_, h1⟩ | ⟨_, q, y', k, hq, hql, hd, ⟨_, h1⟩ | ⟨hk, hqk, hf⟩⟩⟩⟩
  · rw [h1] at h; cases h
  · rw [h1] at h; cases h
  · rw [h1] at h; cases h
  · rw [h1] at h; cases h
  · rw [hf] at h
    have hb := foldB_len x'
    rcases fin_ways (foldB x') y' (q + k) (l.drop (q + k)) with ⟨_, h1⟩ | ⟨v, e, _, _, _, _, h1⟩ | ⟨v, e, m, _, he, hel, hr, hem, h1⟩
    · rw [h1] at h
      obtain ⟨m, hm, h2⟩ := Option.map_eq_some_iff.1 h
      cases h2
      omega
    · rw [h1] at h
      obtain ⟨m, hm, h2⟩ := Option.map_eq_some_iff.1 h
      cases h2
      omega
    · rw [h1] at h
      cases h
      omega
end Go.Proofs.YtfoheffbapifpaaDoor
