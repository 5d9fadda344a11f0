/-
  PROVED: plain facts on definitions over lists of bytes: the ways in which one is there or not, and how far it goes. No program in it. Conditions: none.
-/
import Derived.Test.YtfoheffbapifpaaDoorBehind
namespace Go.Proofs.YtfoheffbapifpaaDoor
open Go.RowKit
set_option linter.unusedVariables false

theorem lab_le (l : List UInt8) : (labP l).1.length ≤ (labP l).2 ∧ (labP l).2 ≤ l.length ∧ ((labP l).2 = 0 ∨ (labP l).2 = (labP l).1.length + 2) := by
  unfold labP
  cases h : labelL l with
  | none => simp
  | some t =>
    cases l with
    | nil => cases h
    | cons x b =>
      simp only [labelL] at h
      split at h
      · cases he : encG 93 [91] b with
        | none => rw [he] at h; cases h
        | some t' =>
          rw [he, Option.bind_some] at h
          split at h
          · cases h
            obtain ⟨_, _, h3, _⟩ := encG_len 93 [91] b t he
            exact ⟨Nat.le_add_right _ _, by rw [List.length_cons]; show t.length + 2 ≤ _; omega, .inr rfl⟩
          · cases h
      · cases h
theorem told_le (c e : UInt8) (o l : List UInt8) : (toldP (encO c e o l)).2 ≤ l.length := by
  cases h : encO c e o l with
  | none => exact Nat.zero_le _
  | some t => have := encO_len _ _ _ _ _ h; simp only [toldP]; omega
theorem dest_le (l : List UInt8) : (destP l).2 ≤ l.length := by
  by_cases h : l.head? = some 60
  · rw [dest_lt l h]; exact told_le _ _ _ _
  · unfold destP; rw [if_neg h]; exact bareL_le l
theorem rest_le (l : List UInt8) (m : Nat) (h : restL l = some m) : m ≤ l.length := by
  unfold restL at h
  split at h
  · cases h; exact Nat.le_refl _
  · split at h
    · cases h; omega
    · cases h
theorem titB_ways (l : List UInt8) :
    (titB l = none ∧ (1 < gapC l ∨ gapN l = 0)) ∨
    (titB l = none ∧ gapC l ≤ 1 ∧ 0 < gapN l ∧ (titleP (l.drop (gapN l))).2 = 0) ∨
    (gapC l ≤ 1 ∧ 0 < gapN l ∧ 0 < (titleP (l.drop (gapN l))).2 ∧ gapN l + (titleP (l.drop (gapN l))).2 ≤ l.length ∧ titB l = some ((titleP (l.drop (gapN l))).1, gapN l + (titleP (l.drop (gapN l))).2)) := by
  have hle := titleP_le (l.drop (gapN l))
  have hg := gapN_le l
  rw [List.length_drop] at hle
  unfold titB
  rw [gapL_is]
  by_cases hc : gapC l ≤ 1
  · rw [if_pos hc]
    simp only []
    by_cases h0 : gapN l = 0
    · rw [if_pos (.inl h0)]; exact .inl ⟨rfl, .inr h0⟩
    · by_cases h1 : (titleP (l.drop (gapN l))).2 = 0
      · rw [if_pos (.inr h1)]; exact .inr (.inl ⟨rfl, hc, by omega, h1⟩)
      · rw [if_neg (by omega)]; exact .inr (.inr ⟨hc, by omega, by omega, by omega, rfl⟩)
  · rw [if_neg hc]; exact .inl ⟨rfl, .inl (by omega)⟩
theorem titB_bd (l v : List UInt8) (e : Nat) (h : titB l = some (v, e)) : 0 < e ∧ e ≤ l.length := by
  rcases titB_ways l with ⟨h1, _⟩ | ⟨h1, _⟩ | ⟨h1, h2, h3, h4, h5⟩
  · rw [h1] at h; cases h
  · rw [h1] at h; cases h
  · rw [h5] at h; cases h; omega
theorem fin_ways (x y : List UInt8) (tt : Nat) (l : List UInt8) :
    (titB l = none ∧ finL x y tt l = (restL l).map fun n => (x, y, [], tt, tt + n)) ∨
    (∃ v e, titB l = some (v, e) ∧ 0 < e ∧ e ≤ l.length ∧ restL (l.drop e) = none ∧ finL x y tt l = (restL l).map fun n => (x, y, [], tt, tt + n)) ∨
    (∃ v e m, titB l = some (v, e) ∧ 0 < e ∧ e ≤ l.length ∧ restL (l.drop e) = some m ∧ e + m ≤ l.length ∧ finL x y tt l = some (x, y, v, tt + e, tt + (e + m))) := by
  unfold finL titE
  cases h : titB l with
  | none => exact .inl ⟨rfl, by rw [Option.bind_none]⟩
  | some q =>
    obtain ⟨v, e⟩ := q
    have hb := titB_bd l v e h
    rw [Option.bind_some]
    cases hr : restL (l.drop e) with
    | none => exact .inr (.inl ⟨v, e, rfl, hb.1, hb.2, hr, by simp only [Option.map_none]⟩)
    | some m =>
      have := rest_le _ _ hr
      rw [List.length_drop] at this
      exact .inr (.inr ⟨v, e, m, rfl, hb.1, hb.2, hr, by omega, by simp only [Option.map_some]⟩)
theorem def_ways (l : List UInt8) :
    ((labP l).2 = 0 ∧ defL l = none) ∨
    ∃ x n, labP l = (x, n) ∧ 0 < n ∧ n ≤ l.length ∧ x.length ≤ n ∧ (
      ((l.drop n).head? ≠ some 58 ∧ defL l = none) ∨
      ((l.drop n).head? = some 58 ∧ n + 1 ≤ l.length ∧ (
        (1 < gapC (l.drop (n + 1)) ∧ defL l = none) ∨
        (gapC (l.drop (n + 1)) ≤ 1 ∧ ∃ q y k, q = n + 1 + gapN (l.drop (n + 1)) ∧ q ≤ l.length ∧ destP (l.drop q) = (y, k) ∧ (
          (k = 0 ∧ defL l = none) ∨
          (0 < k ∧ q + k ≤ l.length ∧ defL l = finL (foldB x) y (q + k) (l.drop (q + k)))))))) := by
  obtain ⟨h1, h2, _⟩ := lab_le l
  by_cases hn : (labP l).2 = 0
  · refine .inl ⟨hn, ?_⟩
    unfold defL
    rw [if_pos (.inl hn)]
  refine .inr ⟨(labP l).1, (labP l).2, rfl, by omega, h2, h1, ?_⟩
  by_cases h58 : (l.drop (labP l).2).head? = some 58
  · have hlt : (labP l).2 + 1 ≤ l.length := by
      by_cases h : (labP l).2 < l.length
      · omega
      · rw [List.drop_eq_nil_of_le (by omega)] at h58; cases h58
    refine .inr ⟨h58, hlt, ?_⟩
    have hg := gapN_le (l.drop ((labP l).2 + 1))
    rw [List.length_drop] at hg
    by_cases hc : gapC (l.drop ((labP l).2 + 1)) ≤ 1
    · refine .inr ⟨hc, (labP l).2 + 1 + gapN (l.drop ((labP l).2 + 1)), (destP (l.drop ((labP l).2 + 1 + gapN (l.drop ((labP l).2 + 1))))).1, (destP (l.drop ((labP l).2 + 1 + gapN (l.drop ((labP l).2 + 1))))).2, rfl, by omega, rfl, ?_⟩
      have hd := dest_le (l.drop ((labP l).2 + 1 + gapN (l.drop ((labP l).2 + 1))))
      rw [List.length_drop] at hd
      by_cases hk : (destP (l.drop ((labP l).2 + 1 + gapN (l.drop ((labP l).2 + 1))))).2 = 0
      · refine .inl ⟨hk, ?_⟩
        unfold defL
        rw [if_neg (fun h => h.elim hn (fun h' => h' h58)), gapL_is, if_pos hc]
        simp only []
        rw [if_pos hk]
      · refine .inr ⟨by omega, by omega, ?_⟩
        unfold defL
        rw [if_neg (fun h => h.elim hn (fun h' => h' h58)), gapL_is, if_pos hc]
        simp only []
        rw [if_neg hk]
    · refine .inl ⟨by omega, ?_⟩
      unfold defL
      rw [if_neg (fun h => h.elim hn (fun h' => h' h58)), gapL_is, if_neg hc]
  · refine .inl ⟨h58, ?_⟩
    unfold defL
    rw [if_pos (.inr h58)]
/-- How far a definition goes, and that its label is folded. -/
theorem def_bd (l x y z : List UInt8) (tt n : Nat) (h : defL l = some (x, y, z, tt, n)) : 0 < tt ∧ tt ≤ n ∧ n ≤ l.length ∧ foldB x = x := by
  rcases def_ways l with ⟨_, h1⟩ | ⟨x', n', hl, hn, hnl, _, ⟨_, h1⟩ | ⟨_, hn1, ⟨_, h1⟩ | ⟨_, q, y', k, hq, hql, hd, ⟨_, h1⟩ | ⟨hk, hqk, hf⟩⟩⟩⟩
  · rw [h1] at h; cases h
  · rw [h1] at h; cases h
  · rw [h1] at h; cases h
  · rw [h1] at h; cases h
  · rw [hf] at h
    have key : ∀ m, restL (l.drop (q + k)) = some m → q + k + m ≤ l.length := fun m hm => by
      have := rest_le _ _ hm
      rw [List.length_drop] at this
      omega
    rcases fin_ways (foldB x') y' (q + k) (l.drop (q + k)) with ⟨_, h1⟩ | ⟨v, e, _, _, _, _, h1⟩ | ⟨v, e, m, _, he, hel, hr, hem, h1⟩
    · rw [h1] at h
      obtain ⟨m, hm, h2⟩ := Option.map_eq_some_iff.1 h
      have := key m hm
      cases h2
      exact ⟨by omega, by omega, this, foldB_again _⟩
    · rw [h1] at h
      obtain ⟨m, hm, h2⟩ := Option.map_eq_some_iff.1 h
      have := key m hm
      cases h2
      exact ⟨by omega, by omega, this, foldB_again _⟩
    · rw [h1] at h
      cases h
      rw [List.length_drop] at hem
      exact ⟨by omega, by omega, by omega, foldB_again _⟩
end Go.Proofs.YtfoheffbapifpaaDoor
