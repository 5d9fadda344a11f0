/-
  PROVED: plain facts on places: which line an offset lies on, how many characters begin ahead of it, and the least offset of a place. No program in it. Conditions: none.
-/
import Derived.Test.YtinbdangpehkaaaRune
import Derived.Test.YtinbdangpehkaaaLinePure
namespace Go.Proofs.Ytinbdangpehkaaa
open Go.RowKit
set_option linter.unusedVariables false

/-- How many bytes the character has that begins at p. -/
def wd (s : ByteArray) (p : Nat) : Nat := (Utf8.decode s p).2
theorem wd_bd (s : ByteArray) (p : Nat) (h : p < s.size) : 1 ≤ wd s p ∧ wd s p ≤ 4 ∧ p + wd s p ≤ s.size := by
  have := dec_bd s p h
  exact ⟨this.1, this.2.1, this.2.2.1⟩
theorem wd_pos (s : ByteArray) (p : Nat) : 1 ≤ wd s p := by
  unfold wd
  rw [Lib.decode_at]
  unfold Lib.decodeN
  repeat' split
  all_goals simp only []
  all_goals omega

/-- How many characters begin from p on ahead of i. -/
def cnt (s : ByteArray) (p i : Nat) : Nat := if p < i then 1 + cnt s (p + wd s p) i else 0
termination_by i - p
decreasing_by have := wd_pos s p; omega
theorem cnt_go (s : ByteArray) (p i : Nat) (h : p < i) : cnt s p i = 1 + cnt s (p + wd s p) i := by rw [cnt, if_pos h]
theorem cnt_out (s : ByteArray) (p i : Nat) (h : i ≤ p) : cnt s p i = 0 := by rw [cnt, if_neg (by omega)]
theorem cnt_le (s : ByteArray) (i : Nat) : ∀ (n p : Nat), i - p ≤ n → cnt s p i ≤ n
  | 0, p, h => by rw [cnt_out s p i (by omega)]; exact Nat.le_refl _
  | n + 1, p, h => by
    by_cases hp : p < i
    · have h1 := wd_pos s p
      have := cnt_le s i n (p + wd s p) (by omega)
      rw [cnt_go s p i hp]
      omega
    · rw [cnt_out s p i (by omega)]; exact Nat.zero_le _

/-- The least offset from p on, up to e, ahead of which c characters begin (c at least 1). -/
def leastB (s : ByteArray) (e : Nat) (p : Nat) : Nat → Option Nat
  | 0 => none
  | c + 1 => if p < e then (if c = 0 then some (p + 1) else leastB s e (p + wd s p) c) else none
theorem leastB_some (s : ByteArray) (e : Nat) : ∀ (c p j : Nat), leastB s e p c = some j → p < j ∧ j ≤ e ∧ cnt s p j = c ∧ ∀ i, i < j → cnt s p i ≠ c
  | 0, p, j, h => by cases h
  | c + 1, p, j, h => by
    have hw := wd_pos s p
    unfold leastB at h
    by_cases hp : p < e
    · rw [if_pos hp] at h
      by_cases hc : c = 0
      · rw [if_pos hc] at h
        injection h with h
        subst h
        subst hc
        refine ⟨by omega, by omega, ?_, fun i hi => ?_⟩
        · rw [cnt_go s p _ (by omega), cnt_out s _ _ (by omega)]
        · rw [cnt_out s p i (by omega)]; omega
      · rw [if_neg hc] at h
        obtain ⟨h1, h2, h3, h4⟩ := leastB_some s e c (p + wd s p) j h
        refine ⟨by omega, h2, ?_, fun i hi => ?_⟩
        · rw [cnt_go s p j (by omega), h3]; omega
        · by_cases hpi : p < i
          · have := h4 i hi
            rw [cnt_go s p i hpi]; omega
          · rw [cnt_out s p i (by omega)]; omega
    · rw [if_neg hp] at h; cases h
theorem leastB_none (s : ByteArray) (e : Nat) : ∀ (c p : Nat), 1 ≤ c → leastB s e p c = none → ∀ i, i ≤ e → cnt s p i ≠ c
  | 0, p, hc, h, i, hi => by omega
  | c + 1, p, _, h, i, hi => by
    unfold leastB at h
    by_cases hp : p < e
    · rw [if_pos hp] at h
      by_cases hc : c = 0
      · rw [if_pos hc] at h; cases h
      · rw [if_neg hc] at h
        have := leastB_none s e c (p + wd s p) (by omega) h i hi
        by_cases hpi : p < i
        · rw [cnt_go s p i hpi]; omega
        · rw [cnt_out s p i (by omega)]; omega
    · rw [cnt_out s p i (by omega)]; omega
/-- Two offsets ahead of which as many characters begin are less than four apart. -/
theorem cnt_near (s : ByteArray) (i : Nat) (hi : i ≤ s.size) : ∀ (n p j : Nat), i - p ≤ n → p < j → j ≤ i → cnt s p j = cnt s p i → i - j < 4
  | 0, p, j, hn, h1, h2, h3 => by omega
  | n + 1, p, j, hn, h1, h2, h3 => by
    have hw := wd_bd s p (by omega)
    rw [cnt_go s p j h1, cnt_go s p i (by omega)] at h3
    by_cases hj : p + wd s p < j
    · exact cnt_near s i hi n (p + wd s p) j (by omega) hj h2 (by omega)
    · rw [cnt_out s _ j (by omega)] at h3
      by_cases hq : p + wd s p < i
      · rw [cnt_go s _ i hq] at h3; omega
      · omega

/-- A line has an end of its own. -/
def ended (s : ByteArray) (f : Nat) : Prop := lineTo s f < lineEnd s f
instance (s : ByteArray) (f : Nat) : Decidable (ended s f) := inferInstanceAs (Decidable (lineTo s f < lineEnd s f))
theorem ended_lt (s : ByteArray) (f : Nat) (h : ended s f) : f < s.size ∧ f < lineEnd s f ∧ lineEnd s f ≤ s.size := by
  have h1 := lineTo_ge s f
  have h2 : lineTo s f < s.size := by
    refine Nat.lt_of_not_le fun hc => ?_
    unfold ended lineEnd endLen at h
    rw [if_neg (by omega)] at h
    omega
  have h3 : f < s.size := by omega
  exact ⟨h3, lineEnd_gt s f h3, lineEnd_le s f (by omega)⟩
theorem not_ended (s : ByteArray) (f : Nat) (hf : f ≤ s.size) (h : ¬ ended s f) : lineTo s f = s.size ∧ lineEnd s f = s.size := by
  have h1 := lineTo_le s f hf
  have h2 := endLen_bd s (lineTo s f) h1
  unfold ended at h
  have h3 : lineEnd s f = lineTo s f + endLen s (lineTo s f) := rfl
  by_cases hl : lineTo s f < s.size
  · have := h2.2.2 hl; omega
  · omega

/-- The line on which an offset lies, gone through from line n on, which begins at f: its number and where it begins. -/
def loc (s : ByteArray) (i : Nat) (n f : Nat) : Nat × Nat := if ended s f ∧ lineEnd s f ≤ i then loc s i (n + 1) (lineEnd s f) else (n, f)
termination_by s.size - f
decreasing_by
  rename_i h
  have := ended_lt s f h.1
  omega
theorem loc_go (s : ByteArray) (i n f : Nat) (h : ended s f ∧ lineEnd s f ≤ i) : loc s i n f = loc s i (n + 1) (lineEnd s f) := by rw [loc, if_pos h]
theorem loc_out (s : ByteArray) (i n f : Nat) (h : ¬ (ended s f ∧ lineEnd s f ≤ i)) : loc s i n f = (n, f) := by rw [loc, if_neg h]

/-- The beginning of the line that stands k lines behind the one that begins at f. -/
def walkTo (s : ByteArray) : Nat → Nat → Option Nat
  | 0, f => some f
  | k + 1, f => if ended s f then walkTo s k (lineEnd s f) else none

theorem walkTo_ge (s : ByteArray) : ∀ (k f g : Nat), f ≤ s.size → walkTo s k f = some g → f ≤ g ∧ g ≤ s.size
  | 0, f, g, hf, h => by injection h with h; subst h; exact ⟨Nat.le_refl _, hf⟩
  | k + 1, f, g, hf, h => by
    unfold walkTo at h
    by_cases he : ended s f
    · rw [if_pos he] at h
      have h1 := ended_lt s f he
      have := walkTo_ge s k (lineEnd s f) g h1.2.2 h
      omega
    · rw [if_neg he] at h; cases h

/-- Which line an offset lies on: gone through, it is just the line that has it. -/
theorem loc_of (s : ByteArray) (i : Nat) : ∀ (k n f g : Nat), f ≤ s.size → walkTo s k f = some g → g ≤ i → ¬ (ended s g ∧ lineEnd s g ≤ i) → loc s i n f = (n + k, g)
  | 0, n, f, g, hf, h, hg, hn => by
    injection h with h; subst h
    exact loc_out s i n f hn
  | k + 1, n, f, g, hf, h, hg, hn => by
    unfold walkTo at h
    by_cases he : ended s f
    · rw [if_pos he] at h
      have h1 := ended_lt s f he
      have h2 := walkTo_ge s k _ g h1.2.2 h
      rw [loc_go s i n f ⟨he, by omega⟩, loc_of s i k (n + 1) _ g h1.2.2 h hg hn, show n + 1 + k = n + (k + 1) from by omega]
    · rw [if_neg he] at h; cases h
theorem loc_is (s : ByteArray) (i : Nat) : ∀ (m n f : Nat), s.size - f ≤ m → f ≤ s.size → f ≤ i → ∃ k, loc s i n f = (n + k, (loc s i n f).2) ∧ walkTo s k f = some (loc s i n f).2 ∧ (loc s i n f).2 ≤ i ∧ ¬ (ended s (loc s i n f).2 ∧ lineEnd s (loc s i n f).2 ≤ i)
  | 0, n, f, hm, hf, hi => by
    have hn : ¬ (ended s f ∧ lineEnd s f ≤ i) := fun h => by have := ended_lt s f h.1; omega
    rw [loc_out s i n f hn]
    exact ⟨0, rfl, rfl, hi, hn⟩
  | m + 1, n, f, hm, hf, hi => by
    by_cases hn : ended s f ∧ lineEnd s f ≤ i
    · have h1 := ended_lt s f hn.1
      obtain ⟨k, h2, h3, h4, h5⟩ := loc_is s i m (n + 1) (lineEnd s f) (by omega) h1.2.2 hn.2
      rw [loc_go s i n f hn]
      refine ⟨k + 1, by rw [show n + (k + 1) = n + 1 + k from by omega]; exact h2, ?_, h4, h5⟩
      unfold walkTo
      rw [if_pos hn.1]
      exact h3
    · rw [loc_out s i n f hn]
      exact ⟨0, rfl, rfl, hi, hn⟩

/-- The place of an offset. -/
def placeL (s : ByteArray) (i : Nat) : Nat := (loc s i 1 0).1
def placeC (s : ByteArray) (i : Nat) : Nat := 1 + cnt s (loc s i 1 0).2 i
theorem place_of (s : ByteArray) (i k g : Nat) (h : walkTo s k 0 = some g) (hg : g ≤ i) (hn : ¬ (ended s g ∧ lineEnd s g ≤ i)) : placeL s i = 1 + k ∧ placeC s i = 1 + cnt s g i := by
  have := loc_of s i k 1 0 g (Nat.zero_le _) h hg hn
  unfold placeL placeC
  rw [this]
  exact ⟨rfl, rfl⟩
theorem place_is (s : ByteArray) (i : Nat) : ∃ k g, walkTo s k 0 = some g ∧ g ≤ i ∧ ¬ (ended s g ∧ lineEnd s g ≤ i) ∧ placeL s i = 1 + k ∧ placeC s i = 1 + cnt s g i := by
  obtain ⟨k, h1, h2, h3, h4⟩ := loc_is s i _ 1 0 (Nat.le_refl _) (Nat.zero_le _) (Nat.zero_le _)
  refine ⟨k, _, h2, h3, h4, ?_, rfl⟩
  unfold placeL
  rw [h1]
theorem walkTo_inj (s : ByteArray) (k f g g' : Nat) (h : walkTo s k f = some g) (h' : walkTo s k f = some g') : g = g' := by rw [h] at h'; injection h'

/-- The least offset of a place, as text.Offset goes for it; none, if there is none. -/
def offIn (s : ByteArray) (g c : Nat) : Option Nat :=
  if c = 0 then some g else (leastB s (lineEnd s g) g c).bind fun j => if ended s g ∧ j = lineEnd s g then none else some j
def offOf (s : ByteArray) (k c : Nat) : Option Nat := (walkTo s k 0).bind fun g => offIn s g c

theorem offOf_some (s : ByteArray) (k c j : Nat) (h : offOf s k c = some j) : j ≤ s.size ∧ placeL s j = 1 + k ∧ placeC s j = 1 + c ∧ ∀ i, i < j → ¬ (placeL s i = 1 + k ∧ placeC s i = 1 + c) := by
  unfold offOf at h
  cases hg : walkTo s k 0 with
  | none => rw [hg] at h; cases h
  | some g =>
    rw [hg] at h
    have hgs := walkTo_ge s k 0 g (Nat.zero_le _) hg
    have h' : offIn s g c = some j := h
    unfold offIn at h'
    have key : g ≤ j ∧ j ≤ s.size ∧ ¬ (ended s g ∧ lineEnd s g ≤ j) ∧ cnt s g j = c ∧ ∀ i, g ≤ i → i < j → cnt s g i ≠ c := by
      by_cases hc : c = 0
      · rw [if_pos hc] at h'
        injection h' with h'
        subst h'
        exact ⟨Nat.le_refl _, hgs.2, fun hh => by have := ended_lt s g hh.1; omega, by rw [cnt_out s g g (Nat.le_refl _), hc], fun i h1 h2 => by omega⟩
      · rw [if_neg hc] at h'
        cases hl : leastB s (lineEnd s g) g c with
        | none => rw [hl] at h'; cases h'
        | some x =>
          rw [hl] at h'
          have h2 : (if ended s g ∧ x = lineEnd s g then none else some x) = some j := h'
          by_cases hx : ended s g ∧ x = lineEnd s g
          · rw [if_pos hx] at h2; cases h2
          · rw [if_neg hx] at h2
            injection h2 with h2
            subst h2
            obtain ⟨a1, a2, a3, a4⟩ := leastB_some s _ c g x hl
            have := lineEnd_le s g hgs.2
            exact ⟨by omega, by omega, fun hh => hx ⟨hh.1, by omega⟩, a3, fun i _ hi => a4 i hi⟩
    obtain ⟨k1, k2, k3, k4, k5⟩ := key
    obtain ⟨p1, p2⟩ := place_of s j k g hg k1 k3
    refine ⟨k2, p1, by rw [p2, k4], fun i hi hpi => ?_⟩
    obtain ⟨k', g', q1, q2, q3, q4, q5⟩ := place_is s i
    have hk : k' = k := by omega
    subst hk
    have hgg := walkTo_inj s k' 0 g g' hg q1
    subst hgg
    exact k5 i q2 hi (by omega)

theorem offOf_none (s : ByteArray) (k c : Nat) (h : offOf s k c = none) (i : Nat) (hi : i ≤ s.size) : ¬ (placeL s i = 1 + k ∧ placeC s i = 1 + c) := by
  intro hpi
  obtain ⟨k', g, q1, q2, q3, q4, q5⟩ := place_is s i
  have hk : k' = k := by omega
  subst hk
  unfold offOf at h
  rw [q1] at h
  have h' : offIn s g c = none := h
  unfold offIn at h'
  have hgs := walkTo_ge s k' 0 g (Nat.zero_le _) q1
  by_cases hc : c = 0
  · rw [if_pos hc] at h'; cases h'
  · rw [if_neg hc] at h'
    have hie : i ≤ lineEnd s g := by
      by_cases he : ended s g
      · exact Nat.le_of_lt (Nat.lt_of_not_le fun hh => q3 ⟨he, hh⟩)
      · have := not_ended s g hgs.2 he; omega
    cases hl : leastB s (lineEnd s g) g c with
    | none => exact leastB_none s _ c g (by omega) hl i hie (by omega)
    | some x =>
      rw [hl] at h'
      have h2 : (if ended s g ∧ x = lineEnd s g then none else some x) = none := h'
      by_cases hx : ended s g ∧ x = lineEnd s g
      · obtain ⟨a1, a2, a3, a4⟩ := leastB_some s _ c g x hl
        have hlt : i < lineEnd s g := Nat.lt_of_not_le fun hh => q3 ⟨hx.1, hh⟩
        exact a4 i (by omega) (by omega)
      · rw [if_neg hx] at h2; cases h2

/-- The place of an offset leads to an offset less than four ahead. -/
theorem back_near (s : ByteArray) (i j k c : Nat) (hi : i ≤ s.size) (h : offOf s k c = some j) (h1 : placeL s i = 1 + k) (h2 : placeC s i = 1 + c) : j ≤ i ∧ i - j < 4 := by
  obtain ⟨a1, a2, a3, a4⟩ := offOf_some s k c j h
  have hji : j ≤ i := Nat.le_of_not_lt fun hlt => a4 i hlt ⟨h1, h2⟩
  refine ⟨hji, ?_⟩
  obtain ⟨k', g, q1, q2, q3, q4, q5⟩ := place_is s i
  obtain ⟨k'', g', r1, r2, r3, r4, r5⟩ := place_is s j
  have e1 : k' = k := by omega
  have e2 : k'' = k := by omega
  subst e1
  subst e2
  have e3 := walkTo_inj s _ 0 g g' q1 r1
  subst e3
  by_cases hgj : g < j
  · exact cnt_near s i hi _ g j (Nat.le_refl _) hgj hji (by omega)
  · have hj : j = g := by omega
    subst hj
    rw [cnt_out s j j (Nat.le_refl _)] at r5
    by_cases hlt : j < i
    · rw [cnt_go s j i hlt] at q5; omega
    · omega
theorem back_there (s : ByteArray) (i k c : Nat) (hi : i ≤ s.size) (h1 : placeL s i = 1 + k) (h2 : placeC s i = 1 + c) : ∃ j, offOf s k c = some j := by
  cases h : offOf s k c with
  | some j => exact ⟨j, rfl⟩
  | none => exact absurd ⟨h1, h2⟩ (offOf_none s k c h i hi)
end Go.Proofs.Ytinbdangpehkaaa
