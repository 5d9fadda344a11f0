/-
  PROVED: plain facts behind the laws of layer 7: marks with backslashes ahead are told as themselves, HTML is read as its text, a URL written again is the same. No program in it. Conditions: none.
-/
import Derived.Test.YtfoheffbapifpaaDoorEscPure
namespace Go.Proofs.YtfoheffbapifpaaDoor
open Go.RowKit
set_option linter.unusedVariables false

/-! ### marks with backslashes ahead -/
def m1 (c : UInt8) : List UInt8 := if pl c = true then [92, c] else [c]
def marksL (l : List UInt8) : List UInt8 := l.flatMap m1
theorem marksL_nil : marksL [] = [] := rfl
theorem marksL_cons (c : UInt8) (l : List UInt8) : marksL (c :: l) = m1 c ++ marksL l := by simp [marksL]
theorem m1_len (c : UInt8) : 1 ≤ (m1 c).length ∧ (m1 c).length ≤ 2 := by
  unfold m1
  split <;> simp
theorem marksL_len : ∀ l : List UInt8, (marksL l).length ≤ 2 * l.length
  | [] => Nat.le_refl _
  | c :: l => by
    have h6 := m1_len c
    have ih := marksL_len l
    rw [marksL_cons, List.length_append, List.length_cons]
    omega
theorem marks_back : ∀ l : List UInt8, plG 0 (marksL l) = l
  | [] => rfl
  | c :: l => by
    have ih := marks_back l
    rw [marksL_cons]
    unfold m1
    by_cases h : pl c = true
    · rw [if_pos h]
      have ht : told (92 :: c :: marksL l) = ([c], 2) := by
        unfold told
        have he : escd (92 :: c :: marksL l) = true := by show ((92 : UInt8) == 92 && pl c) = true; rw [h]; rfl
        rw [if_pos he]
        rfl
      show plG 0 (92 :: c :: marksL l) = c :: l
      rw [plG_go _ (by simp), ht]
      show [c] ++ plG 0 (marksL l) = c :: l
      rw [ih]
      rfl
    · rw [if_neg h]
      have hp := mt (pl_iff c).2 h
      have h92 : c ≠ 92 := fun e => hp (by subst e; decide)
      have h38 : c ≠ 38 := fun e => hp (by subst e; decide)
      have hesc : escd (c :: marksL l) = false := by
        have h' : (c == 92) = false := by simpa using h92
        cases marksL l with
        | nil => rfl
        | cons y r => show (c == 92 && pl y) = false; rw [h']; rfl
      have ht : told (c :: marksL l) = ([c], 1) := by
        unfold told
        rw [if_neg (by rw [hesc]; simp), entAt_not c _ h38]
        rfl
      show plG 0 (c :: marksL l) = c :: l
      rw [plG_go _ (by simp), ht]
      show [c] ++ plG 0 (marksL l) = c :: l
      rw [ih]
      rfl

/-! ### HTML -/
def special (c : UInt8) : Bool := c == 38 || c == 60 || c == 62 || c == 34
theorem html_none : ∀ (l : List UInt8), ∀ x ∈ htmlL l, x ≠ 60 ∧ x ≠ 62 ∧ x ≠ 34
  | [], x, h => by cases h
  | c :: l, x, h => by
    rw [htmlL_cons] at h
    rcases List.mem_append.1 h with h | h
    · unfold h1 at h
      have key : ∀ L : List UInt8, (∀ y ∈ L, y ≠ 60 ∧ y ≠ 62 ∧ y ≠ 34) → x ∈ L → x ≠ 60 ∧ x ≠ 62 ∧ x ≠ 34 := fun L hL hx => hL x hx
      split at h
      · exact key _ (by decide) h
      · split at h
        · exact key _ (by decide) h
        · split at h
          · exact key _ (by decide) h
          · split at h
            · exact key _ (by decide) h
            · next a b d e =>
              have : x = c := by simpa using h
              subst this
              exact ⟨b, d, e⟩
    · exact html_none l x h
/-- One of the four bytes, read back. -/
theorem html_ent (c : UInt8) (h : special c = true) (r : List UInt8) : ∃ v, entAt (h1 c ++ r) = some (v, (h1 c).length) ∧ chr v = [c] := by
  have hc : c = 38 ∨ c = 60 ∨ c = 62 ∨ c = 34 := by
    unfold special at h
    simp only [Bool.or_eq_true, beq_iff_eq] at h
    rcases h with ((h | h) | h) | h
    · exact Or.inl h
    · exact Or.inr (Or.inl h)
    · exact Or.inr (Or.inr (Or.inl h))
    · exact Or.inr (Or.inr (Or.inr h))
  rcases hc with rfl | rfl | rfl | rfl
  · exact ⟨38, (entAt_iff _ _ _).2 ⟨[97, 109, 112], r, rfl, by decide, by decide +kernel, rfl⟩, by decide +kernel⟩
  · exact ⟨60, (entAt_iff _ _ _).2 ⟨[108, 116], r, rfl, by decide, by decide +kernel, rfl⟩, by decide +kernel⟩
  · exact ⟨62, (entAt_iff _ _ _).2 ⟨[103, 116], r, rfl, by decide, by decide +kernel, rfl⟩, by decide +kernel⟩
  · exact ⟨34, (entAt_iff _ _ _).2 ⟨[113, 117, 111, 116], r, rfl, by decide, by decide +kernel, rfl⟩, by decide +kernel⟩
theorem html_plain (c : UInt8) (h : special c = false) : h1 c = [c] ∧ c ≠ 38 := by
  unfold special at h
  simp only [Bool.or_eq_false_iff, beq_eq_false_iff_ne, ne_eq] at h
  obtain ⟨⟨⟨h38, h60⟩, h62⟩, h34⟩ := h
  unfold h1
  rw [if_neg h38, if_neg h60, if_neg h62, if_neg h34]
  exact ⟨rfl, h38⟩

/-! ### URLs -/
theorem hexD_is (n : Nat) (h : n < 16) : hexV (hexD n) < 16 ∧ stays (hexD n) = true := by
  have : n = 0 ∨ n = 1 ∨ n = 2 ∨ n = 3 ∨ n = 4 ∨ n = 5 ∨ n = 6 ∨ n = 7 ∨ n = 8 ∨ n = 9 ∨ n = 10 ∨ n = 11 ∨ n = 12 ∨ n = 13 ∨ n = 14 ∨ n = 15 := by omega
  rcases this with rfl | rfl | rfl | rfl | rfl | rfl | rfl | rfl | rfl | rfl | rfl | rfl | rfl | rfl | rfl | rfl <;> decide
theorem hex_stays (c : UInt8) (h : hexV c < 16) : stays c = true := by
  have := hexV_is c
  unfold stays ltr dgt
  by_cases h1 : 48 ≤ c.toNat ∧ c.toNat ≤ 57
  · rw [decide_eq_true h1]; simp
  · rw [decide_eq_true (show 65 ≤ c.toNat ∧ c.toNat ≤ 90 ∨ 97 ≤ c.toNat ∧ c.toNat ≤ 122 by omega)]; rfl
theorem keep_stays (c : UInt8) (t : List UInt8) (h : stays c = true) : keep c t = true := by unfold keep; rw [h]; rfl
theorem u1_keep (c : UInt8) (t : List UInt8) (h : keep c t = true) : u1 c t = [c] := by unfold u1; rw [if_pos h]
theorem url_stays (c : UInt8) (t : List UInt8) (h : stays c = true) : urlL (c :: t) = c :: urlL t := by
  rw [urlL, u1_keep c t (keep_stays c t h)]
  rfl
theorem esc_url (t : List UInt8) (h : esc t = true) : esc (urlL t) = true := by
  cases t with
  | nil => cases h
  | cons a t =>
    cases t with
    | nil => cases h
    | cons b t =>
      have h' : (decide (hexV a < 16) && decide (hexV b < 16)) = true := h
      rw [Bool.and_eq_true, decide_eq_true_eq, decide_eq_true_eq] at h'
      rw [url_stays a _ (hex_stays a h'.1), url_stays b _ (hex_stays b h'.2)]
      exact h
theorem url_again : ∀ l : List UInt8, urlL (urlL l) = urlL l
  | [] => rfl
  | c :: l => by
    have ih := url_again l
    by_cases hk : keep c l = true
    · rw [urlL, u1_keep c l hk]
      show urlL (c :: urlL l) = c :: urlL l
      have hk2 : keep c (urlL l) = true := by
        unfold keep at hk ⊢
        rw [Bool.or_eq_true, Bool.and_eq_true] at hk ⊢
        rcases hk with h | h
        · exact Or.inl h
        · exact Or.inr ⟨h.1, esc_url l h.2⟩
      rw [urlL, u1_keep c _ hk2, ih]
      rfl
    · have hu : u1 c l = [37, hexD (c.toNat / 16), hexD (c.toNat % 16)] := by unfold u1; rw [if_neg hk]
      have hc := c.toNat_lt
      have ha := hexD_is (c.toNat / 16) (by omega)
      have hb := hexD_is (c.toNat % 16) (by omega)
      rw [urlL, hu]
      show urlL (37 :: hexD (c.toNat / 16) :: hexD (c.toNat % 16) :: urlL l) = 37 :: hexD (c.toNat / 16) :: hexD (c.toNat % 16) :: urlL l
      have hk3 : keep 37 (hexD (c.toNat / 16) :: hexD (c.toNat % 16) :: urlL l) = true := by
        unfold keep
        have he : esc (hexD (c.toNat / 16) :: hexD (c.toNat % 16) :: urlL l) = true := by
          show (decide (hexV (hexD (c.toNat / 16)) < 16) && decide (hexV (hexD (c.toNat % 16)) < 16)) = true
          rw [decide_eq_true ha.1, decide_eq_true hb.1]
          rfl
        rw [he]
        decide
      rw [urlL, u1_keep 37 _ hk3, url_stays _ _ ha.2, url_stays _ _ hb.2, ih]
      rfl
/-- What a byte of a URL is. -/
def okU (c : UInt8) : Bool := decide (33 ≤ c.toNat ∧ c.toNat ≤ 126 ∧ c.toNat ≠ 60 ∧ c.toNat ≠ 62 ∧ c.toNat ≠ 34 ∧ c.toNat ≠ 92)
theorem stays_ok (c : UInt8) (h : stays c = true) : okU c = true := by
  unfold stays at h
  rw [Bool.or_eq_true, Bool.or_eq_true] at h
  rcases h with (h | h) | h
  · unfold ltr at h
    rw [decide_eq_true_eq] at h
    unfold okU
    rw [decide_eq_true_eq]
    omega
  · unfold dgt at h
    rw [decide_eq_true_eq] at h
    unfold okU
    rw [decide_eq_true_eq]
    omega
  · have key : ∀ x ∈ urlM, okU x = true := by decide
    exact key c (List.contains_iff_mem.1 h)
theorem url_ok : ∀ l : List UInt8, ∀ x ∈ urlL l, okU x = true
  | [], x, h => by cases h
  | c :: l, x, h => by
    rw [urlL] at h
    rcases List.mem_append.1 h with h | h
    · unfold u1 at h
      split at h
      · next hk =>
        have hx : x = c := by simpa using h
        subst hx
        unfold keep at hk
        rw [Bool.or_eq_true, Bool.and_eq_true] at hk
        rcases hk with hk | hk
        · exact stays_ok x hk
        · have : x = 37 := by simpa using hk.1
          subst this
          decide
      · have hc := c.toNat_lt
        have ha := hexD_is (c.toNat / 16) (by omega)
        have hb := hexD_is (c.toNat % 16) (by omega)
        simp only [List.mem_cons, List.not_mem_nil, or_false] at h
        rcases h with rfl | rfl | rfl
        · decide
        · exact stays_ok _ ha.2
        · exact stays_ok _ hb.2
    · exact url_ok l x h
theorem url_clean (l : List UInt8) : cleanB (urlL l) = urlL l := by
  refine clean_ascii _ fun x hx => ?_
  have := url_ok l x hx
  unfold okU at this
  rw [decide_eq_true_eq] at this
  omega

/-! ### the texts that the laws name -/
theorem alive_ent : entAt [38, 35, 120, 52, 49, 59] = some (65, 6) := by decide +kernel
theorem alive_chr : chr 65 = [65] := by decide +kernel
theorem alive_plain : plG 0 [92, 42, 97, 38, 97, 109, 112, 59, 38, 99, 111, 112, 121] = [42, 97, 38, 38, 99, 111, 112, 121] := by decide +kernel
theorem alive_url : urlL (cleanB [97, 32, 98, 37, 50, 48, 37]) = [97, 37, 50, 48, 98, 37, 50, 48, 37, 50, 53] := by
  rw [clean_ascii _ (by decide)]
  decide +kernel
theorem alive_html : htmlL (cleanB [60, 34]) = [38, 108, 116, 59, 38, 113, 117, 111, 116, 59] := by
  rw [clean_ascii _ (by decide)]
  decide +kernel
end Go.Proofs.YtfoheffbapifpaaDoor
