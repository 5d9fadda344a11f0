/-
  PROVED: plain facts on folded labels: what characters are folded to, that a folded label folds to itself, that blanks at the ends and more of them between make no difference, and how two labels fold together. No program in it. Conditions: none.
-/
import Derived.Test.YtfoheffbapifpaaDoorFoldPure
namespace Go.Proofs.YtfoheffbapifpaaDoor
open Go.RowKit
set_option linter.unusedVariables false

theorem inLift (r : Int) : inSps r liftL = true ↔ (65 ≤ r ∧ r ≤ 90) ∨ (192 ≤ r ∧ r ≤ 214) ∨ (216 ≤ r ∧ r ≤ 222) ∨ (913 ≤ r ∧ r ≤ 929) ∨ (931 ≤ r ∧ r ≤ 939) ∨ (1040 ≤ r ∧ r ≤ 1071) := by
  simp only [inSps, inSp, liftL, List.any_cons, List.any_nil, Bool.or_false, Bool.or_eq_true, Bool.and_eq_true, decide_eq_true_eq]
theorem liftZ_is (r : Int) : (((65 ≤ r ∧ r ≤ 90) ∨ (192 ≤ r ∧ r ≤ 214) ∨ (216 ≤ r ∧ r ≤ 222) ∨ (913 ≤ r ∧ r ≤ 929) ∨ (931 ≤ r ∧ r ≤ 939) ∨ (1040 ≤ r ∧ r ≤ 1071)) ∧ liftZ r = 32) ∨ (1024 ≤ r ∧ r ≤ 1039 ∧ liftZ r = 80) ∨ (¬ ((65 ≤ r ∧ r ≤ 90) ∨ (192 ≤ r ∧ r ≤ 214) ∨ (216 ≤ r ∧ r ≤ 222) ∨ (913 ≤ r ∧ r ≤ 929) ∨ (931 ≤ r ∧ r ≤ 939) ∨ (1040 ≤ r ∧ r ≤ 1071)) ∧ ¬ (1024 ≤ r ∧ r ≤ 1039) ∧ liftZ r = 0) := by
  unfold liftZ
  by_cases h : inSps r liftL = true
  · rw [if_pos h]; exact Or.inl ⟨(inLift r).1 h, rfl⟩
  · rw [if_neg h]
    have h' := fun k => h ((inLift r).2 k)
    by_cases k : 1024 ≤ r ∧ r ≤ 1039
    · rw [if_pos k]; exact Or.inr (Or.inl ⟨k.1, k.2, rfl⟩)
    · rw [if_neg k]; exact Or.inr (Or.inr ⟨h', k, rfl⟩)
theorem not_blank (r : Int) (h : isBlank r = false) : ¬ (r = 9 ∨ r = 10 ∨ r = 12 ∨ r = 13 ∨ r = 32 ∨ r = 160 ∨ r = 5760 ∨ (8192 ≤ r ∧ r ≤ 8202) ∨ r = 8239 ∨ r = 8287 ∨ r = 12288) := fun k => by
  rw [(isBlank_iff r).2 k] at h; cases h

/-- A character folded. -/
def foldR (r : Int) : List Int := if r = 223 ∨ r = 7838 then [115, 115] else [r + liftZ r]
/-- A character that folds to itself and is no blank. -/
def Ev (r : Int) : Prop := foldR r = [r] ∧ isBlank r = false ∧ Good r
theorem ev_of (r : Int) (h1 : ¬ (r = 223 ∨ r = 7838)) (h2 : liftZ r = 0) (h3 : isBlank r = false) (h4 : Good r) : Ev r := by
  refine ⟨?_, h3, h4⟩
  unfold foldR
  rw [if_neg h1, h2, Int.add_zero]
theorem blank_no (r : Int) (h : ¬ (r = 9 ∨ r = 10 ∨ r = 12 ∨ r = 13 ∨ r = 32 ∨ r = 160 ∨ r = 5760 ∨ (8192 ≤ r ∧ r ≤ 8202) ∨ r = 8239 ∨ r = 8287 ∨ r = 12288)) : isBlank r = false := (bool_of (isBlank_iff r)).2 h
theorem ev_115 : Ev 115 := by
  have hl := liftZ_is 115
  exact ev_of 115 (by omega) (by omega) (blank_no 115 (by omega)) (by unfold Good; omega)
theorem ev_fold (r : Int) (hb : isBlank r = false) (hg : Good r) : ∃ x l, foldR r = x :: l ∧ Ev x ∧ ∀ y ∈ l, Ev y := by
  unfold foldR
  by_cases h : r = 223 ∨ r = 7838
  · rw [if_pos h]
    exact ⟨115, [115], rfl, ev_115, fun y hy => by simp at hy; subst hy; exact ev_115⟩
  · rw [if_neg h]
    refine ⟨_, [], rfl, ?_, fun y hy => by cases hy⟩
    have hb' := not_blank r hb
    have hl := liftZ_is r
    have hl2 := liftZ_is (r + liftZ r)
    unfold Good at hg
    refine ev_of _ (by omega) (by omega) (blank_no _ (by omega)) (by unfold Good; omega)

/-- What characters fold to; gap: a blank stands just ahead; ne: something was told before. -/
def foldG : Bool → Bool → List Int → List Int
  | _, _, [] => []
  | gap, ne, r :: rs => if isBlank r = true then foldG true ne rs else (if gap = true ∧ ne = true then [32] else []) ++ foldR r ++ foldG false true rs
theorem foldG_blank (g ne : Bool) (r : Int) (rs : List Int) (h : isBlank r = true) : foldG g ne (r :: rs) = foldG true ne rs := by rw [foldG, if_pos h]
theorem foldG_no (g ne : Bool) (r : Int) (rs : List Int) (h : isBlank r = false) : foldG g ne (r :: rs) = (if g = true ∧ ne = true then [32] else []) ++ foldR r ++ foldG false true rs := by
  rw [foldG, if_neg (by rw [h]; simp)]
/-- Ahead of all a gap makes no difference. -/
theorem foldG_start (g : Bool) : ∀ rs, foldG g false rs = foldG false false rs
  | [] => rfl
  | r :: rs => by
    cases h : isBlank r with
    | true => rw [foldG_blank _ _ _ _ h, foldG_blank _ _ _ _ h]
    | false => rw [foldG_no _ _ _ _ h, foldG_no _ _ _ _ h]; simp

/-- A label's characters: behind one that is no blank; behind a byte 32. -/
def okA : List Int → Prop
  | [] => True
  | [r] => Ev r
  | r :: x :: l => (r = 32 ∧ Ev x ∧ okA l) ∨ (Ev r ∧ okA (x :: l))
theorem okA_gap (x : Int) (l : List Int) (hx : Ev x) (hl : okA l) : okA (32 :: x :: l) := by rw [okA]; exact Or.inl ⟨rfl, hx, hl⟩
theorem okA_one (r : Int) (l : List Int) (hr : Ev r) (hl : okA l) : okA (r :: l) := by
  cases l with
  | nil => rw [okA]; exact hr
  | cons x l => rw [okA]; exact Or.inr ⟨hr, hl⟩
theorem okA_of (r : Int) (l : List Int) (h : okA (r :: l)) : (r = 32 ∧ ∃ x t, l = x :: t ∧ Ev x ∧ okA t) ∨ (Ev r ∧ okA l) := by
  cases l with
  | nil => rw [okA] at h; exact Or.inr ⟨h, by rw [okA]; exact trivial⟩
  | cons x l =>
    rw [okA] at h
    rcases h with ⟨h1, h2, h3⟩ | h
    · exact Or.inl ⟨h1, x, l, rfl, h2, h3⟩
    · exact Or.inr h
theorem okA_nil : okA [] := by rw [okA]; exact trivial
def okS (l : List Int) : Prop := l = [] ∨ ∃ x t, l = x :: t ∧ Ev x ∧ okA t
theorem okA_app : ∀ (l t : List Int), (∀ y ∈ l, Ev y) → okA t → okA (l ++ t)
  | [], t, _, ht => ht
  | x :: l, t, h, ht => okA_one x (l ++ t) (h x (List.mem_cons_self ..)) (okA_app l t (fun y hy => h y (List.mem_cons_of_mem _ hy)) ht)
theorem ev_ne32 (r : Int) (h : Ev r) : r ≠ 32 := fun e => by
  have := not_blank r h.2.1
  omega
theorem blank32 : isBlank 32 = true := (isBlank_iff 32).2 (by omega)
/-- What is folded is right. -/
theorem okA_fold : ∀ (rs : List Int) (g : Bool), (∀ r ∈ rs, Good r) → okA (foldG g true rs)
  | [], g, _ => by rw [foldG]; exact okA_nil
  | r :: rs, g, h => by
    have h1 := h r (List.mem_cons_self ..)
    have h2 : ∀ r ∈ rs, Good r := fun x hx => h x (List.mem_cons_of_mem _ hx)
    cases hb : isBlank r with
    | true => rw [foldG_blank _ _ _ _ hb]; exact okA_fold rs true h2
    | false =>
      rw [foldG_no _ _ _ _ hb]
      obtain ⟨x, l, e, hx, hl⟩ := ev_fold r hb h1
      rw [e]
      have hk := okA_app l _ hl (okA_fold rs false h2)
      cases g with
      | true => exact okA_gap x (l ++ foldG false true rs) hx hk
      | false => exact okA_one x (l ++ foldG false true rs) hx hk
theorem okS_fold : ∀ (rs : List Int) (g : Bool), (∀ r ∈ rs, Good r) → okS (foldG g false rs)
  | [], g, _ => Or.inl rfl
  | r :: rs, g, h => by
    have h1 := h r (List.mem_cons_self ..)
    have h2 : ∀ r ∈ rs, Good r := fun x hx => h x (List.mem_cons_of_mem _ hx)
    cases hb : isBlank r with
    | true => rw [foldG_blank _ _ _ _ hb]; exact okS_fold rs true h2
    | false =>
      rw [foldG_no _ _ _ _ hb]
      obtain ⟨x, l, e, hx, hl⟩ := ev_fold r hb h1
      rw [e]
      refine Or.inr ⟨x, l ++ foldG false true rs, ?_, hx, okA_app l _ hl (okA_fold rs false h2)⟩
      simp
/-- What is right folds to itself. -/
theorem fold_okA : ∀ (n : Nat) (l : List Int), l.length ≤ n → okA l → foldG false true l = l
  | n, [], _, _ => rfl
  | 0, r :: l, h, _ => by simp at h
  | n + 1, r :: l, h, hk => by
    rcases okA_of _ _ hk with ⟨rfl, x, t, rfl, hx, ht⟩ | ⟨hr, hl⟩
    · rw [foldG_blank _ _ _ _ blank32, foldG_no _ _ _ _ hx.2.1, hx.1, fold_okA n t (by simp at h; omega) ht]
      rfl
    · rw [foldG_no _ _ _ _ hr.2.1, hr.1, fold_okA n l (by simpa using h) hl]
      rfl
theorem fold_okS (l : List Int) (h : okS l) : foldG false false l = l := by
  rcases h with rfl | ⟨x, t, rfl, hx, ht⟩
  · rfl
  · rw [foldG_no _ _ _ _ hx.2.1, hx.1, fold_okA _ t (Nat.le_refl _) ht]
    rfl
theorem good32 : Good 32 := by unfold Good; omega
theorem okA_good : ∀ (n : Nat) (l : List Int), l.length ≤ n → okA l → ∀ r ∈ l, Good r
  | n, [], _, _ => fun r hr => by cases hr
  | 0, r :: l, h, _ => by simp at h
  | n + 1, r :: l, h, hk => by
    intro y hy
    rcases okA_of _ _ hk with ⟨rfl, x, t, rfl, hx, ht⟩ | ⟨hr, hl⟩
    · rcases List.mem_cons.1 hy with rfl | hy
      · exact good32
      · rcases List.mem_cons.1 hy with rfl | hy
        · exact hx.2.2
        · exact okA_good n t (by simp at h; omega) ht y hy
    · rcases List.mem_cons.1 hy with rfl | hy
      · exact hr.2.2
      · exact okA_good n l (by simpa using h) hl y hy
theorem okS_good (l : List Int) (h : okS l) : ∀ r ∈ l, Good r := by
  rcases h with rfl | ⟨x, t, rfl, hx, ht⟩
  · intro r hr; cases hr
  · intro y hy
    rcases List.mem_cons.1 hy with rfl | hy
    · exact hx.2.2
    · exact okA_good _ t (Nat.le_refl _) ht y hy

/-- A label's bytes. -/
def foldB (l : List UInt8) : List UInt8 := encL (foldG false false (runesL l))
theorem okS_label (l : List UInt8) : okS (foldG false false (runesL l)) := okS_fold _ _ (runesL_good _ l (Nat.le_refl _))
theorem foldB_ok (t : List Int) (h : okS t) : foldB (encL t) = encL t := by
  unfold foldB
  rw [runes_enc t (okS_good t h), fold_okS t h]
/-- A folded label folds to itself. -/
theorem foldB_again (l : List UInt8) : foldB (foldB l) = foldB l := foldB_ok _ (okS_label l)
end Go.Proofs.YtfoheffbapifpaaDoor
