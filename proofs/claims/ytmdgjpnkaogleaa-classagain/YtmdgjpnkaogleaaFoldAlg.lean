/-
  PROVED: plain facts on folded labels: what characters are folded to, that a folded label folds to itself, that blanks at the ends and more of them between make no difference, and how two labels fold together. No program in it. Conditions: none.
-/
import Derived.Test.YtmdgjpnkaogleaaFoldPure
namespace Go.Proofs.Ytmdgjpnkaogleaa
open Go.RowKit
set_option linter.unusedVariables false

theorem inLift (r : Int) : inSps r liftL = true ↔ (65 ≤ r ∧ r ≤ 90) ∨ (192 ≤ r ∧ r ≤ 214) ∨ (216 ≤ r ∧ r ≤ 222) ∨ (913 ≤ r ∧ r ≤ 929) ∨ (931 ≤ r ∧ r ≤ 939) ∨ (1040 ≤ r ∧ r ≤ 1071) := by
  simp only [inSps, inSp, liftL, List.any_cons, List.any_nil, Bool.or_false, Bool.or_eq_true, Bool.and_eq_true, decide_eq_true_eq]
theorem liftZ_is (r : Int) : (((65 ≤ r ∧ r ≤ 90) ∨ (192 ≤ r ∧ r ≤ 214) ∨ (216 ≤ r ∧ r ≤ 222) ∨ (913 ≤ r ∧ r ≤ 929) ∨ (931 ≤ r ∧ r ≤ 939) ∨ (1040 ≤ r ∧ r ≤ 1071)) ∧ liftZ r = 32) ∨ (1024 ≤ r ∧ r ≤ 1039 ∧ liftZ r = 80) ∨ (¬ ((65 ≤ r ∧ r ≤ 90) ∨ (192 ≤ r ∧ r ≤ 214) ∨ (216 ≤ r ∧ r ≤ 222) ∨ (913 ≤ r ∧ r ≤ 929) ∨ (931 ≤ r ∧ r ≤ 939) ∨ (1040 ≤ r ∧ r ≤ 1071)) ∧ ¬ (1024 ≤ r ∧ r ≤ 1039) ∧ liftZ r = 0) := by
  unfold liftZ
  by_cases h : inSps r liftL = true
  · rw [if_pos h]; exact Or.inl ⟨(inLift r).1 h, rfl⟩
  · rw [if_neg h]
    have h' := fun k => h ((inLift r).2 k)
    by_cases k : 1024 ≤ r ∧ r ≤ 1039
    · rw [if_pos k]; exact Or.inr (Or.inl ⟨k.1, k.2, rfl⟩)
    · rw [if_neg k]; exact Or.inr (Or.inr ⟨h', k, rfl⟩)
theorem not_blank (r : Int) (h : isBlank r = false) : ¬ (r = 9 ∨ r = 10 ∨ r = 12 ∨ r = 13 ∨ r = 32 ∨ r = 160 ∨ r = 5760 ∨ (8192 ≤ r ∧ r ≤ 8202) ∨ r = 8239 ∨ r = 8287 ∨ r = 12288) := fun k => by
  rw [(isBlank_iff r).2 k] at h; cases h

/-- A character folded. -/
def foldR (r : Int) : List Int := if r = 223 ∨ r = 7838 then [115, 115] else [r + liftZ r]
/-- A character that folds to itself and is no blank. -/
def Ev (r : Int) : Prop := foldR r = [r] ∧ isBlank r = false ∧ Good r
theorem ev_of (r : Int) (h1 : ¬ (r = 223 ∨ r = 7838)) (h2 : liftZ r = 0) (h3 : isBlank r = false) (h4 : Good r) : Ev r := by
  refine ⟨?_, h3, h4⟩
  unfold foldR
  rw [if_neg h1, h2, Int.add_zero]
theorem blank_no (r : Int) (h : ¬ (r = 9 ∨ r = 10 ∨ r = 12 ∨ r = 13 ∨ r = 32 ∨ r = 160 ∨ r = 5760 ∨ (8192 ≤ r ∧ r ≤ 8202) ∨ r = 8239 ∨ r = 8287 ∨ r = 12288)) : isBlank r = false := (bool_of (isBlank_iff r)).2 h
theorem ev_115 : Ev 115 := by
  have hl := liftZ_is 115
  exact ev_of 115 (by omega) (by omega) (blank_no 115 (by omega)) (by unfold Good; omega)
theorem ev_fold (r : Int) (hb : isBlank r = false) (hg : Good r) : ∃ x l, foldR r = x :: l ∧ Ev x ∧ ∀ y ∈ l, Ev y := by
  unfold foldR
  by_cases h : r = 223 ∨ r = 7838
  · rw [if_pos h]
    exact ⟨115, [115], rfl, ev_115, fun y hy => by simp at hy; subst hy; exact ev_115⟩
  · rw [if_neg h]
    refine ⟨_, [], rfl, ?_, fun y hy => by cases hy⟩
    have hb' := not_blank r hb
    have hl := liftZ_is r
    have hl2 := liftZ_is (r + liftZ r)
    unfold Good at hg
    refine ev_of _ (by omega) (by omega) (blank_no _ (by omega)) (by unfold Good; omega)

/-- What characters fold to; gap: a blank stands just ahead; ne: something was told before. -/
def foldG : Bool → Bool → List Int → List Int
  | _, _, [] => []
  | gap, ne, r :: rs => if isBlank r = true then foldG true ne rs else (if gap = true ∧ ne = true then [32] else []) ++ foldR r ++ foldG false true rs
theorem foldG_blank (g ne : Bool) (r : Int) (rs : List Int) (h : isBlank r = true) : foldG g ne (r :: rs) = foldG true ne rs := by rw [foldG, if_pos h]
theorem foldG_no (g ne : Bool) (r : Int) (rs : List Int) (h : isBlank r = false) : foldG g ne (r :: rs) = (if g = true ∧ ne = true then [32] else []) ++ foldR r ++ foldG false true rs := by
  rw [foldG, if_neg (by rw [h]; simp)]
/-- Ahead of all a gap makes no difference. -/
theorem foldG_start (g : Bool) : ∀ rs, foldG g false rs = foldG false false rs
  | [] => rfl
  | r :: rs => by
    cases h : isBlank r with
    | true => rw [foldG_blank _ _ _ _ h, foldG_blank _ _ _ _ h]
    | false => rw [foldG_no _ _ _ _ h, foldG_no _ _ _ _ h]; simp

/-- A label's characters: behind one that is no blank; behind a byte 32. -/
def okA : List Int → Prop
  | [] => True
  | [r] => Ev r
  | r :: x :: l => (r = 32 ∧ Ev x ∧ okA l) ∨ (Ev r ∧ okA (x :: l))
theorem okA_gap (x : Int) (l : List Int) (hx : Ev x) (hl : okA l) : okA (32 :: x :: l) := by rw [okA]; exact Or.inl ⟨rfl, hx, hl⟩
theorem okA_one (r : Int) (l : List Int) (hr : Ev r) (hl : okA l) : okA (r :: l) := by
  cases l with
  | nil => rw [okA]; exact hr
  | cons x l => rw [okA]; exact Or.inr ⟨hr, hl⟩
theorem okA_of (r : Int) (l : List Int) (h : okA (r :: l)) : (r = 32 ∧ ∃ x t, l = x :: t ∧ Ev x ∧ okA t) ∨ (Ev r ∧ okA l) := by
  cases l with
  | nil => rw [okA] at h; exact Or.inr ⟨h, by rw [okA]; exact trivial⟩
  | cons x l =>
    rw [okA] at h
    rcases h with ⟨h1, h2, h3⟩ | h
    · exact Or.inl ⟨h1, x, l, rfl, h2, h3⟩
    · exact Or.inr h
theorem okA_nil : okA [] := by rw [okA]; exact trivial
def okS (l : List Int) : Prop := l = [] ∨ ∃ x t, l = x :: t ∧ Ev x ∧ okA t
theorem okA_app : ∀ (l t : List Int), (∀ y ∈ l, Ev y) → okA t → okA (l ++ t)
  | [], t, _, ht => ht
  | x :: l, t, h, ht => okA_one x (l ++ t) (h x (List.mem_cons_self ..)) (okA_app l t (fun y hy => h y (List.mem_cons_of_mem _ hy)) ht)
theorem ev_ne32 (r : Int) (h : Ev r) : r ≠ 32 := fun e => by
  have := not_blank r h.2.1
  omega
theorem blank32 : isBlank 32 = true := (isBlank_iff 32).2 (by omega)
/-- What is folded is right. -/
theorem okA_fold : ∀ (rs : List Int) (g : Bool), (∀ r ∈ rs, Good r) → okA (foldG g true rs)
  | [], g, _ => by rw [foldG]; exact okA_nil
  | r :: rs, g, h => by
    have h1 := h r (List.mem_cons_self ..)
    have h2 : ∀ r ∈ rs, Good r := fun x hx => h x (List.mem_cons_of_mem _ hx)
    cases hb : isBlank r with
    | true => rw [foldG_blank _ _ _ _ hb]; exact okA_fold rs true h2
    | false =>
      rw [foldG_no _ _ _ _ hb]
      obtain ⟨x, l, e, hx, hl⟩ := ev_fold r hb h1
      rw [e]
      have hk := okA_app l _ hl (okA_fold rs false h2)
      cases g with
      | true => exact okA_gap x (l ++ foldG false true rs) hx hk
      | false => exact okA_one x (l ++ foldG false true rs) hx hk
theorem okS_fold : ∀ (rs : List Int) (g : Bool), (∀ r ∈ rs, Good r) → okS (foldG g false rs)
  | [], g, _ => Or.inl rfl
  | r :: rs, g, h => by
    have h1 := h r (List.mem_cons_self ..)
    have h2 : ∀ r ∈ rs, Good r := fun x hx => h x (List.mem_cons_of_mem _ hx)
    cases hb : isBlank r with
    | true => rw [foldG_blank _ _ _ _ hb]; exact okS_fold rs true h2
    | false =>
      rw [foldG_no _ _ _ _ hb]
      obtain ⟨x, l, e, hx, hl⟩ := ev_fold r hb h1
      rw [e]
      refine Or.inr ⟨x, l ++ foldG false true rs, ?_, hx, okA_app l _ hl (okA_fold rs false h2)⟩
      simp
/-- What is right folds to itself. -/
theorem fold_okA : ∀ (n : Nat) (l : List Int), l.length ≤ n → okA l → foldG false true l = l
  | n, [], _, _ => rfl
  | 0, r :: l, h, _ => by simp at h
  | n + 1, r :: l, h, hk => by
    rcases okA_of _ _ hk with ⟨rfl, x, t, rfl, hx, ht⟩ | ⟨hr, hl⟩
    · rw [foldG_blank _ _ _ _ blank32, foldG_no _ _ _ _ hx.2.1, hx.1, fold_okA n t (by simp at h; omega) ht]
      rfl
    · rw [foldG_no _ _ _ _ hr.2.1, hr.1, fold_okA n l (by simpa using h) hl]
      rfl
theorem fold_okS (l : List Int) (h : okS l) : foldG false false l = l := by
  rcases h with rfl | ⟨x, t, rfl, hx, ht⟩
  · rfl
  · rw [foldG_no _ _ _ _ hx.2.1, hx.1, fold_okA _ t (Nat.le_refl _) ht]
    rfl
theorem good32 : Good 32 := by unfold Good; omega
theorem okA_good : ∀ (n : Nat) (l : List Int), l.length ≤ n → okA l → ∀ r ∈ l, Good r
  | n, [], _, _ => fun r hr => by cases hr
  | 0, r :: l, h, _ => by simp at h
  | n + 1, r :: l, h, hk => by
    intro y hy
    rcases okA_of _ _ hk with ⟨rfl, x, t, rfl, hx, ht⟩ | ⟨hr, hl⟩
    · rcases List.mem_cons.1 hy with rfl | hy
      · exact good32
      · rcases List.mem_cons.1 hy with rfl | hy
        · exact hx.2.2
        · exact okA_good n t (by simp at h; omega) ht y hy
    · rcases List.mem_cons.1 hy with rfl | hy
      · exact hr.2.2
      · exact okA_good n l (by simpa using h) hl y hy
theorem okS_good (l : List Int) (h : okS l) : ∀ r ∈ l, Good r := by
  rcases h with rfl | ⟨x, t, rfl, hx, ht⟩
  · intro r hr; cases hr
  · intro y hy
    rcases List.mem_cons.1 hy with rfl | hy
    · exact hx.2.2
    · exact okA_good _ t (Nat.le_refl _) ht y hy

/-- A label's bytes. -/
def foldB (l : List UInt8) : List UInt8 := encL (foldG false false (runesL l))
theorem okS_label (l : List UInt8) : okS (foldG false false (runesL l)) := okS_fold _ _ (runesL_good _ l (Nat.le_refl _))
theorem foldB_ok (t : List Int) (h : okS t) : foldB (encL t) = encL t := by
  unfold foldB
  rw [runes_enc t (okS_good t h), fold_okS t h]
/-- A folded label folds to itself. -/
theorem foldB_again (l : List UInt8) : foldB (foldB l) = foldB l := foldB_ok _ (okS_label l)

/-- A text, cleaned. -/
def c0 (r : Int) : Int := if r = 0 then 65533 else r
def cleanB (l : List UInt8) : List UInt8 := encL ((runesL l).map c0)
theorem ev_fffd : Ev 65533 := by
  have hl := liftZ_is 65533
  exact ev_of 65533 (by omega) (by omega) (blank_no 65533 (by omega)) (by unfold Good; omega)
theorem c0_ev (r : Int) (h : Ev r) : Ev (c0 r) := by
  unfold c0
  split
  · exact ev_fffd
  · exact h
theorem c0_okA : ∀ (n : Nat) (l : List Int), l.length ≤ n → okA l → okA (l.map c0)
  | n, [], _, _ => okA_nil
  | 0, r :: l, h, _ => by simp at h
  | n + 1, r :: l, h, hk => by
    rcases okA_of _ _ hk with ⟨rfl, x, t, rfl, hx, ht⟩ | ⟨hr, hl⟩
    · exact okA_gap (c0 x) (t.map c0) (c0_ev x hx) (c0_okA n t (by simp at h; omega) ht)
    · exact okA_one (c0 r) (l.map c0) (c0_ev r hr) (c0_okA n l (by simpa using h) hl)
theorem c0_okS (l : List Int) (h : okS l) : okS (l.map c0) := by
  rcases h with rfl | ⟨x, t, rfl, hx, ht⟩
  · exact Or.inl rfl
  · exact Or.inr ⟨c0 x, t.map c0, rfl, c0_ev x hx, c0_okA _ t (Nat.le_refl _) ht⟩
theorem foldB_clean (l : List UInt8) : foldB (cleanB (foldB l)) = cleanB (foldB l) := by
  have h := okS_label l
  have e : cleanB (foldB l) = encL ((foldG false false (runesL l)).map c0) := by
    unfold cleanB foldB
    rw [runes_enc _ (okS_good _ h)]
  rw [e]
  exact foldB_ok _ (c0_okS _ h)

/-- Blanks between: one is as good as many. -/
theorem fold_mid : ∀ (xs : List Int) (g ne : Bool) (b : Int) (bs ys : List Int), isBlank b = true → (∀ r ∈ bs, isBlank r = true) → foldG g ne (xs ++ b :: bs ++ ys) = foldG g ne (xs ++ 32 :: ys)
  | [], g, ne, b, bs, ys, hb, hs => by
    have k : ∀ (bs : List Int), (∀ r ∈ bs, isBlank r = true) → foldG true ne (bs ++ ys) = foldG true ne ys := by
      intro bs
      induction bs with
      | nil => intro _; rfl
      | cons x bs ih => intro h; rw [List.cons_append, foldG_blank _ _ _ _ (h x (List.mem_cons_self ..))]; exact ih (fun r hr => h r (List.mem_cons_of_mem _ hr))
    rw [List.nil_append, List.nil_append, List.cons_append, foldG_blank _ _ _ _ hb, foldG_blank _ _ _ _ blank32, k bs hs]
  | x :: xs, g, ne, b, bs, ys, hb, hs => by
    rw [List.cons_append, List.cons_append, List.cons_append]
    cases h : isBlank x with
    | true => rw [foldG_blank _ _ _ _ h, foldG_blank _ _ _ _ h, fold_mid xs _ _ b bs ys hb hs]
    | false => rw [foldG_no _ _ _ _ h, foldG_no _ _ _ _ h, fold_mid xs _ _ b bs ys hb hs]
/-- Blanks at the end make no difference. -/
theorem fold_end : ∀ (xs : List Int) (g ne : Bool) (b : Int), isBlank b = true → foldG g ne (xs ++ [b]) = foldG g ne xs
  | [], g, ne, b, hb => by rw [List.nil_append, foldG_blank _ _ _ _ hb]; rfl
  | x :: xs, g, ne, b, hb => by
    rw [List.cons_append]
    cases h : isBlank x with
    | true => rw [foldG_blank _ _ _ _ h, foldG_blank _ _ _ _ h, fold_end xs _ _ b hb]
    | false => rw [foldG_no _ _ _ _ h, foldG_no _ _ _ _ h, fold_end xs _ _ b hb]
theorem blanks : isBlank 10 = true ∧ isBlank 9 = true ∧ isBlank 13 = true := ⟨(isBlank_iff 10).2 (by omega), (isBlank_iff 9).2 (by omega), (isBlank_iff 13).2 (by omega)⟩
theorem head_ascii (x : UInt8) (l : List UInt8) (h : x.toNat < 128) : ∀ y ∈ (x :: l).head?, y.toNat < 128 := by
  intro y hy; simp at hy; subst hy; exact h
/-- More blanks make no difference. -/
theorem foldB_more (a b : List UInt8) : foldB (10 :: 32 :: (a ++ 9 :: 32 :: 13 :: 10 :: (b ++ [32]))) = foldB (a ++ 32 :: b) := by
  unfold foldB
  rw [runes_ascii 10 _ (by decide), runes_ascii 32 _ (by decide), runes_app _ a _ (Nat.le_refl _) (head_ascii 9 _ (by decide)), runes_ascii 9 _ (by decide), runes_ascii 32 _ (by decide), runes_ascii 13 _ (by decide), runes_ascii 10 _ (by decide),
    runes_app _ b _ (Nat.le_refl _) (head_ascii 32 _ (by decide)), runes_ascii 32 _ (by decide), runesL_nil, runes_app _ a _ (Nat.le_refl _) (head_ascii 32 _ (by decide)), runes_ascii 32 _ (by decide)]
  generalize runesL a = A
  generalize runesL b = B
  have e9 : ((9 : UInt8).toNat : Int) = 9 := rfl
  have e10 : ((10 : UInt8).toNat : Int) = 10 := rfl
  have e13 : ((13 : UInt8).toNat : Int) = 13 := rfl
  have e32 : ((32 : UInt8).toNat : Int) = 32 := rfl
  rw [e9, e10, e13, e32, foldG_blank _ _ _ _ blanks.1, foldG_blank _ _ _ _ blank32, foldG_start]
  have k := fold_mid A false false 9 [32, 13, 10] (B ++ [32]) blanks.2.1 (by
    intro r hr
    simp at hr
    rcases hr with rfl | rfl | rfl
    · exact blank32
    · exact blanks.2.2
    · exact blanks.1)
  have e : A ++ 9 :: 32 :: 13 :: 10 :: (B ++ [32]) = A ++ 9 :: [32, 13, 10] ++ (B ++ [32]) := by simp
  rw [e, k, show A ++ 32 :: (B ++ [32]) = (A ++ 32 :: B) ++ [32] by simp, fold_end _ _ _ _ blank32]

/-- Two labels. -/
def some' (l : List Int) : Bool := l.any fun r => !isBlank r
theorem fold_two : ∀ (xs : List Int) (g ne : Bool) (b : Int) (ys : List Int), isBlank b = true → foldG g ne (xs ++ b :: ys) = foldG g ne xs ++ foldG true (ne || some' xs) ys
  | [], g, ne, b, ys, hb => by rw [List.nil_append, foldG_blank _ _ _ _ hb]; simp [foldG, some']
  | x :: xs, g, ne, b, ys, hb => by
    rw [List.cons_append]
    cases h : isBlank x with
    | true => rw [foldG_blank _ _ _ _ h, foldG_blank _ _ _ _ h, fold_two xs _ _ b ys hb]; simp [some', h]
    | false => rw [foldG_no _ _ _ _ h, foldG_no _ _ _ _ h, fold_two xs _ _ b ys hb]; simp [some', h]
theorem foldR_ne (r : Int) : foldR r ≠ [] := by unfold foldR; split <;> simp
theorem fold_some : ∀ (xs : List Int) (g ne : Bool), foldG g ne xs = [] ↔ some' xs = false
  | [], g, ne => by simp [foldG, some']
  | x :: xs, g, ne => by
    cases h : isBlank x with
    | true => rw [foldG_blank _ _ _ _ h, fold_some xs]; simp [some', h]
    | false => rw [foldG_no _ _ _ _ h]; simp [some', h, foldR_ne]
theorem fold_gap : ∀ (xs : List Int), foldG true true xs = if foldG false false xs = [] then [] else 32 :: foldG false false xs
  | [] => rfl
  | x :: xs => by
    cases h : isBlank x with
    | true => rw [foldG_blank _ _ _ _ h, foldG_blank _ _ _ _ h, foldG_start true, fold_gap xs]
    | false =>
      rw [foldG_no _ _ _ _ h, foldG_no _ _ _ _ h]
      have := foldR_ne x
      simp [this]
theorem encL_nil (l : List Int) : encL l = [] ↔ l = [] := by
  constructor
  · intro h
    cases l with
    | nil => rfl
    | cons r l =>
      rw [encL_cons] at h
      have h1 := (enc_len r).1
      have h2 := congrArg List.length h
      rw [List.length_append, List.length_nil] at h2
      omega
  · rintro rfl; rfl
theorem foldB_two (a b : List UInt8) : foldB (a ++ 10 :: b) = if foldB a = [] ∨ foldB b = [] then foldB a ++ foldB b else foldB a ++ 32 :: foldB b := by
  unfold foldB
  rw [runes_app _ a _ (Nat.le_refl _) (head_ascii 10 _ (by decide)), runes_ascii 10 _ (by decide)]
  generalize runesL a = A
  generalize runesL b = B
  have e10 : ((10 : UInt8).toNat : Int) = 10 := rfl
  rw [e10, fold_two A false false 10 B blanks.1, encL_append, Bool.false_or]
  simp only [encL_nil]
  cases h : some' A with
  | false =>
    have h1 : foldG false false A = [] := (fold_some A _ _).2 h
    rw [if_pos (Or.inl h1), foldG_start true]
  | true =>
    have h1 : ¬ foldG false false A = [] := fun e => by rw [(fold_some A _ _).1 e] at h; cases h
    rw [fold_gap B]
    by_cases h2 : foldG false false B = []
    · rw [if_pos h2, if_pos (Or.inr h2), h2]
    · rw [if_neg h2, if_neg (by rintro (h | h); exact h1 h; exact h2 h), encL_cons]
      rfl
end Go.Proofs.Ytmdgjpnkaogleaa
