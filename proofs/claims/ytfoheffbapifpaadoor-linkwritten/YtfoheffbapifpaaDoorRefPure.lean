/-
  PROVED: plain facts on how the document's own Entity reads an entity's text: digits and names from the left, held against 'entAt'. No program in it. Conditions: none.
-/
import Derived.Test.YtfoheffbapifpaaDoorEscPure
namespace Go.Proofs.YtfoheffbapifpaaDoor
open Go.RowKit
set_option linter.unusedVariables false

/-- Digits from the left, at most so many: their number, and how many they are. -/
def numG (b : Nat) : Nat → List UInt8 → Int → Nat → Int × Nat
  | 0, _, v, n => (v, n)
  | _ + 1, [], v, n => (v, n)
  | m + 1, c :: l, v, n => if hexV c < b then numG b m l (v * b + hexV c) (n + 1) else (v, n)
theorem numG_nil (b m : Nat) (v : Int) (n : Nat) : numG b m [] v n = (v, n) := by cases m <;> rfl
theorem numG_zero (b : Nat) (l : List UInt8) (v : Int) (n : Nat) : numG b 0 l v n = (v, n) := by cases l <;> rfl
theorem numG_eq (b : Nat) : ∀ (m : Nat) (l : List UInt8) (v : Int) (n : Nat), ∃ ds r u, l = ds ++ r ∧ numG b m l v n = (u, n + ds.length) ∧ val b ds v = some u ∧ ds.length ≤ m
  | 0, l, v, n => ⟨[], l, v, rfl, numG_zero b l v n, rfl, Nat.le_refl _⟩
  | m + 1, [], v, n => ⟨[], [], v, rfl, rfl, rfl, Nat.zero_le _⟩
  | m + 1, c :: l, v, n => by
    by_cases h : hexV c < b
    · obtain ⟨ds, r, u, h1, h2, h3, h4⟩ := numG_eq b m l (v * b + hexV c) (n + 1)
      refine ⟨c :: ds, r, u, by rw [h1]; rfl, ?_, ?_, by rw [List.length_cons]; omega⟩
      · rw [numG, if_pos h, h2, List.length_cons, show n + 1 + ds.length = n + (ds.length + 1) by omega]
      · rw [val, if_pos h, h3]
    · exact ⟨[], c :: l, v, rfl, by rw [numG, if_neg h]; rfl, rfl, Nat.zero_le _⟩
theorem numG_of (b : Nat) (hb : b ≤ 16) (r : List UInt8) : ∀ (m : Nat) (ds : List UInt8) (v u : Int) (n : Nat), val b ds v = some u → ds.length ≤ m → numG b m (ds ++ 59 :: r) v n = (u, n + ds.length)
  | 0, [], v, u, n, h, _ => by rw [val] at h; injection h with h; subst h; exact numG_zero b _ _ _
  | 0, d :: ds, v, u, n, _, h => by simp at h
  | m + 1, [], v, u, n, h, _ => by
    rw [val] at h; injection h with h; subst h
    rw [List.nil_append, numG, if_neg (by have : hexV 59 = 16 := by decide
                                          omega)]
    rfl
  | m + 1, d :: ds, v, u, n, h, hl => by
    rw [val] at h
    by_cases hd : hexV d < b
    · rw [if_pos hd] at h
      rw [List.cons_append, numG, if_pos hd, numG_of b hb r m ds _ u (n + 1) h (by rw [List.length_cons] at hl; omega), List.length_cons, show n + 1 + ds.length = n + (ds.length + 1) by omega]
    · rw [if_neg hd] at h; cases h
/-- How many letters and digits a text begins with, at most so many. -/
def cntA : Nat → List UInt8 → Nat
  | 0, _ => 0
  | _ + 1, [] => 0
  | m + 1, c :: l => if ltr c || dgt c then cntA m l + 1 else 0
theorem cntA_zero (l : List UInt8) : cntA 0 l = 0 := by cases l <;> rfl
theorem cntA_nil (m : Nat) : cntA m [] = 0 := by cases m <;> rfl
theorem cntA_le : ∀ (m : Nat) (l : List UInt8), cntA m l ≤ m ∧ cntA m l ≤ l.length
  | 0, l => by rw [cntA_zero]; exact ⟨Nat.le_refl _, Nat.zero_le _⟩
  | m + 1, [] => by rw [cntA_nil]; exact ⟨Nat.zero_le _, Nat.zero_le _⟩
  | m + 1, c :: l => by
    have := cntA_le m l
    rw [cntA, List.length_cons]
    split <;> omega
theorem cntA_of (r : List UInt8) : ∀ (m : Nat) (w : List UInt8), (∀ x ∈ w, (ltr x || dgt x) = true) → w.length ≤ m → cntA m (w ++ 59 :: r) = w.length
  | 0, [], _, _ => cntA_zero _
  | 0, x :: w, _, h => by simp at h
  | m + 1, [], _, _ => by rw [List.nil_append, cntA, if_neg (by decide)]; rfl
  | m + 1, x :: w, h, hl => by
    rw [List.cons_append, cntA, if_pos (h x (List.mem_cons_self ..)), cntA_of r m w (fun y hy => h y (List.mem_cons_of_mem _ hy)) (by rw [List.length_cons] at hl; omega), List.length_cons]
theorem look_an (w : List UInt8) (v : Int) (h : look entL w = some v) : ∀ x ∈ w, (ltr x || dgt x) = true := by
  have h1 := (look_mem w v entL entL_nodup).1 h
  have h2 : ∀ p ∈ entL, ∀ x ∈ p.1, (ltr x || dgt x) = true := by decide +kernel
  exact h2 _ h1
theorem look_nil : look entL [] = none := by decide +kernel
theorem numOf_nil : numOf [] = none := by decide +kernel

theorem ent_short (l : List UInt8) (h : l.length < 3) : entAt l = none := by
  cases he : entAt l with
  | none => rfl
  | some q =>
    obtain ⟨v, n⟩ := q
    obtain ⟨w, r, rfl, hw, hn, rfl⟩ := (entAt_iff l v n).1 he
    cases w with
    | nil => rw [numOf_nil] at hn; cases hn
    | cons x w => simp at h; omega
theorem numOf_hx (x : UInt8) (hx : x = 120 ∨ x = 88) (ds : List UInt8) : numOf (35 :: x :: ds) = valE 16 ds := by
  unfold numOf
  rw [if_pos (show (35 :: x :: ds).head? = some 35 from rfl), if_pos (by simpa using hx)]
  rfl
theorem numOf_dc (ds : List UInt8) (hx : ¬ (ds.head? = some 120 ∨ ds.head? = some 88)) : numOf (35 :: ds) = valE 10 ds := by
  unfold numOf
  rw [if_pos (show (35 :: ds).head? = some 35 from rfl), if_neg (show ¬ (((35 :: ds).drop 1).head? = some 120 ∨ ((35 :: ds).drop 1).head? = some 88) from hx)]
  rfl
/-- An entity told by hexadecimal digits. -/
theorem ent_hex (x : UInt8) (hx : x = 120 ∨ x = 88) (t : List UInt8) (u : Int) (n : Nat) (h : numG 16 6 t 0 0 = (u, n)) :
    entAt (38 :: 35 :: x :: t) = if n ≠ 0 ∧ t[n]? = some 59 then some (u, n + 4) else none := by
  have hx59 : x ≠ 59 := by rcases hx with rfl | rfl <;> decide
  by_cases hc : n ≠ 0 ∧ t[n]? = some 59
  · rw [if_pos hc]
    obtain ⟨ds, r, u', h1, h2, h3, h4⟩ := numG_eq 16 6 t 0 0
    rw [h] at h2
    injection h2 with h5 h6
    rw [Nat.zero_add] at h6
    subst h5
    have hr : ∃ r', r = 59 :: r' := by
      have := hc.2
      rw [h1, h6, List.getElem?_append_right (Nat.le_refl _), Nat.sub_self] at this
      cases r with
      | nil => cases this
      | cons y r => exact ⟨r, by injection this with this; rw [this]⟩
    obtain ⟨r', rfl⟩ := hr
    refine (entAt_iff _ _ _).2 ⟨35 :: x :: ds, r', by rw [h1]; rfl, by rw [List.length_cons, List.length_cons]; omega, ?_, by rw [List.length_cons, List.length_cons]; omega⟩
    have hne : ds ≠ [] := fun e => hc.1 (by rw [h6, e]; rfl)
    rw [numOf_hx x hx]
    unfold valE
    rw [if_neg hne, h3]
  · rw [if_neg hc]
    cases he : entAt (38 :: 35 :: x :: t) with
    | none => rfl
    | some q =>
      exfalso
      obtain ⟨v, k⟩ := q
      obtain ⟨w, r, hl, hw, hn, _⟩ := (entAt_iff _ v k).1 he
      injection hl with _ hl
      cases w with
      | nil => injection hl with hl _; exact absurd hl (by decide)
      | cons a w =>
        injection hl with ha hl
        subst ha
        cases w with
        | nil => injection hl with hl _; exact hx59 hl
        | cons b w =>
          injection hl with hb hl
          subst hb
          have hl : t = w ++ 59 :: r := hl
          have hn' := hn
          rw [numOf_hx x hx] at hn'
          unfold valE at hn'
          by_cases hw0 : w = []
          · rw [if_pos hw0] at hn'; cases hn'
          · rw [if_neg hw0] at hn'
            have := numG_of 16 (by decide) r 6 w 0 v 0 hn' (by simp at hw; omega)
            rw [← hl, h] at this
            injection this with h5 h6
            rw [Nat.zero_add] at h6
            refine hc ⟨by rw [h6]; exact fun e => hw0 (List.length_eq_zero_iff.1 e), ?_⟩
            rw [hl, h6, List.getElem?_append_right (Nat.le_refl _), Nat.sub_self]
            rfl
/-- An entity told by decimal digits. -/
theorem ent_dec (t : List UInt8) (hx : ¬ (t.head? = some 120 ∨ t.head? = some 88)) (u : Int) (n : Nat) (h : numG 10 7 t 0 0 = (u, n)) :
    entAt (38 :: 35 :: t) = if n ≠ 0 ∧ t[n]? = some 59 then some (u, n + 3) else none := by
  by_cases hc : n ≠ 0 ∧ t[n]? = some 59
  · rw [if_pos hc]
    obtain ⟨ds, r, u', h1, h2, h3, h4⟩ := numG_eq 10 7 t 0 0
    rw [h] at h2
    injection h2 with h5 h6
    rw [Nat.zero_add] at h6
    subst h5
    have hr : ∃ r', r = 59 :: r' := by
      have := hc.2
      rw [h1, h6, List.getElem?_append_right (Nat.le_refl _), Nat.sub_self] at this
      cases r with
      | nil => cases this
      | cons y r => exact ⟨r, by injection this with this; rw [this]⟩
    obtain ⟨r', rfl⟩ := hr
    refine (entAt_iff _ _ _).2 ⟨35 :: ds, r', by rw [h1]; rfl, by rw [List.length_cons]; omega, ?_, by rw [List.length_cons]; omega⟩
    have hne : ds ≠ [] := fun e => hc.1 (by rw [h6, e]; rfl)
    have hh : t.head? = ds.head? := by
      rw [h1]
      cases ds with
      | nil => exact absurd rfl hne
      | cons y ds => rfl
    rw [hh] at hx
    rw [numOf_dc ds hx]
    unfold valE
    rw [if_neg hne, h3]
  · rw [if_neg hc]
    cases he : entAt (38 :: 35 :: t) with
    | none => rfl
    | some q =>
      exfalso
      obtain ⟨v, k⟩ := q
      obtain ⟨w, r, hl, hw, hn, _⟩ := (entAt_iff _ v k).1 he
      injection hl with _ hl
      cases w with
      | nil => injection hl with hl _; exact absurd hl (by decide)
      | cons a w =>
        injection hl with ha hl
        subst ha
        have hl : t = w ++ 59 :: r := hl
        by_cases hw0 : w = []
        · subst hw0
          rw [numOf_dc [] (by simp)] at hn
          cases hn
        · have hh : t.head? = w.head? := by
            rw [hl]
            cases w with
            | nil => exact absurd rfl hw0
            | cons y ds => rfl
          rw [hh] at hx
          have hn' := hn
          rw [numOf_dc w hx] at hn'
          unfold valE at hn'
          rw [if_neg hw0] at hn'
          have := numG_of 10 (by decide) r 7 w 0 v 0 hn' (by simp at hw; omega)
          rw [← hl, h] at this
          injection this with h5 h6
          rw [Nat.zero_add] at h6
          refine hc ⟨by rw [h6]; exact fun e => hw0 (List.length_eq_zero_iff.1 e), ?_⟩
          rw [hl, h6, List.getElem?_append_right (Nat.le_refl _), Nat.sub_self]
          rfl
/-- An entity told by a name. -/
theorem ent_name (t : List UInt8) (hx : t.head? ≠ some 35) (k : Nat) (h : cntA 8 t = k) :
    entAt (38 :: t) = match look entL (t.take k) with
      | some v => if t[k]? = some 59 then some (v, k + 2) else none
      | none => none := by
  have hk := cntA_le 8 t
  rw [h] at hk
  have hname : ∀ w : List UInt8, w ≠ [] → w.head? = t.head? → numOf w = look entL w := fun w hw he => by
    unfold numOf
    rw [if_neg (by rw [he]; exact hx)]
  have back : ∀ v n, entAt (38 :: t) = some (v, n) → look entL (t.take k) = some v ∧ t[k]? = some 59 ∧ n = k + 2 := by
    intro v n he
    obtain ⟨w, r, hl, hw, hn, hlen⟩ := (entAt_iff _ v n).1 he
    injection hl with _ hl
    have hw0 : w ≠ [] := fun e => by rw [e, numOf_nil] at hn; cases hn
    have hh : w.head? = t.head? := by
      rw [hl]
      cases w with
      | nil => exact absurd rfl hw0
      | cons y ds => rfl
    rw [hname w hw0 hh] at hn
    have hc := cntA_of r 8 w (look_an w v hn) hw
    rw [← hl, h] at hc
    refine ⟨?_, ?_, by omega⟩
    · rw [hl, hc, List.take_left]; exact hn
    · rw [hl, hc, List.getElem?_append_right (Nat.le_refl _), Nat.sub_self]; rfl
  cases hv : look entL (t.take k) with
  | none =>
    cases he : entAt (38 :: t) with
    | none => rfl
    | some q =>
      obtain ⟨v, n⟩ := q
      have := (back v n he).1
      rw [hv] at this; cases this
  | some v =>
    by_cases h59 : t[k]? = some 59
    · simp only []
      rw [if_pos h59]
      have hlt : k < t.length := (List.getElem?_eq_some_iff.1 h59).1
      have hw0 : t.take k ≠ [] := fun e => by rw [e, look_nil] at hv; cases hv
      have hh : (t.take k).head? = t.head? := by
        cases t with
        | nil => simp
        | cons y t =>
          cases k with
          | zero => exact absurd rfl hw0
          | succ k => rfl
      refine (entAt_iff _ _ _).2 ⟨t.take k, t.drop (k + 1), ?_, by rw [List.length_take]; omega, by rw [hname _ hw0 hh]; exact hv, by rw [List.length_take, Nat.min_eq_left (by omega)]⟩
      have hg : t[k] = 59 := by rw [List.getElem?_eq_getElem hlt] at h59; injection h59
      rw [← hg, List.getElem_cons_drop, List.take_append_drop]
    · simp only []
      rw [if_neg h59]
      cases he : entAt (38 :: t) with
      | none => rfl
      | some q =>
        obtain ⟨u, n⟩ := q
        exact absurd (back u n he).2.1 h59
end Go.Proofs.YtfoheffbapifpaaDoor
