/-
  PROVED: plain facts on entities, backslashes, HTML and URLs over lists of bytes: what each call answers, how an entity's text is told by what stands between its marks, and how clean texts are put together. No program in it. Conditions: none.
-/
import Derived.Test.YtfoheffbapifpaaDoorFoldPure
import Derived.Test.YtfoheffbapifpaaDoorEntPure
import Derived.Test.YtfoheffbapifpaaDoorMarks
import Derived.Lib.IndexBytes
namespace Go.Proofs.YtfoheffbapifpaaDoor
open Go.RowKit
set_option linter.unusedVariables false

/-! ### clean texts -/
def c0 (r : Int) : Int := if r = 0 then 65533 else r
def cleanB (l : List UInt8) : List UInt8 := encL ((runesL l).map c0)
theorem c0_good (r : Int) (h : Good r) : Good (c0 r) ∧ c0 r ≠ 0 := by
  unfold c0 Good at *
  split <;> omega
theorem c0_same (r : Int) (h : r ≠ 0) : c0 r = r := by unfold c0; rw [if_neg h]
theorem map_c0 : ∀ l : List Int, (∀ r ∈ l, r ≠ 0) → l.map c0 = l
  | [], _ => rfl
  | r :: l, h => by rw [List.map_cons, c0_same r (h r (List.mem_cons_self ..)), map_c0 l (fun x hx => h x (List.mem_cons_of_mem _ hx))]
theorem clean_mem (l : List UInt8) : ∀ r ∈ (runesL l).map c0, Good r ∧ r ≠ 0 := by
  intro r hr
  obtain ⟨x, hx, rfl⟩ := List.mem_map.1 hr
  exact c0_good x (runesL_good _ l (Nat.le_refl _) x hx)
theorem clean_enc (L : List Int) (h : ∀ r ∈ L, Good r ∧ r ≠ 0) : cleanB (encL L) = encL L := by
  unfold cleanB
  rw [runes_enc L (fun r hr => (h r hr).1), map_c0 L (fun r hr => (h r hr).2)]
theorem clean_clean (l : List UInt8) : cleanB (cleanB l) = cleanB l := clean_enc _ (clean_mem l)
theorem clean_two (a b : List UInt8) : cleanB (cleanB a ++ cleanB b) = cleanB a ++ cleanB b := by
  have e : cleanB a ++ cleanB b = encL ((runesL a).map c0 ++ (runesL b).map c0) := by rw [encL_append]; rfl
  rw [e]
  refine clean_enc _ fun r hr => ?_
  rcases List.mem_append.1 hr with h | h
  · exact clean_mem a r h
  · exact clean_mem b r h
theorem enc_ascii (x : UInt8) (h : x.toNat < 128) : Lib.encodeRune (x.toNat : Int) = [x] := by
  unfold Lib.encodeRune
  rw [Lib.encodeRuneZ_one (by omega) (by omega)]
  simp
theorem clean_ascii : ∀ l : List UInt8, (∀ x ∈ l, 0 < x.toNat ∧ x.toNat < 128) → cleanB l = l
  | [], _ => by unfold cleanB; rw [runesL_nil]; rfl
  | x :: l, h => by
    have hx := h x (List.mem_cons_self ..)
    have ih := clean_ascii l (fun y hy => h y (List.mem_cons_of_mem _ hy))
    unfold cleanB at ih ⊢
    rw [runes_ascii x l hx.2, List.map_cons, encL_cons, c0_same _ (by omega), enc_ascii x hx.2, ih]
    rfl
theorem encL_len : ∀ l : List Int, (encL l).length ≤ 4 * l.length
  | [] => by simp [encL]
  | r :: l => by
    have := encL_len l
    have h4 := enc_len r
    rw [encL_cons, List.length_append, List.length_cons]
    omega
theorem runesL_len : ∀ (n : Nat) (l : List UInt8), l.length ≤ n → (runesL l).length ≤ l.length
  | 0, l, h => by
    have : l = [] := List.length_eq_zero_iff.1 (by omega)
    subst this
    rw [runesL_nil]; exact Nat.le_refl _
  | n + 1, l, h => by
    by_cases hl : l = []
    · subst hl; rw [runesL_nil]; exact Nat.le_refl _
    · rw [runesL_go l hl, List.length_cons]
      have h1 := (decL_bd l).1
      have h2 := runesL_len n (l.drop (Lib.decodeL l).2) (by rw [List.length_drop]; omega)
      have h3 := List.length_pos_iff.2 hl
      rw [List.length_drop] at h2
      omega
theorem clean_len (l : List UInt8) : (cleanB l).length ≤ 4 * l.length := by
  have h1 := encL_len ((runesL l).map c0)
  have h2 := runesL_len _ l (Nat.le_refl _)
  rw [List.length_map] at h1
  unfold cleanB
  omega

/-! ### entities -/
/-- What a digit counts; 16: it is none. -/
def hexV (c : UInt8) : Nat := if 48 ≤ c.toNat ∧ c.toNat ≤ 57 then c.toNat - 48 else if 97 ≤ c.toNat ∧ c.toNat ≤ 102 then c.toNat - 87 else if 65 ≤ c.toNat ∧ c.toNat ≤ 70 then c.toNat - 55 else 16
theorem hexV_is (c : UInt8) : (48 ≤ c.toNat ∧ c.toNat ≤ 57 ∧ hexV c = c.toNat - 48) ∨ (97 ≤ c.toNat ∧ c.toNat ≤ 102 ∧ hexV c = c.toNat - 87) ∨ (65 ≤ c.toNat ∧ c.toNat ≤ 70 ∧ hexV c = c.toNat - 55) ∨ (¬ (48 ≤ c.toNat ∧ c.toNat ≤ 57) ∧ ¬ (97 ≤ c.toNat ∧ c.toNat ≤ 102) ∧ ¬ (65 ≤ c.toNat ∧ c.toNat ≤ 70) ∧ hexV c = 16) := by
  unfold hexV
  by_cases h1 : 48 ≤ c.toNat ∧ c.toNat ≤ 57
  · rw [if_pos h1]; omega
  rw [if_neg h1]
  by_cases h2 : 97 ≤ c.toNat ∧ c.toNat ≤ 102
  · rw [if_pos h2]; omega
  rw [if_neg h2]
  by_cases h3 : 65 ≤ c.toNat ∧ c.toNat ≤ 70
  · rw [if_pos h3]; omega
  rw [if_neg h3]; omega
theorem hexV_le (c : UInt8) : hexV c ≤ 16 := by have := hexV_is c; omega
/-- The number of digits to a base, v ahead of them. -/
def val (b : Nat) : List UInt8 → Int → Option Int
  | [], v => some v
  | d :: ds, v => if hexV d < b then val b ds (v * b + hexV d) else none
def valE (b : Nat) (ds : List UInt8) : Option Int := if ds = [] then none else val b ds 0
/-- The number that is told between an entity's marks. -/
def numOf (w : List UInt8) : Option Int :=
  if w.head? = some 35 then (if (w.drop 1).head? = some 120 ∨ (w.drop 1).head? = some 88 then valE 16 (w.drop 2) else valE 10 (w.drop 1)) else look entL w
def fixN (v : Int) : Int := if v = 0 ∨ (55296 ≤ v ∧ v ≤ 57343) ∨ 1114111 < v then 65533 else v
def chr (v : Int) : List UInt8 := Lib.encodeRune (fixN v)
theorem chr_len (v : Int) : 1 ≤ (chr v).length ∧ (chr v).length ≤ 4 := enc_len _
/-- The entity's text that a text begins with: its number, and how many bytes it has. -/
def entAt : List UInt8 → Option (Int × Nat)
  | [] => none
  | x :: t => if x = 38 then (if Lib.indexByte (t.take 9) 59 < 0 then none else (numOf (t.take (Lib.indexByte (t.take 9) 59).toNat)).map fun v => (v, (Lib.indexByte (t.take 9) 59).toNat + 2)) else none
def entB : Option (Int × Nat) → List UInt8
  | none => []
  | some p => chr p.1
def entN : Option (Int × Nat) → Nat
  | none => 0
  | some p => p.2

theorem idx_at (c : UInt8) : ∀ (w r : List UInt8), c ∉ w → Lib.indexByte (w ++ c :: r) c = w.length
  | [], r, _ => by unfold Lib.indexByte; simp
  | x :: w, r, h => by
    have hx : (x == c) = false := by simp; exact fun e => h (by rw [e]; exact List.mem_cons_self ..)
    have ih := idx_at c w r (fun hm => h (List.mem_cons_of_mem _ hm))
    rw [List.cons_append]
    unfold Lib.indexByte
    rw [hx, ih]
    simp only [Bool.false_eq_true, ↓reduceIte]
    have : ((w.length : Int) == -1) = false := by rw [beq_eq_false_iff_ne]; omega
    rw [this]
    simp only [Bool.false_eq_true, ↓reduceIte, List.length_cons]
    omega
theorem idx_some (c : UInt8) : ∀ (l : List UInt8), 0 ≤ Lib.indexByte l c → ∃ w r, l = w ++ c :: r ∧ c ∉ w ∧ Lib.indexByte l c = w.length
  | [], h => by unfold Lib.indexByte at h; omega
  | x :: l, h => by
    by_cases hx : x = c
    · subst hx
      exact ⟨[], l, rfl, (by simp), (by unfold Lib.indexByte; simp)⟩
    · have hx' : (x == c) = false := by simpa using hx
      have hg := Lib.indexByte_ge l c
      have e : Lib.indexByte (x :: l) c = if Lib.indexByte l c == -1 then -1 else Lib.indexByte l c + 1 := by
        conv => lhs; unfold Lib.indexByte
        rw [hx']
        simp only [Bool.false_eq_true, ↓reduceIte]
      by_cases h1 : Lib.indexByte l c = -1
      · rw [e, h1] at h; simp at h
      · have h1' : (Lib.indexByte l c == -1) = false := by simpa using h1
        obtain ⟨w, r, h2, h3, h4⟩ := idx_some c l (by omega)
        refine ⟨x :: w, r, by rw [h2]; rfl, ?_, ?_⟩
        · rw [List.mem_cons]
          rintro (h5 | h5)
          · exact hx h5.symm
          · exact h3 h5
        · rw [e, h1', h4]
          simp only [Bool.false_eq_true, ↓reduceIte, List.length_cons]
          omega

theorem val_no (b : Nat) (hb : b ≤ 16) : ∀ (ds : List UInt8) (v u : Int), val b ds v = some u → (59 : UInt8) ∉ ds
  | [], _, _, _ => by simp
  | d :: ds, v, u, h => by
    unfold val at h
    by_cases hd : hexV d < b
    · rw [if_pos hd] at h
      have := val_no b hb ds _ u h
      rw [List.mem_cons]
      rintro (e | e)
      · subst e; exact absurd hd (by have : hexV 59 = 16 := by decide
                                     omega)
      · exact this e
    · rw [if_neg hd] at h; cases h
theorem look_no (w : List UInt8) (v : Int) (h : look entL w = some v) : (59 : UInt8) ∉ w := by
  have h1 := (look_mem w v entL entL_nodup).1 h
  have h2 : ∀ p ∈ entL, (59 : UInt8) ∉ p.1 := by decide +kernel
  exact h2 _ h1
theorem valE_no (b : Nat) (hb : b ≤ 16) (ds : List UInt8) (u : Int) (h : valE b ds = some u) : (59 : UInt8) ∉ ds := by
  unfold valE at h
  by_cases hd : ds = []
  · subst hd; simp
  · rw [if_neg hd] at h; exact val_no b hb ds 0 u h
theorem numOf_no (w : List UInt8) (v : Int) (h : numOf w = some v) : (59 : UInt8) ∉ w := by
  unfold numOf at h
  cases w with
  | nil => simp
  | cons x w =>
    by_cases h0 : (x :: w).head? = some 35
    · rw [if_pos h0] at h
      have ex : x = 35 := by simpa using h0
      subst ex
      rw [List.mem_cons]
      rintro (e | e)
      · exact absurd e (by decide)
      · by_cases h1 : ((35 :: w).drop 1).head? = some 120 ∨ ((35 :: w).drop 1).head? = some 88
        · rw [if_pos h1] at h
          cases w with
          | nil => simp at e
          | cons y w =>
            have := valE_no 16 (by decide) w v h
            rcases List.mem_cons.1 e with e | e
            · subst e; simp at h1
            · exact this e
        · rw [if_neg h1] at h
          exact valE_no 10 (by decide) w v h e
    · rw [if_neg h0] at h
      exact look_no _ v h
theorem entAt_iff (l : List UInt8) (v : Int) (n : Nat) : entAt l = some (v, n) ↔ ∃ w r, l = 38 :: (w ++ 59 :: r) ∧ w.length ≤ 8 ∧ numOf w = some v ∧ n = w.length + 2 := by
  constructor
  · intro h
    cases l with
    | nil => cases h
    | cons x t =>
      rw [entAt] at h
      by_cases hx : x = 38
      · rw [if_pos hx] at h
        by_cases hi : Lib.indexByte (t.take 9) 59 < 0
        · rw [if_pos hi] at h; cases h
        · rw [if_neg hi] at h
          obtain ⟨w, r, h1, h2, h3⟩ := idx_some 59 (t.take 9) (by omega)
          have hl := congrArg List.length h1
          rw [List.length_take, List.length_append, List.length_cons] at hl
          rw [h3, Int.toNat_natCast] at h
          have ht : t.take w.length = w := by
            have := congrArg (List.take w.length) h1
            rw [List.take_take, List.take_left, Nat.min_eq_left (by omega)] at this
            exact this
          rw [ht] at h
          cases hn : numOf w with
          | none => rw [hn] at h; cases h
          | some u =>
            rw [hn] at h
            injection h with h
            injection h with h4 h5
            refine ⟨w, r ++ t.drop 9, ?_, by omega, by rw [← h4]; exact hn, h5.symm⟩
            rw [hx]
            congr 1
            rw [← List.cons_append, ← List.append_assoc, ← h1, List.take_append_drop]
      · rw [if_neg hx] at h; cases h
  · rintro ⟨w, r, rfl, hw, hn, rfl⟩
    have h59 := numOf_no w v hn
    have et : (w ++ 59 :: r).take 9 = w ++ 59 :: r.take (8 - w.length) := by
      rw [List.take_append]
      rw [List.take_of_length_le (by omega), show 9 - w.length = (8 - w.length) + 1 by omega, List.take_succ_cons]
    have hi := idx_at 59 w (r.take (8 - w.length)) h59
    rw [entAt, if_pos rfl, et, hi, if_neg (by omega), Int.toNat_natCast, List.take_left, hn]
    rfl
theorem entAt_not (x : UInt8) (t : List UInt8) (h : x ≠ 38) : entAt (x :: t) = none := by rw [entAt, if_neg h]
theorem entAt_bd (l : List UInt8) (v : Int) (n : Nat) (h : entAt l = some (v, n)) : 2 ≤ n ∧ n ≤ 10 ∧ n ≤ l.length := by
  obtain ⟨w, r, rfl, hw, hn, rfl⟩ := (entAt_iff l v n).1 h
  rw [List.length_cons, List.length_append, List.length_cons]
  omega
theorem entN_le (l : List UInt8) : entN (entAt l) ≤ l.length ∧ entN (entAt l) ≤ 10 := by
  cases h : entAt l with
  | none => exact ⟨Nat.zero_le _, Nat.zero_le _⟩
  | some p => have := entAt_bd l p.1 p.2 h; exact ⟨this.2.2, this.2.1⟩
theorem entB_len (o : Option (Int × Nat)) : (entB o).length ≤ 4 := by
  cases o with
  | none => exact Nat.zero_le _
  | some p => exact (chr_len _).2

/-! ### a text without backslashes and entities -/
def pl (c : UInt8) : Bool := inSps (c.toNat : Int) plainL
theorem pl_iff (c : UInt8) : pl c = true ↔ (33 ≤ c.toNat ∧ c.toNat ≤ 47) ∨ (58 ≤ c.toNat ∧ c.toNat ≤ 64) ∨ (91 ≤ c.toNat ∧ c.toNat ≤ 96) ∨ (123 ≤ c.toNat ∧ c.toNat ≤ 126) := by
  unfold pl
  rw [isPlain_iff]
  constructor <;> intro h <;> omega
/-- Does a text begin with a backslash and a plain mark? -/
def escd : List UInt8 → Bool
  | x :: y :: _ => x == 92 && pl y
  | _ => false
/-- What the bytes at a text's beginning are told as, and how many they are. -/
def told (l : List UInt8) : List UInt8 × Nat := if escd l = true then ((l.drop 1).take 1, 2) else match entAt l with
  | some p => (chr p.1, p.2)
  | none => (l.take 1, 1)
/-- A text without them; k bytes are told already. -/
def plG : Nat → List UInt8 → List UInt8
  | _, [] => []
  | 0, x :: t => (told (x :: t)).1 ++ plG ((told (x :: t)).2 - 1) t
  | k + 1, x :: t => plG k t
theorem plG_skip : ∀ (l : List UInt8) (k : Nat), plG k l = plG 0 (l.drop k)
  | [], k => by cases k <;> simp [plG]
  | x :: t, 0 => rfl
  | x :: t, k + 1 => by rw [plG, plG_skip t k]; rfl
theorem told_pos (l : List UInt8) : 1 ≤ (told l).2 ∧ (told l).2 ≤ 10 := by
  unfold told
  split
  · exact ⟨by simp, by simp⟩
  · split
    · next p hp => have := entAt_bd l p.1 p.2 hp; exact ⟨by omega, this.2.1⟩
    · exact ⟨Nat.le_refl _, by simp⟩
theorem plG_go (l : List UInt8) (h : l ≠ []) : plG 0 l = (told l).1 ++ plG 0 (l.drop (told l).2) := by
  cases l with
  | nil => exact absurd rfl h
  | cons x t =>
    rw [plG, plG_skip t]
    have h1 := (told_pos (x :: t)).1
    have e : (x :: t).drop (told (x :: t)).2 = t.drop ((told (x :: t)).2 - 1) := by
      obtain ⟨m, hm⟩ : ∃ m, (told (x :: t)).2 = m + 1 := ⟨(told (x :: t)).2 - 1, by omega⟩
      rw [hm]; rfl
    rw [e]
theorem told_len (l : List UInt8) : (told l).1.length ≤ 4 := by
  unfold told
  split
  · rw [List.length_take]; omega
  · split
    · exact (chr_len _).2
    · rw [List.length_take]; omega

/-! ### HTML -/
def h1 (c : UInt8) : List UInt8 := if c = 38 then [38, 97, 109, 112, 59] else if c = 60 then [38, 108, 116, 59] else if c = 62 then [38, 103, 116, 59] else if c = 34 then [38, 113, 117, 111, 116, 59] else [c]
def htmlL (l : List UInt8) : List UInt8 := l.flatMap h1
theorem htmlL_nil : htmlL [] = [] := rfl
theorem htmlL_cons (c : UInt8) (l : List UInt8) : htmlL (c :: l) = h1 c ++ htmlL l := by simp [htmlL]
theorem htmlL_app (a b : List UInt8) : htmlL (a ++ b) = htmlL a ++ htmlL b := by simp [htmlL]
theorem h1_len (c : UInt8) : 1 ≤ (h1 c).length ∧ (h1 c).length ≤ 6 := by
  unfold h1
  repeat' split
  all_goals simp
theorem htmlL_len : ∀ l : List UInt8, (htmlL l).length ≤ 6 * l.length
  | [] => Nat.le_refl _
  | c :: l => by
    have h6 := h1_len c
    have ih := htmlL_len l
    rw [htmlL_cons, List.length_append, List.length_cons]
    omega

/-! ### URLs -/
def urlM : List UInt8 := [45, 95, 46, 33, 126, 42, 39, 40, 41, 59, 47, 63, 58, 64, 38, 61, 43, 36, 44, 35]
def ltr (c : UInt8) : Bool := decide (65 ≤ c.toNat ∧ c.toNat ≤ 90 ∨ 97 ≤ c.toNat ∧ c.toNat ≤ 122)
def dgt (c : UInt8) : Bool := decide (48 ≤ c.toNat ∧ c.toNat ≤ 57)
def stays (c : UInt8) : Bool := ltr c || dgt c || urlM.contains c
def esc : List UInt8 → Bool
  | a :: b :: _ => decide (hexV a < 16) && decide (hexV b < 16)
  | _ => false
def hexL : List UInt8 := [48, 49, 50, 51, 52, 53, 54, 55, 56, 57, 65, 66, 67, 68, 69, 70]
def hexD (n : Nat) : UInt8 := hexL.getD n 0
def keep (c : UInt8) (t : List UInt8) : Bool := stays c || (c == 37 && esc t)
def u1 (c : UInt8) (t : List UInt8) : List UInt8 := if keep c t = true then [c] else [37, hexD (c.toNat / 16), hexD (c.toNat % 16)]
def urlL : List UInt8 → List UInt8
  | [] => []
  | c :: t => u1 c t ++ urlL t
theorem u1_len (c : UInt8) (t : List UInt8) : 1 ≤ (u1 c t).length ∧ (u1 c t).length ≤ 3 := by
  unfold u1
  split
  · simp
  · simp
theorem urlL_len : ∀ l : List UInt8, (urlL l).length ≤ 3 * l.length
  | [] => Nat.le_refl _
  | c :: l => by
    have h6 := u1_len c l
    have ih := urlL_len l
    rw [urlL, List.length_append, List.length_cons]
    omega
end Go.Proofs.YtfoheffbapifpaaDoor
