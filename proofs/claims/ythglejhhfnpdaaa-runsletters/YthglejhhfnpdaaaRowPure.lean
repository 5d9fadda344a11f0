/-
  PROVED: plain facts on a row of marks in a text: where it ends, what is ahead of it and behind it, which way it leans; no program in it. Conditions: none.
-/
import Derived.Test.YthglejhhfnpdaaaMarks
import Derived.Test.YthglejhhfnpdaaaBefore
import Derived.Lib.IndexBytes
import Derived.Lib.TrimByte
namespace Go.Proofs.Ythglejhhfnpdaaa
open Go.ChangeShapes Go.WideShapes Go.ChangeAt Go.RowKit
set_option linter.unusedVariables false

/-- A text's bytes. -/
abbrev lst (s : ByteArray) : List UInt8 := s.data.toList
theorem ret_bool {a b : Bool} (h : a = b) : Ending.returned (.bool a) = .returned (.bool b) := by rw [h]
theorem lst_size (s : ByteArray) : (lst s).length = s.size := (Lib.size_eq s).symm
theorem eq_u8 (a b : UInt8) (h : a = b) : ((a.toNat : Int) == (b.toNat : Int)) = true := by rw [h]; simp
theorem ne_u8 (a b : UInt8) (h : a ≠ b) : ((a.toNat : Int) == (b.toNat : Int)) = false := by
  rw [beq_eq_false_iff_ne]
  exact fun e => h (UInt8.toNat_inj.1 (by exact_mod_cast e))
theorem below_dr {B : Nat} {a b : World} (h : Below B a b) (q : Nat) : Below B a (b.drewN q) := h.trans ⟨rfl, rfl, rfl, Nat.le_refl _, fun _ _ => rfl⟩
theorem i64_bd {a : Int} (h : (Lit.int .i64 a).wf = true) : -9223372036854775808 ≤ a ∧ a ≤ 9223372036854775807 := by
  unfold Lit.wf at h
  rw [Bool.and_eq_true, decide_eq_true_iff, decide_eq_true_iff] at h
  exact h

/-- Where the bytes of a kind end that stand at i. -/
def upL (p : UInt8 → Bool) (l : List UInt8) (i : Nat) : Nat := i + ((l.drop i).takeWhile p).length
theorem upL_step (p : UInt8 → Bool) (l : List UInt8) (j : Nat) (x : UInt8) (h : l[j]? = some x) (hp : p x = true) : upL p l (j + 1) = upL p l j := by
  obtain ⟨hj, rfl⟩ := List.getElem?_eq_some_iff.1 h
  unfold upL
  rw [List.drop_eq_getElem_cons hj, List.takeWhile_cons, if_pos hp, List.length_cons]
  omega
theorem upL_stop (p : UInt8 → Bool) (l : List UInt8) (j : Nat) (h : ∀ x, l[j]? = some x → p x = false) : upL p l j = j := by
  unfold upL
  by_cases hj : j < l.length
  · rw [List.drop_eq_getElem_cons hj, List.takeWhile_cons, if_neg (by rw [h _ (List.getElem?_eq_getElem hj)]; decide)]
    rfl
  · rw [List.drop_of_length_le (by omega)]
    rfl
theorem upL_bd (p : UInt8 → Bool) (l : List UInt8) (j : Nat) (h : j ≤ l.length) : j ≤ upL p l j ∧ upL p l j ≤ l.length := by
  unfold upL
  have := (List.takeWhile_sublist p (l := l.drop j)).length_le
  rw [List.length_drop] at this
  omega
/-- Where the row of bytes c ends that stands at p. -/
def rowTo (s : ByteArray) (c : UInt8) (p : Nat) : Nat := upL (· == c) (lst s) p
theorem rowTo_bd (s : ByteArray) (c : UInt8) (p : Nat) (h : p ≤ s.size) : p ≤ rowTo s c p ∧ rowTo s c p ≤ s.size := by
  have := upL_bd (· == c) (lst s) p (by rw [lst_size]; exact h)
  rw [lst_size] at this
  exact this
theorem rowTo_step (s : ByteArray) (c : UInt8) (p : Nat) (h : p < s.size) (hc : s[p]'h = c) : rowTo s c (p + 1) = rowTo s c p :=
  upL_step (· == c) (lst s) p (s[p]'h) (Lib.data_getElem? s p h) (by simpa using hc)
theorem rowTo_stop (s : ByteArray) (c : UInt8) (p : Nat) (h : ∀ h : p < s.size, s[p]'h ≠ c) : rowTo s c p = p :=
  upL_stop (· == c) (lst s) p fun x hx => by
    by_cases hp : p < s.size
    · rw [Lib.data_getElem? s p hp] at hx
      cases hx
      simpa using h hp
    · rw [List.getElem?_eq_none (by rw [lst_size]; omega)] at hx; cases hx
theorem rowTo_lt (s : ByteArray) (c : UInt8) (p : Nat) (h : p < s.size) (hc : s[p]'h = c) : p < rowTo s c p := by
  rw [← rowTo_step s c p h hc]
  have := (rowTo_bd s c (p + 1) (by omega)).1
  omega

/-- What is ahead of a place; a blank at the beginning. -/
def ahV (s : ByteArray) (p : Nat) : Int := if p = 0 then 32 else beforeV s p
/-- What is behind a place; a blank at the end. -/
def bhV (s : ByteArray) (q : Nat) : Int := if s.size ≤ q then 32 else runeV s q
theorem ahV_bd (s : ByteArray) (p : Nat) : -1 ≤ ahV s p ∧ ahV s p ≤ 1114111 := by
  unfold ahV; have := beforeV_bd s p; split <;> omega
theorem bhV_bd (s : ByteArray) (p : Nat) : 0 ≤ bhV s p ∧ bhV s p ≤ 1114111 := by
  unfold bhV; have := runeV_bd s p; split <;> omega
/-- Does a row lean to what is near? -/
def leanB (nb nm fb fm : Bool) : Bool := !nb && (!nm || fb || fm)
/-- What the row may do: c is its mark, (ab, am) what is ahead of it, (bb, bm) what is behind it (a blank? a mark?). -/
def opB (low ab am bb bm : Bool) : Bool := leanB bb bm ab am && (!low || (!leanB ab am bb bm || am))
def clB (low ab am bb bm : Bool) : Bool := leanB ab am bb bm && (!low || (!leanB bb bm ab am || bm))
theorem turn_B (low ab am bb bm : Bool) : opB low ab am bb bm = clB low bb bm ab am := rfl

/-- Is there a row at this place? -/
def isRow (s : ByteArray) (a : Int) : Prop := ∃ (p : Nat) (h : p < s.size), a = p ∧ (s[p]'h = 42 ∨ s[p]'h = 95)
/-- The answer for a row of n marks c. -/
def rowV (c : UInt8) (n : Nat) (x y : Int) : Value :=
  .agg #[.int .u8 c.toNat, .int .i64 n, .bool (opB (c == 95) (isBlank x) (isMark x) (isBlank y) (isMark y)), .bool (clB (c == 95) (isBlank x) (isMark x) (isBlank y) (isMark y))]
def noV : Value := .agg #[.int .u8 0, .int .i64 0, .bool false, .bool false]
/-- The answer at a row's place. -/
def atV (s : ByteArray) (p : Nat) (c : UInt8) : Value := rowV c (rowTo s c p - p) (ahV s p) (bhV s (rowTo s c p))
theorem blank_32 : isBlank 32 = true := by decide
theorem mark_32 : isMark 32 = false := by decide

/-- A character of one byte below 128. -/
theorem rune_low (s : ByteArray) (p : Nat) (h : p < s.size) (hc : (s[p]'h).toNat < 128) : runeV s p = (s[p]'h).toNat ∧ runeN s p = 1 := by
  have hd := dec_at s p h
  have h1 : Utf8.decode s p = ((s[p]'h).toNat, 1) := by
    rw [hd]; unfold Lib.decodeN; rw [if_pos hc]
  unfold runeV runeN
  rw [if_neg (by omega), if_neg (by omega)]
  rw [show ((p : Int)).toNat = p from by omega, h1]
  exact ⟨rfl, rfl⟩
theorem before_low (s : ByteArray) (p : Nat) (h : p < s.size) (hc : (s[p]'h).toNat < 128) : beforeV s ((p + 1 : Nat) : Int) = (s[p]'h).toNat := by
  have hr := rune_low s p h hc
  have key : ∀ k : Nat, 1 ≤ k → k ≤ 3 → beforeFrom s ((p + 1 : Nat) : Int) (k + 1) = beforeFrom s ((p + 1 : Nat) : Int) k := by
    intro k h1 h3
    refine beforeFrom_miss s _ _ k rfl ?_
    intro he
    by_cases hn : ((p + 1 : Nat) : Int) - (k + 1 : Nat) < 0
    · rw [runeN_neg _ _ hn] at he; omega
    · obtain ⟨q, hq⟩ : ∃ q : Nat, ((p + 1 : Nat) : Int) - (k + 1 : Nat) = q := ⟨(((p + 1 : Nat) : Int) - (k + 1 : Nat)).toNat, by omega⟩
      rw [hq] at he
      have hN : runeN s q = (Utf8.decode s q).2 := by unfold runeN; rw [if_neg (by omega)]; simp
      have hj := cont_byte s q k h1 (by omega) (by omega)
      rw [show q + k = p from by omega, get_nat s p h] at hj
      omega
  unfold beforeV
  rw [if_neg (by omega), key 3 (by omega) (by omega), key 2 (by omega) (by omega), key 1 (by omega) (by omega)]
  rw [beforeFrom_hit s _ (p : Int) 0 (by omega) (by rw [hr.2]; omega), hr.1]
theorem rowTo_in (s : ByteArray) (c : UInt8) : ∀ (k p i : Nat), s.size - p = k → p ≤ i → i < rowTo s c p → ∃ h : i < s.size, s[i]'h = c := by
  intro k
  induction k with
  | zero => intro p i hk h1 h2; rw [rowTo_stop s c p (fun h => absurd h (by omega))] at h2; omega
  | succ k ih =>
    intro p i hk h1 h2
    by_cases hc : s[p]'(by omega) = c
    · by_cases e : i = p
      · subst e; exact ⟨by omega, hc⟩
      · rw [← rowTo_step s c p (by omega) hc] at h2
        exact ih (p + 1) i (by omega) (by omega) h2
    · rw [rowTo_stop s c p (fun _ => hc)] at h2; omega
theorem rowTo_end (s : ByteArray) (c : UInt8) : ∀ (k p q : Nat), s.size - p = k → q = rowTo s c p → ∀ h : q < s.size, s[q]'h ≠ c := by
  intro k
  induction k with
  | zero => intro p q hk hq h; rw [rowTo_stop s c p (fun h => absurd h (by omega))] at hq; omega
  | succ k ih =>
    intro p q hk hq h
    by_cases hc : s[p]'(by omega) = c
    · rw [← rowTo_step s c p (by omega) hc] at hq
      exact ih (p + 1) q (by omega) hq h
    · rw [rowTo_stop s c p (fun _ => hc)] at hq
      subst hq; exact hc
theorem rowTo_eq (s : ByteArray) (c : UInt8) : ∀ (k p q : Nat), q - p = k → p ≤ q → q ≤ s.size → (∀ i, p ≤ i → i < q → ∀ h : i < s.size, s[i]'h = c) → (∀ h : q < s.size, s[q]'h ≠ c) → rowTo s c p = q := by
  intro k
  induction k with
  | zero =>
    intro p q hk h1 h2 hi he
    obtain rfl : p = q := by omega
    exact rowTo_stop s c p he
  | succ k ih =>
    intro p q hk h1 h2 hi he
    rw [← rowTo_step s c p (by omega) (hi p (by omega) (by omega) _)]
    exact ih (p + 1) q (by omega) (by omega) h2 (fun i a b h => hi i (by omega) b h) he

theorem ah_low (s : ByteArray) (p : Nat) (h : p < s.size) (hc : (s[p]'h).toNat < 128) : ahV s (p + 1) = (s[p]'h).toNat := by
  unfold ahV; rw [if_neg (by omega)]; exact before_low s p h hc
theorem bh_low (s : ByteArray) (p : Nat) (h : p < s.size) (hc : (s[p]'h).toNat < 128) : bhV s p = (s[p]'h).toNat := by
  unfold bhV; rw [if_neg (by omega)]; exact (rune_low s p h hc).1

/-! A text read from its end. -/
theorem back_at (s b : ByteArray) (hb : lst b = (lst s).reverse) (i : Nat) (h : i < s.size) (hi : i < b.size) : b[i]'hi = s[s.size - 1 - i]'(by omega) := by
  have h1 := Lib.data_getElem? b i hi
  rw [show b.data.toList = (lst s).reverse from hb, List.getElem?_reverse (by rw [lst_size]; exact h), lst_size] at h1
  have h2 := Lib.data_getElem? s (s.size - 1 - i) (by omega)
  rw [h2] at h1
  exact (Option.some.inj h1).symm
theorem back_size (s b : ByteArray) (hb : lst b = (lst s).reverse) : b.size = s.size := by
  have := congrArg List.length hb
  rw [List.length_reverse, lst_size, lst_size] at this
  exact this
theorem turned (s b : ByteArray) (p q : Nat) (c : UInt8) (hb : lst b = (lst s).reverse) (hp : p < s.size) (hc : s[p]'hp = c) (hq : rowTo s c p = q)
    (hbf : ∀ (h0 : 0 < p) (h : p - 1 < s.size), s[p - 1]'h ≠ c) (hlow : ∀ i (h : i < s.size), (s[i]'h).toNat < 128) :
    ∃ h : s.size - q < b.size, b[s.size - q]'h = c ∧ rowTo b c (s.size - q) = s.size - p ∧ ahV b (s.size - q) = bhV s q ∧ bhV b (s.size - p) = ahV s p := by
  have hz := back_size s b hb
  have hl := rowTo_lt s c p hp hc
  have hd := (rowTo_bd s c p (by omega)).2
  have hin := rowTo_in s c (s.size - p) p
  have hend := rowTo_end s c (s.size - p) p q rfl hq.symm
  rw [hq] at hl hd hin
  refine ⟨by omega, ?_, ?_, ?_, ?_⟩
  · rw [back_at s b hb _ (by omega)]
    obtain ⟨h, e⟩ := hin (s.size - 1 - (s.size - q)) rfl (by omega) (by omega)
    exact e
  · refine rowTo_eq b c _ _ _ rfl (by omega) (by omega) ?_ ?_
    · intro i h1 h2 h
      rw [back_at s b hb i (by omega)]
      obtain ⟨h, e⟩ := hin (s.size - 1 - i) rfl (by omega) (by omega)
      exact e
    · intro h
      rw [back_at s b hb _ (by omega)]
      have := hbf (by omega) (by omega)
      simpa [show s.size - 1 - (s.size - p) = p - 1 from by omega] using this
  · by_cases e : q = s.size
    · unfold ahV bhV
      rw [if_pos (by omega), if_pos (by omega)]
    · have hlow' := hlow q (by omega)
      rw [bh_low s q (by omega) hlow']
      have hi : s.size - q - 1 < b.size := by omega
      have he : b[s.size - q - 1]'hi = s[q]'(by omega) := by
        rw [back_at s b hb _ (by omega)]
        congr 1; omega
      have := ah_low b (s.size - q - 1) hi (by rw [he]; exact hlow')
      rw [show s.size - q - 1 + 1 = s.size - q from by omega, he] at this
      exact this
  · by_cases e : p = 0
    · unfold ahV bhV
      rw [if_pos (by omega), if_pos (by omega)]
    · have hlow' := hlow (p - 1) (by omega)
      have ha := ah_low s (p - 1) (by omega) hlow'
      rw [show p - 1 + 1 = p from by omega] at ha
      rw [ha]
      have hi : s.size - p < b.size := by omega
      have he : b[s.size - p]'hi = s[p - 1]'(by omega) := by
        rw [back_at s b hb _ (by omega)]
        congr 1; omega
      rw [bh_low b _ hi (by rw [he]; exact hlow'), he]

/-! A part of a text. -/
theorem part_at (s : ByteArray) (f t i : Nat) (ht : t ≤ s.size) (hi : i < (s.extract f t).size) : (s.extract f t)[i]'hi = s[f + i]'(by rw [ByteArray.size_extract] at hi; omega) := by
  have h1 := Lib.data_getElem? (s.extract f t) i hi
  obtain ⟨x, hx⟩ : ∃ x, x = (s.extract f t)[i]'hi := ⟨_, rfl⟩
  rw [← hx] at h1 ⊢
  rw [ByteArray.size_extract] at hi
  have h := Lib.extract_mk (lst s) f t
  rw [Lib.mk_data] at h
  rw [h] at h1
  simp only [] at h1
  rw [List.getElem?_take_of_lt (by omega), List.getElem?_drop] at h1
  have h2 := Lib.data_getElem? s (f + i) (by omega)
  rw [h2] at h1
  exact (Option.some.inj h1).symm
theorem part_row (s : ByteArray) (p q f : Nat) (c : UInt8) (hp : p < s.size) (hc : s[p]'hp = c) (hq : rowTo s c p = q) (hqs : q < s.size)
    (hl : (s[q]'hqs).toNat < 128) (hf : f = p - 1) (ha : ∀ (h0 : 0 < p) (h : p - 1 < s.size), (s[p - 1]'h).toNat < 128) :
    ∃ h : p - f < (s.extract f (q + 1)).size, (s.extract f (q + 1))[p - f]'h = c ∧ rowTo (s.extract f (q + 1)) c (p - f) = q - f ∧ ahV (s.extract f (q + 1)) (p - f) = ahV s p ∧ bhV (s.extract f (q + 1)) (q - f) = bhV s q := by
  have hpq := rowTo_lt s c p hp hc
  have hin := rowTo_in s c (s.size - p) p
  have hend := rowTo_end s c (s.size - p) p q rfl hq.symm
  rw [hq] at hpq hin
  have hz : (s.extract f (q + 1)).size = q + 1 - f := by rw [ByteArray.size_extract]; omega
  obtain ⟨t, ht⟩ : ∃ t, t = s.extract f (q + 1) := ⟨_, rfl⟩
  have at' : ∀ i (hi : i < t.size), t[i]'hi = s[f + i]'(by rw [ht, hz] at hi; omega) := by
    subst ht; exact fun i hi => part_at s f (q + 1) i (by omega) hi
  rw [← ht] at hz ⊢
  refine ⟨by omega, ?_, ?_, ?_, ?_⟩
  · rw [at' _ (by omega)]
    simpa [show f + (p - f) = p from by omega] using hc
  · refine rowTo_eq t c _ _ _ rfl (by omega) (by omega) ?_ ?_
    · intro i h1 h2 h
      rw [at' i (by omega)]
      obtain ⟨h, e⟩ := hin (f + i) rfl (by omega) (by omega)
      exact e
    · intro h
      rw [at' _ (by omega)]
      have := hend hqs
      simpa [show f + (q - f) = q from by omega] using this
  · by_cases e : p = 0
    · unfold ahV
      rw [if_pos (by omega), if_pos (by omega)]
    · have hlow' := ha (by omega) (by omega)
      have h1 := ah_low s (p - 1) (by omega) hlow'
      rw [show p - 1 + 1 = p from by omega] at h1
      have he : t[0]'(by omega) = s[p - 1]'(by omega) := by
        rw [at' 0 (by omega)]
        simp only [show f + 0 = p - 1 from by omega]
      have h2 := ah_low t 0 (by omega) (by rw [he]; exact hlow')
      rw [show p - f = 0 + 1 from by omega, h2, h1, he]
  · have he : t[q - f]'(by omega) = s[q]'hqs := by
      rw [at' _ (by omega)]
      simp only [show f + (q - f) = q from by omega]
    rw [bh_low s q hqs hl, bh_low t (q - f) (by omega) (by rw [he]; exact hl), he]
theorem part_atV (s : ByteArray) (p q f : Nat) (c : UInt8) (hp : p < s.size) (hc : s[p]'hp = c) (hq : rowTo s c p = q) (hqs : q < s.size)
    (hl : (s[q]'hqs).toNat < 128) (hf : f = p - 1) (ha : ∀ (h0 : 0 < p) (h : p - 1 < s.size), (s[p - 1]'h).toNat < 128) :
    atV (s.extract f (q + 1)) (p - f) c = atV s p c := by
  obtain ⟨h, h1, h2, h3, h4⟩ := part_row s p q f c hp hc hq hqs hl hf ha
  have hpq := rowTo_lt s c p hp hc
  rw [hq] at hpq
  unfold atV
  rw [h2, h3, h4, hq, show q - f - (p - f) = q - p from by omega]

/-! A text that is a row of marks with a letter or none at each side. -/
/-- What stands next to a row; a blank where nothing does. -/
def sideL : List UInt8 → Int
  | [] => 32
  | x :: _ => x.toNat
theorem made_row (s : ByteArray) (c : UInt8) (n : Nat) (pre suf : List UInt8) (hs : lst s = pre ++ List.replicate n c ++ suf) (hn : 0 < n) (h1 : pre.length ≤ 1) (h2 : suf.length ≤ 1)
    (hp : ∀ x ∈ pre, x.toNat < 128) (hu : ∀ x ∈ suf, x.toNat < 128 ∧ x ≠ c) :
    ∃ h : pre.length < s.size, s[pre.length]'h = c ∧ s.size = pre.length + n + suf.length ∧ rowTo s c pre.length = pre.length + n ∧ ahV s pre.length = sideL pre ∧ bhV s (pre.length + n) = sideL suf := by
  have hz : s.size = pre.length + n + suf.length := by
    rw [← lst_size, hs]; simp; omega
  have hat : ∀ i (h : i < s.size), (lst s)[i]? = some (s[i]'h) := fun i h => Lib.data_getElem? s i h
  rw [hs] at hat
  have hrow : ∀ i, pre.length ≤ i → i < pre.length + n → ∀ h : i < s.size, s[i]'h = c := by
    intro i a b h
    have := hat i h
    rw [List.getElem?_append_left (by simp; omega), List.getElem?_append_right a, List.getElem?_replicate, if_pos (by omega)] at this
    exact (Option.some.inj this).symm
  refine ⟨by omega, hrow _ (by omega) (by omega) _, hz, ?_, ?_, ?_⟩
  · refine rowTo_eq s c _ _ _ rfl (by omega) (by omega) hrow ?_
    intro h
    have := hat _ h
    rw [List.getElem?_append_right (by simp)] at this
    simp only [List.length_append, List.length_replicate, Nat.sub_self] at this
    exact (hu _ (List.mem_of_getElem? this)).2
  · match pre, hp, h1, hat with
    | [], _, _, _ => rfl
    | [x], hp, _, hat =>
      have e : s[0]'(by omega) = x := by
        have := hat 0 (by omega)
        simp at this
        exact this.symm
      have := ah_low s 0 (by omega) (by rw [e]; exact hp x (by simp))
      rw [e] at this
      exact this
  · match suf, hu, h2, hat, hz with
    | [], _, _, _, hz => unfold bhV; rw [if_pos (by simp at hz; omega)]; rfl
    | [x], hu, _, hat, hz =>
      simp only [List.length_cons, List.length_nil] at hz
      have e : s[pre.length + n]'(by omega) = x := by
        have := hat (pre.length + n) (by omega)
        rw [List.getElem?_append_right (by simp)] at this
        simp at this
        exact this.symm
      have := bh_low s (pre.length + n) (by omega) (by rw [e]; exact (hu x (by simp)).1)
      rw [e] at this
      exact this
theorem plain_letter (r : Int) (h : 97 ≤ r) (h' : r ≤ 122) : isBlank r = false ∧ isMark r = false := by
  refine ⟨?_, ?_⟩
  · rw [Bool.eq_false_iff]; intro hc; rw [isBlank_iff] at hc; omega
  · rw [Bool.eq_false_iff]; intro hc; rw [isMark_iff] at hc; omega
end Go.Proofs.Ythglejhhfnpdaaa
