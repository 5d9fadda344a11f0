/-
  PROVED: plain facts on folded labels: a text as the row of its characters, what it is folded to, that a folded label folds to itself, that blanks at the ends and more of them between make no difference, and how two labels fold together. No program in it. Conditions: none.
-/
import Derived.Test.YtfoheffbapifpaaDoorRune
import Derived.Test.YtfoheffbapifpaaDoorMarks
import Derived.Lib.MapLaws
import Derived.Lib.RuneBytes
namespace Go.Proofs.YtfoheffbapifpaaDoor
open Go.RowKit
set_option linter.unusedVariables false

/-- A number that UTF-8 has a form for. -/
def Good (r : Int) : Prop := 0 ≤ r ∧ (r < 55296 ∨ (57344 ≤ r ∧ r ≤ 1114111))
theorem byte_nat (z : Int) (h0 : 0 ≤ z) (h1 : z < 256) : (z.toNat.toUInt8).toNat = z.toNat := by
  have h : z.toNat < 256 := by omega
  rw [UInt8.toNat_ofNat']
  exact Nat.mod_eq_of_lt h
set_option maxHeartbeats 1000000 in
theorem decode_encode (r : Int) (t : List UInt8) (h : Good r) : Lib.decodeL (Lib.encodeRune r ++ t) = (r.toNat, (Lib.encodeRune r).length) := by
  obtain ⟨h1, h2⟩ := h
  rw [Lib.decodeL_N]
  unfold Lib.encodeRune
  by_cases c1 : r ≤ 127
  · rw [Lib.encodeRuneZ_one (by omega) c1]
    simp only [List.map_cons, List.map_nil, List.cons_append, List.nil_append, List.length_cons, List.length_nil, List.getD_cons_zero]
    rw [byte_nat r (by omega) (by omega), Lib.decodeN_ascii _ _ _ _ _ (by omega)]
  by_cases c2 : r ≤ 2047
  · rw [Lib.encodeRuneZ_two (by omega) c2]
    simp only [List.map_cons, List.map_nil, List.cons_append, List.nil_append, List.length_cons, List.length_nil, List.getD_cons_zero, List.getD_cons_succ]
    rw [byte_nat (192 + r / 64) (by omega) (by omega), byte_nat (128 + r % 64) (by omega) (by omega)]
    unfold Lib.decodeN
    rw [if_neg (by omega), if_pos (by omega), if_pos (by omega)]
    simp only [Prod.mk.injEq, and_true]
    omega
  by_cases c3 : r ≤ 65535
  · rw [Lib.encodeRuneZ_three (by omega)]
    simp only [List.map_cons, List.map_nil, List.cons_append, List.nil_append, List.length_cons, List.length_nil, List.getD_cons_zero, List.getD_cons_succ]
    rw [byte_nat (224 + r / 4096) (by omega) (by omega), byte_nat (128 + r / 64 % 64) (by omega) (by omega), byte_nat (128 + r % 64) (by omega) (by omega)]
    unfold Lib.decodeN
    rw [if_neg (by omega), if_neg (by omega), if_pos (by omega), if_pos (by omega)]
    simp only [Prod.mk.injEq, and_true]
    omega
  · rw [Lib.encodeRuneZ_four (by omega) (by omega)]
    simp only [List.map_cons, List.map_nil, List.cons_append, List.nil_append, List.length_cons, List.length_nil, List.getD_cons_zero, List.getD_cons_succ]
    rw [byte_nat (240 + r / 262144) (by omega) (by omega), byte_nat (128 + r / 4096 % 64) (by omega) (by omega), byte_nat (128 + r / 64 % 64) (by omega) (by omega), byte_nat (128 + r % 64) (by omega) (by omega)]
    unfold Lib.decodeN
    rw [if_neg (by omega), if_neg (by omega), if_neg (by omega), if_pos (by omega), if_pos (by omega)]
    simp only [Prod.mk.injEq, and_true]
    omega
theorem decL_good (l : List UInt8) : Good ((Lib.decodeL l).1 : Int) := by
  rw [Lib.decodeL_N]
  have h0 := (l.getD 0 0).toNat_lt
  generalize (l.getD 0 0).toNat = b0 at *
  generalize (l.getD 1 0).toNat = b1
  generalize (l.getD 2 0).toNat = b2
  generalize (l.getD 3 0).toNat = b3
  have key : (Lib.decodeN l.length b0 b1 b2 b3).1 < 55296 ∨ (57344 ≤ (Lib.decodeN l.length b0 b1 b2 b3).1 ∧ (Lib.decodeN l.length b0 b1 b2 b3).1 ≤ 1114111) := by
    unfold Lib.decodeN
    repeat' split
    all_goals simp only []
    all_goals omega
  generalize (Lib.decodeN l.length b0 b1 b2 b3).1 = v at *
  unfold Good
  omega
theorem decL_bd (l : List UInt8) : 1 ≤ (Lib.decodeL l).2 ∧ (l ≠ [] → (Lib.decodeL l).2 ≤ l.length) ∧ (Lib.decodeL l).2 ≤ 4 := by
  rw [Lib.decodeL_N]
  have hz : l ≠ [] → 0 < l.length := fun h => List.length_pos_iff.2 h
  generalize (l.getD 0 0).toNat = b0
  generalize (l.getD 1 0).toNat = b1
  generalize (l.getD 2 0).toNat = b2
  generalize (l.getD 3 0).toNat = b3
  unfold Lib.decodeN
  repeat' split
  all_goals simp only []
  all_goals refine ⟨by omega, fun h => ?_, by omega⟩
  all_goals have := hz h
  all_goals omega

/-- A text's characters. -/
def runesL (l : List UInt8) : List Int := if h : l = [] then [] else ((Lib.decodeL l).1 : Int) :: runesL (l.drop (Lib.decodeL l).2)
termination_by l.length
decreasing_by
  have h1 := (decL_bd l).1
  have h2 := List.length_pos_iff.2 h
  rw [List.length_drop]
  omega
theorem runesL_nil : runesL [] = [] := by rw [runesL]; simp
theorem runesL_go (l : List UInt8) (h : l ≠ []) : runesL l = ((Lib.decodeL l).1 : Int) :: runesL (l.drop (Lib.decodeL l).2) := by
  conv => lhs; rw [runesL, dif_neg h]
theorem runesL_good : ∀ (n : Nat) (l : List UInt8), l.length ≤ n → ∀ r ∈ runesL l, Good r
  | 0, l, h => by
    have : l = [] := List.length_eq_zero_iff.1 (by omega)
    subst this
    rw [runesL_nil]
    intro r hr; cases hr
  | n + 1, l, h => by
    by_cases hl : l = []
    · subst hl; rw [runesL_nil]; intro r hr; cases hr
    · rw [runesL_go l hl]
      have h1 := (decL_bd l).1
      intro r hr
      rcases List.mem_cons.1 hr with rfl | hr
      · exact decL_good l
      · exact runesL_good n _ (by rw [List.length_drop]; omega) r hr
/-- The text's characters from an offset on. -/
def runesF (s : ByteArray) (p : Nat) : List Int := runesL (s.data.toList.drop p)
theorem runesF_go (s : ByteArray) (p : Nat) (h : p < s.size) : runesF s p = ((Utf8.decode s p).1 : Int) :: runesF s (p + (Utf8.decode s p).2) := by
  have hne : s.data.toList.drop p ≠ [] := fun he => by
    have hl := congrArg List.length he
    rw [List.length_drop, Array.length_toList, List.length_nil] at hl
    have : p < s.data.size := h
    omega
  unfold runesF
  rw [runesL_go _ hne, Lib.decodeL_drop, List.drop_drop]
theorem runesF_out (s : ByteArray) (p : Nat) (h : s.size ≤ p) : runesF s p = [] := by
  unfold runesF
  rw [List.drop_eq_nil_of_le (by rw [Array.length_toList]; exact h), runesL_nil]

/-- Characters as bytes. -/
def encL (l : List Int) : List UInt8 := l.flatMap Lib.encodeRune
theorem encL_append (a b : List Int) : encL (a ++ b) = encL a ++ encL b := by simp [encL]
theorem encL_cons (r : Int) (l : List Int) : encL (r :: l) = Lib.encodeRune r ++ encL l := by simp [encL]
theorem enc_len (r : Int) : 1 ≤ (Lib.encodeRune r).length ∧ (Lib.encodeRune r).length ≤ 4 := by
  unfold Lib.encodeRune
  rw [List.length_map]
  exact Lib.encodeRuneZ_length _
theorem runes_enc : ∀ l : List Int, (∀ r ∈ l, Good r) → runesL (encL l) = l
  | [], _ => runesL_nil
  | r :: l, h => by
    have hr := h r (List.mem_cons_self ..)
    have hne : Lib.encodeRune r ++ encL l ≠ [] := fun he => by
      have h1 := (enc_len r).1
      have h2 := congrArg List.length he
      rw [List.length_append, List.length_nil] at h2
      omega
    rw [encL_cons, runesL_go _ hne, decode_encode r _ hr, List.drop_left, runes_enc l (fun x hx => h x (List.mem_cons_of_mem _ hx)), Int.toNat_of_nonneg hr.1]

theorem dec_congr (n m b0 b1 b2 b3 c1 c2 c3 : Nat) (h1 : (1 < n ∧ b1 / 64 = 2) ↔ (1 < m ∧ c1 / 64 = 2)) (k1 : (1 < n ∧ b1 / 64 = 2) → c1 = b1)
    (h2 : (2 < n ∧ b2 / 64 = 2) ↔ (2 < m ∧ c2 / 64 = 2)) (k2 : (2 < n ∧ b2 / 64 = 2) → c2 = b2) (h3 : (3 < n ∧ b3 / 64 = 2) ↔ (3 < m ∧ c3 / 64 = 2)) (k3 : (3 < n ∧ b3 / 64 = 2) → c3 = b3) :
    Lib.decodeN n b0 b1 b2 b3 = Lib.decodeN m b0 c1 c2 c3 := by
  unfold Lib.decodeN
  simp only [← h1, ← h2, ← h3]
  by_cases q1 : 1 < n ∧ b1 / 64 = 2
  · rw [k1 q1]
    by_cases q2 : 2 < n ∧ b2 / 64 = 2
    · rw [k2 q2]
      by_cases q3 : 3 < n ∧ b3 / 64 = 2
      · rw [k3 q3]
      · simp only [q3, and_false, if_false]
    · simp only [q2, and_false, false_and, if_false]
  · simp only [q1, and_false, false_and, if_false]
theorem getD_beyond (a : List UInt8) (k : Nat) (h : a.length ≤ k) : a.getD k 0 = 0 := by
  simp [List.getD, List.getElem?_eq_none h]
theorem decL_app (a b : List UInt8) (ha : a ≠ []) (hb : ∀ x ∈ b.head?, x.toNat < 128) : Lib.decodeL (a ++ b) = Lib.decodeL a := by
  have hb0 : (b.getD 0 0).toNat < 128 := by
    cases b with
    | nil => decide
    | cons x b => exact hb x (by simp)
  have hl : 0 < a.length := List.length_pos_iff.2 ha
  have low : ∀ k, k < a.length → (a ++ b).getD k 0 = a.getD k 0 := fun k hk => by simp [List.getD, List.getElem?_append_left hk]
  have at0 : (a ++ b).getD a.length 0 = b.getD 0 0 := by simp [List.getD, List.getElem?_append_right (Nat.le_refl _)]
  rw [Lib.decodeL_N, Lib.decodeL_N, low 0 hl, List.length_append]
  have case2 : ∀ k, (k < a.length + b.length ∧ ((a ++ b).getD k 0).toNat / 64 = 2) → k ≠ a.length := by
    intro k hk he
    subst he
    rw [at0] at hk
    omega
  by_cases l1 : 1 < a.length
  · by_cases l2 : 2 < a.length
    · by_cases l3 : 3 < a.length
      · rw [low 1 l1, low 2 l2, low 3 l3]
        exact dec_congr _ _ _ _ _ _ _ _ _ ⟨fun h => ⟨l1, h.2⟩, fun h => ⟨by omega, h.2⟩⟩ (fun _ => rfl) ⟨fun h => ⟨l2, h.2⟩, fun h => ⟨by omega, h.2⟩⟩ (fun _ => rfl) ⟨fun h => ⟨l3, h.2⟩, fun h => ⟨by omega, h.2⟩⟩ (fun _ => rfl)
      · rw [low 1 l1, low 2 l2]
        have c := case2 3
        exact dec_congr _ _ _ _ _ _ _ _ _ ⟨fun h => ⟨l1, h.2⟩, fun h => ⟨by omega, h.2⟩⟩ (fun _ => rfl) ⟨fun h => ⟨l2, h.2⟩, fun h => ⟨by omega, h.2⟩⟩ (fun _ => rfl) ⟨fun h => absurd (by omega) (c h), fun h => by omega⟩ (fun h => absurd (by omega) (c h))
    · rw [low 1 l1]
      have c := case2 2
      have e : a.length = 2 := by omega
      unfold Lib.decodeN
      have n2 : ¬ (2 < a.length + b.length ∧ ((a ++ b).getD 2 0).toNat / 64 = 2) := fun h => c h (by omega)
      have n2' : ¬ (2 < a.length ∧ (a.getD 2 0).toNat / 64 = 2) := fun h => l2 h.1
      have y1 : (1 < a.length + b.length) = (1 < a.length) := propext ⟨fun _ => l1, fun _ => by omega⟩
      simp only [n2, n2', y1, and_false, false_and, if_false]
  · have c := case2 1
    have e : a.length = 1 := by omega
    unfold Lib.decodeN
    have n1 : ¬ (1 < a.length + b.length ∧ ((a ++ b).getD 1 0).toNat / 64 = 2) := fun h => c h (by omega)
    have n1' : ¬ (1 < a.length ∧ (a.getD 1 0).toNat / 64 = 2) := fun h => l1 h.1
    simp only [n1, n1', and_false, false_and, if_false]
/-- The characters of two texts, the second one empty or with a byte below 128 first. -/
theorem runes_app : ∀ (n : Nat) (a b : List UInt8), a.length ≤ n → (∀ x ∈ b.head?, x.toNat < 128) → runesL (a ++ b) = runesL a ++ runesL b
  | n, [], b, _, _ => by rw [runesL_nil]; rfl
  | 0, x :: a, b, h, _ => by simp at h
  | n + 1, x :: a, b, h, hb => by
    have hne : x :: a ≠ [] := by simp
    have hd := decL_bd (x :: a)
    rw [runesL_go (x :: a ++ b) (by simp), decL_app _ b hne hb, runesL_go (x :: a) hne, List.drop_append_of_le_length (hd.2.1 hne), runes_app n _ b (by rw [List.length_drop]; have := hd.1; omega) hb]
    rfl
/-- A byte below 128 ahead of a text. -/
theorem runes_ascii (x : UInt8) (l : List UInt8) (h : x.toNat < 128) : runesL (x :: l) = (x.toNat : Int) :: runesL l := by
  have hd : Lib.decodeL (x :: l) = (x.toNat, 1) := by
    rw [Lib.decodeL_N]
    exact Lib.decodeN_ascii _ _ _ _ _ h
  rw [runesL_go _ (by simp), hd]
  rfl
end Go.Proofs.YtfoheffbapifpaaDoor
