/-
  PROVED: plain facts on clean texts: what a text is cleaned to, character by character, and that a clean text is clean already. No program in it. Conditions: none.
-/
import Derived.Test.YtinbdangpehkaaaPlacePure
import Derived.Lib.MapLaws
import Derived.Lib.RuneBytes
namespace Go.Proofs.Ytinbdangpehkaaa
open Go.RowKit
set_option linter.unusedVariables false

/-- The bytes that stand for a character in a clean text. -/
def enc1 (r : Nat) : List UInt8 := Lib.encodeRune (if r = 0 then 65533 else (r : Int))
/-- A text, cleaned, from p on. -/
def cleanF (s : ByteArray) (p : Nat) : List UInt8 := if p < s.size then enc1 (Utf8.decode s p).1 ++ cleanF s (p + wd s p) else []
termination_by s.size - p
decreasing_by have := wd_pos s p; omega
theorem cleanF_go (s : ByteArray) (p : Nat) (h : p < s.size) : cleanF s p = enc1 (Utf8.decode s p).1 ++ cleanF s (p + wd s p) := by
  conv => lhs; rw [cleanF, if_pos h]
theorem cleanF_out (s : ByteArray) (p : Nat) (h : s.size ≤ p) : cleanF s p = [] := by rw [cleanF, if_neg (by omega)]
theorem enc1_len (r : Nat) : 1 ≤ (enc1 r).length ∧ (enc1 r).length ≤ 4 := by
  unfold enc1 Lib.encodeRune
  rw [List.length_map]
  exact Lib.encodeRuneZ_length _
theorem cleanF_len (s : ByteArray) : ∀ (n p : Nat), s.size - p ≤ n → (cleanF s p).length ≤ 4 * n
  | 0, p, h => by rw [cleanF_out s p (by omega)]; exact Nat.zero_le _
  | n + 1, p, h => by
    by_cases hp : p < s.size
    · have h1 := wd_pos s p
      have h2 := cleanF_len s n (p + wd s p) (by omega)
      have h3 := enc1_len (Utf8.decode s p).1
      rw [cleanF_go s p hp, List.length_append]
      omega
    · rw [cleanF_out s p (by omega)]; exact Nat.zero_le _

/-- A number that UTF-8 has a form for. -/
def Good (r : Int) : Prop := 1 ≤ r ∧ (r < 55296 ∨ (57344 ≤ r ∧ r ≤ 1114111))
theorem byte_nat (z : Int) (h0 : 0 ≤ z) (h1 : z < 256) : (z.toNat.toUInt8).toNat = z.toNat := by
  have h : z.toNat < 256 := by omega
  rw [UInt8.toNat_ofNat']
  exact Nat.mod_eq_of_lt h
set_option maxHeartbeats 1000000 in
theorem decode_encode (r : Int) (t : List UInt8) (h : Good r) : Lib.decodeL (Lib.encodeRune r ++ t) = (r.toNat, (Lib.encodeRune r).length) := by
  obtain ⟨h1, h2⟩ := h
  rw [Lib.decodeL_N]
  unfold Lib.encodeRune
  by_cases c1 : r ≤ 127
  · rw [Lib.encodeRuneZ_one (by omega) c1]
    simp only [List.map_cons, List.map_nil, List.cons_append, List.nil_append, List.length_cons, List.length_nil, List.getD_cons_zero]
    rw [byte_nat r (by omega) (by omega), Lib.decodeN_ascii _ _ _ _ _ (by omega)]
  by_cases c2 : r ≤ 2047
  · rw [Lib.encodeRuneZ_two (by omega) c2]
    simp only [List.map_cons, List.map_nil, List.cons_append, List.nil_append, List.length_cons, List.length_nil, List.getD_cons_zero, List.getD_cons_succ]
    rw [byte_nat (192 + r / 64) (by omega) (by omega), byte_nat (128 + r % 64) (by omega) (by omega)]
    unfold Lib.decodeN
    rw [if_neg (by omega), if_pos (by omega), if_pos (by omega)]
    simp only [Prod.mk.injEq, and_true]
    omega
  by_cases c3 : r ≤ 65535
  · rw [Lib.encodeRuneZ_three (by omega)]
    simp only [List.map_cons, List.map_nil, List.cons_append, List.nil_append, List.length_cons, List.length_nil, List.getD_cons_zero, List.getD_cons_succ]
    rw [byte_nat (224 + r / 4096) (by omega) (by omega), byte_nat (128 + r / 64 % 64) (by omega) (by omega), byte_nat (128 + r % 64) (by omega) (by omega)]
    unfold Lib.decodeN
    rw [if_neg (by omega), if_neg (by omega), if_pos (by omega), if_pos (by omega)]
    simp only [Prod.mk.injEq, and_true]
    omega
  · rw [Lib.encodeRuneZ_four (by omega) (by omega)]
    simp only [List.map_cons, List.map_nil, List.cons_append, List.nil_append, List.length_cons, List.length_nil, List.getD_cons_zero, List.getD_cons_succ]
    rw [byte_nat (240 + r / 262144) (by omega) (by omega), byte_nat (128 + r / 4096 % 64) (by omega) (by omega), byte_nat (128 + r / 64 % 64) (by omega) (by omega), byte_nat (128 + r % 64) (by omega) (by omega)]
    unfold Lib.decodeN
    rw [if_neg (by omega), if_neg (by omega), if_neg (by omega), if_pos (by omega), if_pos (by omega)]
    simp only [Prod.mk.injEq, and_true]
    omega
theorem decode_good (s : ByteArray) (p : Nat) : Good (if (Utf8.decode s p).1 = 0 then 65533 else ((Utf8.decode s p).1 : Int)) := by
  rw [Lib.decode_at]
  have h0 := (s.get! p).toNat_lt
  generalize (s.get! p).toNat = b0 at *
  generalize (s.get! (p + 1)).toNat = b1
  generalize (s.get! (p + 2)).toNat = b2
  generalize (s.get! (p + 3)).toNat = b3
  have key : (Lib.decodeN (s.size - p) b0 b1 b2 b3).1 < 55296 ∨ (57344 ≤ (Lib.decodeN (s.size - p) b0 b1 b2 b3).1 ∧ (Lib.decodeN (s.size - p) b0 b1 b2 b3).1 ≤ 1114111) := by
    unfold Lib.decodeN
    repeat' split
    all_goals simp only []
    all_goals omega
  generalize (Lib.decodeN (s.size - p) b0 b1 b2 b3).1 = v at *
  unfold Good
  split <;> omega

/-- A text whose bytes from p on are those of a clean text, and so on: it is cleaned to itself. -/
theorem clean_same (s c : ByteArray) : ∀ (n p q : Nat), s.size - p ≤ n → c.data.toList.drop q = cleanF s p → cleanF c q = cleanF s p
  | 0, p, q, h, hd => by
    rw [cleanF_out s p (by omega)] at hd ⊢
    have hl := congrArg List.length hd
    rw [List.length_drop, Array.length_toList, List.length_nil] at hl
    exact cleanF_out c q (by show c.data.size ≤ q; omega)
  | n + 1, p, q, h, hd => by
    by_cases hp : p < s.size
    · have hw := wd_pos s p
      rw [cleanF_go s p hp] at hd ⊢
      have hg := decode_good s p
      have hne := (enc1_len (Utf8.decode s p).1).1
      have hq : q < c.size := by
        have hl := congrArg List.length hd
        rw [List.length_drop, Array.length_toList, List.length_append] at hl
        show q < c.data.size
        omega
      have hdec : Utf8.decode c q = ((if (Utf8.decode s p).1 = 0 then 65533 else ((Utf8.decode s p).1 : Int)).toNat, (enc1 (Utf8.decode s p).1).length) := by
        rw [← Lib.decodeL_drop, hd]
        exact decode_encode _ _ hg
      have hw2 : wd c q = (enc1 (Utf8.decode s p).1).length := by unfold wd; rw [hdec]
      have he : enc1 (Utf8.decode c q).1 = enc1 (Utf8.decode s p).1 := by
        rw [hdec]
        unfold enc1
        have hg1 := hg.1
        rw [if_neg (by omega), Int.toNat_of_nonneg (by omega)]
      rw [cleanF_go c q hq, he, hw2, clean_same s c n (p + wd s p) (q + (enc1 (Utf8.decode s p).1).length) (by omega)]
      rw [← List.drop_drop, hd, List.drop_left]
    · rw [cleanF_out s p (by omega)] at hd ⊢
      have hl := congrArg List.length hd
      rw [List.length_drop, Array.length_toList, List.length_nil] at hl
      exact cleanF_out c q (by show c.data.size ≤ q; omega)
theorem clean_again (s : ByteArray) : cleanF ⟨(cleanF s 0).toArray⟩ 0 = cleanF s 0 := clean_same s _ _ 0 0 (Nat.le_refl _) (by simp)

/-- What the document puts in a character's place is the same. -/
theorem piece_bad (s : ByteArray) (p : Nat) (h : (Utf8.decode s p).1 = 0 ∨ ((Utf8.decode s p).1 = 65533 ∧ (Utf8.decode s p).2 = 1)) : enc1 (Utf8.decode s p).1 = [239, 191, 189] := by
  unfold enc1
  rcases h with h | ⟨h, _⟩
  · rw [h]; decide
  · rw [h]; decide
theorem piece_good (s : ByteArray) (p : Nat) (hp : p < s.size) (h0 : (Utf8.decode s p).1 ≠ 0) (h1 : ¬ ((Utf8.decode s p).1 = 65533 ∧ (Utf8.decode s p).2 = 1)) : enc1 (Utf8.decode s p).1 = (s.data.toList.drop p).take (Utf8.decode s p).2 := by
  unfold enc1
  rw [if_neg h0]
  rw [← Lib.decodeL_drop] at h1 ⊢
  exact Lib.encode_decode _ (fun he => by
    have hl := congrArg List.length he
    rw [List.length_drop, Array.length_toList, List.length_nil] at hl
    have : p < s.data.size := hp
    omega) h1
end Go.Proofs.Ytinbdangpehkaaa
