/-
  PROVED: contracts of the document's own Rune (stetref01.Rune): it answers the same character as the model's decoding; with the same of text.Rune as 'rune_any', 'refRune_any'. Conditions: the text's length fits an int.
-/
import Derived.Test.YthglejhhfnpdaaaRune
namespace Go.Proofs.Ythglejhhfnpdaaa
open Go.ChangeShapes Go.WideShapes Go.ChangeAt Go.RowKit
set_option linter.unusedVariables false

theorem get_nat (s : ByteArray) (p : Nat) (h : p < s.size) : (s.get! p).toNat = (s[p]'h).toNat := by
  have := get_at s p h
  rw [Nat.add_zero] at this
  rw [this]

set_option maxHeartbeats 1000000 in
theorem dn2_short (m b0 b1 b2 b3 : Nat) (h0 : 192 ≤ b0) (h0' : b0 < 224) (l1 : b1 < 256) (l2 : b2 < 256) (l3 : b3 < 256) (hm : m < 2) : Lib.decodeN m b0 b1 b2 b3 = (65533, 1) := by
  unfold Lib.decodeN
  repeat' split
  all_goals first | rfl | (exfalso; omega)
set_option maxHeartbeats 1000000 in
theorem dn2_bad1 (m b0 b1 b2 b3 : Nat) (h0 : 192 ≤ b0) (h0' : b0 < 224) (l1 : b1 < 256) (l2 : b2 < 256) (l3 : b3 < 256) (hk : b1 < 128 ∨ 192 ≤ b1) : Lib.decodeN m b0 b1 b2 b3 = (65533, 1) := by
  unfold Lib.decodeN
  repeat' split
  all_goals first | rfl | (exfalso; omega)
set_option maxHeartbeats 1000000 in
theorem dn2_no (m b0 b1 b2 b3 : Nat) (h0 : 192 ≤ b0) (h0' : b0 < 224) (l1 : b1 < 256) (l2 : b2 < 256) (l3 : b3 < 256) (hm : 2 ≤ m) (g1 : 128 ≤ b1) (g1' : b1 < 192) (hv : (((b0 : Int) - 192) * 64 + (b1 : Int) - 128) < 128 ∨ 1114111 < (((b0 : Int) - 192) * 64 + (b1 : Int) - 128) ∨ (55296 ≤ (((b0 : Int) - 192) * 64 + (b1 : Int) - 128) ∧ (((b0 : Int) - 192) * 64 + (b1 : Int) - 128) < 57344)) : Lib.decodeN m b0 b1 b2 b3 = (65533, 1) := by
  unfold Lib.decodeN
  repeat' split
  all_goals first | rfl | (exfalso; omega)
set_option maxHeartbeats 1000000 in
theorem dn2_yes (m b0 b1 b2 b3 : Nat) (h0 : 192 ≤ b0) (h0' : b0 < 224) (l1 : b1 < 256) (l2 : b2 < 256) (l3 : b3 < 256) (hm : 2 ≤ m) (g1 : 128 ≤ b1) (g1' : b1 < 192) (v1 : 128 ≤ (((b0 : Int) - 192) * 64 + (b1 : Int) - 128)) (v2 : (((b0 : Int) - 192) * 64 + (b1 : Int) - 128) ≤ 1114111) (v3 : (((b0 : Int) - 192) * 64 + (b1 : Int) - 128) < 55296 ∨ 57344 ≤ (((b0 : Int) - 192) * 64 + (b1 : Int) - 128)) : ((Lib.decodeN m b0 b1 b2 b3).1 : Int) = (((b0 : Int) - 192) * 64 + (b1 : Int) - 128) ∧ (Lib.decodeN m b0 b1 b2 b3).2 = 2 := by
  unfold Lib.decodeN
  repeat' split
  all_goals first | rfl | (exfalso; omega) | (constructor <;> simp only [] <;> omega)
set_option maxHeartbeats 1000000 in
theorem dn3_short (m b0 b1 b2 b3 : Nat) (h0 : 224 ≤ b0) (h0' : b0 < 240) (l1 : b1 < 256) (l2 : b2 < 256) (l3 : b3 < 256) (hm : m < 3) : Lib.decodeN m b0 b1 b2 b3 = (65533, 1) := by
  unfold Lib.decodeN
  repeat' split
  all_goals first | rfl | (exfalso; omega)
set_option maxHeartbeats 1000000 in
theorem dn3_bad1 (m b0 b1 b2 b3 : Nat) (h0 : 224 ≤ b0) (h0' : b0 < 240) (l1 : b1 < 256) (l2 : b2 < 256) (l3 : b3 < 256) (hk : b1 < 128 ∨ 192 ≤ b1) : Lib.decodeN m b0 b1 b2 b3 = (65533, 1) := by
  unfold Lib.decodeN
  repeat' split
  all_goals first | rfl | (exfalso; omega)
set_option maxHeartbeats 1000000 in
theorem dn3_bad2 (m b0 b1 b2 b3 : Nat) (h0 : 224 ≤ b0) (h0' : b0 < 240) (l1 : b1 < 256) (l2 : b2 < 256) (l3 : b3 < 256) (hk : b2 < 128 ∨ 192 ≤ b2) : Lib.decodeN m b0 b1 b2 b3 = (65533, 1) := by
  unfold Lib.decodeN
  repeat' split
  all_goals first | rfl | (exfalso; omega)
set_option maxHeartbeats 1000000 in
theorem dn3_no (m b0 b1 b2 b3 : Nat) (h0 : 224 ≤ b0) (h0' : b0 < 240) (l1 : b1 < 256) (l2 : b2 < 256) (l3 : b3 < 256) (hm : 3 ≤ m) (g1 : 128 ≤ b1) (g1' : b1 < 192) (g2 : 128 ≤ b2) (g2' : b2 < 192) (hv : ((((b0 : Int) - 224) * 64 + (b1 : Int) - 128) * 64 + (b2 : Int) - 128) < 2048 ∨ 1114111 < ((((b0 : Int) - 224) * 64 + (b1 : Int) - 128) * 64 + (b2 : Int) - 128) ∨ (55296 ≤ ((((b0 : Int) - 224) * 64 + (b1 : Int) - 128) * 64 + (b2 : Int) - 128) ∧ ((((b0 : Int) - 224) * 64 + (b1 : Int) - 128) * 64 + (b2 : Int) - 128) < 57344)) : Lib.decodeN m b0 b1 b2 b3 = (65533, 1) := by
  unfold Lib.decodeN
  repeat' split
  all_goals first | rfl | (exfalso; omega)
set_option maxHeartbeats 1000000 in
theorem dn3_yes (m b0 b1 b2 b3 : Nat) (h0 : 224 ≤ b0) (h0' : b0 < 240) (l1 : b1 < 256) (l2 : b2 < 256) (l3 : b3 < 256) (hm : 3 ≤ m) (g1 : 128 ≤ b1) (g1' : b1 < 192) (g2 : 128 ≤ b2) (g2' : b2 < 192) (v1 : 2048 ≤ ((((b0 : Int) - 224) * 64 + (b1 : Int) - 128) * 64 + (b2 : Int) - 128)) (v2 : ((((b0 : Int) - 224) * 64 + (b1 : Int) - 128) * 64 + (b2 : Int) - 128) ≤ 1114111) (v3 : ((((b0 : Int) - 224) * 64 + (b1 : Int) - 128) * 64 + (b2 : Int) - 128) < 55296 ∨ 57344 ≤ ((((b0 : Int) - 224) * 64 + (b1 : Int) - 128) * 64 + (b2 : Int) - 128)) : ((Lib.decodeN m b0 b1 b2 b3).1 : Int) = ((((b0 : Int) - 224) * 64 + (b1 : Int) - 128) * 64 + (b2 : Int) - 128) ∧ (Lib.decodeN m b0 b1 b2 b3).2 = 3 := by
  unfold Lib.decodeN
  repeat' split
  all_goals first | rfl | (exfalso; omega) | (constructor <;> simp only [] <;> omega)
set_option maxHeartbeats 1000000 in
theorem dn4_short (m b0 b1 b2 b3 : Nat) (h0 : 240 ≤ b0) (h0' : b0 < 248) (l1 : b1 < 256) (l2 : b2 < 256) (l3 : b3 < 256) (hm : m < 4) : Lib.decodeN m b0 b1 b2 b3 = (65533, 1) := by
  unfold Lib.decodeN
  repeat' split
  all_goals first | rfl | (exfalso; omega)
set_option maxHeartbeats 1000000 in
theorem dn4_bad1 (m b0 b1 b2 b3 : Nat) (h0 : 240 ≤ b0) (h0' : b0 < 248) (l1 : b1 < 256) (l2 : b2 < 256) (l3 : b3 < 256) (hk : b1 < 128 ∨ 192 ≤ b1) : Lib.decodeN m b0 b1 b2 b3 = (65533, 1) := by
  unfold Lib.decodeN
  repeat' split
  all_goals first | rfl | (exfalso; omega)
set_option maxHeartbeats 1000000 in
theorem dn4_bad2 (m b0 b1 b2 b3 : Nat) (h0 : 240 ≤ b0) (h0' : b0 < 248) (l1 : b1 < 256) (l2 : b2 < 256) (l3 : b3 < 256) (hk : b2 < 128 ∨ 192 ≤ b2) : Lib.decodeN m b0 b1 b2 b3 = (65533, 1) := by
  unfold Lib.decodeN
  repeat' split
  all_goals first | rfl | (exfalso; omega)
set_option maxHeartbeats 1000000 in
theorem dn4_bad3 (m b0 b1 b2 b3 : Nat) (h0 : 240 ≤ b0) (h0' : b0 < 248) (l1 : b1 < 256) (l2 : b2 < 256) (l3 : b3 < 256) (hk : b3 < 128 ∨ 192 ≤ b3) : Lib.decodeN m b0 b1 b2 b3 = (65533, 1) := by
  unfold Lib.decodeN
  repeat' split
  all_goals first | rfl | (exfalso; omega)
set_option maxHeartbeats 1000000 in
theorem dn4_no (m b0 b1 b2 b3 : Nat) (h0 : 240 ≤ b0) (h0' : b0 < 248) (l1 : b1 < 256) (l2 : b2 < 256) (l3 : b3 < 256) (hm : 4 ≤ m) (g1 : 128 ≤ b1) (g1' : b1 < 192) (g2 : 128 ≤ b2) (g2' : b2 < 192) (g3 : 128 ≤ b3) (g3' : b3 < 192) (hv : (((((b0 : Int) - 240) * 64 + (b1 : Int) - 128) * 64 + (b2 : Int) - 128) * 64 + (b3 : Int) - 128) < 65536 ∨ 1114111 < (((((b0 : Int) - 240) * 64 + (b1 : Int) - 128) * 64 + (b2 : Int) - 128) * 64 + (b3 : Int) - 128) ∨ (55296 ≤ (((((b0 : Int) - 240) * 64 + (b1 : Int) - 128) * 64 + (b2 : Int) - 128) * 64 + (b3 : Int) - 128) ∧ (((((b0 : Int) - 240) * 64 + (b1 : Int) - 128) * 64 + (b2 : Int) - 128) * 64 + (b3 : Int) - 128) < 57344)) : Lib.decodeN m b0 b1 b2 b3 = (65533, 1) := by
  unfold Lib.decodeN
  repeat' split
  all_goals first | rfl | (exfalso; omega)
set_option maxHeartbeats 1000000 in
theorem dn4_yes (m b0 b1 b2 b3 : Nat) (h0 : 240 ≤ b0) (h0' : b0 < 248) (l1 : b1 < 256) (l2 : b2 < 256) (l3 : b3 < 256) (hm : 4 ≤ m) (g1 : 128 ≤ b1) (g1' : b1 < 192) (g2 : 128 ≤ b2) (g2' : b2 < 192) (g3 : 128 ≤ b3) (g3' : b3 < 192) (v1 : 65536 ≤ (((((b0 : Int) - 240) * 64 + (b1 : Int) - 128) * 64 + (b2 : Int) - 128) * 64 + (b3 : Int) - 128)) (v2 : (((((b0 : Int) - 240) * 64 + (b1 : Int) - 128) * 64 + (b2 : Int) - 128) * 64 + (b3 : Int) - 128) ≤ 1114111) (v3 : (((((b0 : Int) - 240) * 64 + (b1 : Int) - 128) * 64 + (b2 : Int) - 128) * 64 + (b3 : Int) - 128) < 55296 ∨ 57344 ≤ (((((b0 : Int) - 240) * 64 + (b1 : Int) - 128) * 64 + (b2 : Int) - 128) * 64 + (b3 : Int) - 128)) : ((Lib.decodeN m b0 b1 b2 b3).1 : Int) = (((((b0 : Int) - 240) * 64 + (b1 : Int) - 128) * 64 + (b2 : Int) - 128) * 64 + (b3 : Int) - 128) ∧ (Lib.decodeN m b0 b1 b2 b3).2 = 4 := by
  unfold Lib.decodeN
  repeat' split
  all_goals first | rfl | (exfalso; omega) | (constructor <;> simp only [] <;> omega)
set_option maxRecDepth 100000 in
theorem refRune_ascii (s : ByteArray) (p : Nat) (hp : p < s.size) (hs : s.size ≤ maxLen) (w : World) (hc : (s[p]'hp).toNat < 128) :
    Calls Try.prog 15 #[.string s, .int .i64 p] w fun e w' => e = .returned (.tuple #[.int .i64 (s[p]'hp).toNat, .int .i64 1]) ∧ w = w' := by
  unfold maxLen at hs
  have hb := (s[p]'hp).toNat_lt
  have b1 : decide ((p : Int) < 0) = false := by simp
  have b2 : decide (s.size ≤ p) = false := by simpa using hp
  go_enter Try.func15, Try.ntmps15
  go_wp2
  go_ret2
  exact ⟨rfl, rfl⟩

set_option maxRecDepth 100000 in
theorem refRune_none (s : ByteArray) (p : Nat) (hp : p < s.size) (hs : s.size ≤ maxLen) (w : World) (hc : (128 ≤ (s[p]'hp).toNat ∧ (s[p]'hp).toNat < 192) ∨ 248 ≤ (s[p]'hp).toNat) :
    Calls Try.prog 15 #[.string s, .int .i64 p] w fun e w' => e = .returned (.tuple #[.int .i64 65533, .int .i64 1]) ∧ w = w' := by
  unfold maxLen at hs
  have hb := (s[p]'hp).toNat_lt
  have b1 : decide ((p : Int) < 0) = false := by simp
  have b2 : decide (s.size ≤ p) = false := by simpa using hp
  rcases hc with ⟨h1, h2⟩ | h1
  · go_enter Try.func15, Try.ntmps15
    go_wp2
    go_ret2
    exact ⟨rfl, rfl⟩
  · go_enter Try.func15, Try.ntmps15
    go_wp2
    go_ret2
    exact ⟨rfl, rfl⟩

theorem dec_at (s : ByteArray) (p : Nat) (hp : p < s.size) : Utf8.decode s p = Lib.decodeN (s.size - p) (s[p]'hp).toNat (s.get! (p + 1)).toNat (s.get! (p + 2)).toNat (s.get! (p + 3)).toNat := by
  rw [Lib.decode_at, get_nat s p hp]
theorem ret_fffd {s : ByteArray} {p : Nat} (h : Utf8.decode s p = (65533, 1)) : Ending.returned (.tuple #[.int .i64 65533, .int .i64 1]) = .returned (.tuple #[.int .i64 (Utf8.decode s p).1, .int .i64 (Utf8.decode s p).2]) := by rw [h]; rfl
theorem ret_of {s : ByteArray} {p : Nat} {v : Int} {n : Nat} (h : ((Utf8.decode s p).1 : Int) = v ∧ (Utf8.decode s p).2 = n) : Ending.returned (.tuple #[.int .i64 v, .int .i64 n]) = .returned (.tuple #[.int .i64 (Utf8.decode s p).1, .int .i64 (Utf8.decode s p).2]) := by rw [h.1, h.2]
set_option maxRecDepth 100000 in
set_option maxHeartbeats 2000000 in
theorem refRune_2 (s : ByteArray) (p : Nat) (hp : p < s.size) (hn : p + 2 ≤ s.size) (hs : s.size ≤ maxLen) (w : World) (h1 : 192 ≤ (s[p]'hp).toNat) (h2 : (s[p]'hp).toNat < 224) :
    Calls Try.prog 15 #[.string s, .int .i64 p] w fun e w' => e = .returned (.tuple #[.int .i64 (Utf8.decode s p).1, .int .i64 (Utf8.decode s p).2]) ∧ Below w.heap.size w w' := by
  unfold maxLen at hs
  have hb := (s[p]'hp).toNat_lt
  have b1 : decide ((p : Int) < 0) = false := by simp
  have b2 : decide (s.size ≤ p) = false := by simpa using hp
  have b3 : decide (((s[p]'hp).toNat : Int) < 128) = false := by simp; omega
  have b4 : decide ((s.size : Int) - (p : Int) < 2) = false := by simp; omega
  have c224 : decide (((s[p]'hp).toNat : Int) < 224) = true := by simp; omega
  have hp1 : p + 1 < s.size := by omega
  have hb1 := (s[p + 1]'hp1).toNat_lt
  have hdec : Utf8.decode s p = Lib.decodeN (s.size - p) (s[p]'hp).toNat (s[p + 1]'hp1).toNat (s.get! (p + 2)).toNat (s.get! (p + 3)).toNat := by rw [dec_at s p hp, get_nat s (p + 1) hp1]
  have HB1 := Lib.hid (fun hk => hdec.trans (dn2_bad1 (s.size - p) (s[p]'hp).toNat (s[p + 1]'hp1).toNat (s.get! (p + 2)).toNat (s.get! (p + 3)).toNat (by omega) (by omega) hb1 (UInt8.toNat_lt _) (UInt8.toNat_lt _) hk))
  have HN := Lib.hid (fun (g1 : 128 ≤ s[p+1].toNat) (g1' : s[p+1].toNat < 192) hv => hdec.trans (dn2_no (s.size - p) (s[p]'hp).toNat (s[p + 1]'hp1).toNat (s.get! (p + 2)).toNat (s.get! (p + 3)).toNat (by omega) (by omega) hb1 (UInt8.toNat_lt _) (UInt8.toNat_lt _) (by omega) g1 g1' hv))
  have HY := Lib.hid (fun (g1 : 128 ≤ s[p+1].toNat) (g1' : s[p+1].toNat < 192) v1 v2 v3 => dn2_yes (s.size - p) (s[p]'hp).toNat (s[p + 1]'hp1).toNat (s.get! (p + 2)).toNat (s.get! (p + 3)).toNat (by omega) (by omega) hb1 (UInt8.toNat_lt _) (UInt8.toNat_lt _) (by omega) g1 g1' v1 v2 v3)
  rw [← hdec] at HY
  clear hdec
  go_enter Try.func15, Try.ntmps15
  go_wp2
  go_loop [8, 9] (fun v i => (i = .int .i64 1 ∧ v = .int .i64 ((s[p].toNat : Int) - 192)) ∨ (i = .int .i64 2 ∧ v = .int .i64 (((s[p].toNat : Int) - 192) * 64 + (s[p+1].toNat : Int) - 128) ∧ 128 ≤ s[p+1].toNat ∧ s[p+1].toNat < 192)) (fun _ i => 2 - (intOf i).toNat)
  case atStart => exact Or.inl ⟨rfl, rfl⟩
  case round =>
    rcases hrel with ⟨rfl, rfl⟩ | ⟨rfl, rfl, g1, g1'⟩
    · by_cases hk1 : s[p+1].toNat < 128
      · go_wp2
        go_ret2
        exact ⟨ret_fffd (HB1.out (Or.inl hk1)), Below.refl _ _⟩
      · by_cases hk2 : 192 ≤ s[p+1].toNat
        · go_wp2
          go_ret2
          exact ⟨ret_fffd (HB1.out (Or.inr hk2)), Below.refl _ _⟩
        · go_wp2
          go_round
          case rel => exact Or.inr ⟨rfl, rfl, by omega, by omega⟩
          case measure => simp [intOf]
    · go_wp2
      all_goals go_ret2
      all_goals first | exact ⟨ret_fffd (HN.out g1 g1' (by omega)), (Below.refl _ _).alloc (Nat.le_refl _) _⟩ | exact ⟨ret_of (HY.out g1 g1' (by omega) (by omega) (by omega)), (Below.refl _ _).alloc (Nat.le_refl _) _⟩
set_option maxRecDepth 100000 in
set_option maxHeartbeats 2000000 in
theorem refRune_3 (s : ByteArray) (p : Nat) (hp : p < s.size) (hn : p + 3 ≤ s.size) (hs : s.size ≤ maxLen) (w : World) (h1 : 224 ≤ (s[p]'hp).toNat) (h2 : (s[p]'hp).toNat < 240) :
    Calls Try.prog 15 #[.string s, .int .i64 p] w fun e w' => e = .returned (.tuple #[.int .i64 (Utf8.decode s p).1, .int .i64 (Utf8.decode s p).2]) ∧ Below w.heap.size w w' := by
  unfold maxLen at hs
  have hb := (s[p]'hp).toNat_lt
  have b1 : decide ((p : Int) < 0) = false := by simp
  have b2 : decide (s.size ≤ p) = false := by simpa using hp
  have b3 : decide (((s[p]'hp).toNat : Int) < 128) = false := by simp; omega
  have b4 : decide ((s.size : Int) - (p : Int) < 3) = false := by simp; omega
  have c224 : decide (((s[p]'hp).toNat : Int) < 224) = false := by simp; omega
  have c240 : decide (((s[p]'hp).toNat : Int) < 240) = true := by simp; omega
  have hp1 : p + 1 < s.size := by omega
  have hb1 := (s[p + 1]'hp1).toNat_lt
  have hp2 : p + 2 < s.size := by omega
  have hb2 := (s[p + 2]'hp2).toNat_lt
  have hdec : Utf8.decode s p = Lib.decodeN (s.size - p) (s[p]'hp).toNat (s[p + 1]'hp1).toNat (s[p + 2]'hp2).toNat (s.get! (p + 3)).toNat := by rw [dec_at s p hp, get_nat s (p + 1) hp1, get_nat s (p + 2) hp2]
  have HB1 := Lib.hid (fun hk => hdec.trans (dn3_bad1 (s.size - p) (s[p]'hp).toNat (s[p + 1]'hp1).toNat (s[p + 2]'hp2).toNat (s.get! (p + 3)).toNat (by omega) (by omega) hb1 hb2 (UInt8.toNat_lt _) hk))
  have HB2 := Lib.hid (fun hk => hdec.trans (dn3_bad2 (s.size - p) (s[p]'hp).toNat (s[p + 1]'hp1).toNat (s[p + 2]'hp2).toNat (s.get! (p + 3)).toNat (by omega) (by omega) hb1 hb2 (UInt8.toNat_lt _) hk))
  have HN := Lib.hid (fun (g1 : 128 ≤ s[p+1].toNat) (g1' : s[p+1].toNat < 192) (g2 : 128 ≤ s[p+2].toNat) (g2' : s[p+2].toNat < 192) hv => hdec.trans (dn3_no (s.size - p) (s[p]'hp).toNat (s[p + 1]'hp1).toNat (s[p + 2]'hp2).toNat (s.get! (p + 3)).toNat (by omega) (by omega) hb1 hb2 (UInt8.toNat_lt _) (by omega) g1 g1' g2 g2' hv))
  have HY := Lib.hid (fun (g1 : 128 ≤ s[p+1].toNat) (g1' : s[p+1].toNat < 192) (g2 : 128 ≤ s[p+2].toNat) (g2' : s[p+2].toNat < 192) v1 v2 v3 => dn3_yes (s.size - p) (s[p]'hp).toNat (s[p + 1]'hp1).toNat (s[p + 2]'hp2).toNat (s.get! (p + 3)).toNat (by omega) (by omega) hb1 hb2 (UInt8.toNat_lt _) (by omega) g1 g1' g2 g2' v1 v2 v3)
  rw [← hdec] at HY
  clear hdec
  go_enter Try.func15, Try.ntmps15
  go_wp2
  go_loop [8, 9] (fun v i => (i = .int .i64 1 ∧ v = .int .i64 ((s[p].toNat : Int) - 224)) ∨ (i = .int .i64 2 ∧ v = .int .i64 (((s[p].toNat : Int) - 224) * 64 + (s[p+1].toNat : Int) - 128) ∧ 128 ≤ s[p+1].toNat ∧ s[p+1].toNat < 192) ∨ (i = .int .i64 3 ∧ v = .int .i64 ((((s[p].toNat : Int) - 224) * 64 + (s[p+1].toNat : Int) - 128) * 64 + (s[p+2].toNat : Int) - 128) ∧ 128 ≤ s[p+1].toNat ∧ s[p+1].toNat < 192 ∧ 128 ≤ s[p+2].toNat ∧ s[p+2].toNat < 192)) (fun _ i => 3 - (intOf i).toNat)
  case atStart => exact Or.inl ⟨rfl, rfl⟩
  case round =>
    rcases hrel with ⟨rfl, rfl⟩ | ⟨rfl, rfl, g1, g1'⟩ | ⟨rfl, rfl, g1, g1', g2, g2'⟩
    · by_cases hk1 : s[p+1].toNat < 128
      · go_wp2
        go_ret2
        exact ⟨ret_fffd (HB1.out (Or.inl hk1)), Below.refl _ _⟩
      · by_cases hk2 : 192 ≤ s[p+1].toNat
        · go_wp2
          go_ret2
          exact ⟨ret_fffd (HB1.out (Or.inr hk2)), Below.refl _ _⟩
        · go_wp2
          go_round
          case rel => exact Or.inr (Or.inl ⟨rfl, rfl, by omega, by omega⟩)
          case measure => simp [intOf]
    · by_cases hk1 : s[p+2].toNat < 128
      · go_wp2
        go_ret2
        exact ⟨ret_fffd (HB2.out (Or.inl hk1)), Below.refl _ _⟩
      · by_cases hk2 : 192 ≤ s[p+2].toNat
        · go_wp2
          go_ret2
          exact ⟨ret_fffd (HB2.out (Or.inr hk2)), Below.refl _ _⟩
        · go_wp2
          go_round
          case rel => exact Or.inr (Or.inr ⟨rfl, rfl, g1, g1', by omega, by omega⟩)
          case measure => simp [intOf]
    · go_wp2
      all_goals go_ret2
      all_goals first | exact ⟨ret_fffd (HN.out g1 g1' g2 g2' (by omega)), (Below.refl _ _).alloc (Nat.le_refl _) _⟩ | exact ⟨ret_of (HY.out g1 g1' g2 g2' (by omega) (by omega) (by omega)), (Below.refl _ _).alloc (Nat.le_refl _) _⟩
set_option maxRecDepth 100000 in
set_option maxHeartbeats 2000000 in
theorem refRune_4 (s : ByteArray) (p : Nat) (hp : p < s.size) (hn : p + 4 ≤ s.size) (hs : s.size ≤ maxLen) (w : World) (h1 : 240 ≤ (s[p]'hp).toNat) (h2 : (s[p]'hp).toNat < 248) :
    Calls Try.prog 15 #[.string s, .int .i64 p] w fun e w' => e = .returned (.tuple #[.int .i64 (Utf8.decode s p).1, .int .i64 (Utf8.decode s p).2]) ∧ Below w.heap.size w w' := by
  unfold maxLen at hs
  have hb := (s[p]'hp).toNat_lt
  have b1 : decide ((p : Int) < 0) = false := by simp
  have b2 : decide (s.size ≤ p) = false := by simpa using hp
  have b3 : decide (((s[p]'hp).toNat : Int) < 128) = false := by simp; omega
  have b4 : decide ((s.size : Int) - (p : Int) < 4) = false := by simp; omega
  have c224 : decide (((s[p]'hp).toNat : Int) < 224) = false := by simp; omega
  have c240 : decide (((s[p]'hp).toNat : Int) < 240) = false := by simp; omega
  have c248 : decide (((s[p]'hp).toNat : Int) < 248) = true := by simp; omega
  have hp1 : p + 1 < s.size := by omega
  have hb1 := (s[p + 1]'hp1).toNat_lt
  have hp2 : p + 2 < s.size := by omega
  have hb2 := (s[p + 2]'hp2).toNat_lt
  have hp3 : p + 3 < s.size := by omega
  have hb3 := (s[p + 3]'hp3).toNat_lt
  have hdec : Utf8.decode s p = Lib.decodeN (s.size - p) (s[p]'hp).toNat (s[p + 1]'hp1).toNat (s[p + 2]'hp2).toNat (s[p + 3]'hp3).toNat := by rw [dec_at s p hp, get_nat s (p + 1) hp1, get_nat s (p + 2) hp2, get_nat s (p + 3) hp3]
  have HB1 := Lib.hid (fun hk => hdec.trans (dn4_bad1 (s.size - p) (s[p]'hp).toNat (s[p + 1]'hp1).toNat (s[p + 2]'hp2).toNat (s[p + 3]'hp3).toNat (by omega) (by omega) hb1 hb2 hb3 hk))
  have HB2 := Lib.hid (fun hk => hdec.trans (dn4_bad2 (s.size - p) (s[p]'hp).toNat (s[p + 1]'hp1).toNat (s[p + 2]'hp2).toNat (s[p + 3]'hp3).toNat (by omega) (by omega) hb1 hb2 hb3 hk))
  have HB3 := Lib.hid (fun hk => hdec.trans (dn4_bad3 (s.size - p) (s[p]'hp).toNat (s[p + 1]'hp1).toNat (s[p + 2]'hp2).toNat (s[p + 3]'hp3).toNat (by omega) (by omega) hb1 hb2 hb3 hk))
  have HN := Lib.hid (fun (g1 : 128 ≤ s[p+1].toNat) (g1' : s[p+1].toNat < 192) (g2 : 128 ≤ s[p+2].toNat) (g2' : s[p+2].toNat < 192) (g3 : 128 ≤ s[p+3].toNat) (g3' : s[p+3].toNat < 192) hv => hdec.trans (dn4_no (s.size - p) (s[p]'hp).toNat (s[p + 1]'hp1).toNat (s[p + 2]'hp2).toNat (s[p + 3]'hp3).toNat (by omega) (by omega) hb1 hb2 hb3 (by omega) g1 g1' g2 g2' g3 g3' hv))
  have HY := Lib.hid (fun (g1 : 128 ≤ s[p+1].toNat) (g1' : s[p+1].toNat < 192) (g2 : 128 ≤ s[p+2].toNat) (g2' : s[p+2].toNat < 192) (g3 : 128 ≤ s[p+3].toNat) (g3' : s[p+3].toNat < 192) v1 v2 v3 => dn4_yes (s.size - p) (s[p]'hp).toNat (s[p + 1]'hp1).toNat (s[p + 2]'hp2).toNat (s[p + 3]'hp3).toNat (by omega) (by omega) hb1 hb2 hb3 (by omega) g1 g1' g2 g2' g3 g3' v1 v2 v3)
  rw [← hdec] at HY
  clear hdec
  go_enter Try.func15, Try.ntmps15
  go_wp2
  go_loop [8, 9] (fun v i => (i = .int .i64 1 ∧ v = .int .i64 ((s[p].toNat : Int) - 240)) ∨ (i = .int .i64 2 ∧ v = .int .i64 (((s[p].toNat : Int) - 240) * 64 + (s[p+1].toNat : Int) - 128) ∧ 128 ≤ s[p+1].toNat ∧ s[p+1].toNat < 192) ∨ (i = .int .i64 3 ∧ v = .int .i64 ((((s[p].toNat : Int) - 240) * 64 + (s[p+1].toNat : Int) - 128) * 64 + (s[p+2].toNat : Int) - 128) ∧ 128 ≤ s[p+1].toNat ∧ s[p+1].toNat < 192 ∧ 128 ≤ s[p+2].toNat ∧ s[p+2].toNat < 192) ∨ (i = .int .i64 4 ∧ v = .int .i64 (((((s[p].toNat : Int) - 240) * 64 + (s[p+1].toNat : Int) - 128) * 64 + (s[p+2].toNat : Int) - 128) * 64 + (s[p+3].toNat : Int) - 128) ∧ 128 ≤ s[p+1].toNat ∧ s[p+1].toNat < 192 ∧ 128 ≤ s[p+2].toNat ∧ s[p+2].toNat < 192 ∧ 128 ≤ s[p+3].toNat ∧ s[p+3].toNat < 192)) (fun _ i => 4 - (intOf i).toNat)
  case atStart => exact Or.inl ⟨rfl, rfl⟩
  case round =>
    rcases hrel with ⟨rfl, rfl⟩ | ⟨rfl, rfl, g1, g1'⟩ | ⟨rfl, rfl, g1, g1', g2, g2'⟩ | ⟨rfl, rfl, g1, g1', g2, g2', g3, g3'⟩
    · by_cases hk1 : s[p+1].toNat < 128
      · go_wp2
        go_ret2
        exact ⟨ret_fffd (HB1.out (Or.inl hk1)), Below.refl _ _⟩
      · by_cases hk2 : 192 ≤ s[p+1].toNat
        · go_wp2
          go_ret2
          exact ⟨ret_fffd (HB1.out (Or.inr hk2)), Below.refl _ _⟩
        · go_wp2
          go_round
          case rel => exact Or.inr (Or.inl ⟨rfl, rfl, by omega, by omega⟩)
          case measure => simp [intOf]
    · by_cases hk1 : s[p+2].toNat < 128
      · go_wp2
        go_ret2
        exact ⟨ret_fffd (HB2.out (Or.inl hk1)), Below.refl _ _⟩
      · by_cases hk2 : 192 ≤ s[p+2].toNat
        · go_wp2
          go_ret2
          exact ⟨ret_fffd (HB2.out (Or.inr hk2)), Below.refl _ _⟩
        · go_wp2
          go_round
          case rel => exact Or.inr (Or.inr (Or.inl ⟨rfl, rfl, g1, g1', by omega, by omega⟩))
          case measure => simp [intOf]
    · by_cases hk1 : s[p+3].toNat < 128
      · go_wp2
        go_ret2
        exact ⟨ret_fffd (HB3.out (Or.inl hk1)), Below.refl _ _⟩
      · by_cases hk2 : 192 ≤ s[p+3].toNat
        · go_wp2
          go_ret2
          exact ⟨ret_fffd (HB3.out (Or.inr hk2)), Below.refl _ _⟩
        · go_wp2
          go_round
          case rel => exact Or.inr (Or.inr (Or.inr ⟨rfl, rfl, g1, g1', g2, g2', by omega, by omega⟩))
          case measure => simp [intOf]
    · go_wp2
      all_goals go_ret2
      all_goals first | exact ⟨ret_fffd (HN.out g1 g1' g2 g2' g3 g3' (by omega)), (Below.refl _ _).alloc (Nat.le_refl _) _⟩ | exact ⟨ret_of (HY.out g1 g1' g2 g2' g3 g3' (by omega) (by omega) (by omega)), (Below.refl _ _).alloc (Nat.le_refl _) _⟩
set_option maxRecDepth 100000 in
theorem refRune_short2 (s : ByteArray) (p : Nat) (hp : p < s.size) (hn : s.size < p + 2) (hs : s.size ≤ maxLen) (w : World) (h1 : 192 ≤ (s[p]'hp).toNat) (h2 : (s[p]'hp).toNat < 224) :
    Calls Try.prog 15 #[.string s, .int .i64 p] w fun e w' => e = .returned (.tuple #[.int .i64 (Utf8.decode s p).1, .int .i64 (Utf8.decode s p).2]) ∧ Below w.heap.size w w' := by
  unfold maxLen at hs
  have hb := (s[p]'hp).toNat_lt
  have HN := Lib.hid ((dec_at s p hp).trans (dn2_short (s.size - p) (s[p]'hp).toNat (s.get! (p + 1)).toNat (s.get! (p + 2)).toNat (s.get! (p + 3)).toNat h1 h2 (UInt8.toNat_lt _) (UInt8.toNat_lt _) (UInt8.toNat_lt _) (by omega)))
  go_enter Try.func15, Try.ntmps15
  go_wp2
  go_ret2
  exact ⟨ret_fffd HN.out, Below.refl _ _⟩
set_option maxRecDepth 100000 in
theorem refRune_short3 (s : ByteArray) (p : Nat) (hp : p < s.size) (hn : s.size < p + 3) (hs : s.size ≤ maxLen) (w : World) (h1 : 224 ≤ (s[p]'hp).toNat) (h2 : (s[p]'hp).toNat < 240) :
    Calls Try.prog 15 #[.string s, .int .i64 p] w fun e w' => e = .returned (.tuple #[.int .i64 (Utf8.decode s p).1, .int .i64 (Utf8.decode s p).2]) ∧ Below w.heap.size w w' := by
  unfold maxLen at hs
  have hb := (s[p]'hp).toNat_lt
  have HN := Lib.hid ((dec_at s p hp).trans (dn3_short (s.size - p) (s[p]'hp).toNat (s.get! (p + 1)).toNat (s.get! (p + 2)).toNat (s.get! (p + 3)).toNat h1 h2 (UInt8.toNat_lt _) (UInt8.toNat_lt _) (UInt8.toNat_lt _) (by omega)))
  go_enter Try.func15, Try.ntmps15
  go_wp2
  go_ret2
  exact ⟨ret_fffd HN.out, Below.refl _ _⟩
set_option maxRecDepth 100000 in
theorem refRune_short4 (s : ByteArray) (p : Nat) (hp : p < s.size) (hn : s.size < p + 4) (hs : s.size ≤ maxLen) (w : World) (h1 : 240 ≤ (s[p]'hp).toNat) (h2 : (s[p]'hp).toNat < 248) :
    Calls Try.prog 15 #[.string s, .int .i64 p] w fun e w' => e = .returned (.tuple #[.int .i64 (Utf8.decode s p).1, .int .i64 (Utf8.decode s p).2]) ∧ Below w.heap.size w w' := by
  unfold maxLen at hs
  have hb := (s[p]'hp).toNat_lt
  have HN := Lib.hid ((dec_at s p hp).trans (dn4_short (s.size - p) (s[p]'hp).toNat (s.get! (p + 1)).toNat (s.get! (p + 2)).toNat (s.get! (p + 3)).toNat h1 h2 (UInt8.toNat_lt _) (UInt8.toNat_lt _) (UInt8.toNat_lt _) (by omega)))
  go_enter Try.func15, Try.ntmps15
  go_wp2
  go_ret2
  exact ⟨ret_fffd HN.out, Below.refl _ _⟩
theorem refRune_in (s : ByteArray) (p : Nat) (hp : p < s.size) (hs : s.size ≤ maxLen) (w : World) :
    Calls Try.prog 15 #[.string s, .int .i64 p] w fun e w' => e = .returned (.tuple #[.int .i64 (Utf8.decode s p).1, .int .i64 (Utf8.decode s p).2]) ∧ Below w.heap.size w w' := by
  have hb := (s[p]'hp).toNat_lt
  by_cases c1 : (s[p]'hp).toNat < 128
  · refine (refRune_ascii s p hp hs w c1).mono ?_
    rintro e w' ⟨rfl, rfl⟩
    rw [decode_ascii s p hp c1]
    exact ⟨rfl, Below.refl _ _⟩
  by_cases c2 : (s[p]'hp).toNat < 192 ∨ 248 ≤ (s[p]'hp).toNat
  · refine (refRune_none s p hp hs w (by omega)).mono ?_
    rintro e w' ⟨rfl, rfl⟩
    refine ⟨ret_fffd ?_, Below.refl _ _⟩
    rw [dec_at s p hp]
    unfold Lib.decodeN
    repeat' split
    all_goals first | rfl | (exfalso; omega)
  by_cases c3 : (s[p]'hp).toNat < 224
  · by_cases hn : p + 2 ≤ s.size
    · exact refRune_2 s p hp hn hs w (by omega) c3
    · exact refRune_short2 s p hp (by omega) hs w (by omega) c3
  by_cases c4 : (s[p]'hp).toNat < 240
  · by_cases hn : p + 3 ≤ s.size
    · exact refRune_3 s p hp hn hs w (by omega) c4
    · exact refRune_short3 s p hp (by omega) hs w (by omega) c4
  · by_cases hn : p + 4 ≤ s.size
    · exact refRune_4 s p hp hn hs w (by omega) (by omega)
    · exact refRune_short4 s p hp (by omega) hs w (by omega) (by omega)

set_option maxRecDepth 100000 in
theorem refRune_out (s : ByteArray) (a : Int) (h : a < 0 ∨ s.size ≤ a) (hs : s.size ≤ maxLen) (w : World) :
    Calls Try.prog 15 #[.string s, .int .i64 a] w fun e w' => e = .returned (.tuple #[.int .i64 0, .int .i64 0]) ∧ w = w' := by
  unfold maxLen at hs
  by_cases h0 : a < 0
  · go_enter Try.func15, Try.ntmps15
    go_wp2
    go_ret2
    exact ⟨rfl, rfl⟩
  · have h1 : (s.size : Int) ≤ a := by omega
    go_enter Try.func15, Try.ntmps15
    go_wp2
    go_ret2
    exact ⟨rfl, rfl⟩

/-- The character at an offset, as both functions answer it: its number and how many bytes it has. -/
def runeV (s : ByteArray) (a : Int) : Int := if a < 0 ∨ (s.size : Int) ≤ a then 0 else (Utf8.decode s a.toNat).1
def runeN (s : ByteArray) (a : Int) : Int := if a < 0 ∨ (s.size : Int) ≤ a then 0 else (Utf8.decode s a.toNat).2
theorem runeV_bd (s : ByteArray) (a : Int) : 0 ≤ runeV s a ∧ runeV s a ≤ 1114111 := by
  unfold runeV
  split
  · omega
  · have := dec_bd s a.toNat (by omega); omega
theorem runeN_bd (s : ByteArray) (a : Int) : 0 ≤ runeN s a ∧ runeN s a ≤ 4 ∧ (runeN s a = 0 ∨ a + runeN s a ≤ s.size) := by
  unfold runeN
  split
  · omega
  · have := dec_bd s a.toNat (by omega); omega

theorem rune_any (s : ByteArray) (a : Int) (hs : s.size ≤ maxLen) (w : World) :
    Calls Try.prog 20 #[.string s, .int .i64 a] w fun e w' => e = .returned (.tuple #[.int .i64 (runeV s a), .int .i64 (runeN s a)]) ∧ Below w.heap.size w w' := by
  unfold runeV runeN
  by_cases h : a < 0 ∨ (s.size : Int) ≤ a
  · rw [if_pos h, if_pos h]
    exact (rune_out s a h hs w).mono fun e w' ⟨he, hw⟩ => ⟨he, by rw [← hw]; exact Below.refl _ _⟩
  · rw [if_neg h, if_neg h]
    obtain ⟨p, rfl⟩ : ∃ p : Nat, a = p := ⟨a.toNat, by omega⟩
    exact rune_in s p (by omega) hs w
theorem refRune_any (s : ByteArray) (a : Int) (hs : s.size ≤ maxLen) (w : World) :
    Calls Try.prog 15 #[.string s, .int .i64 a] w fun e w' => e = .returned (.tuple #[.int .i64 (runeV s a), .int .i64 (runeN s a)]) ∧ Below w.heap.size w w' := by
  unfold runeV runeN
  by_cases h : a < 0 ∨ (s.size : Int) ≤ a
  · rw [if_pos h, if_pos h]
    exact (refRune_out s a h hs w).mono fun e w' ⟨he, hw⟩ => ⟨he, by rw [← hw]; exact Below.refl _ _⟩
  · rw [if_neg h, if_neg h]
    obtain ⟨p, rfl⟩ : ∃ p : Nat, a = p := ⟨a.toNat, by omega⟩
    exact refRune_in s p (by omega) hs w
end Go.Proofs.Ythglejhhfnpdaaa
