/-
  PROVED: contracts of text.Before and of the document's own Before: both answer 'beforeV'; and that going on from a character's beginning its end has that one ahead ('before_of_rune'). Conditions: the text's length fits an int.
-/
import Derived.Test.YthglejhhfnpdaaaRefRune
namespace Go.Proofs.Ythglejhhfnpdaaa
open Go.ChangeShapes Go.WideShapes Go.ChangeAt Go.RowKit
set_option linter.unusedVariables false

/-- From the place that stands k ahead of 'a' on: the character of the first place that leads to 'a'. -/
def beforeFrom (s : ByteArray) (a : Int) : Nat → Int
  | 0 => 65533
  | k + 1 => if runeN s (a - (k + 1 : Nat)) = (k + 1 : Nat) then runeV s (a - (k + 1 : Nat)) else beforeFrom s a k
def beforeV (s : ByteArray) (a : Int) : Int := if a < 1 ∨ (s.size : Int) < a then -1 else beforeFrom s a 4

theorem beforeFrom_bd (s : ByteArray) (a : Int) : ∀ k, 0 ≤ beforeFrom s a k ∧ beforeFrom s a k ≤ 1114111
  | 0 => by unfold beforeFrom; omega
  | k + 1 => by
    unfold beforeFrom
    split
    · exact runeV_bd _ _
    · exact beforeFrom_bd s a k

theorem beforeFrom_hit (s : ByteArray) (a f : Int) (k : Nat) (hf : f = a - (k + 1 : Nat)) (h : f + runeN s f = a) : beforeFrom s a (k + 1) = runeV s f := by
  unfold beforeFrom
  rw [← hf, if_pos (by omega)]
theorem beforeFrom_miss (s : ByteArray) (a f : Int) (k : Nat) (hf : f = a - (k + 1 : Nat)) (h : ¬ f + runeN s f = a) : beforeFrom s a (k + 1) = beforeFrom s a k := by
  conv => lhs; unfold beforeFrom
  rw [← hf, if_neg (by omega)]
theorem runeN_neg (s : ByteArray) (a : Int) (h : a < 0) : runeN s a = 0 := by unfold runeN; rw [if_pos (Or.inl h)]
theorem beforeFrom_neg (s : ByteArray) (a : Int) (k : Nat) (h : a < (k + 1 : Nat)) : beforeFrom s a (k + 1) = beforeFrom s a k :=
  beforeFrom_miss s a _ k rfl (by rw [runeN_neg _ _ (by omega)]; omega)

theorem multi_bytes (m b0 b1 b2 b3 : Nat) : (2 ≤ (Lib.decodeN m b0 b1 b2 b3).2 → 192 ≤ b0 ∧ b1 / 64 = 2) ∧ (3 ≤ (Lib.decodeN m b0 b1 b2 b3).2 → b2 / 64 = 2) ∧ (4 ≤ (Lib.decodeN m b0 b1 b2 b3).2 → b3 / 64 = 2) := by
  unfold Lib.decodeN
  repeat' split
  all_goals simp only []
  all_goals omega

theorem lead_byte (s : ByteArray) (p : Nat) (h : 2 ≤ (Utf8.decode s p).2) : 192 ≤ (s.get! p).toNat := by
  rw [Lib.decode_at] at h
  exact ((multi_bytes _ _ _ _ _).1 h).1
theorem cont_byte (s : ByteArray) (p j : Nat) (h1 : 1 ≤ j) (h : j < (Utf8.decode s p).2) (hp : p < s.size) : (s.get! (p + j)).toNat / 64 = 2 := by
  have hb := (dec_bd s p hp).2.1
  rw [Lib.decode_at] at h hb
  have := multi_bytes (s.size - p) (s.get! p).toNat (s.get! (p + 1)).toNat (s.get! (p + 2)).toNat (s.get! (p + 3)).toNat
  obtain rfl | rfl | rfl : j = 1 ∨ j = 2 ∨ j = 3 := by omega
  · exact (this.1 h).2
  · exact this.2.1 h
  · exact this.2.2 h

theorem no_cover (s : ByteArray) (p q : Nat) (hp : p < s.size) (hq : q < p) (h : 2 ≤ (Utf8.decode s p).2) : q + (Utf8.decode s q).2 ≤ p := by
  refine Nat.le_of_not_lt fun hlt => ?_
  have h1 := lead_byte s p h
  have h2 := cont_byte s q (p - q) (by omega) (by omega) (by omega)
  rw [show q + (p - q) = p from by omega] at h2
  have := (s.get! p).toNat_lt
  omega

theorem before_of_rune (s : ByteArray) (a : Int) (h : 1 < runeN s a) : beforeV s (a + runeN s a) = runeV s a := by
  have hb := runeN_bd s a
  have ha : ¬ (a < 0 ∨ (s.size : Int) ≤ a) := fun hc => by unfold runeN at h; rw [if_pos hc] at h; omega
  obtain ⟨p, rfl⟩ : ∃ p : Nat, a = p := ⟨a.toNat, by omega⟩
  have hn : runeN s p = (Utf8.decode s p).2 := by unfold runeN; rw [if_neg ha]; simp
  have key : ∀ f : Int, f < p → ¬ f + runeN s f = p + runeN s p := by
    intro f hf he
    by_cases h0 : f < 0
    · rw [runeN_neg s f h0] at he; omega
    · obtain ⟨q, rfl⟩ : ∃ q : Nat, f = q := ⟨f.toNat, by omega⟩
      have hq : runeN s q = (Utf8.decode s q).2 := by unfold runeN; rw [if_neg (by omega)]; simp
      have := no_cover s p q (by omega) (by omega) (by omega)
      omega
  unfold beforeV
  rw [if_neg (by omega)]
  generalize hA : (p : Int) + runeN s p = A at *
  have hit : ∀ k : Nat, (p : Int) = A - (k + 1 : Nat) → beforeFrom s A (k + 1) = runeV s p := fun k hk => beforeFrom_hit s A p k hk hA
  have miss : ∀ k : Nat, A - (k + 1 : Nat) < p → beforeFrom s A (k + 1) = beforeFrom s A k := fun k hk => beforeFrom_miss s A _ k rfl (key _ hk)
  obtain h2 | h3 | h4 : runeN s p = 2 ∨ runeN s p = 3 ∨ runeN s p = 4 := by omega
  · rw [miss 3 (by omega), miss 2 (by omega), hit 1 (by omega)]
  · rw [miss 3 (by omega), hit 2 (by omega)]
  · rw [hit 3 (by omega)]

theorem ret_int {k : IntKind} {a b : Int} (h : a = b) : Ending.returned (.int k a) = .returned (.int k b) := by rw [h]

theorem before_out (s : ByteArray) (a : Int) (h : a < 1 ∨ (s.size : Int) < a) (hs : s.size ≤ maxLen) (w : World) :
    Calls Try.prog 19 #[.string s, .int .i64 a] w fun e w' => e = .returned (.int .i64 (-1)) ∧ w = w' := by
  unfold maxLen at hs
  by_cases h0 : a < 1
  · go_enter Try.func19, Try.ntmps19
    go_wp2
    go_ret
    exact ⟨rfl, rfl⟩
  · have h1 : (s.size : Int) < a := by omega
    go_enter Try.func19, Try.ntmps19
    go_wp2
    go_ret
    exact ⟨rfl, rfl⟩
theorem refBefore_out (s : ByteArray) (a : Int) (h : a < 1 ∨ (s.size : Int) < a) (hs : s.size ≤ maxLen) (w : World) :
    Calls Try.prog 14 #[.string s, .int .i64 a] w fun e w' => e = .returned (.int .i64 (-1)) ∧ w = w' := by
  unfold maxLen at hs
  by_cases h0 : a < 1
  · go_enter Try.func14, Try.ntmps14
    go_wp2
    go_ret
    exact ⟨rfl, rfl⟩
  · have h1 : (s.size : Int) < a := by omega
    go_enter Try.func14, Try.ntmps14
    go_wp2
    go_ret
    exact ⟨rfl, rfl⟩

/-- What the loop of text.Before goes by. -/
def BRel (s : ByteArray) (a : Int) (w : World) (v : Value) (wr : World) : Prop :=
  ∃ (k : Nat) (f : Int), f = a - k ∧ 0 ≤ f ∧ k ≤ 4 ∧ v = .int .i64 f ∧ beforeFrom s a k = beforeFrom s a 4 ∧ Below w.heap.size w wr

set_option maxHeartbeats 1000000 in
theorem before_in (s : ByteArray) (a : Int) (ha : 1 ≤ a) (ha' : a ≤ s.size) (hs : s.size ≤ maxLen) (w : World) :
    Calls Try.prog 19 #[.string s, .int .i64 a] w fun e w' => e = .returned (.int .i64 (beforeFrom s a 4)) ∧ Below w.heap.size w w' := by
  have hs' := hs
  unfold maxLen at hs
  have b1 : decide (a < 1) = false := by simp; omega
  have b2 : decide ((s.size : Int) < a) = false := by simp; omega
  have st : ∃ (k : Nat) (f : Int), f = a - k ∧ 0 ≤ f ∧ k ≤ 4 ∧ f = max (a - 4) 0 ∧ beforeFrom s a k = beforeFrom s a 4 := by
    by_cases h4 : 4 ≤ a
    · exact ⟨4, a - 4, rfl, by omega, by omega, by omega, rfl⟩
    · obtain rfl | rfl | rfl : a = 1 ∨ a = 2 ∨ a = 3 := by omega
      · exact ⟨1, 0, rfl, by omega, by omega, by omega, by rw [beforeFrom_neg s _ 3 (by omega), beforeFrom_neg s _ 2 (by omega), beforeFrom_neg s _ 1 (by omega)]⟩
      · exact ⟨2, 0, rfl, by omega, by omega, by omega, by rw [beforeFrom_neg s _ 3 (by omega), beforeFrom_neg s _ 2 (by omega)]⟩
      · exact ⟨3, 0, rfl, by omega, by omega, by omega, by rw [beforeFrom_neg s _ 3 (by omega)]⟩
  obtain ⟨k0, f0, hk0, hf0, hk04, hmx, hbf⟩ := st
  have HK0 := Lib.hid hk0
  have HMX := Lib.hid hmx
  have HBF := Lib.hid hbf
  clear hk0 hmx hbf
  go_enter Try.func19, Try.ntmps19
  go_wp2_with fail
  all_goals
    go_loopw [5] (fun v wr => BRel s a w v wr) (fun v _ => (a - intOf v).toNat)
    case atStart => exact ⟨k0, f0, HK0.out, hf0, hk04, by rw [HMX.out]; congr 1; omega, HBF.out, Below.refl _ _⟩
    case round =>
      obtain ⟨k, f, hk, hf, hk4, rfl, hb, hB⟩ := hrel
      have HB := Lib.hid hb
      clear hb
      by_cases h0 : k = 0
      · have h1 : a ≤ f := by omega
        go_wp2_with fail
        go_ret
        exact ⟨ret_int (by rw [← HB.out, h0]; rfl), hB⟩
      · obtain ⟨j, hj⟩ : ∃ j, k = j + 1 := ⟨k - 1, by omega⟩
        have h1 : f < a := by omega
        have hV := runeV_bd s f
        have hN := runeN_bd s f
        have HJ := Lib.hid hj
        have HF : Hid (f = a - (j + 1 : Nat)) := by rw [← hj]; exact hk
        clear hj hk
        by_cases hm : f + runeN s f = a
        · have HM := Lib.hid hm
          have bm : (f + runeN s f == a) = true := by simpa using hm
          clear hm
          go_wp2_with fail
          refine (rune_any s f hs' _).mono ?_
          rintro e w1 ⟨rfl, hb1⟩
          go_wp2_with fail
          go_ret
          exact ⟨ret_int (by rw [← HB.out, HJ.out, beforeFrom_hit s a f j HF.out HM.out]), hB.trans (hb1.mono hB.size)⟩
        · have HM := Lib.hid hm
          have bm : (f + runeN s f == a) = false := by simpa using hm
          clear hm
          go_wp2_with fail
          refine (rune_any s f hs' _).mono ?_
          rintro e w1 ⟨rfl, hb1⟩
          go_wp2_with fail
          go_roundw
          case rel => exact ⟨j, f + 1, by have := HF.out; omega, by omega, by have := HJ.out; omega, rfl, by rw [← HB.out, HJ.out, beforeFrom_miss s a f j HF.out HM.out], hB.trans (hb1.mono hB.size)⟩
          case measure => simp [intOf]; omega

/-- What the loop of the document's Before goes by. -/
def CRel (s : ByteArray) (a : Int) (w : World) (v : Value) (wr : World) : Prop :=
  ∃ k : Nat, k ≤ 4 ∧ v = .int .i64 k ∧ beforeFrom s a k = beforeFrom s a 4 ∧ Below w.heap.size w wr

set_option maxHeartbeats 1000000 in
theorem refBefore_in (s : ByteArray) (a : Int) (ha : 1 ≤ a) (ha' : a ≤ s.size) (hs : s.size ≤ maxLen) (w : World) :
    Calls Try.prog 14 #[.string s, .int .i64 a] w fun e w' => e = .returned (.int .i64 (beforeFrom s a 4)) ∧ Below w.heap.size w w' := by
  have hs' := hs
  unfold maxLen at hs
  have b1 : decide (a < 1) = false := by simp; omega
  have b2 : decide ((s.size : Int) < a) = false := by simp; omega
  go_enter Try.func14, Try.ntmps14
  go_wp2_with fail
  go_loopw [5] (fun v wr => CRel s a w v wr) (fun v _ => (intOf v).toNat)
  case atStart => exact ⟨4, by omega, rfl, rfl, Below.refl _ _⟩
  case round =>
    obtain ⟨k, hk4, rfl, hb, hB⟩ := hrel
    have HB := Lib.hid hb
    clear hb
    by_cases h0 : k = 0
    · subst h0
      go_wp2_with fail
      go_ret
      exact ⟨ret_int (by rw [← HB.out]; rfl), hB⟩
    · have h1 : 1 ≤ k := by omega
      have hV := runeV_bd s (a - k)
      have hN := runeN_bd s (a - k)
      have HJ : Hid (k = (k - 1) + 1) := show k = (k - 1) + 1 from by omega
      by_cases hm : a - k + runeN s (a - k) = a
      · have hka : (k : Int) ≤ a := by
          refine Int.not_lt.mp fun hc => ?_
          rw [runeN_neg s _ (by omega)] at hm; omega
        have HM := Lib.hid hm
        have bm : (runeN s (a - k) == (k : Int)) = true := by rw [beq_iff_eq]; omega
        clear hm h0
        go_wp2_with fail
        refine (refRune_any s (a - k) hs' _).mono ?_
        rintro e w1 ⟨rfl, hb1⟩
        go_wp2_with fail
        go_ret
        exact ⟨ret_int (by rw [← HB.out, HJ.out, beforeFrom_hit s a (a - k) (k - 1) (by omega) HM.out, ← HJ.out]), hB.trans (hb1.mono hB.size)⟩
      · have HM := Lib.hid hm
        have bm : (runeN s (a - k) == (k : Int)) = false := by rw [beq_eq_false_iff_ne]; omega
        have HX : Hid (beforeFrom s a (k - 1) = beforeFrom s a k) := show beforeFrom s a (k - 1) = beforeFrom s a k from by
          conv => rhs; rw [HJ.out]
          exact (beforeFrom_miss s a (a - k) (k - 1) (by omega) hm).symm
        clear hm h0
        by_cases hka : (k : Int) ≤ a
        all_goals
          go_wp2_with fail
          refine (refRune_any s (a - k) hs' _).mono ?_
          rintro e w1 ⟨rfl, hb1⟩
          go_wp2_with fail
          go_roundw
          case rel => exact ⟨k - 1, by omega, by congr 1; omega, HX.out.trans HB.out, hB.trans (hb1.mono hB.size)⟩
          case measure => simp [intOf]; omega

theorem before_any (s : ByteArray) (a : Int) (hs : s.size ≤ maxLen) (w : World) :
    Calls Try.prog 19 #[.string s, .int .i64 a] w fun e w' => e = .returned (.int .i64 (beforeV s a)) ∧ Below w.heap.size w w' := by
  unfold beforeV
  by_cases h : a < 1 ∨ (s.size : Int) < a
  · rw [if_pos h]
    exact (before_out s a h hs w).mono fun e w' ⟨he, hw⟩ => ⟨he, by rw [← hw]; exact Below.refl _ _⟩
  · rw [if_neg h]
    exact before_in s a (by omega) (by omega) hs w
theorem refBefore_any (s : ByteArray) (a : Int) (hs : s.size ≤ maxLen) (w : World) :
    Calls Try.prog 14 #[.string s, .int .i64 a] w fun e w' => e = .returned (.int .i64 (beforeV s a)) ∧ Below w.heap.size w w' := by
  unfold beforeV
  by_cases h : a < 1 ∨ (s.size : Int) < a
  · rw [if_pos h]
    exact (refBefore_out s a h hs w).mono fun e w' ⟨he, hw⟩ => ⟨he, by rw [← hw]; exact Below.refl _ _⟩
  · rw [if_neg h]
    exact refBefore_in s a (by omega) (by omega) hs w
theorem beforeV_bd (s : ByteArray) (a : Int) : -1 ≤ beforeV s a ∧ beforeV s a ≤ 1114111 := by
  unfold beforeV
  have := beforeFrom_bd s a 4
  split <;> omega
end Go.Proofs.Ythglejhhfnpdaaa
