/-
  PROVED: contracts of text.endSize, text.lineFrom and text.ended. Conditions: the text's length fits an int, and the line begins within the text.
-/
import Derived.Test.YtinbdangpehkaaaRune
import Derived.Test.YtinbdangpehkaaaLinePure
namespace Go.Proofs.Ytinbdangpehkaaa
open Go.ChangeShapes Go.WideShapes Go.ChangeAt Go.RowKit
set_option linter.unusedVariables false

theorem endSize_at (s : ByteArray) (p : Nat) (hp : p ≤ s.size) (hs : s.size ≤ maxLen) (w : World) :
    Calls Try.prog 35 #[.string (s.extract p s.size)] w fun e w' => e = .returned (.int .i64 (endLen s p)) ∧ w = w' := by
  unfold maxLen at hs
  have hz : (s.extract p s.size).size = s.size - p := by simp
  unfold endLen
  by_cases h0 : p < s.size
  · rw [if_pos h0]
    have he : (s.extract p s.size).toList.isEmpty = false := by rw [rest_empty]; simpa using h0
    by_cases h2 : p + 2 ≤ s.size
    · by_cases h3 : bt s p = 13 ∧ bt s (p + 1) = 10
      · have ht : (((s.extract p s.size).extract 0 2).toList == [13, 10]) = true := by rw [rest_two s p h2]; simpa using h3
        rw [if_pos (by omega)]
        clear h3
        go_enter Try.func35, Try.ntmps35
        go_wp2
        go_ret
        exact ⟨rfl, rfl⟩
      · have ht : (((s.extract p s.size).extract 0 2).toList == [13, 10]) = false := by rw [rest_two s p h2]; simpa using h3
        rw [if_neg (by omega)]
        clear h3
        go_enter Try.func35, Try.ntmps35
        go_wp2
        go_ret
        exact ⟨rfl, rfl⟩
    · rw [if_neg (by omega)]
      go_enter Try.func35, Try.ntmps35
      go_wp2
      go_ret
      exact ⟨rfl, rfl⟩
  · rw [if_neg h0]
    have he : (s.extract p s.size).toList.isEmpty = true := by rw [rest_empty]; simpa using h0
    go_enter Try.func35, Try.ntmps35
    go_wp2
    go_ret
    exact ⟨rfl, rfl⟩

theorem line_ret {s : ByteArray} {p q : Nat} (h : q = lineTo s p) : Ending.returned (.agg #[.int .i64 p, .int .i64 q, .int .i64 ((q : Int) + endLen s q)]) = .returned (.agg #[.int .i64 p, .int .i64 (lineTo s p), .int .i64 (lineEnd s p)]) := by
  subst h
  unfold lineEnd
  rw [Int.natCast_add]

set_option maxHeartbeats 400000 in
theorem lineFrom_at (s : ByteArray) (p : Nat) (hp : p ≤ s.size) (hs : s.size ≤ maxLen) (w : World) :
    Calls Try.prog 28 #[.string s, .int .i64 p] w fun e w' => e = .returned (.agg #[.int .i64 p, .int .i64 (lineTo s p), .int .i64 (lineEnd s p)]) ∧ Below w.heap.size w w' := by
  have hs' := hs
  unfold maxLen at hs
  have l1 := lineTo_le s p hp
  have l2 := endLen_bd s (lineTo s p) l1
  go_enter Try.func28, Try.ntmps28
  go_wp2_with fail
  go_loop [5] (fun v => ∃ q : Nat, p ≤ q ∧ q ≤ s.size ∧ v = .int .i64 q ∧ lineTo s q = lineTo s p) (fun v => s.size - (intOf v).toNat)
  case atStart => exact ⟨p, Nat.le_refl _, hp, rfl, rfl⟩
  case round =>
    obtain ⟨q, hq1, hq2, rfl, hl⟩ := hrel
    have HL := Lib.hid hl
    clear hl
    by_cases hgo : q < s.size ∧ bt s q ≠ 13 ∧ bt s q ≠ 10
    · obtain ⟨hlt, g1, g2⟩ := hgo
      have HN := Lib.hid (lineTo_go s q hlt (by omega))
      rw [bt_at s q hlt] at g1 g2
      have hn := (s[q]'hlt).toNat_lt
      have c1 : (((s[q]'hlt).toNat : Int) != 13) = true := by simp; omega
      have c2 : (((s[q]'hlt).toNat : Int) != 10) = true := by simp; omega
      clear g1 g2
      go_wp2_with fail
      go_round
      case rel => exact ⟨q + 1, by omega, by omega, by go_num, HN.out.symm.trans HL.out⟩
      case measure => simp [intOf]; omega
    · have hq : q = lineTo s p := by
        rw [← HL.out]
        by_cases hlt : q < s.size
        · exact (lineTo_stop s q (by omega)).symm
        · exact (lineTo_out s q (by omega)).symm
      clear HL
      have HQ := Lib.hid hq
      rw [← hq] at l1 l2
      obtain ⟨l3, l4, -⟩ := l2
      clear hq
      by_cases hlt : q < s.size
      · rw [bt_at s q hlt] at hgo
        have hn := (s[q]'hlt).toNat_lt
        by_cases h13 : (s[q]'hlt).toNat = 13
        · have c1 : (((s[q]'hlt).toNat : Int) != 13) = false := by simp; omega
          clear h13 hgo
          go_wp2_with fail
          refine (endSize_at s q l1 hs' _).mono ?_
          rintro e w1 ⟨rfl, rfl⟩
          go_wp2_with fail
          exact bodyPost_ret (v := .agg #[.int .i64 p, .int .i64 q, .int .i64 ((q : Int) + endLen s q)]) (by simp [results, Try.results28, go_sem]) rfl ⟨line_ret HQ.out, (Below.refl _ _).alloc (Nat.le_refl _) _⟩
        · have c1 : (((s[q]'hlt).toNat : Int) != 13) = true := by simp; omega
          have c2 : (((s[q]'hlt).toNat : Int) != 10) = false := by simp; omega
          clear h13 hgo
          go_wp2_with fail
          refine (endSize_at s q l1 hs' _).mono ?_
          rintro e w1 ⟨rfl, rfl⟩
          go_wp2_with fail
          exact bodyPost_ret (v := .agg #[.int .i64 p, .int .i64 q, .int .i64 ((q : Int) + endLen s q)]) (by simp [results, Try.results28, go_sem]) rfl ⟨line_ret HQ.out, (Below.refl _ _).alloc (Nat.le_refl _) _⟩
      · clear hgo
        go_wp2_with fail
        refine (endSize_at s q l1 hs' _).mono ?_
        rintro e w1 ⟨rfl, rfl⟩
        go_wp2_with fail
        exact bodyPost_ret (v := .agg #[.int .i64 p, .int .i64 q, .int .i64 ((q : Int) + endLen s q)]) (by simp [results, Try.results28, go_sem]) rfl ⟨line_ret HQ.out, (Below.refl _ _).alloc (Nat.le_refl _) _⟩

theorem ended_at (a b c : Int) (w : World) :
    Calls Try.prog 29 #[.agg #[.int .i64 a, .int .i64 b, .int .i64 c]] w fun e w' => e = .returned (.bool (decide (b < c))) ∧ Below w.heap.size w w' := by
  go_enter Try.func29, Try.ntmps29
  go_wp2
  go_ret
  exact ⟨rfl, (Below.refl _ _).alloc (Nat.le_refl _) _⟩
end Go.Proofs.Ytinbdangpehkaaa
