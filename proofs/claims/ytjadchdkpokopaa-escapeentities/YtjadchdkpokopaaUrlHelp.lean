/-
  PROVED: contracts of escape.staysInUrl, escape.escaped and escape.Url: the clean text as a URL ('urlL'). Conditions: the text has at most 2000000 bytes.
-/
import Derived.Test.YtjadchdkpokopaaHtml
namespace Go.Proofs.Ytjadchdkpokopaa
open Go.ChangeShapes Go.WideShapes Go.ChangeAt Go.RowKit Go.Sort
set_option linter.unusedVariables false

theorem idx_has (c : UInt8) : ∀ l : List UInt8, decide (0 ≤ Lib.indexByte l c) = l.contains c
  | [] => rfl
  | b :: l => by
    have ih := idx_has c l
    have hg := Lib.indexByte_ge l c
    unfold Lib.indexByte
    by_cases h : b = c
    · subst h; simp
    · have h' : (b == c) = false := by simpa using h
      have h'' : (c == b) = false := by simp; exact fun e => h e.symm
      rw [h', List.contains_cons, h'', Bool.false_or, ← ih]
      simp only [Bool.false_eq_true, ↓reduceIte]
      by_cases h1 : Lib.indexByte l c = -1
      · rw [h1]; rfl
      · have h1' : (Lib.indexByte l c == -1) = false := by simpa using h1
        rw [h1']
        simp only [Bool.false_eq_true, ↓reduceIte]
        rw [decide_eq_decide]
        omega
theorem stays_yes (c : UInt8) (h : (97 ≤ c.toNat ∧ c.toNat ≤ 122) ∨ (65 ≤ c.toNat ∧ c.toNat ≤ 90) ∨ (48 ≤ c.toNat ∧ c.toNat ≤ 57)) : stays c = true := by
  unfold stays ltr dgt
  rcases h with h | h | h
  · rw [decide_eq_true (Or.inr h)]; rfl
  · rw [decide_eq_true (Or.inl h)]; rfl
  · rw [decide_eq_true h]; simp
theorem stays_no (c : UInt8) (h : ¬ ((97 ≤ c.toNat ∧ c.toNat ≤ 122) ∨ (65 ≤ c.toNat ∧ c.toNat ≤ 90) ∨ (48 ≤ c.toNat ∧ c.toNat ≤ 57))) : stays c = urlM.contains c := by
  unfold stays ltr dgt
  rw [decide_eq_false (by omega), decide_eq_false (by omega)]
  simp
set_option maxHeartbeats 2000000 in
theorem stays_any (c : UInt8) (w : World) : Calls Try.prog 35 #[.int .u8 c.toNat] w fun e w' => e = .returned (.bool (stays c)) ∧ w = w' := by
  have hc := c.toNat_lt
  by_cases h : (97 ≤ c.toNat ∧ c.toNat ≤ 122) ∨ (65 ≤ c.toNat ∧ c.toNat ≤ 90) ∨ (48 ≤ c.toNat ∧ c.toNat ≤ 57)
  · rw [stays_yes c h]
    generalize c.toNat = n at *
    rcases h with ⟨h1, h2⟩ | ⟨h1, h2⟩ | ⟨h1, h2⟩
    · go_enter Try.func35, Try.ntmps35
      go_wp2_with fail
      go_ret
      exact ⟨rfl, rfl⟩
    · go_enter Try.func35, Try.ntmps35
      go_wp2_with fail
      go_ret
      exact ⟨rfl, rfl⟩
    · go_enter Try.func35, Try.ntmps35
      go_wp2_with fail
      go_ret
      exact ⟨rfl, rfl⟩
  · have H : Hid (∀ W, Calls Try.prog 20 #[.string { data := #[45, 95, 46, 33, 126, 42, 39, 40, 41, 59, 47, 63, 58, 64, 38, 61, 43, 36, 44, 35] }, .int .u8 c.toNat] W fun e w' => (∃ i : Int, e = .returned (.int .i64 i) ∧ decide (0 ≤ i) = stays c) ∧ w' = W) := fun W => by
      refine (Try.indexByte _ _ W).mono fun e w' ⟨h1, h2⟩ => ⟨⟨_, h1, ?_⟩, h2⟩
      rw [u8_back, idx_has, stays_no c h]
      rfl
    generalize stays c = v at *
    generalize c.toNat = n at *
    have hr : n < 48 ∨ (58 ≤ n ∧ n ≤ 64) ∨ (91 ≤ n ∧ n ≤ 96) ∨ 123 ≤ n := by omega
    clear h
    rcases hr with hr | ⟨hr, hr2⟩ | ⟨hr, hr2⟩ | hr
    · go_enter Try.func35, Try.ntmps35
      go_wp2_with fail
      refine (H.out _).mono ?_
      rintro e w1 ⟨⟨i, rfl, hi⟩, rfl⟩
      have HI := Lib.hid hi
      clear hi H
      go_wp2_with fail
      go_ret
      exact ⟨ret_bool HI.out, rfl⟩
    · go_enter Try.func35, Try.ntmps35
      go_wp2_with fail
      refine (H.out _).mono ?_
      rintro e w1 ⟨⟨i, rfl, hi⟩, rfl⟩
      have HI := Lib.hid hi
      clear hi H
      go_wp2_with fail
      go_ret
      exact ⟨ret_bool HI.out, rfl⟩
    · go_enter Try.func35, Try.ntmps35
      go_wp2_with fail
      refine (H.out _).mono ?_
      rintro e w1 ⟨⟨i, rfl, hi⟩, rfl⟩
      have HI := Lib.hid hi
      clear hi H
      go_wp2_with fail
      go_ret
      exact ⟨ret_bool HI.out, rfl⟩
    · go_enter Try.func35, Try.ntmps35
      go_wp2_with fail
      refine (H.out _).mono ?_
      rintro e w1 ⟨⟨i, rfl, hi⟩, rfl⟩
      have HI := Lib.hid hi
      clear hi H
      go_wp2_with fail
      go_ret
      exact ⟨ret_bool HI.out, rfl⟩
/-! ### two hexadecimal digits behind -/
theorem esc_cons (a b : UInt8) (l : List UInt8) : esc (a :: b :: l) = (decide (hexV a < 16) && decide (hexV b < 16)) := rfl
theorem esc_size (s : ByteArray) (h : ¬ 2 ≤ s.size) : esc (lst s) = false := by
  have hl := lst_size s
  cases hs : lst s with
  | nil => rfl
  | cons a l =>
    cases l with
    | nil => rfl
    | cons b l => rw [hs] at hl; simp at hl; omega
theorem lst_two (s : ByteArray) (h : 2 ≤ s.size) : lst s = (s[0]'(by omega)) :: (s[1]'(by omega)) :: (lst s).drop 2 := by
  have h0 := lst_at s 0 (by omega)
  rw [List.drop_zero] at h0
  rw [h0, lst_at s 1 (by omega)]
  simp
set_option maxHeartbeats 2000000 in
theorem escaped_any (s : ByteArray) (hs : s.size ≤ 8000000) (w : World) : Calls Try.prog 36 #[.string s] w fun e w' => e = .returned (.bool (esc (lst s))) ∧ w = w' := by
  by_cases h2 : 2 ≤ s.size
  · have h0' : 0 < s.size := by omega
    have h1' : 1 < s.size := by omega
    have HV : Hid (esc (lst s) = (decide (hexV (s[0]'h0') < 16) && decide (hexV (s[1]'h1') < 16))) := show esc (lst s) = _ from by rw [lst_two s h2]; rfl
    have H0 := Lib.hid (fun W => digit_any (s[0]'h0') W)
    have H1 := Lib.hid (fun W => digit_any (s[1]'h1') W)
    have g0 := hexV_le (s[0]'h0')
    have g1 := hexV_le (s[1]'h1')
    generalize esc (lst s) = v at *
    generalize hexV (s[0]'h0') = x at *
    generalize hexV (s[1]'h1') = y at *
    by_cases hx : x < 16
    · have hv : Hid (v = decide ((y : Int) < 16)) := show v = _ from by rw [HV.out, decide_eq_true hx, Bool.true_and]; by_cases hy : y < 16 <;> simp [hy] <;> omega
      clear HV
      go_enter Try.func36, Try.ntmps36
      go_wp2_with fail
      refine (H0.out _).mono ?_
      rintro e w1 ⟨rfl, rfl⟩
      clear H0
      go_wp2_with fail
      refine (H1.out _).mono ?_
      rintro e w1 ⟨rfl, rfl⟩
      clear H1
      go_wp2_with fail
      go_ret
      exact ⟨ret_bool (by rw [hv.out]), rfl⟩
    · have hv : Hid (v = false) := show v = false from by rw [HV.out, decide_eq_false hx]; rfl
      clear HV
      go_enter Try.func36, Try.ntmps36
      go_wp2_with fail
      refine (H0.out _).mono ?_
      rintro e w1 ⟨rfl, rfl⟩
      clear H0
      go_wp2_with fail
      go_ret
      exact ⟨ret_bool (by rw [hv.out]), rfl⟩
  · rw [esc_size s h2]
    go_enter Try.func36, Try.ntmps36
    go_wp2_with fail
    go_ret
    exact ⟨rfl, rfl⟩
end Go.Proofs.Ytjadchdkpokopaa
