/-
  PROVED: contracts of mark.withoutLastMarks and mark.Head: 'contL' and 'headL'. Conditions: the text has at most 1000000 bytes.
-/
import Derived.Test.YtinmefdcgiiejaaDoorSmall
namespace Go.Proofs.YtinmefdcgiiejaaDoor
open Go.ChangeShapes Go.WideShapes Go.ChangeAt Go.RowKit
set_option linter.unusedVariables false

theorem ret3_int {a b c d e f : Int} (h : a = d) (k : b = e) (l : c = f) : Ending.returned (.tuple #[.int .i64 a, .int .i64 b, .int .i64 c]) = .returned (.tuple #[.int .i64 d, .int .i64 e, .int .i64 f]) := by rw [h, k, l]
theorem last_at (s : ByteArray) (h : s.size - 1 < s.size) : (lst s).getLast? = some (s[s.size - 1]'h) := by
  rw [List.getLast?_eq_getElem?, lst_size]
  exact Lib.data_getElem? s _ h
theorem firm_at (s : ByteArray) (h : s.size - 1 < s.size) : firm (lst s) = !isB (s[s.size - 1]'h) := by
  unfold firm
  rw [last_at s h]
theorem made (l : List UInt8) : ∃ t : ByteArray, t = ⟨l.toArray⟩ ∧ lst t = l := ⟨_, rfl, lst_mk l⟩

set_option maxHeartbeats 1000000 in
theorem wlm_any (s : ByteArray) (hs : s.size ≤ 1000000) (w : World) : Calls Tryd.prog 33 #[.string s] w fun e w' => e = .returned (.string ⟨(contL (lst s)).toArray⟩) ∧ Below w.heap.size w w' := by
  have H1 := Lib.hid (righth_any s hs)
  have hle := trimR_le (· == 35) (lst s)
  unfold contL
  generalize trimR (· == 35) (lst s) = L1 at *
  obtain ⟨k, hk, hkl⟩ := made L1
  rw [← hk] at H1
  have hkz : k.size ≤ s.size := by rw [← lst_size, ← lst_size, hkl]; exact hle
  have H2 := Lib.hid (right_any k (by omega))
  rw [hkl] at H2
  by_cases h0 : 0 < k.size
  · have hem := emp_no k h0
    have h1 : k.size - 1 < k.size := by omega
    have hf := firm_at k h1
    rw [hkl] at hf
    have H3 := Lib.hid (blank_any (k[k.size - 1]'h1))
    have hwr : ((k.size : Int) - 1 + 9223372036854775808) % 18446744073709551616 - 9223372036854775808 = ((k.size - 1 : Nat) : Int) := by omega
    cases hb : isB (k[k.size - 1]'h1) with
    | true =>
      rw [hb] at H3 hf
      have hf' : ¬ (firm L1 = true) := by rw [hf]; decide
      rw [if_neg hf']
      clear hf hf' hb hk hkl hle
      go_enter Tryd.func33, Tryd.ntmps33
      go_wp2_with fail
      refine (H1.out _).mono ?_
      rintro e w1 ⟨rfl, hb1⟩
      have B1 := Lib.hid hb1
      clear hb1
      go_wp2_with fail
      refine (H3.out _).mono ?_
      rintro e w2 ⟨rfl, rfl⟩
      go_wp2_with fail
      refine (H2.out _).mono ?_
      rintro e w3 ⟨rfl, hb3⟩
      have B3 := Lib.hid hb3
      clear hb3
      go_wp2_with fail
      go_ret
      exact ⟨rfl, chain (Nat.le_refl _) B1.out B3.out⟩
    | false =>
      rw [hb] at H3 hf
      rw [if_pos (by rw [hf]; rfl), Lib.mk_data]
      clear hf hb hk hkl hle
      go_enter Tryd.func33, Tryd.ntmps33
      go_wp2_with fail
      refine (H1.out _).mono ?_
      rintro e w1 ⟨rfl, hb1⟩
      have B1 := Lib.hid hb1
      clear hb1
      go_wp2_with fail
      refine (H3.out _).mono ?_
      rintro e w2 ⟨rfl, rfl⟩
      go_wp2_with fail
      go_ret
      exact ⟨rfl, B1.out⟩
  · have hem := emp_yes k (by omega)
    have hf' : ¬ (firm L1 = true) := by rw [← hkl, lst_nil k (by omega)]; decide
    rw [if_neg hf']
    clear hf' hk hkl hle
    go_enter Tryd.func33, Tryd.ntmps33
    go_wp2_with fail
    refine (H1.out _).mono ?_
    rintro e w1 ⟨rfl, hb1⟩
    have B1 := Lib.hid hb1
    clear hb1
    go_wp2_with fail
    refine (H2.out _).mono ?_
    rintro e w3 ⟨rfl, hb3⟩
    have B3 := Lib.hid hb3
    clear hb3
    go_wp2_with fail
    go_ret
    exact ⟨rfl, chain (Nat.le_refl _) B1.out B3.out⟩

theorem contL_le (l : List UInt8) : (contL l).length ≤ l.length := by
  unfold contL
  split
  · exact Nat.le_refl _
  · exact Nat.le_trans (trimR_le _ _) (trimR_le _ _)
/-- The three numbers of a heading. -/
def headV (l : List UInt8) : Value := .tuple #[.int .i64 (headL l).1, .int .i64 (headL l).2.1, .int .i64 (headL l).2.2]
theorem headV_no (l : List UInt8) (h : ¬ isHead l) : headV l = .tuple #[.int .i64 0, .int .i64 0, .int .i64 0] := by
  unfold headV headL
  rw [if_neg h]
  rfl

set_option maxHeartbeats 1000000 in
theorem head_any (s : ByteArray) (hs : s.size ≤ 1000000) (w : World) : Calls Tryd.prog 16 #[.string s] w fun e w' => e = .returned (headV (lst s)) ∧ Below w.heap.size w w' := by
  have H1 : Hid (∀ W, Calls Tryd.prog 30 #[.string s, .int .u8 35] W fun e w' => e = .returned (.int .i64 (cnt (lst s) 35)) ∧ w' = W) := fun W => row_any s 35 hs W
  have hn : cnt (lst s) 35 ≤ s.size := by rw [← lst_size]; exact cnt_le _ _
  have HN : Hid (¬ isHead (lst s) → headV (lst s) = .tuple #[.int .i64 0, .int .i64 0, .int .i64 0]) := headV_no _
  by_cases h1 : cnt (lst s) 35 < 1
  · have HV := Lib.hid (HN.out (fun h => by have := h.1; omega))
    generalize cnt (lst s) 35 = n at *
    generalize headV (lst s) = v at *
    clear HN
    go_enter Tryd.func16, Tryd.ntmps16
    go_wp2_with fail
    refine (H1.out _).mono ?_
    rintro e w1 ⟨rfl, rfl⟩
    go_wp2_with fail
    go_ret3
    exact ⟨(congrArg Ending.returned HV.out).symm, Below.refl _ _⟩
  by_cases h2 : 6 < cnt (lst s) 35
  · have HV := Lib.hid (HN.out (fun h => by have := h.2.1; omega))
    generalize cnt (lst s) 35 = n at *
    generalize headV (lst s) = v at *
    clear HN
    go_enter Tryd.func16, Tryd.ntmps16
    go_wp2_with fail
    refine (H1.out _).mono ?_
    rintro e w1 ⟨rfl, rfl⟩
    go_wp2_with fail
    go_ret3
    exact ⟨(congrArg Ending.returned HV.out).symm, Below.refl _ _⟩
  have H2 : Hid (∀ W, Calls Tryd.prog 31 #[.string (s.extract (cnt (lst s) 35) s.size)] W fun e w' => e = .returned (.bool (endsL ((lst s).drop (cnt (lst s) 35)))) ∧ w' = W) := fun W => by
    have h := ends_any (s.extract (cnt (lst s) 35) s.size) W
    rw [lst_from] at h
    exact h
  cases he : endsL ((lst s).drop (cnt (lst s) 35)) with
  | false =>
    have HV := Lib.hid (HN.out (fun h => by rw [h.2.2] at he; cases he))
    rw [he] at H2
    clear he HN
    generalize cnt (lst s) 35 = n at *
    generalize headV (lst s) = v at *
    go_enter Tryd.func16, Tryd.ntmps16
    go_wp2_with fail
    refine (H1.out _).mono ?_
    rintro e w1 ⟨rfl, rfl⟩
    go_wp2_with fail
    refine (H2.out _).mono ?_
    rintro e w1 ⟨rfl, rfl⟩
    go_wp2_with fail
    go_ret3
    exact ⟨(congrArg Ending.returned HV.out).symm, Below.refl _ _⟩
  | true =>
    have HV : Hid (headV (lst s) = .tuple #[.int .i64 (cnt (lst s) 35), .int .i64 (((lst s).length - (behL (lst s)).length : Nat) : Int), .int .i64 (((lst s).length - (behL (lst s)).length + (contL (trimR isB (behL (lst s)))).length : Nat) : Int)]) := show _ = _ from by
      unfold headV headL
      rw [if_pos ⟨by omega, by omega, he⟩]
    rw [he] at H2
    have H3 : Hid (∀ W, Calls Tryd.prog 32 #[.string (s.extract (cnt (lst s) 35) s.size), .string { data := #[32, 9] }] W fun e w' => e = .returned (.string ⟨(behL (lst s)).toArray⟩) ∧ Below W.heap.size W w') := fun W => by
      have h := left_any (s.extract (cnt (lst s) 35) s.size) W
      rw [lst_from] at h
      exact h
    have hbl : (behL (lst s)).length ≤ s.size := by
      have := (List.dropWhile_suffix isB (l := (lst s).drop (cnt (lst s) 35))).length_le
      rw [List.length_drop, lst_size] at this
      unfold behL
      omega
    rw [lst_size] at HV
    clear he HN
    generalize behL (lst s) = L1 at *
    generalize cnt (lst s) 35 = n at *
    generalize headV (lst s) = v at *
    obtain ⟨b, hb, hbL⟩ := made L1
    rw [← hb] at H3
    clear hb
    have hbz : b.size ≤ s.size := by rw [← lst_size b, hbL]; exact hbl
    have H4 := Lib.hid (right_any b (by omega))
    rw [hbL] at H4
    have hcl := trimR_le isB L1
    rw [← hbL, lst_size] at HV
    rw [hbL] at HV
    generalize trimR isB L1 = L2 at *
    obtain ⟨c, hc, hcL⟩ := made L2
    rw [← hc] at H4
    clear hc
    have hcz : c.size ≤ s.size := by rw [← lst_size c, hcL]; omega
    have H5 := Lib.hid (wlm_any c (by omega))
    rw [hcL] at H5
    have hdl := contL_le L2
    generalize contL L2 = L3 at *
    obtain ⟨d, hd, hdL⟩ := made L3
    rw [← hd] at H5
    clear hd
    have hdz : d.size ≤ s.size := by rw [← lst_size d, hdL]; omega
    rw [← hdL, lst_size] at HV
    clear hdl hdL hcl hcL hbl hbL
    go_enter Tryd.func16, Tryd.ntmps16
    go_wp2_with fail
    refine (H1.out _).mono ?_
    rintro e w1 ⟨rfl, rfl⟩
    go_wp2_with fail
    refine (H2.out _).mono ?_
    rintro e w1 ⟨rfl, rfl⟩
    go_wp2_with fail
    refine (H3.out _).mono ?_
    rintro e w2 ⟨rfl, hb2⟩
    have B2 := Lib.hid hb2
    clear hb2
    go_wp2_with fail
    refine (H4.out _).mono ?_
    rintro e w3 ⟨rfl, hb3⟩
    have B3 := Lib.hid hb3
    clear hb3
    go_wp2_with fail
    refine (H5.out _).mono ?_
    rintro e w4 ⟨rfl, hb4⟩
    have B4 := Lib.hid hb4
    clear hb4
    go_wp2_with fail
    go_ret3
    refine ⟨?_, chain (Nat.le_refl _) (chain (Nat.le_refl _) B2.out B3.out) B4.out⟩
    rw [HV.out]
    exact ret3_int rfl (by omega) (by omega)
end Go.Proofs.YtinmefdcgiiejaaDoor
