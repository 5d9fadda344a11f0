/-
  PROVED: stetlaw08.LinkWithin returns true, a way at a time: by which of the calls within it tell a part. Conditions: the text has at most 20000 bytes; what each call tells is within the text.
-/
import Derived.Test.YtfoheffbapifpaaDoorAlive
import Derived.Deep.RegionHeld3
namespace Go.Proofs.YtfoheffbapifpaaDoor
open Go.ChangeShapes Go.WideShapes Go.ChangeAt Go.RowKit Go.Sort
set_option linter.unusedVariables false

theorem below_drewN {B : Nat} {a w : World} (h : Below B a w) (q : Nat) : Below B a (w.drewN q) := ⟨h.os, h.tape, h.output, h.size, h.block⟩
set_option maxHeartbeats 16000000 in
set_option maxRecDepth 100000 in
theorem wi_0000 (s : ByteArray) (a1 : Int) (hs : s.size ≤ 20000) (X : ByteArray) (D : ByteArray) (T : ByteArray) (L Y Z : ByteArray) (a b : Int) 
    (H8 : Hid (∀ W, Calls Tryd.prog 8 #[.string s, .int .i64 a1] W fun r w' => r = .returned (.tuple #[.string X, .int .i64 0]) ∧ Below W.heap.size W w'))
    (H10 : Hid (∀ W, Calls Tryd.prog 10 #[.string s, .int .i64 a1] W fun r w' => r = .returned (.tuple #[.string D, .int .i64 0]) ∧ Below W.heap.size W w'))
    (H12 : Hid (∀ W, Calls Tryd.prog 12 #[.string s, .int .i64 a1] W fun r w' => r = .returned (.tuple #[.string T, .int .i64 0]) ∧ Below W.heap.size W w'))
    (H14 : Hid (∀ W, Calls Tryd.prog 14 #[.string s, .int .i64 a1] W fun r w' => r = .returned (.tuple #[.agg #[.string L, .string Y, .string Z, .int .i64 a, .int .i64 b], .int .i64 0]) ∧ Below W.heap.size W w'))
    (w : World) : Calls Tryd.prog 5 #[.string s, .int .i64 a1] w fun e w' => e = .returned (.bool true) ∧ Below w.heap.size w w' := by
  go_enter Tryd.func5, Tryd.ntmps5
  go_wp2_with fail
  refine (alive_any _).mono ?_
  rintro e' x0 ⟨rfl, hb⟩
  have B0 := Lib.hid hb
  clear hb
  go_wp2_with fail
  refine (H8.out _).mono ?_
  rintro e' x1 ⟨rfl, hb⟩
  have B1 := Lib.hid hb
  clear hb
  go_wp2_with fail
  refine (H10.out _).mono ?_
  rintro e' x2 ⟨rfl, hb⟩
  have B2 := Lib.hid hb
  clear hb
  go_wp2_with fail
  refine (H12.out _).mono ?_
  rintro e' x3 ⟨rfl, hb⟩
  have B3 := Lib.hid hb
  clear hb
  go_wp2_with fail
  refine (H14.out _).mono ?_
  rintro e' x5 ⟨rfl, hb⟩
  have B5 := Lib.hid hb
  clear hb
  go_wp2_with fail
  have HB : Hid (Below w.heap.size w x5) := chain (Nat.le_refl _) (chain (Nat.le_refl _) (chain (Nat.le_refl _) (chain (Nat.le_refl _) (B0.out) B1.out) B2.out) B3.out) B5.out
  have hz5 := HB.out.size
  have HB6 : Hid (Below w.heap.size w (x5.alloc (.cells #[.string L, .string Y, .string Z, .int .i64 a, .int .i64 b] 27))) := HB.out.alloc hz5 _
  clear B0 B1 B2 B3 B5 HB
  generalize x5.alloc (.cells #[.string L, .string Y, .string Z, .int .i64 a, .int .i64 b] 27) = w6 at *
  go_quiet (fail)
  go_wp2_with fail
  go_ret
  exact ⟨rfl, below_drewN HB6.out _⟩

set_option maxHeartbeats 16000000 in
set_option maxRecDepth 100000 in
theorem wi_0100 (s : ByteArray) (p : Nat) (hs : s.size ≤ 20000) (hp : p < s.size) (X : ByteArray) (D : ByteArray) (k : Nat) (hk : 0 < k) (hpk : p + k ≤ s.size) (T : ByteArray) (L Y Z : ByteArray) (a b : Int) 
    (H8 : Hid (∀ W, Calls Tryd.prog 8 #[.string s, .int .i64 p] W fun r w' => r = .returned (.tuple #[.string X, .int .i64 0]) ∧ Below W.heap.size W w'))
    (H10 : Hid (∀ W, Calls Tryd.prog 10 #[.string s, .int .i64 p] W fun r w' => r = .returned (.tuple #[.string D, .int .i64 k]) ∧ Below W.heap.size W w'))
    (H12 : Hid (∀ W, Calls Tryd.prog 12 #[.string s, .int .i64 p] W fun r w' => r = .returned (.tuple #[.string T, .int .i64 0]) ∧ Below W.heap.size W w'))
    (H14 : Hid (∀ W, Calls Tryd.prog 14 #[.string s, .int .i64 p] W fun r w' => r = .returned (.tuple #[.agg #[.string L, .string Y, .string Z, .int .i64 a, .int .i64 b], .int .i64 0]) ∧ Below W.heap.size W w'))
    (w : World) : Calls Tryd.prog 5 #[.string s, .int .i64 p] w fun e w' => e = .returned (.bool true) ∧ Below w.heap.size w w' := by
  have dp : decide ((p : Int) < 0) = false := by simp
  have dk : decide ((s.size : Int) - p < k) = false := decide_eq_false (by omega)
  go_enter Tryd.func5, Tryd.ntmps5
  go_wp2_with fail
  refine (alive_any _).mono ?_
  rintro e' x0 ⟨rfl, hb⟩
  have B0 := Lib.hid hb
  clear hb
  go_wp2_with fail
  refine (H8.out _).mono ?_
  rintro e' x1 ⟨rfl, hb⟩
  have B1 := Lib.hid hb
  clear hb
  go_wp2_with fail
  refine (H10.out _).mono ?_
  rintro e' x2 ⟨rfl, hb⟩
  have B2 := Lib.hid hb
  clear hb
  go_wp2_with fail
  refine (H12.out _).mono ?_
  rintro e' x3 ⟨rfl, hb⟩
  have B3 := Lib.hid hb
  clear hb
  go_wp2_with fail
  refine (H14.out _).mono ?_
  rintro e' x5 ⟨rfl, hb⟩
  have B5 := Lib.hid hb
  clear hb
  go_wp2_with fail
  have HB : Hid (Below w.heap.size w x5) := chain (Nat.le_refl _) (chain (Nat.le_refl _) (chain (Nat.le_refl _) (chain (Nat.le_refl _) (B0.out) B1.out) B2.out) B3.out) B5.out
  have hz5 := HB.out.size
  have HB6 : Hid (Below w.heap.size w (x5.alloc (.cells #[.string L, .string Y, .string Z, .int .i64 a, .int .i64 b] 27))) := HB.out.alloc hz5 _
  clear B0 B1 B2 B3 B5 HB
  generalize x5.alloc (.cells #[.string L, .string Y, .string Z, .int .i64 a, .int .i64 b] 27) = w6 at *
  go_quiet (fail)
  go_wp2_with fail
  go_ret
  exact ⟨rfl, below_drewN HB6.out _⟩

set_option maxHeartbeats 16000000 in
set_option maxRecDepth 100000 in
theorem wi_0010 (s : ByteArray) (p : Nat) (hs : s.size ≤ 20000) (hp : p < s.size) (X : ByteArray) (D : ByteArray) (T : ByteArray) (j : Nat) (hj2 : 2 ≤ j) (hpj : p + j ≤ s.size) (L Y Z : ByteArray) (a b : Int) 
    (H8 : Hid (∀ W, Calls Tryd.prog 8 #[.string s, .int .i64 p] W fun r w' => r = .returned (.tuple #[.string X, .int .i64 0]) ∧ Below W.heap.size W w'))
    (H10 : Hid (∀ W, Calls Tryd.prog 10 #[.string s, .int .i64 p] W fun r w' => r = .returned (.tuple #[.string D, .int .i64 0]) ∧ Below W.heap.size W w'))
    (H12 : Hid (∀ W, Calls Tryd.prog 12 #[.string s, .int .i64 p] W fun r w' => r = .returned (.tuple #[.string T, .int .i64 j]) ∧ Below W.heap.size W w'))
    (H16 : Hid (∀ W, Calls Tryd.prog 16 #[.string (s.extract (p + 1) (p + j - 1))] W fun r w' => r = .returned (.string T) ∧ Below W.heap.size W w'))
    (H14 : Hid (∀ W, Calls Tryd.prog 14 #[.string s, .int .i64 p] W fun r w' => r = .returned (.tuple #[.agg #[.string L, .string Y, .string Z, .int .i64 a, .int .i64 b], .int .i64 0]) ∧ Below W.heap.size W w'))
    (w : World) : Calls Tryd.prog 5 #[.string s, .int .i64 p] w fun e w' => e = .returned (.bool true) ∧ Below w.heap.size w w' := by
  have dp : decide ((p : Int) < 0) = false := by simp
  have dj1 : decide ((j : Int) < 2) = false := decide_eq_false (by omega)
  have dj2 : decide ((s.size : Int) - p < j) = false := decide_eq_false (by omega)
  have cT : (T.toList != T.toList) = false := by simp
  go_enter Tryd.func5, Tryd.ntmps5
  go_wp2_with fail
  refine (alive_any _).mono ?_
  rintro e' x0 ⟨rfl, hb⟩
  have B0 := Lib.hid hb
  clear hb
  go_wp2_with fail
  refine (H8.out _).mono ?_
  rintro e' x1 ⟨rfl, hb⟩
  have B1 := Lib.hid hb
  clear hb
  go_wp2_with fail
  refine (H10.out _).mono ?_
  rintro e' x2 ⟨rfl, hb⟩
  have B2 := Lib.hid hb
  clear hb
  go_wp2_with fail
  refine (H12.out _).mono ?_
  rintro e' x3 ⟨rfl, hb⟩
  have B3 := Lib.hid hb
  clear hb
  go_wp2_with fail
  refine (H16.out _).mono ?_
  rintro e' x4 ⟨rfl, hb⟩
  have B4 := Lib.hid hb
  clear hb
  go_wp2_with fail
  refine (H14.out _).mono ?_
  rintro e' x5 ⟨rfl, hb⟩
  have B5 := Lib.hid hb
  clear hb
  go_wp2_with fail
  have HB : Hid (Below w.heap.size w x5) := chain (Nat.le_refl _) (chain (Nat.le_refl _) (chain (Nat.le_refl _) (chain (Nat.le_refl _) (chain (Nat.le_refl _) (B0.out) B1.out) B2.out) B3.out) B4.out) B5.out
  have hz5 := HB.out.size
  have HB6 : Hid (Below w.heap.size w (x5.alloc (.cells #[.string L, .string Y, .string Z, .int .i64 a, .int .i64 b] 27))) := HB.out.alloc hz5 _
  clear B0 B1 B2 B3 B4 B5 HB
  generalize x5.alloc (.cells #[.string L, .string Y, .string Z, .int .i64 a, .int .i64 b] 27) = w6 at *
  go_quiet (fail)
  go_wp2_with fail
  go_ret
  exact ⟨rfl, below_drewN HB6.out _⟩

set_option maxHeartbeats 16000000 in
set_option maxRecDepth 100000 in
theorem wi_0110 (s : ByteArray) (p : Nat) (hs : s.size ≤ 20000) (hp : p < s.size) (X : ByteArray) (D : ByteArray) (k : Nat) (hk : 0 < k) (hpk : p + k ≤ s.size) (T : ByteArray) (j : Nat) (hj2 : 2 ≤ j) (hpj : p + j ≤ s.size) (L Y Z : ByteArray) (a b : Int) 
    (H8 : Hid (∀ W, Calls Tryd.prog 8 #[.string s, .int .i64 p] W fun r w' => r = .returned (.tuple #[.string X, .int .i64 0]) ∧ Below W.heap.size W w'))
    (H10 : Hid (∀ W, Calls Tryd.prog 10 #[.string s, .int .i64 p] W fun r w' => r = .returned (.tuple #[.string D, .int .i64 k]) ∧ Below W.heap.size W w'))
    (H12 : Hid (∀ W, Calls Tryd.prog 12 #[.string s, .int .i64 p] W fun r w' => r = .returned (.tuple #[.string T, .int .i64 j]) ∧ Below W.heap.size W w'))
    (H16 : Hid (∀ W, Calls Tryd.prog 16 #[.string (s.extract (p + 1) (p + j - 1))] W fun r w' => r = .returned (.string T) ∧ Below W.heap.size W w'))
    (H14 : Hid (∀ W, Calls Tryd.prog 14 #[.string s, .int .i64 p] W fun r w' => r = .returned (.tuple #[.agg #[.string L, .string Y, .string Z, .int .i64 a, .int .i64 b], .int .i64 0]) ∧ Below W.heap.size W w'))
    (w : World) : Calls Tryd.prog 5 #[.string s, .int .i64 p] w fun e w' => e = .returned (.bool true) ∧ Below w.heap.size w w' := by
  have dp : decide ((p : Int) < 0) = false := by simp
  have dk : decide ((s.size : Int) - p < k) = false := decide_eq_false (by omega)
  have dj1 : decide ((j : Int) < 2) = false := decide_eq_false (by omega)
  have dj2 : decide ((s.size : Int) - p < j) = false := decide_eq_false (by omega)
  have cT : (T.toList != T.toList) = false := by simp
  go_enter Tryd.func5, Tryd.ntmps5
  go_wp2_with fail
  refine (alive_any _).mono ?_
  rintro e' x0 ⟨rfl, hb⟩
  have B0 := Lib.hid hb
  clear hb
  go_wp2_with fail
  refine (H8.out _).mono ?_
  rintro e' x1 ⟨rfl, hb⟩
  have B1 := Lib.hid hb
  clear hb
  go_wp2_with fail
  refine (H10.out _).mono ?_
  rintro e' x2 ⟨rfl, hb⟩
  have B2 := Lib.hid hb
  clear hb
  go_wp2_with fail
  refine (H12.out _).mono ?_
  rintro e' x3 ⟨rfl, hb⟩
  have B3 := Lib.hid hb
  clear hb
  go_wp2_with fail
  refine (H16.out _).mono ?_
  rintro e' x4 ⟨rfl, hb⟩
  have B4 := Lib.hid hb
  clear hb
  go_wp2_with fail
  refine (H14.out _).mono ?_
  rintro e' x5 ⟨rfl, hb⟩
  have B5 := Lib.hid hb
  clear hb
  go_wp2_with fail
  have HB : Hid (Below w.heap.size w x5) := chain (Nat.le_refl _) (chain (Nat.le_refl _) (chain (Nat.le_refl _) (chain (Nat.le_refl _) (chain (Nat.le_refl _) (B0.out) B1.out) B2.out) B3.out) B4.out) B5.out
  have hz5 := HB.out.size
  have HB6 : Hid (Below w.heap.size w (x5.alloc (.cells #[.string L, .string Y, .string Z, .int .i64 a, .int .i64 b] 27))) := HB.out.alloc hz5 _
  clear B0 B1 B2 B3 B4 B5 HB
  generalize x5.alloc (.cells #[.string L, .string Y, .string Z, .int .i64 a, .int .i64 b] 27) = w6 at *
  go_quiet (fail)
  go_wp2_with fail
  go_ret
  exact ⟨rfl, below_drewN HB6.out _⟩

set_option maxHeartbeats 16000000 in
set_option maxRecDepth 100000 in
theorem wi_1000 (s : ByteArray) (p : Nat) (hs : s.size ≤ 20000) (hp : p < s.size) (X : ByteArray) (n : Nat) (hn3 : 3 ≤ n) (hpn : p + n ≤ s.size) (hX : s.extract (p + 1) (p + n - 1) = X) (h91 : (s[p]'hp) = 91) (h93 : (s[p + n - 1]'(by omega)) = 93) (D : ByteArray) (T : ByteArray) (L Y Z : ByteArray) (a b : Int) 
    (H8 : Hid (∀ W, Calls Tryd.prog 8 #[.string s, .int .i64 p] W fun r w' => r = .returned (.tuple #[.string X, .int .i64 n]) ∧ Below W.heap.size W w'))
    (H10 : Hid (∀ W, Calls Tryd.prog 10 #[.string s, .int .i64 p] W fun r w' => r = .returned (.tuple #[.string D, .int .i64 0]) ∧ Below W.heap.size W w'))
    (H12 : Hid (∀ W, Calls Tryd.prog 12 #[.string s, .int .i64 p] W fun r w' => r = .returned (.tuple #[.string T, .int .i64 0]) ∧ Below W.heap.size W w'))
    (H14 : Hid (∀ W, Calls Tryd.prog 14 #[.string s, .int .i64 p] W fun r w' => r = .returned (.tuple #[.agg #[.string L, .string Y, .string Z, .int .i64 a, .int .i64 b], .int .i64 0]) ∧ Below W.heap.size W w'))
    (w : World) : Calls Tryd.prog 5 #[.string s, .int .i64 p] w fun e w' => e = .returned (.bool true) ∧ Below w.heap.size w w' := by
  have dp : decide ((p : Int) < 0) = false := by simp
  have dn1 : decide ((n : Int) < 3) = false := decide_eq_false (by omega)
  have dn2 : decide ((s.size : Int) - p < n) = false := decide_eq_false (by omega)
  have cX : ((s.extract (p + 1) (p + n - 1)).toList == X.toList) = true := by rw [hX]; exact beq_self_eq_true _
  have n1 := (s[p]'hp).toNat_lt
  have n2 := (s[p + n - 1]'(by omega)).toNat_lt
  have c91 : (((s[p]'hp).toNat : Int) != 91) = false := nq_u8 _ 91 h91
  have c93 : (((s[p + n - 1]'(by omega)).toNat : Int) != 93) = false := nq_u8 _ 93 h93
  clear hX h91 h93
  go_enter Tryd.func5, Tryd.ntmps5
  go_wp2_with fail
  refine (alive_any _).mono ?_
  rintro e' x0 ⟨rfl, hb⟩
  have B0 := Lib.hid hb
  clear hb
  go_wp2_with fail
  refine (H8.out _).mono ?_
  rintro e' x1 ⟨rfl, hb⟩
  have B1 := Lib.hid hb
  clear hb
  go_wp2_with fail
  refine (H10.out _).mono ?_
  rintro e' x2 ⟨rfl, hb⟩
  have B2 := Lib.hid hb
  clear hb
  go_wp2_with fail
  refine (H12.out _).mono ?_
  rintro e' x3 ⟨rfl, hb⟩
  have B3 := Lib.hid hb
  clear hb
  go_wp2_with fail
  refine (H14.out _).mono ?_
  rintro e' x5 ⟨rfl, hb⟩
  have B5 := Lib.hid hb
  clear hb
  go_wp2_with fail
  have HB : Hid (Below w.heap.size w x5) := chain (Nat.le_refl _) (chain (Nat.le_refl _) (chain (Nat.le_refl _) (chain (Nat.le_refl _) (B0.out) B1.out) B2.out) B3.out) B5.out
  have hz5 := HB.out.size
  have HB6 : Hid (Below w.heap.size w (x5.alloc (.cells #[.string L, .string Y, .string Z, .int .i64 a, .int .i64 b] 27))) := HB.out.alloc hz5 _
  clear B0 B1 B2 B3 B5 HB
  generalize x5.alloc (.cells #[.string L, .string Y, .string Z, .int .i64 a, .int .i64 b] 27) = w6 at *
  go_quiet (fail)
  go_wp2_with fail
  go_ret
  exact ⟨rfl, below_drewN HB6.out _⟩

set_option maxHeartbeats 16000000 in
set_option maxRecDepth 100000 in
theorem wi_1100 (s : ByteArray) (p : Nat) (hs : s.size ≤ 20000) (hp : p < s.size) (X : ByteArray) (n : Nat) (hn3 : 3 ≤ n) (hpn : p + n ≤ s.size) (hX : s.extract (p + 1) (p + n - 1) = X) (h91 : (s[p]'hp) = 91) (h93 : (s[p + n - 1]'(by omega)) = 93) (D : ByteArray) (k : Nat) (hk : 0 < k) (hpk : p + k ≤ s.size) (T : ByteArray) (L Y Z : ByteArray) (a b : Int) 
    (H8 : Hid (∀ W, Calls Tryd.prog 8 #[.string s, .int .i64 p] W fun r w' => r = .returned (.tuple #[.string X, .int .i64 n]) ∧ Below W.heap.size W w'))
    (H10 : Hid (∀ W, Calls Tryd.prog 10 #[.string s, .int .i64 p] W fun r w' => r = .returned (.tuple #[.string D, .int .i64 k]) ∧ Below W.heap.size W w'))
    (H12 : Hid (∀ W, Calls Tryd.prog 12 #[.string s, .int .i64 p] W fun r w' => r = .returned (.tuple #[.string T, .int .i64 0]) ∧ Below W.heap.size W w'))
    (H14 : Hid (∀ W, Calls Tryd.prog 14 #[.string s, .int .i64 p] W fun r w' => r = .returned (.tuple #[.agg #[.string L, .string Y, .string Z, .int .i64 a, .int .i64 b], .int .i64 0]) ∧ Below W.heap.size W w'))
    (w : World) : Calls Tryd.prog 5 #[.string s, .int .i64 p] w fun e w' => e = .returned (.bool true) ∧ Below w.heap.size w w' := by
  have dp : decide ((p : Int) < 0) = false := by simp
  have dn1 : decide ((n : Int) < 3) = false := decide_eq_false (by omega)
  have dn2 : decide ((s.size : Int) - p < n) = false := decide_eq_false (by omega)
  have cX : ((s.extract (p + 1) (p + n - 1)).toList == X.toList) = true := by rw [hX]; exact beq_self_eq_true _
  have n1 := (s[p]'hp).toNat_lt
  have n2 := (s[p + n - 1]'(by omega)).toNat_lt
  have c91 : (((s[p]'hp).toNat : Int) != 91) = false := nq_u8 _ 91 h91
  have c93 : (((s[p + n - 1]'(by omega)).toNat : Int) != 93) = false := nq_u8 _ 93 h93
  clear hX h91 h93
  have dk : decide ((s.size : Int) - p < k) = false := decide_eq_false (by omega)
  go_enter Tryd.func5, Tryd.ntmps5
  go_wp2_with fail
  refine (alive_any _).mono ?_
  rintro e' x0 ⟨rfl, hb⟩
  have B0 := Lib.hid hb
  clear hb
  go_wp2_with fail
  refine (H8.out _).mono ?_
  rintro e' x1 ⟨rfl, hb⟩
  have B1 := Lib.hid hb
  clear hb
  go_wp2_with fail
  refine (H10.out _).mono ?_
  rintro e' x2 ⟨rfl, hb⟩
  have B2 := Lib.hid hb
  clear hb
  go_wp2_with fail
  refine (H12.out _).mono ?_
  rintro e' x3 ⟨rfl, hb⟩
  have B3 := Lib.hid hb
  clear hb
  go_wp2_with fail
  refine (H14.out _).mono ?_
  rintro e' x5 ⟨rfl, hb⟩
  have B5 := Lib.hid hb
  clear hb
  go_wp2_with fail
  have HB : Hid (Below w.heap.size w x5) := chain (Nat.le_refl _) (chain (Nat.le_refl _) (chain (Nat.le_refl _) (chain (Nat.le_refl _) (B0.out) B1.out) B2.out) B3.out) B5.out
  have hz5 := HB.out.size
  have HB6 : Hid (Below w.heap.size w (x5.alloc (.cells #[.string L, .string Y, .string Z, .int .i64 a, .int .i64 b] 27))) := HB.out.alloc hz5 _
  clear B0 B1 B2 B3 B5 HB
  generalize x5.alloc (.cells #[.string L, .string Y, .string Z, .int .i64 a, .int .i64 b] 27) = w6 at *
  go_quiet (fail)
  go_wp2_with fail
  go_ret
  exact ⟨rfl, below_drewN HB6.out _⟩

end Go.Proofs.YtfoheffbapifpaaDoor
