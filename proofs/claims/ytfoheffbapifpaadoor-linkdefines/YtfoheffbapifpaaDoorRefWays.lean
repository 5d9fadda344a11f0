/-
  PROVED: contracts of the document's own Define, a way at a time: what it answers, by what the calls within it answer. Conditions: the text has at most 1000000 bytes, and the places that the calls tell are within it.
-/
import Derived.Test.YtfoheffbapifpaaDoorDefWays
namespace Go.Proofs.YtfoheffbapifpaaDoor
open Go.ChangeShapes Go.WideShapes Go.ChangeAt Go.RowKit Go.Sort
set_option linter.unusedVariables false

set_option maxHeartbeats 8000000 in
theorem rdef_a (s X : ByteArray) (p : Int) (n : Nat) (hs : s.size ≤ 1000000) (hn : n = 0)
    (H9 : Hid (∀ W, Calls Tryd.prog 9 #[.string s, .int .i64 p] W fun r w' => r = .returned (.tuple #[.string X, .int .i64 n]) ∧ w' = W))
    (w : World) : Calls Tryd.prog 15 #[.string s, .int .i64 p] w fun r w' => r = .returned (.tuple #[.agg #[.string { data := #[] }, .string { data := #[] }, .string { data := #[] }, .int .i64 0, .int .i64 0], .int .i64 0]) ∧ Below w.heap.size w w' := by
  subst hn
  go_enter Tryd.func15, Tryd.ntmps15
  go_wp2_with fail
  have hz : w.heap.size < (w.alloc (.cells #[.string { data := #[] }, .string { data := #[] }, .string { data := #[] }, .int .i64 0, .int .i64 0] 27)).heap.size := by simp
  have HR := Lib.hid (Holds.made w 27 #[.string { data := #[] }, .string { data := #[] }, .string { data := #[] }, .int .i64 0, .int .i64 0])
  have HB := Lib.hid ((Below.refl w.heap.size w).alloc (Nat.le_refl _) (.cells #[.string { data := #[] }, .string { data := #[] }, .string { data := #[] }, .int .i64 0, .int .i64 0] 27))
  generalize w.alloc (.cells #[.string { data := #[] }, .string { data := #[] }, .string { data := #[] }, .int .i64 0, .int .i64 0] 27) = w1 at *
  refine (H9.out _).mono ?_
  rintro e' y ⟨rfl, hy⟩
  rw [hy]
  clear hy
  have x0 : w1.cell? ⟨w.heap.size, 0, none⟩ = _ := HR.out.at 0
  have x1 : w1.cell? ⟨w.heap.size, 1, none⟩ = _ := HR.out.at 1
  have x2 : w1.cell? ⟨w.heap.size, 2, none⟩ = _ := HR.out.at 2
  have x3 : w1.cell? ⟨w.heap.size, 3, none⟩ = _ := HR.out.at 3
  have x4 : w1.cell? ⟨w.heap.size, 4, none⟩ = _ := HR.out.at 4
  have v0 : w1.frozen? ⟨w.heap.size, 0, none⟩ = false := HR.out.soft 0
  have v1 : w1.frozen? ⟨w.heap.size, 1, none⟩ = false := HR.out.soft 1
  have v2 : w1.frozen? ⟨w.heap.size, 2, none⟩ = false := HR.out.soft 2
  have v3 : w1.frozen? ⟨w.heap.size, 3, none⟩ = false := HR.out.soft 3
  have v4 : w1.frozen? ⟨w.heap.size, 4, none⟩ = false := HR.out.soft 4
  go_wp2_with fail
  exact bodyPost_ret (v := .tuple #[.agg #[.string { data := #[] }, .string { data := #[] }, .string { data := #[] }, .int .i64 0, .int .i64 0], .int .i64 0]) (by simp [results, Tryd.results15, go_sem, x0, x1, x2, x3, x4]) rfl ⟨rfl, (((((HB.out.setCell (by exact Nat.le_refl _) _).setCell (by exact Nat.le_refl _) _).setCell (by exact Nat.le_refl _) _).setCell (by exact Nat.le_refl _) _).setCell (by exact Nat.le_refl _) _)⟩

set_option maxHeartbeats 8000000 in
theorem rdef_b1 (s X : ByteArray) (p n : Nat) (hs : s.size ≤ 1000000) (hpn : s.size ≤ p + n) (hp : p ≤ 1000000) (hn2 : n ≤ 1000000) (hn : 0 < n)
    (H9 : Hid (∀ W, Calls Tryd.prog 9 #[.string s, .int .i64 p] W fun r w' => r = .returned (.tuple #[.string X, .int .i64 n]) ∧ w' = W))
    (w : World) : Calls Tryd.prog 15 #[.string s, .int .i64 p] w fun r w' => r = .returned (.tuple #[.agg #[.string { data := #[] }, .string { data := #[] }, .string { data := #[] }, .int .i64 0, .int .i64 0], .int .i64 0]) ∧ Below w.heap.size w w' := by
  have c0 : ((n : Int) == 0) = false := by rw [beq_eq_false_iff_ne]; omega
  go_enter Tryd.func15, Tryd.ntmps15
  go_wp2_with fail
  have hz : w.heap.size < (w.alloc (.cells #[.string { data := #[] }, .string { data := #[] }, .string { data := #[] }, .int .i64 0, .int .i64 0] 27)).heap.size := by simp
  have HR := Lib.hid (Holds.made w 27 #[.string { data := #[] }, .string { data := #[] }, .string { data := #[] }, .int .i64 0, .int .i64 0])
  have HB := Lib.hid ((Below.refl w.heap.size w).alloc (Nat.le_refl _) (.cells #[.string { data := #[] }, .string { data := #[] }, .string { data := #[] }, .int .i64 0, .int .i64 0] 27))
  generalize w.alloc (.cells #[.string { data := #[] }, .string { data := #[] }, .string { data := #[] }, .int .i64 0, .int .i64 0] 27) = w1 at *
  refine (H9.out _).mono ?_
  rintro e' y ⟨rfl, hy⟩
  rw [hy]
  clear hy
  have x0 : w1.cell? ⟨w.heap.size, 0, none⟩ = _ := HR.out.at 0
  have x1 : w1.cell? ⟨w.heap.size, 1, none⟩ = _ := HR.out.at 1
  have x2 : w1.cell? ⟨w.heap.size, 2, none⟩ = _ := HR.out.at 2
  have x3 : w1.cell? ⟨w.heap.size, 3, none⟩ = _ := HR.out.at 3
  have x4 : w1.cell? ⟨w.heap.size, 4, none⟩ = _ := HR.out.at 4
  have v0 : w1.frozen? ⟨w.heap.size, 0, none⟩ = false := HR.out.soft 0
  have v1 : w1.frozen? ⟨w.heap.size, 1, none⟩ = false := HR.out.soft 1
  have v2 : w1.frozen? ⟨w.heap.size, 2, none⟩ = false := HR.out.soft 2
  have v3 : w1.frozen? ⟨w.heap.size, 3, none⟩ = false := HR.out.soft 3
  have v4 : w1.frozen? ⟨w.heap.size, 4, none⟩ = false := HR.out.soft 4
  go_wp2_with fail
  exact bodyPost_ret (v := .tuple #[.agg #[.string { data := #[] }, .string { data := #[] }, .string { data := #[] }, .int .i64 0, .int .i64 0], .int .i64 0]) (by simp [results, Tryd.results15, go_sem, x0, x1, x2, x3, x4]) rfl ⟨rfl, (((((HB.out.setCell (by exact Nat.le_refl _) _).setCell (by exact Nat.le_refl _) _).setCell (by exact Nat.le_refl _) _).setCell (by exact Nat.le_refl _) _).setCell (by exact Nat.le_refl _) _)⟩

set_option maxHeartbeats 8000000 in
theorem rdef_b2 (s X : ByteArray) (p n : Nat) (hs : s.size ≤ 1000000) (hpn : p + n < s.size) (hn : 0 < n) (h58 : ¬ (s[p + n]'hpn) = 58)
    (H9 : Hid (∀ W, Calls Tryd.prog 9 #[.string s, .int .i64 p] W fun r w' => r = .returned (.tuple #[.string X, .int .i64 n]) ∧ w' = W))
    (w : World) : Calls Tryd.prog 15 #[.string s, .int .i64 p] w fun r w' => r = .returned (.tuple #[.agg #[.string { data := #[] }, .string { data := #[] }, .string { data := #[] }, .int .i64 0, .int .i64 0], .int .i64 0]) ∧ Below w.heap.size w w' := by
  have c0 : ((n : Int) == 0) = false := by rw [beq_eq_false_iff_ne]; omega
  have hn8 := (s[p + n]'hpn).toNat_lt
  have c58 : (((s[p + n]'hpn).toNat : Int) != 58) = true := nn_u8 _ 58 h58
  clear h58
  go_enter Tryd.func15, Tryd.ntmps15
  go_wp2_with fail
  have hz : w.heap.size < (w.alloc (.cells #[.string { data := #[] }, .string { data := #[] }, .string { data := #[] }, .int .i64 0, .int .i64 0] 27)).heap.size := by simp
  have HR := Lib.hid (Holds.made w 27 #[.string { data := #[] }, .string { data := #[] }, .string { data := #[] }, .int .i64 0, .int .i64 0])
  have HB := Lib.hid ((Below.refl w.heap.size w).alloc (Nat.le_refl _) (.cells #[.string { data := #[] }, .string { data := #[] }, .string { data := #[] }, .int .i64 0, .int .i64 0] 27))
  generalize w.alloc (.cells #[.string { data := #[] }, .string { data := #[] }, .string { data := #[] }, .int .i64 0, .int .i64 0] 27) = w1 at *
  refine (H9.out _).mono ?_
  rintro e' y ⟨rfl, hy⟩
  rw [hy]
  clear hy
  have x0 : w1.cell? ⟨w.heap.size, 0, none⟩ = _ := HR.out.at 0
  have x1 : w1.cell? ⟨w.heap.size, 1, none⟩ = _ := HR.out.at 1
  have x2 : w1.cell? ⟨w.heap.size, 2, none⟩ = _ := HR.out.at 2
  have x3 : w1.cell? ⟨w.heap.size, 3, none⟩ = _ := HR.out.at 3
  have x4 : w1.cell? ⟨w.heap.size, 4, none⟩ = _ := HR.out.at 4
  have v0 : w1.frozen? ⟨w.heap.size, 0, none⟩ = false := HR.out.soft 0
  have v1 : w1.frozen? ⟨w.heap.size, 1, none⟩ = false := HR.out.soft 1
  have v2 : w1.frozen? ⟨w.heap.size, 2, none⟩ = false := HR.out.soft 2
  have v3 : w1.frozen? ⟨w.heap.size, 3, none⟩ = false := HR.out.soft 3
  have v4 : w1.frozen? ⟨w.heap.size, 4, none⟩ = false := HR.out.soft 4
  go_wp2_with fail
  exact bodyPost_ret (v := .tuple #[.agg #[.string { data := #[] }, .string { data := #[] }, .string { data := #[] }, .int .i64 0, .int .i64 0], .int .i64 0]) (by simp [results, Tryd.results15, go_sem, x0, x1, x2, x3, x4]) rfl ⟨rfl, (((((HB.out.setCell (by exact Nat.le_refl _) _).setCell (by exact Nat.le_refl _) _).setCell (by exact Nat.le_refl _) _).setCell (by exact Nat.le_refl _) _).setCell (by exact Nat.le_refl _) _)⟩

set_option maxHeartbeats 8000000 in
theorem rdef_c (s X : ByteArray) (p n : Nat) (hs : s.size ≤ 1000000) (hpn : p + n < s.size) (hn : 0 < n) (h58 : (s[p + n]'hpn) = 58)
    (H9 : Hid (∀ W, Calls Tryd.prog 9 #[.string s, .int .i64 p] W fun r w' => r = .returned (.tuple #[.string X, .int .i64 n]) ∧ w' = W))
    (H32 : Hid (∀ W, Calls Tryd.prog 32 #[.string s, .int .i64 ((p : Int) + n + 1)] W fun r w' => r = .returned (.int .i64 (-1)) ∧ w' = W))
    (w : World) : Calls Tryd.prog 15 #[.string s, .int .i64 p] w fun r w' => r = .returned (.tuple #[.agg #[.string { data := #[] }, .string { data := #[] }, .string { data := #[] }, .int .i64 0, .int .i64 0], .int .i64 0]) ∧ Below w.heap.size w w' := by
  have c0 : ((n : Int) == 0) = false := by rw [beq_eq_false_iff_ne]; omega
  have hn8 := (s[p + n]'hpn).toNat_lt
  have c58 : (((s[p + n]'hpn).toNat : Int) != 58) = false := nq_u8 _ 58 h58
  clear h58
  go_enter Tryd.func15, Tryd.ntmps15
  go_wp2_with fail
  have hz : w.heap.size < (w.alloc (.cells #[.string { data := #[] }, .string { data := #[] }, .string { data := #[] }, .int .i64 0, .int .i64 0] 27)).heap.size := by simp
  have HR := Lib.hid (Holds.made w 27 #[.string { data := #[] }, .string { data := #[] }, .string { data := #[] }, .int .i64 0, .int .i64 0])
  have HB := Lib.hid ((Below.refl w.heap.size w).alloc (Nat.le_refl _) (.cells #[.string { data := #[] }, .string { data := #[] }, .string { data := #[] }, .int .i64 0, .int .i64 0] 27))
  generalize w.alloc (.cells #[.string { data := #[] }, .string { data := #[] }, .string { data := #[] }, .int .i64 0, .int .i64 0] 27) = w1 at *
  refine (H9.out _).mono ?_
  rintro e' y ⟨rfl, hy⟩
  rw [hy]
  clear hy
  go_wp2_with fail
  refine (H32.out _).mono ?_
  rintro e' y ⟨rfl, hy⟩
  rw [hy]
  clear hy
  have x0 : w1.cell? ⟨w.heap.size, 0, none⟩ = _ := HR.out.at 0
  have x1 : w1.cell? ⟨w.heap.size, 1, none⟩ = _ := HR.out.at 1
  have x2 : w1.cell? ⟨w.heap.size, 2, none⟩ = _ := HR.out.at 2
  have x3 : w1.cell? ⟨w.heap.size, 3, none⟩ = _ := HR.out.at 3
  have x4 : w1.cell? ⟨w.heap.size, 4, none⟩ = _ := HR.out.at 4
  have v0 : w1.frozen? ⟨w.heap.size, 0, none⟩ = false := HR.out.soft 0
  have v1 : w1.frozen? ⟨w.heap.size, 1, none⟩ = false := HR.out.soft 1
  have v2 : w1.frozen? ⟨w.heap.size, 2, none⟩ = false := HR.out.soft 2
  have v3 : w1.frozen? ⟨w.heap.size, 3, none⟩ = false := HR.out.soft 3
  have v4 : w1.frozen? ⟨w.heap.size, 4, none⟩ = false := HR.out.soft 4
  go_wp2_with fail
  exact bodyPost_ret (v := .tuple #[.agg #[.string { data := #[] }, .string { data := #[] }, .string { data := #[] }, .int .i64 0, .int .i64 0], .int .i64 0]) (by simp [results, Tryd.results15, go_sem, x0, x1, x2, x3, x4]) rfl ⟨rfl, (((((HB.out.setCell (by exact Nat.le_refl _) _).setCell (by exact Nat.le_refl _) _).setCell (by exact Nat.le_refl _) _).setCell (by exact Nat.le_refl _) _).setCell (by exact Nat.le_refl _) _)⟩

set_option maxHeartbeats 8000000 in
theorem rdef_d (s X Y : ByteArray) (p n q k : Nat) (hs : s.size ≤ 1000000) (hpn : p + n < s.size) (hn : 0 < n) (h58 : (s[p + n]'hpn) = 58) (hq : q ≤ s.size) (hk : k = 0)
    (H9 : Hid (∀ W, Calls Tryd.prog 9 #[.string s, .int .i64 p] W fun r w' => r = .returned (.tuple #[.string X, .int .i64 n]) ∧ w' = W))
    (H32 : Hid (∀ W, Calls Tryd.prog 32 #[.string s, .int .i64 ((p : Int) + n + 1)] W fun r w' => r = .returned (.int .i64 q) ∧ w' = W))
    (H11 : Hid (∀ W, Calls Tryd.prog 11 #[.string s, .int .i64 q] W fun r w' => r = .returned (.tuple #[.string Y, .int .i64 k]) ∧ Below W.heap.size W w'))
    (w : World) : Calls Tryd.prog 15 #[.string s, .int .i64 p] w fun r w' => r = .returned (.tuple #[.agg #[.string { data := #[] }, .string { data := #[] }, .string { data := #[] }, .int .i64 0, .int .i64 0], .int .i64 0]) ∧ Below w.heap.size w w' := by
  have c0 : ((n : Int) == 0) = false := by rw [beq_eq_false_iff_ne]; omega
  have hn8 := (s[p + n]'hpn).toNat_lt
  have c58 : (((s[p + n]'hpn).toNat : Int) != 58) = false := nq_u8 _ 58 h58
  clear h58
  subst hk
  go_enter Tryd.func15, Tryd.ntmps15
  go_wp2_with fail
  have hz : w.heap.size < (w.alloc (.cells #[.string { data := #[] }, .string { data := #[] }, .string { data := #[] }, .int .i64 0, .int .i64 0] 27)).heap.size := by simp
  have HR := Lib.hid (Holds.made w 27 #[.string { data := #[] }, .string { data := #[] }, .string { data := #[] }, .int .i64 0, .int .i64 0])
  have HB := Lib.hid ((Below.refl w.heap.size w).alloc (Nat.le_refl _) (.cells #[.string { data := #[] }, .string { data := #[] }, .string { data := #[] }, .int .i64 0, .int .i64 0] 27))
  generalize w.alloc (.cells #[.string { data := #[] }, .string { data := #[] }, .string { data := #[] }, .int .i64 0, .int .i64 0] 27) = w1 at *
  refine (H9.out _).mono ?_
  rintro e' y ⟨rfl, hy⟩
  rw [hy]
  clear hy
  go_wp2_with fail
  refine (H32.out _).mono ?_
  rintro e' y ⟨rfl, hy⟩
  rw [hy]
  clear hy
  go_wp2_with fail
  refine (H11.out _).mono ?_
  rintro e' w2 ⟨rfl, hb⟩
  have HR2 := Lib.hid (HR.out.under hb HR.out.lt)
  have HB2 := Lib.hid (chain (Nat.le_refl _) HB.out hb)
  have hz2 : w.heap.size < w2.heap.size := by have := hb.size; omega
  clear hb HR HB hz
  have HR := HR2
  have HB := HB2
  have hz := hz2
  clear HR2 HB2 hz2
  have x0 : w2.cell? ⟨w.heap.size, 0, none⟩ = _ := HR.out.at 0
  have x1 : w2.cell? ⟨w.heap.size, 1, none⟩ = _ := HR.out.at 1
  have x2 : w2.cell? ⟨w.heap.size, 2, none⟩ = _ := HR.out.at 2
  have x3 : w2.cell? ⟨w.heap.size, 3, none⟩ = _ := HR.out.at 3
  have x4 : w2.cell? ⟨w.heap.size, 4, none⟩ = _ := HR.out.at 4
  have v0 : w2.frozen? ⟨w.heap.size, 0, none⟩ = false := HR.out.soft 0
  have v1 : w2.frozen? ⟨w.heap.size, 1, none⟩ = false := HR.out.soft 1
  have v2 : w2.frozen? ⟨w.heap.size, 2, none⟩ = false := HR.out.soft 2
  have v3 : w2.frozen? ⟨w.heap.size, 3, none⟩ = false := HR.out.soft 3
  have v4 : w2.frozen? ⟨w.heap.size, 4, none⟩ = false := HR.out.soft 4
  go_wp2_with fail
  exact bodyPost_ret (v := .tuple #[.agg #[.string { data := #[] }, .string { data := #[] }, .string { data := #[] }, .int .i64 0, .int .i64 0], .int .i64 0]) (by simp [results, Tryd.results15, go_sem, x0, x1, x2, x3, x4]) rfl ⟨rfl, (((((HB.out.setCell (by exact Nat.le_refl _) _).setCell (by exact Nat.le_refl _) _).setCell (by exact Nat.le_refl _) _).setCell (by exact Nat.le_refl _) _).setCell (by exact Nat.le_refl _) _)⟩

set_option maxHeartbeats 8000000 in
theorem rdef_t0g (s X Y Z : ByteArray) (p n q k f : Nat) (bg : Int) (hs : s.size ≤ 1000000) (hpn : p + n < s.size) (hn : 0 < n) (h58 : (s[p + n]'hpn) = 58) (hq : q ≤ s.size) (hqk : q + k ≤ s.size) (hk : 0 < k) (hf : f ≤ s.size) (hbg : bg ≤ q + k)
    (H9 : Hid (∀ W, Calls Tryd.prog 9 #[.string s, .int .i64 p] W fun r w' => r = .returned (.tuple #[.string X, .int .i64 n]) ∧ w' = W))
    (H32 : Hid (∀ W, Calls Tryd.prog 32 #[.string s, .int .i64 ((p : Int) + n + 1)] W fun r w' => r = .returned (.int .i64 q) ∧ w' = W))
    (H11 : Hid (∀ W, Calls Tryd.prog 11 #[.string s, .int .i64 q] W fun r w' => r = .returned (.tuple #[.string Y, .int .i64 k]) ∧ Below W.heap.size W w'))
    (H33 : Hid (∀ W, Calls Tryd.prog 33 #[.string X] W fun r w' => r = .returned (.string Z) ∧ Below W.heap.size W w'))
    (H34 : Hid (∀ W, Calls Tryd.prog 34 #[.string s, .int .i64 ((q : Int) + k)] W fun r w' => r = .returned (.int .i64 f) ∧ w' = W))
    (H32b : Hid (∀ W, Calls Tryd.prog 32 #[.string s, .int .i64 ((q : Int) + k)] W fun r w' => r = .returned (.int .i64 bg) ∧ w' = W))
    (w : World) : Calls Tryd.prog 15 #[.string s, .int .i64 p] w fun r w' => r = .returned (.tuple #[.agg #[.string Z, .string Y, .string { data := #[] }, .int .i64 p, .int .i64 ((q : Int) + k)], .int .i64 ((f : Int) - p)]) ∧ Below w.heap.size w w' := by
  have c0 : ((n : Int) == 0) = false := by rw [beq_eq_false_iff_ne]; omega
  have hn8 := (s[p + n]'hpn).toNat_lt
  have c58 : (((s[p + n]'hpn).toNat : Int) != 58) = false := nq_u8 _ 58 h58
  clear h58
  have c1 : ((k : Int) == 0) = false := by rw [beq_eq_false_iff_ne]; omega
  go_enter Tryd.func15, Tryd.ntmps15
  go_wp2_with fail
  have hz : w.heap.size < (w.alloc (.cells #[.string { data := #[] }, .string { data := #[] }, .string { data := #[] }, .int .i64 0, .int .i64 0] 27)).heap.size := by simp
  have HR := Lib.hid (Holds.made w 27 #[.string { data := #[] }, .string { data := #[] }, .string { data := #[] }, .int .i64 0, .int .i64 0])
  have HB := Lib.hid ((Below.refl w.heap.size w).alloc (Nat.le_refl _) (.cells #[.string { data := #[] }, .string { data := #[] }, .string { data := #[] }, .int .i64 0, .int .i64 0] 27))
  generalize w.alloc (.cells #[.string { data := #[] }, .string { data := #[] }, .string { data := #[] }, .int .i64 0, .int .i64 0] 27) = w1 at *
  refine (H9.out _).mono ?_
  rintro e' y ⟨rfl, hy⟩
  rw [hy]
  clear hy
  go_wp2_with fail
  refine (H32.out _).mono ?_
  rintro e' y ⟨rfl, hy⟩
  rw [hy]
  clear hy
  go_wp2_with fail
  refine (H11.out _).mono ?_
  rintro e' w2 ⟨rfl, hb⟩
  have HR2 := Lib.hid (HR.out.under hb HR.out.lt)
  have HB2 := Lib.hid (chain (Nat.le_refl _) HB.out hb)
  have hz2 : w.heap.size < w2.heap.size := by have := hb.size; omega
  clear hb HR HB hz
  have HR := HR2
  have HB := HB2
  have hz := hz2
  clear HR2 HB2 hz2
  go_wp2_with fail
  refine (H33.out _).mono ?_
  rintro e' w3 ⟨rfl, hb⟩
  have HR3 := Lib.hid (HR.out.under hb HR.out.lt)
  have HB3 := Lib.hid (chain (Nat.le_refl _) HB.out hb)
  have hz3 : w.heap.size < w3.heap.size := by have := hb.size; omega
  clear hb HR HB hz
  have HR := HR3
  have HB := HB3
  have hz := hz3
  clear HR3 HB3 hz3
  go_wp2_with fail
  have HG := Lib.hid (Holds.made w3 27 #[.string Z, .string Y, .string { data := #[] }, .int .i64 p, .int .i64 ((q : Int) + k)])
  have HR2 : Hid (Holds (w3.alloc (.cells #[.string Z, .string Y, .string { data := #[] }, .int .i64 p, .int .i64 ((q : Int) + k)] 27)) w.heap.size 27 #[.string { data := #[] }, .string { data := #[] }, .string { data := #[] }, .int .i64 0, .int .i64 0]) := HR.out.under ((Below.refl w3.heap.size w3).alloc (Nat.le_refl _) _) hz
  have HB2 : Hid (Below w.heap.size w (w3.alloc (.cells #[.string Z, .string Y, .string { data := #[] }, .int .i64 p, .int .i64 ((q : Int) + k)] 27))) := HB.out.alloc (Nat.le_of_lt hz) _
  have hz2 : w.heap.size < (w3.alloc (.cells #[.string Z, .string Y, .string { data := #[] }, .int .i64 p, .int .i64 ((q : Int) + k)] 27)).heap.size := by simp; omega
  have hgl := hz
  have hgr : w.heap.size ≠ w3.heap.size := by omega
  clear HR HB hz
  have HR := HR2
  have HB := HB2
  have hz := hz2
  clear HR2 HB2 hz2
  generalize w3.alloc (.cells #[.string Z, .string Y, .string { data := #[] }, .int .i64 p, .int .i64 ((q : Int) + k)] 27) = w4 at *
  have g4 : w4.cell? ⟨w3.heap.size, 4, none⟩ = some (.int .i64 ((q : Int) + k)) := HG.out.at 4
  refine (H34.out _).mono ?_
  rintro e' y ⟨rfl, hy⟩
  rw [hy]
  clear hy
  go_wp2_with fail
  refine (H32b.out _).mono ?_
  rintro e' y ⟨rfl, hy⟩
  rw [hy]
  clear hy
  clear g4
  have g0 : w4.cell? ⟨w3.heap.size, 0, none⟩ = _ := HG.out.at 0
  have g1 : w4.cell? ⟨w3.heap.size, 1, none⟩ = _ := HG.out.at 1
  have g2 : w4.cell? ⟨w3.heap.size, 2, none⟩ = _ := HG.out.at 2
  have g3 : w4.cell? ⟨w3.heap.size, 3, none⟩ = _ := HG.out.at 3
  have g4 : w4.cell? ⟨w3.heap.size, 4, none⟩ = _ := HG.out.at 4
  have y0 : w4.frozen? ⟨w3.heap.size, 0, none⟩ = false := HG.out.soft 0
  have y1 : w4.frozen? ⟨w3.heap.size, 1, none⟩ = false := HG.out.soft 1
  have y2 : w4.frozen? ⟨w3.heap.size, 2, none⟩ = false := HG.out.soft 2
  have y3 : w4.frozen? ⟨w3.heap.size, 3, none⟩ = false := HG.out.soft 3
  have y4 : w4.frozen? ⟨w3.heap.size, 4, none⟩ = false := HG.out.soft 4
  have x0 : w4.cell? ⟨w.heap.size, 0, none⟩ = _ := HR.out.at 0
  have x1 : w4.cell? ⟨w.heap.size, 1, none⟩ = _ := HR.out.at 1
  have x2 : w4.cell? ⟨w.heap.size, 2, none⟩ = _ := HR.out.at 2
  have x3 : w4.cell? ⟨w.heap.size, 3, none⟩ = _ := HR.out.at 3
  have x4 : w4.cell? ⟨w.heap.size, 4, none⟩ = _ := HR.out.at 4
  have v0 : w4.frozen? ⟨w.heap.size, 0, none⟩ = false := HR.out.soft 0
  have v1 : w4.frozen? ⟨w.heap.size, 1, none⟩ = false := HR.out.soft 1
  have v2 : w4.frozen? ⟨w.heap.size, 2, none⟩ = false := HR.out.soft 2
  have v3 : w4.frozen? ⟨w.heap.size, 3, none⟩ = false := HR.out.soft 3
  have v4 : w4.frozen? ⟨w.heap.size, 4, none⟩ = false := HR.out.soft 4
  go_wp2_with fail
  exact bodyPost_ret (v := .tuple #[.agg #[.string Z, .string Y, .string { data := #[] }, .int .i64 p, .int .i64 ((q : Int) + k)], .int .i64 ((f : Int) - p)]) (by simp [results, Tryd.results15, go_sem, x0, x1, x2, x3, x4]) rfl ⟨rfl, (((((HB.out.setCell (by exact Nat.le_refl _) _).setCell (by exact Nat.le_refl _) _).setCell (by exact Nat.le_refl _) _).setCell (by exact Nat.le_refl _) _).setCell (by exact Nat.le_refl _) _)⟩

set_option maxHeartbeats 8000000 in
theorem rdef_t0n (s X Y Z : ByteArray) (p n q k : Nat) (bg : Int) (hs : s.size ≤ 1000000) (hpn : p + n < s.size) (hn : 0 < n) (h58 : (s[p + n]'hpn) = 58) (hq : q ≤ s.size) (hqk : q + k ≤ s.size) (hk : 0 < k) (hbg : bg ≤ q + k)
    (H9 : Hid (∀ W, Calls Tryd.prog 9 #[.string s, .int .i64 p] W fun r w' => r = .returned (.tuple #[.string X, .int .i64 n]) ∧ w' = W))
    (H32 : Hid (∀ W, Calls Tryd.prog 32 #[.string s, .int .i64 ((p : Int) + n + 1)] W fun r w' => r = .returned (.int .i64 q) ∧ w' = W))
    (H11 : Hid (∀ W, Calls Tryd.prog 11 #[.string s, .int .i64 q] W fun r w' => r = .returned (.tuple #[.string Y, .int .i64 k]) ∧ Below W.heap.size W w'))
    (H33 : Hid (∀ W, Calls Tryd.prog 33 #[.string X] W fun r w' => r = .returned (.string Z) ∧ Below W.heap.size W w'))
    (H34 : Hid (∀ W, Calls Tryd.prog 34 #[.string s, .int .i64 ((q : Int) + k)] W fun r w' => r = .returned (.int .i64 (-1)) ∧ w' = W))
    (H32b : Hid (∀ W, Calls Tryd.prog 32 #[.string s, .int .i64 ((q : Int) + k)] W fun r w' => r = .returned (.int .i64 bg) ∧ w' = W))
    (w : World) : Calls Tryd.prog 15 #[.string s, .int .i64 p] w fun r w' => r = .returned (.tuple #[.agg #[.string { data := #[] }, .string { data := #[] }, .string { data := #[] }, .int .i64 0, .int .i64 0], .int .i64 0]) ∧ Below w.heap.size w w' := by
  have c0 : ((n : Int) == 0) = false := by rw [beq_eq_false_iff_ne]; omega
  have hn8 := (s[p + n]'hpn).toNat_lt
  have c58 : (((s[p + n]'hpn).toNat : Int) != 58) = false := nq_u8 _ 58 h58
  clear h58
  have c1 : ((k : Int) == 0) = false := by rw [beq_eq_false_iff_ne]; omega
  go_enter Tryd.func15, Tryd.ntmps15
  go_wp2_with fail
  have hz : w.heap.size < (w.alloc (.cells #[.string { data := #[] }, .string { data := #[] }, .string { data := #[] }, .int .i64 0, .int .i64 0] 27)).heap.size := by simp
  have HR := Lib.hid (Holds.made w 27 #[.string { data := #[] }, .string { data := #[] }, .string { data := #[] }, .int .i64 0, .int .i64 0])
  have HB := Lib.hid ((Below.refl w.heap.size w).alloc (Nat.le_refl _) (.cells #[.string { data := #[] }, .string { data := #[] }, .string { data := #[] }, .int .i64 0, .int .i64 0] 27))
  generalize w.alloc (.cells #[.string { data := #[] }, .string { data := #[] }, .string { data := #[] }, .int .i64 0, .int .i64 0] 27) = w1 at *
  refine (H9.out _).mono ?_
  rintro e' y ⟨rfl, hy⟩
  rw [hy]
  clear hy
  go_wp2_with fail
  refine (H32.out _).mono ?_
  rintro e' y ⟨rfl, hy⟩
  rw [hy]
  clear hy
  go_wp2_with fail
  refine (H11.out _).mono ?_
  rintro e' w2 ⟨rfl, hb⟩
  have HR2 := Lib.hid (HR.out.under hb HR.out.lt)
  have HB2 := Lib.hid (chain (Nat.le_refl _) HB.out hb)
  have hz2 : w.heap.size < w2.heap.size := by have := hb.size; omega
  clear hb HR HB hz
  have HR := HR2
  have HB := HB2
  have hz := hz2
  clear HR2 HB2 hz2
  go_wp2_with fail
  refine (H33.out _).mono ?_
  rintro e' w3 ⟨rfl, hb⟩
  have HR3 := Lib.hid (HR.out.under hb HR.out.lt)
  have HB3 := Lib.hid (chain (Nat.le_refl _) HB.out hb)
  have hz3 : w.heap.size < w3.heap.size := by have := hb.size; omega
  clear hb HR HB hz
  have HR := HR3
  have HB := HB3
  have hz := hz3
  clear HR3 HB3 hz3
  go_wp2_with fail
  have HG := Lib.hid (Holds.made w3 27 #[.string Z, .string Y, .string { data := #[] }, .int .i64 p, .int .i64 ((q : Int) + k)])
  have HR2 : Hid (Holds (w3.alloc (.cells #[.string Z, .string Y, .string { data := #[] }, .int .i64 p, .int .i64 ((q : Int) + k)] 27)) w.heap.size 27 #[.string { data := #[] }, .string { data := #[] }, .string { data := #[] }, .int .i64 0, .int .i64 0]) := HR.out.under ((Below.refl w3.heap.size w3).alloc (Nat.le_refl _) _) hz
  have HB2 : Hid (Below w.heap.size w (w3.alloc (.cells #[.string Z, .string Y, .string { data := #[] }, .int .i64 p, .int .i64 ((q : Int) + k)] 27))) := HB.out.alloc (Nat.le_of_lt hz) _
  have hz2 : w.heap.size < (w3.alloc (.cells #[.string Z, .string Y, .string { data := #[] }, .int .i64 p, .int .i64 ((q : Int) + k)] 27)).heap.size := by simp; omega
  have hgl := hz
  have hgr : w.heap.size ≠ w3.heap.size := by omega
  clear HR HB hz
  have HR := HR2
  have HB := HB2
  have hz := hz2
  clear HR2 HB2 hz2
  generalize w3.alloc (.cells #[.string Z, .string Y, .string { data := #[] }, .int .i64 p, .int .i64 ((q : Int) + k)] 27) = w4 at *
  have g4 : w4.cell? ⟨w3.heap.size, 4, none⟩ = some (.int .i64 ((q : Int) + k)) := HG.out.at 4
  refine (H34.out _).mono ?_
  rintro e' y ⟨rfl, hy⟩
  rw [hy]
  clear hy
  go_wp2_with fail
  refine (H32b.out _).mono ?_
  rintro e' y ⟨rfl, hy⟩
  rw [hy]
  clear hy
  have x0 : w4.cell? ⟨w.heap.size, 0, none⟩ = _ := HR.out.at 0
  have x1 : w4.cell? ⟨w.heap.size, 1, none⟩ = _ := HR.out.at 1
  have x2 : w4.cell? ⟨w.heap.size, 2, none⟩ = _ := HR.out.at 2
  have x3 : w4.cell? ⟨w.heap.size, 3, none⟩ = _ := HR.out.at 3
  have x4 : w4.cell? ⟨w.heap.size, 4, none⟩ = _ := HR.out.at 4
  have v0 : w4.frozen? ⟨w.heap.size, 0, none⟩ = false := HR.out.soft 0
  have v1 : w4.frozen? ⟨w.heap.size, 1, none⟩ = false := HR.out.soft 1
  have v2 : w4.frozen? ⟨w.heap.size, 2, none⟩ = false := HR.out.soft 2
  have v3 : w4.frozen? ⟨w.heap.size, 3, none⟩ = false := HR.out.soft 3
  have v4 : w4.frozen? ⟨w.heap.size, 4, none⟩ = false := HR.out.soft 4
  go_wp2_with fail
  exact bodyPost_ret (v := .tuple #[.agg #[.string { data := #[] }, .string { data := #[] }, .string { data := #[] }, .int .i64 0, .int .i64 0], .int .i64 0]) (by simp [results, Tryd.results15, go_sem, x0, x1, x2, x3, x4]) rfl ⟨rfl, (((((HB.out.setCell (by exact Nat.le_refl _) _).setCell (by exact Nat.le_refl _) _).setCell (by exact Nat.le_refl _) _).setCell (by exact Nat.le_refl _) _).setCell (by exact Nat.le_refl _) _)⟩

set_option maxHeartbeats 8000000 in
theorem rdef_t1g (s X Y Z V : ByteArray) (p n q k f b t : Nat) (hs : s.size ≤ 1000000) (hpn : p + n < s.size) (hn : 0 < n) (h58 : (s[p + n]'hpn) = 58) (hq : q ≤ s.size) (hqk : q + k ≤ s.size) (hk : 0 < k) (hb : q + k < b) (hbs : b ≤ s.size) (hf : f ≤ s.size) (ht : t = 0)
    (H9 : Hid (∀ W, Calls Tryd.prog 9 #[.string s, .int .i64 p] W fun r w' => r = .returned (.tuple #[.string X, .int .i64 n]) ∧ w' = W))
    (H32 : Hid (∀ W, Calls Tryd.prog 32 #[.string s, .int .i64 ((p : Int) + n + 1)] W fun r w' => r = .returned (.int .i64 q) ∧ w' = W))
    (H11 : Hid (∀ W, Calls Tryd.prog 11 #[.string s, .int .i64 q] W fun r w' => r = .returned (.tuple #[.string Y, .int .i64 k]) ∧ Below W.heap.size W w'))
    (H33 : Hid (∀ W, Calls Tryd.prog 33 #[.string X] W fun r w' => r = .returned (.string Z) ∧ Below W.heap.size W w'))
    (H34 : Hid (∀ W, Calls Tryd.prog 34 #[.string s, .int .i64 ((q : Int) + k)] W fun r w' => r = .returned (.int .i64 f) ∧ w' = W))
    (H32b : Hid (∀ W, Calls Tryd.prog 32 #[.string s, .int .i64 ((q : Int) + k)] W fun r w' => r = .returned (.int .i64 b) ∧ w' = W))
    (H13 : Hid (∀ W, Calls Tryd.prog 13 #[.string s, .int .i64 b] W fun r w' => r = .returned (.tuple #[.string V, .int .i64 t]) ∧ Below W.heap.size W w'))
    (w : World) : Calls Tryd.prog 15 #[.string s, .int .i64 p] w fun r w' => r = .returned (.tuple #[.agg #[.string Z, .string Y, .string { data := #[] }, .int .i64 p, .int .i64 ((q : Int) + k)], .int .i64 ((f : Int) - p)]) ∧ Below w.heap.size w w' := by
  have c0 : ((n : Int) == 0) = false := by rw [beq_eq_false_iff_ne]; omega
  have hn8 := (s[p + n]'hpn).toNat_lt
  have c58 : (((s[p + n]'hpn).toNat : Int) != 58) = false := nq_u8 _ 58 h58
  clear h58
  have c1 : ((k : Int) == 0) = false := by rw [beq_eq_false_iff_ne]; omega
  subst ht
  go_enter Tryd.func15, Tryd.ntmps15
  go_wp2_with fail
  have hz : w.heap.size < (w.alloc (.cells #[.string { data := #[] }, .string { data := #[] }, .string { data := #[] }, .int .i64 0, .int .i64 0] 27)).heap.size := by simp
  have HR := Lib.hid (Holds.made w 27 #[.string { data := #[] }, .string { data := #[] }, .string { data := #[] }, .int .i64 0, .int .i64 0])
  have HB := Lib.hid ((Below.refl w.heap.size w).alloc (Nat.le_refl _) (.cells #[.string { data := #[] }, .string { data := #[] }, .string { data := #[] }, .int .i64 0, .int .i64 0] 27))
  generalize w.alloc (.cells #[.string { data := #[] }, .string { data := #[] }, .string { data := #[] }, .int .i64 0, .int .i64 0] 27) = w1 at *
  refine (H9.out _).mono ?_
  rintro e' y ⟨rfl, hy⟩
  rw [hy]
  clear hy
  go_wp2_with fail
  refine (H32.out _).mono ?_
  rintro e' y ⟨rfl, hy⟩
  rw [hy]
  clear hy
  go_wp2_with fail
  refine (H11.out _).mono ?_
  rintro e' w2 ⟨rfl, hb⟩
  have HR2 := Lib.hid (HR.out.under hb HR.out.lt)
  have HB2 := Lib.hid (chain (Nat.le_refl _) HB.out hb)
  have hz2 : w.heap.size < w2.heap.size := by have := hb.size; omega
  clear hb HR HB hz
  have HR := HR2
  have HB := HB2
  have hz := hz2
  clear HR2 HB2 hz2
  go_wp2_with fail
  refine (H33.out _).mono ?_
  rintro e' w3 ⟨rfl, hb⟩
  have HR3 := Lib.hid (HR.out.under hb HR.out.lt)
  have HB3 := Lib.hid (chain (Nat.le_refl _) HB.out hb)
  have hz3 : w.heap.size < w3.heap.size := by have := hb.size; omega
  clear hb HR HB hz
  have HR := HR3
  have HB := HB3
  have hz := hz3
  clear HR3 HB3 hz3
  go_wp2_with fail
  have HG := Lib.hid (Holds.made w3 27 #[.string Z, .string Y, .string { data := #[] }, .int .i64 p, .int .i64 ((q : Int) + k)])
  have HR2 : Hid (Holds (w3.alloc (.cells #[.string Z, .string Y, .string { data := #[] }, .int .i64 p, .int .i64 ((q : Int) + k)] 27)) w.heap.size 27 #[.string { data := #[] }, .string { data := #[] }, .string { data := #[] }, .int .i64 0, .int .i64 0]) := HR.out.under ((Below.refl w3.heap.size w3).alloc (Nat.le_refl _) _) hz
  have HB2 : Hid (Below w.heap.size w (w3.alloc (.cells #[.string Z, .string Y, .string { data := #[] }, .int .i64 p, .int .i64 ((q : Int) + k)] 27))) := HB.out.alloc (Nat.le_of_lt hz) _
  have hz2 : w.heap.size < (w3.alloc (.cells #[.string Z, .string Y, .string { data := #[] }, .int .i64 p, .int .i64 ((q : Int) + k)] 27)).heap.size := by simp; omega
  have hgl := hz
  have hgr : w.heap.size ≠ w3.heap.size := by omega
  clear HR HB hz
  have HR := HR2
  have HB := HB2
  have hz := hz2
  clear HR2 HB2 hz2
  generalize w3.alloc (.cells #[.string Z, .string Y, .string { data := #[] }, .int .i64 p, .int .i64 ((q : Int) + k)] 27) = w4 at *
  have g4 : w4.cell? ⟨w3.heap.size, 4, none⟩ = some (.int .i64 ((q : Int) + k)) := HG.out.at 4
  refine (H34.out _).mono ?_
  rintro e' y ⟨rfl, hy⟩
  rw [hy]
  clear hy
  go_wp2_with fail
  refine (H32b.out _).mono ?_
  rintro e' y ⟨rfl, hy⟩
  rw [hy]
  clear hy
  go_wp2_with fail
  refine (H13.out _).mono ?_
  rintro e' w5 ⟨rfl, hb⟩
  have HR5 := Lib.hid (HR.out.under hb HR.out.lt)
  have HB5 := Lib.hid (chain (Nat.le_refl _) HB.out hb)
  have hz5 : w.heap.size < w5.heap.size := by have := hb.size; omega
  have HG5 := Lib.hid (HG.out.under hb HG.out.lt)
  clear hb HR HB hz HG
  have HR := HR5
  have HB := HB5
  have hz := hz5
  clear HR5 HB5 hz5
  have HG := HG5
  clear HG5
  clear g4
  have g0 : w5.cell? ⟨w3.heap.size, 0, none⟩ = _ := HG.out.at 0
  have g1 : w5.cell? ⟨w3.heap.size, 1, none⟩ = _ := HG.out.at 1
  have g2 : w5.cell? ⟨w3.heap.size, 2, none⟩ = _ := HG.out.at 2
  have g3 : w5.cell? ⟨w3.heap.size, 3, none⟩ = _ := HG.out.at 3
  have g4 : w5.cell? ⟨w3.heap.size, 4, none⟩ = _ := HG.out.at 4
  have y0 : w5.frozen? ⟨w3.heap.size, 0, none⟩ = false := HG.out.soft 0
  have y1 : w5.frozen? ⟨w3.heap.size, 1, none⟩ = false := HG.out.soft 1
  have y2 : w5.frozen? ⟨w3.heap.size, 2, none⟩ = false := HG.out.soft 2
  have y3 : w5.frozen? ⟨w3.heap.size, 3, none⟩ = false := HG.out.soft 3
  have y4 : w5.frozen? ⟨w3.heap.size, 4, none⟩ = false := HG.out.soft 4
  have x0 : w5.cell? ⟨w.heap.size, 0, none⟩ = _ := HR.out.at 0
  have x1 : w5.cell? ⟨w.heap.size, 1, none⟩ = _ := HR.out.at 1
  have x2 : w5.cell? ⟨w.heap.size, 2, none⟩ = _ := HR.out.at 2
  have x3 : w5.cell? ⟨w.heap.size, 3, none⟩ = _ := HR.out.at 3
  have x4 : w5.cell? ⟨w.heap.size, 4, none⟩ = _ := HR.out.at 4
  have v0 : w5.frozen? ⟨w.heap.size, 0, none⟩ = false := HR.out.soft 0
  have v1 : w5.frozen? ⟨w.heap.size, 1, none⟩ = false := HR.out.soft 1
  have v2 : w5.frozen? ⟨w.heap.size, 2, none⟩ = false := HR.out.soft 2
  have v3 : w5.frozen? ⟨w.heap.size, 3, none⟩ = false := HR.out.soft 3
  have v4 : w5.frozen? ⟨w.heap.size, 4, none⟩ = false := HR.out.soft 4
  go_wp2_with fail
  exact bodyPost_ret (v := .tuple #[.agg #[.string Z, .string Y, .string { data := #[] }, .int .i64 p, .int .i64 ((q : Int) + k)], .int .i64 ((f : Int) - p)]) (by simp [results, Tryd.results15, go_sem, x0, x1, x2, x3, x4]) rfl ⟨rfl, (((((HB.out.setCell (by exact Nat.le_refl _) _).setCell (by exact Nat.le_refl _) _).setCell (by exact Nat.le_refl _) _).setCell (by exact Nat.le_refl _) _).setCell (by exact Nat.le_refl _) _)⟩

set_option maxHeartbeats 8000000 in
theorem rdef_t1n (s X Y Z V : ByteArray) (p n q k b t : Nat) (hs : s.size ≤ 1000000) (hpn : p + n < s.size) (hn : 0 < n) (h58 : (s[p + n]'hpn) = 58) (hq : q ≤ s.size) (hqk : q + k ≤ s.size) (hk : 0 < k) (hb : q + k < b) (hbs : b ≤ s.size) (ht : t = 0)
    (H9 : Hid (∀ W, Calls Tryd.prog 9 #[.string s, .int .i64 p] W fun r w' => r = .returned (.tuple #[.string X, .int .i64 n]) ∧ w' = W))
    (H32 : Hid (∀ W, Calls Tryd.prog 32 #[.string s, .int .i64 ((p : Int) + n + 1)] W fun r w' => r = .returned (.int .i64 q) ∧ w' = W))
    (H11 : Hid (∀ W, Calls Tryd.prog 11 #[.string s, .int .i64 q] W fun r w' => r = .returned (.tuple #[.string Y, .int .i64 k]) ∧ Below W.heap.size W w'))
    (H33 : Hid (∀ W, Calls Tryd.prog 33 #[.string X] W fun r w' => r = .returned (.string Z) ∧ Below W.heap.size W w'))
    (H34 : Hid (∀ W, Calls Tryd.prog 34 #[.string s, .int .i64 ((q : Int) + k)] W fun r w' => r = .returned (.int .i64 (-1)) ∧ w' = W))
    (H32b : Hid (∀ W, Calls Tryd.prog 32 #[.string s, .int .i64 ((q : Int) + k)] W fun r w' => r = .returned (.int .i64 b) ∧ w' = W))
    (H13 : Hid (∀ W, Calls Tryd.prog 13 #[.string s, .int .i64 b] W fun r w' => r = .returned (.tuple #[.string V, .int .i64 t]) ∧ Below W.heap.size W w'))
    (w : World) : Calls Tryd.prog 15 #[.string s, .int .i64 p] w fun r w' => r = .returned (.tuple #[.agg #[.string { data := #[] }, .string { data := #[] }, .string { data := #[] }, .int .i64 0, .int .i64 0], .int .i64 0]) ∧ Below w.heap.size w w' := by
  have c0 : ((n : Int) == 0) = false := by rw [beq_eq_false_iff_ne]; omega
  have hn8 := (s[p + n]'hpn).toNat_lt
  have c58 : (((s[p + n]'hpn).toNat : Int) != 58) = false := nq_u8 _ 58 h58
  clear h58
  have c1 : ((k : Int) == 0) = false := by rw [beq_eq_false_iff_ne]; omega
  subst ht
  go_enter Tryd.func15, Tryd.ntmps15
  go_wp2_with fail
  have hz : w.heap.size < (w.alloc (.cells #[.string { data := #[] }, .string { data := #[] }, .string { data := #[] }, .int .i64 0, .int .i64 0] 27)).heap.size := by simp
  have HR := Lib.hid (Holds.made w 27 #[.string { data := #[] }, .string { data := #[] }, .string { data := #[] }, .int .i64 0, .int .i64 0])
  have HB := Lib.hid ((Below.refl w.heap.size w).alloc (Nat.le_refl _) (.cells #[.string { data := #[] }, .string { data := #[] }, .string { data := #[] }, .int .i64 0, .int .i64 0] 27))
  generalize w.alloc (.cells #[.string { data := #[] }, .string { data := #[] }, .string { data := #[] }, .int .i64 0, .int .i64 0] 27) = w1 at *
  refine (H9.out _).mono ?_
  rintro e' y ⟨rfl, hy⟩
  rw [hy]
  clear hy
  go_wp2_with fail
  refine (H32.out _).mono ?_
  rintro e' y ⟨rfl, hy⟩
  rw [hy]
  clear hy
  go_wp2_with fail
  refine (H11.out _).mono ?_
  rintro e' w2 ⟨rfl, hb⟩
  have HR2 := Lib.hid (HR.out.under hb HR.out.lt)
  have HB2 := Lib.hid (chain (Nat.le_refl _) HB.out hb)
  have hz2 : w.heap.size < w2.heap.size := by have := hb.size; omega
  clear hb HR HB hz
  have HR := HR2
  have HB := HB2
  have hz := hz2
  clear HR2 HB2 hz2
  go_wp2_with fail
  refine (H33.out _).mono ?_
  rintro e' w3 ⟨rfl, hb⟩
  have HR3 := Lib.hid (HR.out.under hb HR.out.lt)
  have HB3 := Lib.hid (chain (Nat.le_refl _) HB.out hb)
  have hz3 : w.heap.size < w3.heap.size := by have := hb.size; omega
  clear hb HR HB hz
  have HR := HR3
  have HB := HB3
  have hz := hz3
  clear HR3 HB3 hz3
  go_wp2_with fail
  have HG := Lib.hid (Holds.made w3 27 #[.string Z, .string Y, .string { data := #[] }, .int .i64 p, .int .i64 ((q : Int) + k)])
  have HR2 : Hid (Holds (w3.alloc (.cells #[.string Z, .string Y, .string { data := #[] }, .int .i64 p, .int .i64 ((q : Int) + k)] 27)) w.heap.size 27 #[.string { data := #[] }, .string { data := #[] }, .string { data := #[] }, .int .i64 0, .int .i64 0]) := HR.out.under ((Below.refl w3.heap.size w3).alloc (Nat.le_refl _) _) hz
  have HB2 : Hid (Below w.heap.size w (w3.alloc (.cells #[.string Z, .string Y, .string { data := #[] }, .int .i64 p, .int .i64 ((q : Int) + k)] 27))) := HB.out.alloc (Nat.le_of_lt hz) _
  have hz2 : w.heap.size < (w3.alloc (.cells #[.string Z, .string Y, .string { data := #[] }, .int .i64 p, .int .i64 ((q : Int) + k)] 27)).heap.size := by simp; omega
  have hgl := hz
  have hgr : w.heap.size ≠ w3.heap.size := by omega
  clear HR HB hz
  have HR := HR2
  have HB := HB2
  have hz := hz2
  clear HR2 HB2 hz2
  generalize w3.alloc (.cells #[.string Z, .string Y, .string { data := #[] }, .int .i64 p, .int .i64 ((q : Int) + k)] 27) = w4 at *
  have g4 : w4.cell? ⟨w3.heap.size, 4, none⟩ = some (.int .i64 ((q : Int) + k)) := HG.out.at 4
  refine (H34.out _).mono ?_
  rintro e' y ⟨rfl, hy⟩
  rw [hy]
  clear hy
  go_wp2_with fail
  refine (H32b.out _).mono ?_
  rintro e' y ⟨rfl, hy⟩
  rw [hy]
  clear hy
  go_wp2_with fail
  refine (H13.out _).mono ?_
  rintro e' w5 ⟨rfl, hb⟩
  have HR5 := Lib.hid (HR.out.under hb HR.out.lt)
  have HB5 := Lib.hid (chain (Nat.le_refl _) HB.out hb)
  have hz5 : w.heap.size < w5.heap.size := by have := hb.size; omega
  have HG5 := Lib.hid (HG.out.under hb HG.out.lt)
  clear hb HR HB hz HG
  have HR := HR5
  have HB := HB5
  have hz := hz5
  clear HR5 HB5 hz5
  have HG := HG5
  clear HG5
  have x0 : w5.cell? ⟨w.heap.size, 0, none⟩ = _ := HR.out.at 0
  have x1 : w5.cell? ⟨w.heap.size, 1, none⟩ = _ := HR.out.at 1
  have x2 : w5.cell? ⟨w.heap.size, 2, none⟩ = _ := HR.out.at 2
  have x3 : w5.cell? ⟨w.heap.size, 3, none⟩ = _ := HR.out.at 3
  have x4 : w5.cell? ⟨w.heap.size, 4, none⟩ = _ := HR.out.at 4
  have v0 : w5.frozen? ⟨w.heap.size, 0, none⟩ = false := HR.out.soft 0
  have v1 : w5.frozen? ⟨w.heap.size, 1, none⟩ = false := HR.out.soft 1
  have v2 : w5.frozen? ⟨w.heap.size, 2, none⟩ = false := HR.out.soft 2
  have v3 : w5.frozen? ⟨w.heap.size, 3, none⟩ = false := HR.out.soft 3
  have v4 : w5.frozen? ⟨w.heap.size, 4, none⟩ = false := HR.out.soft 4
  go_wp2_with fail
  exact bodyPost_ret (v := .tuple #[.agg #[.string { data := #[] }, .string { data := #[] }, .string { data := #[] }, .int .i64 0, .int .i64 0], .int .i64 0]) (by simp [results, Tryd.results15, go_sem, x0, x1, x2, x3, x4]) rfl ⟨rfl, (((((HB.out.setCell (by exact Nat.le_refl _) _).setCell (by exact Nat.le_refl _) _).setCell (by exact Nat.le_refl _) _).setCell (by exact Nat.le_refl _) _).setCell (by exact Nat.le_refl _) _)⟩

set_option maxHeartbeats 8000000 in
theorem rdef_t2g (s X Y Z V : ByteArray) (p n q k f b t : Nat) (hs : s.size ≤ 1000000) (hpn : p + n < s.size) (hn : 0 < n) (h58 : (s[p + n]'hpn) = 58) (hq : q ≤ s.size) (hqk : q + k ≤ s.size) (hk : 0 < k) (hb : q + k < b) (hbs : b ≤ s.size) (hf : f ≤ s.size) (ht : 0 < t) (hbt : b + t ≤ s.size)
    (H9 : Hid (∀ W, Calls Tryd.prog 9 #[.string s, .int .i64 p] W fun r w' => r = .returned (.tuple #[.string X, .int .i64 n]) ∧ w' = W))
    (H32 : Hid (∀ W, Calls Tryd.prog 32 #[.string s, .int .i64 ((p : Int) + n + 1)] W fun r w' => r = .returned (.int .i64 q) ∧ w' = W))
    (H11 : Hid (∀ W, Calls Tryd.prog 11 #[.string s, .int .i64 q] W fun r w' => r = .returned (.tuple #[.string Y, .int .i64 k]) ∧ Below W.heap.size W w'))
    (H33 : Hid (∀ W, Calls Tryd.prog 33 #[.string X] W fun r w' => r = .returned (.string Z) ∧ Below W.heap.size W w'))
    (H34 : Hid (∀ W, Calls Tryd.prog 34 #[.string s, .int .i64 ((q : Int) + k)] W fun r w' => r = .returned (.int .i64 f) ∧ w' = W))
    (H32b : Hid (∀ W, Calls Tryd.prog 32 #[.string s, .int .i64 ((q : Int) + k)] W fun r w' => r = .returned (.int .i64 b) ∧ w' = W))
    (H13 : Hid (∀ W, Calls Tryd.prog 13 #[.string s, .int .i64 b] W fun r w' => r = .returned (.tuple #[.string V, .int .i64 t]) ∧ Below W.heap.size W w'))
    (H34e : Hid (∀ W, Calls Tryd.prog 34 #[.string s, .int .i64 ((b : Int) + t)] W fun r w' => r = .returned (.int .i64 (-1)) ∧ w' = W))
    (w : World) : Calls Tryd.prog 15 #[.string s, .int .i64 p] w fun r w' => r = .returned (.tuple #[.agg #[.string Z, .string Y, .string { data := #[] }, .int .i64 p, .int .i64 ((q : Int) + k)], .int .i64 ((f : Int) - p)]) ∧ Below w.heap.size w w' := by
  have c0 : ((n : Int) == 0) = false := by rw [beq_eq_false_iff_ne]; omega
  have hn8 := (s[p + n]'hpn).toNat_lt
  have c58 : (((s[p + n]'hpn).toNat : Int) != 58) = false := nq_u8 _ 58 h58
  clear h58
  have c1 : ((k : Int) == 0) = false := by rw [beq_eq_false_iff_ne]; omega
  go_enter Tryd.func15, Tryd.ntmps15
  go_wp2_with fail
  have hz : w.heap.size < (w.alloc (.cells #[.string { data := #[] }, .string { data := #[] }, .string { data := #[] }, .int .i64 0, .int .i64 0] 27)).heap.size := by simp
  have HR := Lib.hid (Holds.made w 27 #[.string { data := #[] }, .string { data := #[] }, .string { data := #[] }, .int .i64 0, .int .i64 0])
  have HB := Lib.hid ((Below.refl w.heap.size w).alloc (Nat.le_refl _) (.cells #[.string { data := #[] }, .string { data := #[] }, .string { data := #[] }, .int .i64 0, .int .i64 0] 27))
  generalize w.alloc (.cells #[.string { data := #[] }, .string { data := #[] }, .string { data := #[] }, .int .i64 0, .int .i64 0] 27) = w1 at *
  refine (H9.out _).mono ?_
  rintro e' y ⟨rfl, hy⟩
  rw [hy]
  clear hy
  go_wp2_with fail
  refine (H32.out _).mono ?_
  rintro e' y ⟨rfl, hy⟩
  rw [hy]
  clear hy
  go_wp2_with fail
  refine (H11.out _).mono ?_
  rintro e' w2 ⟨rfl, hb⟩
  have HR2 := Lib.hid (HR.out.under hb HR.out.lt)
  have HB2 := Lib.hid (chain (Nat.le_refl _) HB.out hb)
  have hz2 : w.heap.size < w2.heap.size := by have := hb.size; omega
  clear hb HR HB hz
  have HR := HR2
  have HB := HB2
  have hz := hz2
  clear HR2 HB2 hz2
  go_wp2_with fail
  refine (H33.out _).mono ?_
  rintro e' w3 ⟨rfl, hb⟩
  have HR3 := Lib.hid (HR.out.under hb HR.out.lt)
  have HB3 := Lib.hid (chain (Nat.le_refl _) HB.out hb)
  have hz3 : w.heap.size < w3.heap.size := by have := hb.size; omega
  clear hb HR HB hz
  have HR := HR3
  have HB := HB3
  have hz := hz3
  clear HR3 HB3 hz3
  go_wp2_with fail
  have HG := Lib.hid (Holds.made w3 27 #[.string Z, .string Y, .string { data := #[] }, .int .i64 p, .int .i64 ((q : Int) + k)])
  have HR2 : Hid (Holds (w3.alloc (.cells #[.string Z, .string Y, .string { data := #[] }, .int .i64 p, .int .i64 ((q : Int) + k)] 27)) w.heap.size 27 #[.string { data := #[] }, .string { data := #[] }, .string { data := #[] }, .int .i64 0, .int .i64 0]) := HR.out.under ((Below.refl w3.heap.size w3).alloc (Nat.le_refl _) _) hz
  have HB2 : Hid (Below w.heap.size w (w3.alloc (.cells #[.string Z, .string Y, .string { data := #[] }, .int .i64 p, .int .i64 ((q : Int) + k)] 27))) := HB.out.alloc (Nat.le_of_lt hz) _
  have hz2 : w.heap.size < (w3.alloc (.cells #[.string Z, .string Y, .string { data := #[] }, .int .i64 p, .int .i64 ((q : Int) + k)] 27)).heap.size := by simp; omega
  have hgl := hz
  have hgr : w.heap.size ≠ w3.heap.size := by omega
  clear HR HB hz
  have HR := HR2
  have HB := HB2
  have hz := hz2
  clear HR2 HB2 hz2
  generalize w3.alloc (.cells #[.string Z, .string Y, .string { data := #[] }, .int .i64 p, .int .i64 ((q : Int) + k)] 27) = w4 at *
  have g4 : w4.cell? ⟨w3.heap.size, 4, none⟩ = some (.int .i64 ((q : Int) + k)) := HG.out.at 4
  refine (H34.out _).mono ?_
  rintro e' y ⟨rfl, hy⟩
  rw [hy]
  clear hy
  go_wp2_with fail
  refine (H32b.out _).mono ?_
  rintro e' y ⟨rfl, hy⟩
  rw [hy]
  clear hy
  go_wp2_with fail
  refine (H13.out _).mono ?_
  rintro e' w5 ⟨rfl, hb⟩
  have HR5 := Lib.hid (HR.out.under hb HR.out.lt)
  have HB5 := Lib.hid (chain (Nat.le_refl _) HB.out hb)
  have hz5 : w.heap.size < w5.heap.size := by have := hb.size; omega
  have HG5 := Lib.hid (HG.out.under hb HG.out.lt)
  clear hb HR HB hz HG
  have HR := HR5
  have HB := HB5
  have hz := hz5
  clear HR5 HB5 hz5
  have HG := HG5
  clear HG5
  clear g4
  have g4 : w5.cell? ⟨w3.heap.size, 4, none⟩ = some (.int .i64 ((q : Int) + k)) := HG.out.at 4
  go_wp2_with fail
  refine (H34e.out _).mono ?_
  rintro e' y ⟨rfl, hy⟩
  rw [hy]
  clear hy
  clear g4
  have g0 : w5.cell? ⟨w3.heap.size, 0, none⟩ = _ := HG.out.at 0
  have g1 : w5.cell? ⟨w3.heap.size, 1, none⟩ = _ := HG.out.at 1
  have g2 : w5.cell? ⟨w3.heap.size, 2, none⟩ = _ := HG.out.at 2
  have g3 : w5.cell? ⟨w3.heap.size, 3, none⟩ = _ := HG.out.at 3
  have g4 : w5.cell? ⟨w3.heap.size, 4, none⟩ = _ := HG.out.at 4
  have y0 : w5.frozen? ⟨w3.heap.size, 0, none⟩ = false := HG.out.soft 0
  have y1 : w5.frozen? ⟨w3.heap.size, 1, none⟩ = false := HG.out.soft 1
  have y2 : w5.frozen? ⟨w3.heap.size, 2, none⟩ = false := HG.out.soft 2
  have y3 : w5.frozen? ⟨w3.heap.size, 3, none⟩ = false := HG.out.soft 3
  have y4 : w5.frozen? ⟨w3.heap.size, 4, none⟩ = false := HG.out.soft 4
  have x0 : w5.cell? ⟨w.heap.size, 0, none⟩ = _ := HR.out.at 0
  have x1 : w5.cell? ⟨w.heap.size, 1, none⟩ = _ := HR.out.at 1
  have x2 : w5.cell? ⟨w.heap.size, 2, none⟩ = _ := HR.out.at 2
  have x3 : w5.cell? ⟨w.heap.size, 3, none⟩ = _ := HR.out.at 3
  have x4 : w5.cell? ⟨w.heap.size, 4, none⟩ = _ := HR.out.at 4
  have v0 : w5.frozen? ⟨w.heap.size, 0, none⟩ = false := HR.out.soft 0
  have v1 : w5.frozen? ⟨w.heap.size, 1, none⟩ = false := HR.out.soft 1
  have v2 : w5.frozen? ⟨w.heap.size, 2, none⟩ = false := HR.out.soft 2
  have v3 : w5.frozen? ⟨w.heap.size, 3, none⟩ = false := HR.out.soft 3
  have v4 : w5.frozen? ⟨w.heap.size, 4, none⟩ = false := HR.out.soft 4
  go_wp2_with fail
  exact bodyPost_ret (v := .tuple #[.agg #[.string Z, .string Y, .string { data := #[] }, .int .i64 p, .int .i64 ((q : Int) + k)], .int .i64 ((f : Int) - p)]) (by simp [results, Tryd.results15, go_sem, x0, x1, x2, x3, x4]) rfl ⟨rfl, (((((HB.out.setCell (by exact Nat.le_refl _) _).setCell (by exact Nat.le_refl _) _).setCell (by exact Nat.le_refl _) _).setCell (by exact Nat.le_refl _) _).setCell (by exact Nat.le_refl _) _)⟩

set_option maxHeartbeats 8000000 in
theorem rdef_t2n (s X Y Z V : ByteArray) (p n q k b t : Nat) (hs : s.size ≤ 1000000) (hpn : p + n < s.size) (hn : 0 < n) (h58 : (s[p + n]'hpn) = 58) (hq : q ≤ s.size) (hqk : q + k ≤ s.size) (hk : 0 < k) (hb : q + k < b) (hbs : b ≤ s.size) (ht : 0 < t) (hbt : b + t ≤ s.size)
    (H9 : Hid (∀ W, Calls Tryd.prog 9 #[.string s, .int .i64 p] W fun r w' => r = .returned (.tuple #[.string X, .int .i64 n]) ∧ w' = W))
    (H32 : Hid (∀ W, Calls Tryd.prog 32 #[.string s, .int .i64 ((p : Int) + n + 1)] W fun r w' => r = .returned (.int .i64 q) ∧ w' = W))
    (H11 : Hid (∀ W, Calls Tryd.prog 11 #[.string s, .int .i64 q] W fun r w' => r = .returned (.tuple #[.string Y, .int .i64 k]) ∧ Below W.heap.size W w'))
    (H33 : Hid (∀ W, Calls Tryd.prog 33 #[.string X] W fun r w' => r = .returned (.string Z) ∧ Below W.heap.size W w'))
    (H34 : Hid (∀ W, Calls Tryd.prog 34 #[.string s, .int .i64 ((q : Int) + k)] W fun r w' => r = .returned (.int .i64 (-1)) ∧ w' = W))
    (H32b : Hid (∀ W, Calls Tryd.prog 32 #[.string s, .int .i64 ((q : Int) + k)] W fun r w' => r = .returned (.int .i64 b) ∧ w' = W))
    (H13 : Hid (∀ W, Calls Tryd.prog 13 #[.string s, .int .i64 b] W fun r w' => r = .returned (.tuple #[.string V, .int .i64 t]) ∧ Below W.heap.size W w'))
    (H34e : Hid (∀ W, Calls Tryd.prog 34 #[.string s, .int .i64 ((b : Int) + t)] W fun r w' => r = .returned (.int .i64 (-1)) ∧ w' = W))
    (w : World) : Calls Tryd.prog 15 #[.string s, .int .i64 p] w fun r w' => r = .returned (.tuple #[.agg #[.string { data := #[] }, .string { data := #[] }, .string { data := #[] }, .int .i64 0, .int .i64 0], .int .i64 0]) ∧ Below w.heap.size w w' := by
  have c0 : ((n : Int) == 0) = false := by rw [beq_eq_false_iff_ne]; omega
  have hn8 := (s[p + n]'hpn).toNat_lt
  have c58 : (((s[p + n]'hpn).toNat : Int) != 58) = false := nq_u8 _ 58 h58
  clear h58
  have c1 : ((k : Int) == 0) = false := by rw [beq_eq_false_iff_ne]; omega
  go_enter Tryd.func15, Tryd.ntmps15
  go_wp2_with fail
  have hz : w.heap.size < (w.alloc (.cells #[.string { data := #[] }, .string { data := #[] }, .string { data := #[] }, .int .i64 0, .int .i64 0] 27)).heap.size := by simp
  have HR := Lib.hid (Holds.made w 27 #[.string { data := #[] }, .string { data := #[] }, .string { data := #[] }, .int .i64 0, .int .i64 0])
  have HB := Lib.hid ((Below.refl w.heap.size w).alloc (Nat.le_refl _) (.cells #[.string { data := #[] }, .string { data := #[] }, .string { data := #[] }, .int .i64 0, .int .i64 0] 27))
  generalize w.alloc (.cells #[.string { data := #[] }, .string { data := #[] }, .string { data := #[] }, .int .i64 0, .int .i64 0] 27) = w1 at *
  refine (H9.out _).mono ?_
  rintro e' y ⟨rfl, hy⟩
  rw [hy]
  clear hy
  go_wp2_with fail
  refine (H32.out _).mono ?_
  rintro e' y ⟨rfl, hy⟩
  rw [hy]
  clear hy
  go_wp2_with fail
  refine (H11.out _).mono ?_
  rintro e' w2 ⟨rfl, hb⟩
  have HR2 := Lib.hid (HR.out.under hb HR.out.lt)
  have HB2 := Lib.hid (chain (Nat.le_refl _) HB.out hb)
  have hz2 : w.heap.size < w2.heap.size := by have := hb.size; omega
  clear hb HR HB hz
  have HR := HR2
  have HB := HB2
  have hz := hz2
  clear HR2 HB2 hz2
  go_wp2_with fail
  refine (H33.out _).mono ?_
  rintro e' w3 ⟨rfl, hb⟩
  have HR3 := Lib.hid (HR.out.under hb HR.out.lt)
  have HB3 := Lib.hid (chain (Nat.le_refl _) HB.out hb)
  have hz3 : w.heap.size < w3.heap.size := by have := hb.size; omega
  clear hb HR HB hz
  have HR := HR3
  have HB := HB3
  have hz := hz3
  clear HR3 HB3 hz3
  go_wp2_with fail
  have HG := Lib.hid (Holds.made w3 27 #[.string Z, .string Y, .string { data := #[] }, .int .i64 p, .int .i64 ((q : Int) + k)])
  have HR2 : Hid (Holds (w3.alloc (.cells #[.string Z, .string Y, .string { data := #[] }, .int .i64 p, .int .i64 ((q : Int) + k)] 27)) w.heap.size 27 #[.string { data := #[] }, .string { data := #[] }, .string { data := #[] }, .int .i64 0, .int .i64 0]) := HR.out.under ((Below.refl w3.heap.size w3).alloc (Nat.le_refl _) _) hz
  have HB2 : Hid (Below w.heap.size w (w3.alloc (.cells #[.string Z, .string Y, .string { data := #[] }, .int .i64 p, .int .i64 ((q : Int) + k)] 27))) := HB.out.alloc (Nat.le_of_lt hz) _
  have hz2 : w.heap.size < (w3.alloc (.cells #[.string Z, .string Y, .string { data := #[] }, .int .i64 p, .int .i64 ((q : Int) + k)] 27)).heap.size := by simp; omega
  have hgl := hz
  have hgr : w.heap.size ≠ w3.heap.size := by omega
  clear HR HB hz
  have HR := HR2
  have HB := HB2
  have hz := hz2
  clear HR2 HB2 hz2
  generalize w3.alloc (.cells #[.string Z, .string Y, .string { data := #[] }, .int .i64 p, .int .i64 ((q : Int) + k)] 27) = w4 at *
  have g4 : w4.cell? ⟨w3.heap.size, 4, none⟩ = some (.int .i64 ((q : Int) + k)) := HG.out.at 4
  refine (H34.out _).mono ?_
  rintro e' y ⟨rfl, hy⟩
  rw [hy]
  clear hy
  go_wp2_with fail
  refine (H32b.out _).mono ?_
  rintro e' y ⟨rfl, hy⟩
  rw [hy]
  clear hy
  go_wp2_with fail
  refine (H13.out _).mono ?_
  rintro e' w5 ⟨rfl, hb⟩
  have HR5 := Lib.hid (HR.out.under hb HR.out.lt)
  have HB5 := Lib.hid (chain (Nat.le_refl _) HB.out hb)
  have hz5 : w.heap.size < w5.heap.size := by have := hb.size; omega
  have HG5 := Lib.hid (HG.out.under hb HG.out.lt)
  clear hb HR HB hz HG
  have HR := HR5
  have HB := HB5
  have hz := hz5
  clear HR5 HB5 hz5
  have HG := HG5
  clear HG5
  clear g4
  have g4 : w5.cell? ⟨w3.heap.size, 4, none⟩ = some (.int .i64 ((q : Int) + k)) := HG.out.at 4
  go_wp2_with fail
  refine (H34e.out _).mono ?_
  rintro e' y ⟨rfl, hy⟩
  rw [hy]
  clear hy
  have x0 : w5.cell? ⟨w.heap.size, 0, none⟩ = _ := HR.out.at 0
  have x1 : w5.cell? ⟨w.heap.size, 1, none⟩ = _ := HR.out.at 1
  have x2 : w5.cell? ⟨w.heap.size, 2, none⟩ = _ := HR.out.at 2
  have x3 : w5.cell? ⟨w.heap.size, 3, none⟩ = _ := HR.out.at 3
  have x4 : w5.cell? ⟨w.heap.size, 4, none⟩ = _ := HR.out.at 4
  have v0 : w5.frozen? ⟨w.heap.size, 0, none⟩ = false := HR.out.soft 0
  have v1 : w5.frozen? ⟨w.heap.size, 1, none⟩ = false := HR.out.soft 1
  have v2 : w5.frozen? ⟨w.heap.size, 2, none⟩ = false := HR.out.soft 2
  have v3 : w5.frozen? ⟨w.heap.size, 3, none⟩ = false := HR.out.soft 3
  have v4 : w5.frozen? ⟨w.heap.size, 4, none⟩ = false := HR.out.soft 4
  go_wp2_with fail
  exact bodyPost_ret (v := .tuple #[.agg #[.string { data := #[] }, .string { data := #[] }, .string { data := #[] }, .int .i64 0, .int .i64 0], .int .i64 0]) (by simp [results, Tryd.results15, go_sem, x0, x1, x2, x3, x4]) rfl ⟨rfl, (((((HB.out.setCell (by exact Nat.le_refl _) _).setCell (by exact Nat.le_refl _) _).setCell (by exact Nat.le_refl _) _).setCell (by exact Nat.le_refl _) _).setCell (by exact Nat.le_refl _) _)⟩

set_option maxHeartbeats 8000000 in
theorem rdef_e (s X Y Z V : ByteArray) (p n q k b t g : Nat) (pl : Int) (hs : s.size ≤ 1000000) (hpn : p + n < s.size) (hn : 0 < n) (h58 : (s[p + n]'hpn) = 58) (hq : q ≤ s.size) (hqk : q + k ≤ s.size) (hk : 0 < k) (hb : q + k < b) (hbs : b ≤ s.size) (ht : 0 < t) (hbt : b + t ≤ s.size) (hg : g ≤ s.size)
    (H9 : Hid (∀ W, Calls Tryd.prog 9 #[.string s, .int .i64 p] W fun r w' => r = .returned (.tuple #[.string X, .int .i64 n]) ∧ w' = W))
    (H32 : Hid (∀ W, Calls Tryd.prog 32 #[.string s, .int .i64 ((p : Int) + n + 1)] W fun r w' => r = .returned (.int .i64 q) ∧ w' = W))
    (H11 : Hid (∀ W, Calls Tryd.prog 11 #[.string s, .int .i64 q] W fun r w' => r = .returned (.tuple #[.string Y, .int .i64 k]) ∧ Below W.heap.size W w'))
    (H33 : Hid (∀ W, Calls Tryd.prog 33 #[.string X] W fun r w' => r = .returned (.string Z) ∧ Below W.heap.size W w'))
    (H34 : Hid (∀ W, Calls Tryd.prog 34 #[.string s, .int .i64 ((q : Int) + k)] W fun r w' => r = .returned (.int .i64 pl) ∧ w' = W))
    (H32b : Hid (∀ W, Calls Tryd.prog 32 #[.string s, .int .i64 ((q : Int) + k)] W fun r w' => r = .returned (.int .i64 b) ∧ w' = W))
    (H13 : Hid (∀ W, Calls Tryd.prog 13 #[.string s, .int .i64 b] W fun r w' => r = .returned (.tuple #[.string V, .int .i64 t]) ∧ Below W.heap.size W w'))
    (H34e : Hid (∀ W, Calls Tryd.prog 34 #[.string s, .int .i64 ((b : Int) + t)] W fun r w' => r = .returned (.int .i64 g) ∧ w' = W))
    (w : World) : Calls Tryd.prog 15 #[.string s, .int .i64 p] w fun r w' => r = .returned (.tuple #[.agg #[.string Z, .string Y, .string V, .int .i64 p, .int .i64 ((b : Int) + t)], .int .i64 ((g : Int) - p)]) ∧ Below w.heap.size w w' := by
  have c0 : ((n : Int) == 0) = false := by rw [beq_eq_false_iff_ne]; omega
  have hn8 := (s[p + n]'hpn).toNat_lt
  have c58 : (((s[p + n]'hpn).toNat : Int) != 58) = false := nq_u8 _ 58 h58
  clear h58
  have c1 : ((k : Int) == 0) = false := by rw [beq_eq_false_iff_ne]; omega
  go_enter Tryd.func15, Tryd.ntmps15
  go_wp2_with fail
  have hz : w.heap.size < (w.alloc (.cells #[.string { data := #[] }, .string { data := #[] }, .string { data := #[] }, .int .i64 0, .int .i64 0] 27)).heap.size := by simp
  have HR := Lib.hid (Holds.made w 27 #[.string { data := #[] }, .string { data := #[] }, .string { data := #[] }, .int .i64 0, .int .i64 0])
  have HB := Lib.hid ((Below.refl w.heap.size w).alloc (Nat.le_refl _) (.cells #[.string { data := #[] }, .string { data := #[] }, .string { data := #[] }, .int .i64 0, .int .i64 0] 27))
  generalize w.alloc (.cells #[.string { data := #[] }, .string { data := #[] }, .string { data := #[] }, .int .i64 0, .int .i64 0] 27) = w1 at *
  refine (H9.out _).mono ?_
  rintro e' y ⟨rfl, hy⟩
  rw [hy]
  clear hy
  go_wp2_with fail
  refine (H32.out _).mono ?_
  rintro e' y ⟨rfl, hy⟩
  rw [hy]
  clear hy
  go_wp2_with fail
  refine (H11.out _).mono ?_
  rintro e' w2 ⟨rfl, hb⟩
  have HR2 := Lib.hid (HR.out.under hb HR.out.lt)
  have HB2 := Lib.hid (chain (Nat.le_refl _) HB.out hb)
  have hz2 : w.heap.size < w2.heap.size := by have := hb.size; omega
  clear hb HR HB hz
  have HR := HR2
  have HB := HB2
  have hz := hz2
  clear HR2 HB2 hz2
  go_wp2_with fail
  refine (H33.out _).mono ?_
  rintro e' w3 ⟨rfl, hb⟩
  have HR3 := Lib.hid (HR.out.under hb HR.out.lt)
  have HB3 := Lib.hid (chain (Nat.le_refl _) HB.out hb)
  have hz3 : w.heap.size < w3.heap.size := by have := hb.size; omega
  clear hb HR HB hz
  have HR := HR3
  have HB := HB3
  have hz := hz3
  clear HR3 HB3 hz3
  go_wp2_with fail
  have HG := Lib.hid (Holds.made w3 27 #[.string Z, .string Y, .string { data := #[] }, .int .i64 p, .int .i64 ((q : Int) + k)])
  have HR2 : Hid (Holds (w3.alloc (.cells #[.string Z, .string Y, .string { data := #[] }, .int .i64 p, .int .i64 ((q : Int) + k)] 27)) w.heap.size 27 #[.string { data := #[] }, .string { data := #[] }, .string { data := #[] }, .int .i64 0, .int .i64 0]) := HR.out.under ((Below.refl w3.heap.size w3).alloc (Nat.le_refl _) _) hz
  have HB2 : Hid (Below w.heap.size w (w3.alloc (.cells #[.string Z, .string Y, .string { data := #[] }, .int .i64 p, .int .i64 ((q : Int) + k)] 27))) := HB.out.alloc (Nat.le_of_lt hz) _
  have hz2 : w.heap.size < (w3.alloc (.cells #[.string Z, .string Y, .string { data := #[] }, .int .i64 p, .int .i64 ((q : Int) + k)] 27)).heap.size := by simp; omega
  have hgl := hz
  have hgr : w.heap.size ≠ w3.heap.size := by omega
  clear HR HB hz
  have HR := HR2
  have HB := HB2
  have hz := hz2
  clear HR2 HB2 hz2
  generalize w3.alloc (.cells #[.string Z, .string Y, .string { data := #[] }, .int .i64 p, .int .i64 ((q : Int) + k)] 27) = w4 at *
  have g4 : w4.cell? ⟨w3.heap.size, 4, none⟩ = some (.int .i64 ((q : Int) + k)) := HG.out.at 4
  refine (H34.out _).mono ?_
  rintro e' y ⟨rfl, hy⟩
  rw [hy]
  clear hy
  go_wp2_with fail
  refine (H32b.out _).mono ?_
  rintro e' y ⟨rfl, hy⟩
  rw [hy]
  clear hy
  go_wp2_with fail
  refine (H13.out _).mono ?_
  rintro e' w5 ⟨rfl, hb⟩
  have HR5 := Lib.hid (HR.out.under hb HR.out.lt)
  have HB5 := Lib.hid (chain (Nat.le_refl _) HB.out hb)
  have hz5 : w.heap.size < w5.heap.size := by have := hb.size; omega
  have HG5 := Lib.hid (HG.out.under hb HG.out.lt)
  clear hb HR HB hz HG
  have HR := HR5
  have HB := HB5
  have hz := hz5
  clear HR5 HB5 hz5
  have HG := HG5
  clear HG5
  clear g4
  have g4 : w5.cell? ⟨w3.heap.size, 4, none⟩ = some (.int .i64 ((q : Int) + k)) := HG.out.at 4
  go_wp2_with fail
  refine (H34e.out _).mono ?_
  rintro e' y ⟨rfl, hy⟩
  rw [hy]
  clear hy
  clear g4
  have g0 : w5.cell? ⟨w3.heap.size, 0, none⟩ = _ := HG.out.at 0
  have g1 : w5.cell? ⟨w3.heap.size, 1, none⟩ = _ := HG.out.at 1
  have g2 : w5.cell? ⟨w3.heap.size, 2, none⟩ = _ := HG.out.at 2
  have g3 : w5.cell? ⟨w3.heap.size, 3, none⟩ = _ := HG.out.at 3
  have g4 : w5.cell? ⟨w3.heap.size, 4, none⟩ = _ := HG.out.at 4
  have y0 : w5.frozen? ⟨w3.heap.size, 0, none⟩ = false := HG.out.soft 0
  have y1 : w5.frozen? ⟨w3.heap.size, 1, none⟩ = false := HG.out.soft 1
  have y2 : w5.frozen? ⟨w3.heap.size, 2, none⟩ = false := HG.out.soft 2
  have y3 : w5.frozen? ⟨w3.heap.size, 3, none⟩ = false := HG.out.soft 3
  have y4 : w5.frozen? ⟨w3.heap.size, 4, none⟩ = false := HG.out.soft 4
  have x0 : w5.cell? ⟨w.heap.size, 0, none⟩ = _ := HR.out.at 0
  have x1 : w5.cell? ⟨w.heap.size, 1, none⟩ = _ := HR.out.at 1
  have x2 : w5.cell? ⟨w.heap.size, 2, none⟩ = _ := HR.out.at 2
  have x3 : w5.cell? ⟨w.heap.size, 3, none⟩ = _ := HR.out.at 3
  have x4 : w5.cell? ⟨w.heap.size, 4, none⟩ = _ := HR.out.at 4
  have v0 : w5.frozen? ⟨w.heap.size, 0, none⟩ = false := HR.out.soft 0
  have v1 : w5.frozen? ⟨w.heap.size, 1, none⟩ = false := HR.out.soft 1
  have v2 : w5.frozen? ⟨w.heap.size, 2, none⟩ = false := HR.out.soft 2
  have v3 : w5.frozen? ⟨w.heap.size, 3, none⟩ = false := HR.out.soft 3
  have v4 : w5.frozen? ⟨w.heap.size, 4, none⟩ = false := HR.out.soft 4
  go_wp2_with fail
  exact bodyPost_ret (v := .tuple #[.agg #[.string Z, .string Y, .string V, .int .i64 p, .int .i64 ((b : Int) + t)], .int .i64 ((g : Int) - p)]) (by simp [results, Tryd.results15, go_sem, x0, x1, x2, x3, x4]) rfl ⟨rfl, (((((((HB.out.setCell (by exact Nat.le_of_lt hgl) _).setCell (by exact Nat.le_of_lt hgl) _).setCell (by exact Nat.le_refl _) _).setCell (by exact Nat.le_refl _) _).setCell (by exact Nat.le_refl _) _).setCell (by exact Nat.le_refl _) _).setCell (by exact Nat.le_refl _) _)⟩

end Go.Proofs.YtfoheffbapifpaaDoor
