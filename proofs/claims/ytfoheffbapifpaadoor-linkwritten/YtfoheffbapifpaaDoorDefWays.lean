/-
  PROVED: contracts of link.Define, a way at a time: what it answers, by what the calls within it answer. Conditions: the text has at most 1000000 bytes, and the places that the calls tell are within it.
-/
import Derived.Test.YtfoheffbapifpaaDoorBehind
import Derived.Test.YtfoheffbapifpaaDoorFold
namespace Go.Proofs.YtfoheffbapifpaaDoor
open Go.ChangeShapes Go.WideShapes Go.ChangeAt Go.RowKit Go.Sort
set_option linter.unusedVariables false

/-- Block g holds just these cells, none of them frozen. -/
def Holds (w : World) (g : Nat) (t : TypeId) (cs : Array Value) : Prop := w.heap[g]? = some (.cells cs t (0, 0))
theorem Holds.lt {w : World} {g : Nat} {t : TypeId} {cs : Array Value} (h : Holds w g t cs) : g < w.heap.size := (Array.getElem?_eq_some_iff.1 h).1
theorem Holds.at {w : World} {g : Nat} {t : TypeId} {cs : Array Value} (h : Holds w g t cs) (i : Nat) : w.cell? ⟨g, i, none⟩ = cs[i]? := cell_of_row w g i cs t (0, 0) h
theorem Holds.soft {w : World} {g : Nat} {t : TypeId} {cs : Array Value} (h : Holds w g t cs) (i : Nat) : w.frozen? ⟨g, i, none⟩ = false := by
  unfold Holds at h
  simp [World.frozen?, h]
theorem Holds.under {w w' : World} {g B : Nat} {t : TypeId} {cs : Array Value} (h : Holds w g t cs) (hb : Below B w w') (hg : g < B) : Holds w' g t cs := (hb.block g hg).trans h
theorem Holds.made (w : World) (t : TypeId) (cs : Array Value) : Holds (w.alloc (.cells cs t)) w.heap.size t cs := heap_alloc_new w _

set_option maxHeartbeats 8000000 in
theorem def_a (s X : ByteArray) (p : Int) (n : Nat) (hs : s.size ≤ 1000000) (hn : n = 0)
    (H8 : Hid (∀ W, Calls Tryd.prog 8 #[.string s, .int .i64 p] W fun r w' => r = .returned (.tuple #[.string X, .int .i64 n]) ∧ Below W.heap.size W w'))
    (w : World) : Calls Tryd.prog 14 #[.string s, .int .i64 p] w fun r w' => r = .returned (.tuple #[.agg #[.string { data := #[] }, .string { data := #[] }, .string { data := #[] }, .int .i64 0, .int .i64 0], .int .i64 0]) ∧ Below w.heap.size w w' := by
  subst hn
  go_enter Tryd.func14, Tryd.ntmps14
  go_wp2_with fail
  refine (H8.out _).mono ?_
  rintro e' w1 ⟨rfl, hb⟩
  have hz : w.heap.size < w1.heap.size := by have := hb.size; simp at this; omega
  have HR : Hid (Holds w1 w.heap.size 27 #[.string { data := #[] }, .string { data := #[] }, .string { data := #[] }, .int .i64 0, .int .i64 0]) := Holds.under (Holds.made w 27 _) hb (by simp)
  have HB : Hid (Below w.heap.size w w1) := ((Below.refl _ _).alloc (Nat.le_refl _) _).trans (hb.mono (by simp))
  clear hb
  have x0 : w1.cell? ⟨w.heap.size, 0, none⟩ = _ := HR.out.at 0
  have x1 : w1.cell? ⟨w.heap.size, 1, none⟩ = _ := HR.out.at 1
  have x2 : w1.cell? ⟨w.heap.size, 2, none⟩ = _ := HR.out.at 2
  have x3 : w1.cell? ⟨w.heap.size, 3, none⟩ = _ := HR.out.at 3
  have x4 : w1.cell? ⟨w.heap.size, 4, none⟩ = _ := HR.out.at 4
  have v0 : w1.frozen? ⟨w.heap.size, 0, none⟩ = false := HR.out.soft 0
  have v1 : w1.frozen? ⟨w.heap.size, 1, none⟩ = false := HR.out.soft 1
  have v2 : w1.frozen? ⟨w.heap.size, 2, none⟩ = false := HR.out.soft 2
  have v3 : w1.frozen? ⟨w.heap.size, 3, none⟩ = false := HR.out.soft 3
  have v4 : w1.frozen? ⟨w.heap.size, 4, none⟩ = false := HR.out.soft 4
  go_wp2_with fail
  exact bodyPost_ret (v := .tuple #[.agg #[.string { data := #[] }, .string { data := #[] }, .string { data := #[] }, .int .i64 0, .int .i64 0], .int .i64 0]) (by simp [results, Tryd.results14, go_sem, x0, x1, x2, x3, x4]) rfl ⟨rfl, (((((HB.out.setCell (by exact Nat.le_refl _) _).setCell (by exact Nat.le_refl _) _).setCell (by exact Nat.le_refl _) _).setCell (by exact Nat.le_refl _) _).setCell (by exact Nat.le_refl _) _)⟩

set_option maxHeartbeats 8000000 in
theorem def_b (s X : ByteArray) (p n : Nat) (hs : s.size ≤ 1000000) (hpn : p + n ≤ s.size) (hn : 0 < n)
    (H8 : Hid (∀ W, Calls Tryd.prog 8 #[.string s, .int .i64 p] W fun r w' => r = .returned (.tuple #[.string X, .int .i64 n]) ∧ Below W.heap.size W w'))
    (H25 : Hid (∀ W, Calls Tryd.prog 25 #[.string (s.extract (p + n) s.size), .string { data := #[58] }] W fun r w' => r = .returned (.bool false) ∧ w' = W))
    (w : World) : Calls Tryd.prog 14 #[.string s, .int .i64 p] w fun r w' => r = .returned (.tuple #[.agg #[.string { data := #[] }, .string { data := #[] }, .string { data := #[] }, .int .i64 0, .int .i64 0], .int .i64 0]) ∧ Below w.heap.size w w' := by
  have c0 : ((n : Int) == 0) = false := by rw [beq_eq_false_iff_ne]; omega
  go_enter Tryd.func14, Tryd.ntmps14
  go_wp2_with fail
  refine (H8.out _).mono ?_
  rintro e' w1 ⟨rfl, hb⟩
  have hz : w.heap.size < w1.heap.size := by have := hb.size; simp at this; omega
  have HR : Hid (Holds w1 w.heap.size 27 #[.string { data := #[] }, .string { data := #[] }, .string { data := #[] }, .int .i64 0, .int .i64 0]) := Holds.under (Holds.made w 27 _) hb (by simp)
  have HB : Hid (Below w.heap.size w w1) := ((Below.refl _ _).alloc (Nat.le_refl _) _).trans (hb.mono (by simp))
  clear hb
  go_wp2_with fail
  refine (H25.out _).mono ?_
  rintro e' y ⟨rfl, hy⟩
  rw [hy]
  clear hy
  have x0 : w1.cell? ⟨w.heap.size, 0, none⟩ = _ := HR.out.at 0
  have x1 : w1.cell? ⟨w.heap.size, 1, none⟩ = _ := HR.out.at 1
  have x2 : w1.cell? ⟨w.heap.size, 2, none⟩ = _ := HR.out.at 2
  have x3 : w1.cell? ⟨w.heap.size, 3, none⟩ = _ := HR.out.at 3
  have x4 : w1.cell? ⟨w.heap.size, 4, none⟩ = _ := HR.out.at 4
  have v0 : w1.frozen? ⟨w.heap.size, 0, none⟩ = false := HR.out.soft 0
  have v1 : w1.frozen? ⟨w.heap.size, 1, none⟩ = false := HR.out.soft 1
  have v2 : w1.frozen? ⟨w.heap.size, 2, none⟩ = false := HR.out.soft 2
  have v3 : w1.frozen? ⟨w.heap.size, 3, none⟩ = false := HR.out.soft 3
  have v4 : w1.frozen? ⟨w.heap.size, 4, none⟩ = false := HR.out.soft 4
  go_wp2_with fail
  exact bodyPost_ret (v := .tuple #[.agg #[.string { data := #[] }, .string { data := #[] }, .string { data := #[] }, .int .i64 0, .int .i64 0], .int .i64 0]) (by simp [results, Tryd.results14, go_sem, x0, x1, x2, x3, x4]) rfl ⟨rfl, (((((HB.out.setCell (by exact Nat.le_refl _) _).setCell (by exact Nat.le_refl _) _).setCell (by exact Nat.le_refl _) _).setCell (by exact Nat.le_refl _) _).setCell (by exact Nat.le_refl _) _)⟩

set_option maxHeartbeats 8000000 in
theorem def_c (s X : ByteArray) (p n q : Nat) (hs : s.size ≤ 1000000) (hpn : p + n + 1 ≤ s.size) (hn : 0 < n)
    (H8 : Hid (∀ W, Calls Tryd.prog 8 #[.string s, .int .i64 p] W fun r w' => r = .returned (.tuple #[.string X, .int .i64 n]) ∧ Below W.heap.size W w'))
    (H25 : Hid (∀ W, Calls Tryd.prog 25 #[.string (s.extract (p + n) s.size), .string { data := #[58] }] W fun r w' => r = .returned (.bool true) ∧ w' = W))
    (H29 : Hid (∀ W, Calls Tryd.prog 29 #[.string s, .int .i64 ((p : Int) + n + 1)] W fun r w' => r = .returned (.tuple #[.int .i64 q, .bool false]) ∧ Below W.heap.size W w'))
    (w : World) : Calls Tryd.prog 14 #[.string s, .int .i64 p] w fun r w' => r = .returned (.tuple #[.agg #[.string { data := #[] }, .string { data := #[] }, .string { data := #[] }, .int .i64 0, .int .i64 0], .int .i64 0]) ∧ Below w.heap.size w w' := by
  have c0 : ((n : Int) == 0) = false := by rw [beq_eq_false_iff_ne]; omega
  go_enter Tryd.func14, Tryd.ntmps14
  go_wp2_with fail
  refine (H8.out _).mono ?_
  rintro e' w1 ⟨rfl, hb⟩
  have hz : w.heap.size < w1.heap.size := by have := hb.size; simp at this; omega
  have HR : Hid (Holds w1 w.heap.size 27 #[.string { data := #[] }, .string { data := #[] }, .string { data := #[] }, .int .i64 0, .int .i64 0]) := Holds.under (Holds.made w 27 _) hb (by simp)
  have HB : Hid (Below w.heap.size w w1) := ((Below.refl _ _).alloc (Nat.le_refl _) _).trans (hb.mono (by simp))
  clear hb
  go_wp2_with fail
  refine (H25.out _).mono ?_
  rintro e' y ⟨rfl, hy⟩
  rw [hy]
  clear hy
  go_wp2_with fail
  refine (H29.out _).mono ?_
  rintro e' w2 ⟨rfl, hb⟩
  have HR2 := Lib.hid (HR.out.under hb HR.out.lt)
  have HB2 := Lib.hid (chain (Nat.le_refl _) HB.out hb)
  have hz2 : w.heap.size < w2.heap.size := by have := hb.size; omega
  clear hb HR HB hz
  have HR := HR2
  have HB := HB2
  have hz := hz2
  clear HR2 HB2 hz2
  have x0 : w2.cell? ⟨w.heap.size, 0, none⟩ = _ := HR.out.at 0
  have x1 : w2.cell? ⟨w.heap.size, 1, none⟩ = _ := HR.out.at 1
  have x2 : w2.cell? ⟨w.heap.size, 2, none⟩ = _ := HR.out.at 2
  have x3 : w2.cell? ⟨w.heap.size, 3, none⟩ = _ := HR.out.at 3
  have x4 : w2.cell? ⟨w.heap.size, 4, none⟩ = _ := HR.out.at 4
  have v0 : w2.frozen? ⟨w.heap.size, 0, none⟩ = false := HR.out.soft 0
  have v1 : w2.frozen? ⟨w.heap.size, 1, none⟩ = false := HR.out.soft 1
  have v2 : w2.frozen? ⟨w.heap.size, 2, none⟩ = false := HR.out.soft 2
  have v3 : w2.frozen? ⟨w.heap.size, 3, none⟩ = false := HR.out.soft 3
  have v4 : w2.frozen? ⟨w.heap.size, 4, none⟩ = false := HR.out.soft 4
  go_wp2_with fail
  exact bodyPost_ret (v := .tuple #[.agg #[.string { data := #[] }, .string { data := #[] }, .string { data := #[] }, .int .i64 0, .int .i64 0], .int .i64 0]) (by simp [results, Tryd.results14, go_sem, x0, x1, x2, x3, x4]) rfl ⟨rfl, (((((HB.out.setCell (by exact Nat.le_refl _) _).setCell (by exact Nat.le_refl _) _).setCell (by exact Nat.le_refl _) _).setCell (by exact Nat.le_refl _) _).setCell (by exact Nat.le_refl _) _)⟩

set_option maxHeartbeats 8000000 in
theorem def_d (s X Y : ByteArray) (p n q k : Nat) (hs : s.size ≤ 1000000) (hpn : p + n + 1 ≤ s.size) (hn : 0 < n) (hq : q ≤ s.size) (hk : k = 0)
    (H8 : Hid (∀ W, Calls Tryd.prog 8 #[.string s, .int .i64 p] W fun r w' => r = .returned (.tuple #[.string X, .int .i64 n]) ∧ Below W.heap.size W w'))
    (H25 : Hid (∀ W, Calls Tryd.prog 25 #[.string (s.extract (p + n) s.size), .string { data := #[58] }] W fun r w' => r = .returned (.bool true) ∧ w' = W))
    (H29 : Hid (∀ W, Calls Tryd.prog 29 #[.string s, .int .i64 ((p : Int) + n + 1)] W fun r w' => r = .returned (.tuple #[.int .i64 q, .bool true]) ∧ Below W.heap.size W w'))
    (H10 : Hid (∀ W, Calls Tryd.prog 10 #[.string s, .int .i64 q] W fun r w' => r = .returned (.tuple #[.string Y, .int .i64 k]) ∧ Below W.heap.size W w'))
    (w : World) : Calls Tryd.prog 14 #[.string s, .int .i64 p] w fun r w' => r = .returned (.tuple #[.agg #[.string { data := #[] }, .string { data := #[] }, .string { data := #[] }, .int .i64 0, .int .i64 0], .int .i64 0]) ∧ Below w.heap.size w w' := by
  have c0 : ((n : Int) == 0) = false := by rw [beq_eq_false_iff_ne]; omega
  subst hk
  go_enter Tryd.func14, Tryd.ntmps14
  go_wp2_with fail
  refine (H8.out _).mono ?_
  rintro e' w1 ⟨rfl, hb⟩
  have hz : w.heap.size < w1.heap.size := by have := hb.size; simp at this; omega
  have HR : Hid (Holds w1 w.heap.size 27 #[.string { data := #[] }, .string { data := #[] }, .string { data := #[] }, .int .i64 0, .int .i64 0]) := Holds.under (Holds.made w 27 _) hb (by simp)
  have HB : Hid (Below w.heap.size w w1) := ((Below.refl _ _).alloc (Nat.le_refl _) _).trans (hb.mono (by simp))
  clear hb
  go_wp2_with fail
  refine (H25.out _).mono ?_
  rintro e' y ⟨rfl, hy⟩
  rw [hy]
  clear hy
  go_wp2_with fail
  refine (H29.out _).mono ?_
  rintro e' w2 ⟨rfl, hb⟩
  have HR2 := Lib.hid (HR.out.under hb HR.out.lt)
  have HB2 := Lib.hid (chain (Nat.le_refl _) HB.out hb)
  have hz2 : w.heap.size < w2.heap.size := by have := hb.size; omega
  clear hb HR HB hz
  have HR := HR2
  have HB := HB2
  have hz := hz2
  clear HR2 HB2 hz2
  go_wp2_with fail
  refine (H10.out _).mono ?_
  rintro e' w3 ⟨rfl, hb⟩
  have HR3 := Lib.hid (HR.out.under hb HR.out.lt)
  have HB3 := Lib.hid (chain (Nat.le_refl _) HB.out hb)
  have hz3 : w.heap.size < w3.heap.size := by have := hb.size; omega
  clear hb HR HB hz
  have HR := HR3
  have HB := HB3
  have hz := hz3
  clear HR3 HB3 hz3
  have x0 : w3.cell? ⟨w.heap.size, 0, none⟩ = _ := HR.out.at 0
  have x1 : w3.cell? ⟨w.heap.size, 1, none⟩ = _ := HR.out.at 1
  have x2 : w3.cell? ⟨w.heap.size, 2, none⟩ = _ := HR.out.at 2
  have x3 : w3.cell? ⟨w.heap.size, 3, none⟩ = _ := HR.out.at 3
  have x4 : w3.cell? ⟨w.heap.size, 4, none⟩ = _ := HR.out.at 4
  have v0 : w3.frozen? ⟨w.heap.size, 0, none⟩ = false := HR.out.soft 0
  have v1 : w3.frozen? ⟨w.heap.size, 1, none⟩ = false := HR.out.soft 1
  have v2 : w3.frozen? ⟨w.heap.size, 2, none⟩ = false := HR.out.soft 2
  have v3 : w3.frozen? ⟨w.heap.size, 3, none⟩ = false := HR.out.soft 3
  have v4 : w3.frozen? ⟨w.heap.size, 4, none⟩ = false := HR.out.soft 4
  go_wp2_with fail
  exact bodyPost_ret (v := .tuple #[.agg #[.string { data := #[] }, .string { data := #[] }, .string { data := #[] }, .int .i64 0, .int .i64 0], .int .i64 0]) (by simp [results, Tryd.results14, go_sem, x0, x1, x2, x3, x4]) rfl ⟨rfl, (((((HB.out.setCell (by exact Nat.le_refl _) _).setCell (by exact Nat.le_refl _) _).setCell (by exact Nat.le_refl _) _).setCell (by exact Nat.le_refl _) _).setCell (by exact Nat.le_refl _) _)⟩

set_option maxHeartbeats 8000000 in
theorem def_e (s X Y Z V : ByteArray) (p n q k e f : Nat) (hs : s.size ≤ 1000000) (hpn : p + n + 1 ≤ s.size) (hn : 0 < n) (hq : q ≤ s.size) (hqk : q + k ≤ s.size) (hk : 0 < k) (he : 0 < e) (hes : e ≤ s.size) (hf : f ≤ s.size)
    (H8 : Hid (∀ W, Calls Tryd.prog 8 #[.string s, .int .i64 p] W fun r w' => r = .returned (.tuple #[.string X, .int .i64 n]) ∧ Below W.heap.size W w'))
    (H25 : Hid (∀ W, Calls Tryd.prog 25 #[.string (s.extract (p + n) s.size), .string { data := #[58] }] W fun r w' => r = .returned (.bool true) ∧ w' = W))
    (H29 : Hid (∀ W, Calls Tryd.prog 29 #[.string s, .int .i64 ((p : Int) + n + 1)] W fun r w' => r = .returned (.tuple #[.int .i64 q, .bool true]) ∧ Below W.heap.size W w'))
    (H10 : Hid (∀ W, Calls Tryd.prog 10 #[.string s, .int .i64 q] W fun r w' => r = .returned (.tuple #[.string Y, .int .i64 k]) ∧ Below W.heap.size W w'))
    (H17 : Hid (∀ W, Calls Tryd.prog 17 #[.string X] W fun r w' => r = .returned (.string Z) ∧ Below W.heap.size W w'))
    (H30 : Hid (∀ W, Calls Tryd.prog 30 #[.string s, .int .i64 ((q : Int) + k)] W fun r w' => r = .returned (.tuple #[.string V, .int .i64 e]) ∧ Below W.heap.size W w'))
    (H31e : Hid (∀ W, Calls Tryd.prog 31 #[.string s, .int .i64 e] W fun r w' => r = .returned (.tuple #[.int .i64 f, .bool true]) ∧ Below W.heap.size W w'))
    (w : World) : Calls Tryd.prog 14 #[.string s, .int .i64 p] w fun r w' => r = .returned (.tuple #[.agg #[.string Z, .string Y, .string V, .int .i64 p, .int .i64 e], .int .i64 ((f : Int) - p)]) ∧ Below w.heap.size w w' := by
  have c0 : ((n : Int) == 0) = false := by rw [beq_eq_false_iff_ne]; omega
  have c1 : ((k : Int) == 0) = false := by rw [beq_eq_false_iff_ne]; omega
  go_enter Tryd.func14, Tryd.ntmps14
  go_wp2_with fail
  refine (H8.out _).mono ?_
  rintro e' w1 ⟨rfl, hb⟩
  have hz : w.heap.size < w1.heap.size := by have := hb.size; simp at this; omega
  have HR : Hid (Holds w1 w.heap.size 27 #[.string { data := #[] }, .string { data := #[] }, .string { data := #[] }, .int .i64 0, .int .i64 0]) := Holds.under (Holds.made w 27 _) hb (by simp)
  have HB : Hid (Below w.heap.size w w1) := ((Below.refl _ _).alloc (Nat.le_refl _) _).trans (hb.mono (by simp))
  clear hb
  go_wp2_with fail
  refine (H25.out _).mono ?_
  rintro e' y ⟨rfl, hy⟩
  rw [hy]
  clear hy
  go_wp2_with fail
  refine (H29.out _).mono ?_
  rintro e' w2 ⟨rfl, hb⟩
  have HR2 := Lib.hid (HR.out.under hb HR.out.lt)
  have HB2 := Lib.hid (chain (Nat.le_refl _) HB.out hb)
  have hz2 : w.heap.size < w2.heap.size := by have := hb.size; omega
  clear hb HR HB hz
  have HR := HR2
  have HB := HB2
  have hz := hz2
  clear HR2 HB2 hz2
  go_wp2_with fail
  refine (H10.out _).mono ?_
  rintro e' w3 ⟨rfl, hb⟩
  have HR3 := Lib.hid (HR.out.under hb HR.out.lt)
  have HB3 := Lib.hid (chain (Nat.le_refl _) HB.out hb)
  have hz3 : w.heap.size < w3.heap.size := by have := hb.size; omega
  clear hb HR HB hz
  have HR := HR3
  have HB := HB3
  have hz := hz3
  clear HR3 HB3 hz3
  go_wp2_with fail
  refine (H17.out _).mono ?_
  rintro e' w4 ⟨rfl, hb⟩
  have HR4 := Lib.hid (HR.out.under hb HR.out.lt)
  have HB4 := Lib.hid (chain (Nat.le_refl _) HB.out hb)
  have hz4 : w.heap.size < w4.heap.size := by have := hb.size; omega
  clear hb HR HB hz
  have HR := HR4
  have HB := HB4
  have hz := hz4
  clear HR4 HB4 hz4
  go_wp2_with fail
  refine (H30.out _).mono ?_
  rintro e' w5 ⟨rfl, hb⟩
  have HG5 : Hid (Holds w5 w4.heap.size 27 #[.string Z, .string Y, .string { data := #[] }, .int .i64 p, .int .i64 ((q : Int) + k)]) := Holds.under (Holds.made w4 27 _) hb (by simp)
  have HR5 : Hid (Holds w5 w.heap.size 27 #[.string { data := #[] }, .string { data := #[] }, .string { data := #[] }, .int .i64 0, .int .i64 0]) := (HR.out.under ((Below.refl w4.heap.size w4).alloc (Nat.le_refl _) _) hz).under hb (by simp; omega)
  have HB5 : Hid (Below w.heap.size w w5) := chain (Nat.le_refl _) (HB.out.alloc (Nat.le_of_lt hz) _) hb
  have hz5 : w.heap.size < w5.heap.size := by have := hb.size; simp at this; omega
  have hgr : w.heap.size ≠ w4.heap.size := by omega
  have hgl := hz
  clear hb HR HB hz
  have HR := HR5
  have HB := HB5
  have hz := hz5
  clear HR5 HB5 hz5
  have HG := HG5
  clear HG5
  have g4 : w5.cell? ⟨w4.heap.size, 4, none⟩ = some (.int .i64 ((q : Int) + k)) := HG.out.at 4
  go_wp2_with fail
  refine (H31e.out _).mono ?_
  rintro e' w6 ⟨rfl, hb⟩
  have HR6 := Lib.hid (HR.out.under hb HR.out.lt)
  have HB6 := Lib.hid (chain (Nat.le_refl _) HB.out hb)
  have hz6 : w.heap.size < w6.heap.size := by have := hb.size; omega
  have HG6 := Lib.hid (HG.out.under hb HG.out.lt)
  clear hb HR HB hz HG
  have HR := HR6
  have HB := HB6
  have hz := hz6
  clear HR6 HB6 hz6
  have HG := HG6
  clear HG6
  clear g4
  have g0 : w6.cell? ⟨w4.heap.size, 0, none⟩ = _ := HG.out.at 0
  have g1 : w6.cell? ⟨w4.heap.size, 1, none⟩ = _ := HG.out.at 1
  have g2 : w6.cell? ⟨w4.heap.size, 2, none⟩ = _ := HG.out.at 2
  have g3 : w6.cell? ⟨w4.heap.size, 3, none⟩ = _ := HG.out.at 3
  have g4 : w6.cell? ⟨w4.heap.size, 4, none⟩ = _ := HG.out.at 4
  have y0 : w6.frozen? ⟨w4.heap.size, 0, none⟩ = false := HG.out.soft 0
  have y1 : w6.frozen? ⟨w4.heap.size, 1, none⟩ = false := HG.out.soft 1
  have y2 : w6.frozen? ⟨w4.heap.size, 2, none⟩ = false := HG.out.soft 2
  have y3 : w6.frozen? ⟨w4.heap.size, 3, none⟩ = false := HG.out.soft 3
  have y4 : w6.frozen? ⟨w4.heap.size, 4, none⟩ = false := HG.out.soft 4
  have x0 : w6.cell? ⟨w.heap.size, 0, none⟩ = _ := HR.out.at 0
  have x1 : w6.cell? ⟨w.heap.size, 1, none⟩ = _ := HR.out.at 1
  have x2 : w6.cell? ⟨w.heap.size, 2, none⟩ = _ := HR.out.at 2
  have x3 : w6.cell? ⟨w.heap.size, 3, none⟩ = _ := HR.out.at 3
  have x4 : w6.cell? ⟨w.heap.size, 4, none⟩ = _ := HR.out.at 4
  have v0 : w6.frozen? ⟨w.heap.size, 0, none⟩ = false := HR.out.soft 0
  have v1 : w6.frozen? ⟨w.heap.size, 1, none⟩ = false := HR.out.soft 1
  have v2 : w6.frozen? ⟨w.heap.size, 2, none⟩ = false := HR.out.soft 2
  have v3 : w6.frozen? ⟨w.heap.size, 3, none⟩ = false := HR.out.soft 3
  have v4 : w6.frozen? ⟨w.heap.size, 4, none⟩ = false := HR.out.soft 4
  go_wp2_with fail
  exact bodyPost_ret (v := .tuple #[.agg #[.string Z, .string Y, .string V, .int .i64 p, .int .i64 e], .int .i64 ((f : Int) - p)]) (by simp [results, Tryd.results14, go_sem, x0, x1, x2, x3, x4]) rfl ⟨rfl, (((((((HB.out.setCell (by exact Nat.le_of_lt hgl) _).setCell (by exact Nat.le_of_lt hgl) _).setCell (by exact Nat.le_refl _) _).setCell (by exact Nat.le_refl _) _).setCell (by exact Nat.le_refl _) _).setCell (by exact Nat.le_refl _) _).setCell (by exact Nat.le_refl _) _)⟩

set_option maxHeartbeats 8000000 in
theorem def_fg (s X Y Z V : ByteArray) (p n q k e f : Nat) (hs : s.size ≤ 1000000) (hpn : p + n + 1 ≤ s.size) (hn : 0 < n) (hq : q ≤ s.size) (hqk : q + k ≤ s.size) (hk : 0 < k) (he : 0 < e) (hes : e ≤ s.size) (hf : f ≤ s.size)
    (H8 : Hid (∀ W, Calls Tryd.prog 8 #[.string s, .int .i64 p] W fun r w' => r = .returned (.tuple #[.string X, .int .i64 n]) ∧ Below W.heap.size W w'))
    (H25 : Hid (∀ W, Calls Tryd.prog 25 #[.string (s.extract (p + n) s.size), .string { data := #[58] }] W fun r w' => r = .returned (.bool true) ∧ w' = W))
    (H29 : Hid (∀ W, Calls Tryd.prog 29 #[.string s, .int .i64 ((p : Int) + n + 1)] W fun r w' => r = .returned (.tuple #[.int .i64 q, .bool true]) ∧ Below W.heap.size W w'))
    (H10 : Hid (∀ W, Calls Tryd.prog 10 #[.string s, .int .i64 q] W fun r w' => r = .returned (.tuple #[.string Y, .int .i64 k]) ∧ Below W.heap.size W w'))
    (H17 : Hid (∀ W, Calls Tryd.prog 17 #[.string X] W fun r w' => r = .returned (.string Z) ∧ Below W.heap.size W w'))
    (H30 : Hid (∀ W, Calls Tryd.prog 30 #[.string s, .int .i64 ((q : Int) + k)] W fun r w' => r = .returned (.tuple #[.string V, .int .i64 e]) ∧ Below W.heap.size W w'))
    (H31e : Hid (∀ W, Calls Tryd.prog 31 #[.string s, .int .i64 e] W fun r w' => r = .returned (.tuple #[.int .i64 0, .bool false]) ∧ Below W.heap.size W w'))
    (H31 : Hid (∀ W, Calls Tryd.prog 31 #[.string s, .int .i64 ((q : Int) + k)] W fun r w' => r = .returned (.tuple #[.int .i64 f, .bool true]) ∧ Below W.heap.size W w'))
    (w : World) : Calls Tryd.prog 14 #[.string s, .int .i64 p] w fun r w' => r = .returned (.tuple #[.agg #[.string Z, .string Y, .string { data := #[] }, .int .i64 p, .int .i64 ((q : Int) + k)], .int .i64 ((f : Int) - p)]) ∧ Below w.heap.size w w' := by
  have c0 : ((n : Int) == 0) = false := by rw [beq_eq_false_iff_ne]; omega
  have c1 : ((k : Int) == 0) = false := by rw [beq_eq_false_iff_ne]; omega
  go_enter Tryd.func14, Tryd.ntmps14
  go_wp2_with fail
  refine (H8.out _).mono ?_
  rintro e' w1 ⟨rfl, hb⟩
  have hz : w.heap.size < w1.heap.size := by have := hb.size; simp at this; omega
  have HR : Hid (Holds w1 w.heap.size 27 #[.string { data := #[] }, .string { data := #[] }, .string { data := #[] }, .int .i64 0, .int .i64 0]) := Holds.under (Holds.made w 27 _) hb (by simp)
  have HB : Hid (Below w.heap.size w w1) := ((Below.refl _ _).alloc (Nat.le_refl _) _).trans (hb.mono (by simp))
  clear hb
  go_wp2_with fail
  refine (H25.out _).mono ?_
  rintro e' y ⟨rfl, hy⟩
  rw [hy]
  clear hy
  go_wp2_with fail
  refine (H29.out _).mono ?_
  rintro e' w2 ⟨rfl, hb⟩
  have HR2 := Lib.hid (HR.out.under hb HR.out.lt)
  have HB2 := Lib.hid (chain (Nat.le_refl _) HB.out hb)
  have hz2 : w.heap.size < w2.heap.size := by have := hb.size; omega
  clear hb HR HB hz
  have HR := HR2
  have HB := HB2
  have hz := hz2
  clear HR2 HB2 hz2
  go_wp2_with fail
  refine (H10.out _).mono ?_
  rintro e' w3 ⟨rfl, hb⟩
  have HR3 := Lib.hid (HR.out.under hb HR.out.lt)
  have HB3 := Lib.hid (chain (Nat.le_refl _) HB.out hb)
  have hz3 : w.heap.size < w3.heap.size := by have := hb.size; omega
  clear hb HR HB hz
  have HR := HR3
  have HB := HB3
  have hz := hz3
  clear HR3 HB3 hz3
  go_wp2_with fail
  refine (H17.out _).mono ?_
  rintro e' w4 ⟨rfl, hb⟩
  have HR4 := Lib.hid (HR.out.under hb HR.out.lt)
  have HB4 := Lib.hid (chain (Nat.le_refl _) HB.out hb)
  have hz4 : w.heap.size < w4.heap.size := by have := hb.size; omega
  clear hb HR HB hz
  have HR := HR4
  have HB := HB4
  have hz := hz4
  clear HR4 HB4 hz4
  go_wp2_with fail
  refine (H30.out _).mono ?_
  rintro e' w5 ⟨rfl, hb⟩
  have HG5 : Hid (Holds w5 w4.heap.size 27 #[.string Z, .string Y, .string { data := #[] }, .int .i64 p, .int .i64 ((q : Int) + k)]) := Holds.under (Holds.made w4 27 _) hb (by simp)
  have HR5 : Hid (Holds w5 w.heap.size 27 #[.string { data := #[] }, .string { data := #[] }, .string { data := #[] }, .int .i64 0, .int .i64 0]) := (HR.out.under ((Below.refl w4.heap.size w4).alloc (Nat.le_refl _) _) hz).under hb (by simp; omega)
  have HB5 : Hid (Below w.heap.size w w5) := chain (Nat.le_refl _) (HB.out.alloc (Nat.le_of_lt hz) _) hb
  have hz5 : w.heap.size < w5.heap.size := by have := hb.size; simp at this; omega
  have hgr : w.heap.size ≠ w4.heap.size := by omega
  have hgl := hz
  clear hb HR HB hz
  have HR := HR5
  have HB := HB5
  have hz := hz5
  clear HR5 HB5 hz5
  have HG := HG5
  clear HG5
  have g4 : w5.cell? ⟨w4.heap.size, 4, none⟩ = some (.int .i64 ((q : Int) + k)) := HG.out.at 4
  go_wp2_with fail
  refine (H31e.out _).mono ?_
  rintro e' w6 ⟨rfl, hb⟩
  have HR6 := Lib.hid (HR.out.under hb HR.out.lt)
  have HB6 := Lib.hid (chain (Nat.le_refl _) HB.out hb)
  have hz6 : w.heap.size < w6.heap.size := by have := hb.size; omega
  have HG6 := Lib.hid (HG.out.under hb HG.out.lt)
  clear hb HR HB hz HG
  have HR := HR6
  have HB := HB6
  have hz := hz6
  clear HR6 HB6 hz6
  have HG := HG6
  clear HG6
  clear g4
  have g4 : w6.cell? ⟨w4.heap.size, 4, none⟩ = some (.int .i64 ((q : Int) + k)) := HG.out.at 4
  go_wp2_with fail
  refine (H31.out _).mono ?_
  rintro e' w7 ⟨rfl, hb⟩
  have HR7 := Lib.hid (HR.out.under hb HR.out.lt)
  have HB7 := Lib.hid (chain (Nat.le_refl _) HB.out hb)
  have hz7 : w.heap.size < w7.heap.size := by have := hb.size; omega
  have HG7 := Lib.hid (HG.out.under hb HG.out.lt)
  clear hb HR HB hz HG
  have HR := HR7
  have HB := HB7
  have hz := hz7
  clear HR7 HB7 hz7
  have HG := HG7
  clear HG7
  clear g4
  have g0 : w7.cell? ⟨w4.heap.size, 0, none⟩ = _ := HG.out.at 0
  have g1 : w7.cell? ⟨w4.heap.size, 1, none⟩ = _ := HG.out.at 1
  have g2 : w7.cell? ⟨w4.heap.size, 2, none⟩ = _ := HG.out.at 2
  have g3 : w7.cell? ⟨w4.heap.size, 3, none⟩ = _ := HG.out.at 3
  have g4 : w7.cell? ⟨w4.heap.size, 4, none⟩ = _ := HG.out.at 4
  have y0 : w7.frozen? ⟨w4.heap.size, 0, none⟩ = false := HG.out.soft 0
  have y1 : w7.frozen? ⟨w4.heap.size, 1, none⟩ = false := HG.out.soft 1
  have y2 : w7.frozen? ⟨w4.heap.size, 2, none⟩ = false := HG.out.soft 2
  have y3 : w7.frozen? ⟨w4.heap.size, 3, none⟩ = false := HG.out.soft 3
  have y4 : w7.frozen? ⟨w4.heap.size, 4, none⟩ = false := HG.out.soft 4
  have x0 : w7.cell? ⟨w.heap.size, 0, none⟩ = _ := HR.out.at 0
  have x1 : w7.cell? ⟨w.heap.size, 1, none⟩ = _ := HR.out.at 1
  have x2 : w7.cell? ⟨w.heap.size, 2, none⟩ = _ := HR.out.at 2
  have x3 : w7.cell? ⟨w.heap.size, 3, none⟩ = _ := HR.out.at 3
  have x4 : w7.cell? ⟨w.heap.size, 4, none⟩ = _ := HR.out.at 4
  have v0 : w7.frozen? ⟨w.heap.size, 0, none⟩ = false := HR.out.soft 0
  have v1 : w7.frozen? ⟨w.heap.size, 1, none⟩ = false := HR.out.soft 1
  have v2 : w7.frozen? ⟨w.heap.size, 2, none⟩ = false := HR.out.soft 2
  have v3 : w7.frozen? ⟨w.heap.size, 3, none⟩ = false := HR.out.soft 3
  have v4 : w7.frozen? ⟨w.heap.size, 4, none⟩ = false := HR.out.soft 4
  go_wp2_with fail
  exact bodyPost_ret (v := .tuple #[.agg #[.string Z, .string Y, .string { data := #[] }, .int .i64 p, .int .i64 ((q : Int) + k)], .int .i64 ((f : Int) - p)]) (by simp [results, Tryd.results14, go_sem, x0, x1, x2, x3, x4]) rfl ⟨rfl, (((((HB.out.setCell (by exact Nat.le_refl _) _).setCell (by exact Nat.le_refl _) _).setCell (by exact Nat.le_refl _) _).setCell (by exact Nat.le_refl _) _).setCell (by exact Nat.le_refl _) _)⟩

set_option maxHeartbeats 8000000 in
theorem def_fh (s X Y Z V : ByteArray) (p n q k e : Nat) (hs : s.size ≤ 1000000) (hpn : p + n + 1 ≤ s.size) (hn : 0 < n) (hq : q ≤ s.size) (hqk : q + k ≤ s.size) (hk : 0 < k) (he : 0 < e) (hes : e ≤ s.size)
    (H8 : Hid (∀ W, Calls Tryd.prog 8 #[.string s, .int .i64 p] W fun r w' => r = .returned (.tuple #[.string X, .int .i64 n]) ∧ Below W.heap.size W w'))
    (H25 : Hid (∀ W, Calls Tryd.prog 25 #[.string (s.extract (p + n) s.size), .string { data := #[58] }] W fun r w' => r = .returned (.bool true) ∧ w' = W))
    (H29 : Hid (∀ W, Calls Tryd.prog 29 #[.string s, .int .i64 ((p : Int) + n + 1)] W fun r w' => r = .returned (.tuple #[.int .i64 q, .bool true]) ∧ Below W.heap.size W w'))
    (H10 : Hid (∀ W, Calls Tryd.prog 10 #[.string s, .int .i64 q] W fun r w' => r = .returned (.tuple #[.string Y, .int .i64 k]) ∧ Below W.heap.size W w'))
    (H17 : Hid (∀ W, Calls Tryd.prog 17 #[.string X] W fun r w' => r = .returned (.string Z) ∧ Below W.heap.size W w'))
    (H30 : Hid (∀ W, Calls Tryd.prog 30 #[.string s, .int .i64 ((q : Int) + k)] W fun r w' => r = .returned (.tuple #[.string V, .int .i64 e]) ∧ Below W.heap.size W w'))
    (H31e : Hid (∀ W, Calls Tryd.prog 31 #[.string s, .int .i64 e] W fun r w' => r = .returned (.tuple #[.int .i64 0, .bool false]) ∧ Below W.heap.size W w'))
    (H31 : Hid (∀ W, Calls Tryd.prog 31 #[.string s, .int .i64 ((q : Int) + k)] W fun r w' => r = .returned (.tuple #[.int .i64 0, .bool false]) ∧ Below W.heap.size W w'))
    (w : World) : Calls Tryd.prog 14 #[.string s, .int .i64 p] w fun r w' => r = .returned (.tuple #[.agg #[.string { data := #[] }, .string { data := #[] }, .string { data := #[] }, .int .i64 0, .int .i64 0], .int .i64 0]) ∧ Below w.heap.size w w' := by
  have c0 : ((n : Int) == 0) = false := by rw [beq_eq_false_iff_ne]; omega
  have c1 : ((k : Int) == 0) = false := by rw [beq_eq_false_iff_ne]; omega
  go_enter Tryd.func14, Tryd.ntmps14
  go_wp2_with fail
  refine (H8.out _).mono ?_
  rintro e' w1 ⟨rfl, hb⟩
  have hz : w.heap.size < w1.heap.size := by have := hb.size; simp at this; omega
  have HR : Hid (Holds w1 w.heap.size 27 #[.string { data := #[] }, .string { data := #[] }, .string { data := #[] }, .int .i64 0, .int .i64 0]) := Holds.under (Holds.made w 27 _) hb (by simp)
  have HB : Hid (Below w.heap.size w w1) := ((Below.refl _ _).alloc (Nat.le_refl _) _).trans (hb.mono (by simp))
  clear hb
  go_wp2_with fail
  refine (H25.out _).mono ?_
  rintro e' y ⟨rfl, hy⟩
  rw [hy]
  clear hy
  go_wp2_with fail
  refine (H29.out _).mono ?_
  rintro e' w2 ⟨rfl, hb⟩
  have HR2 := Lib.hid (HR.out.under hb HR.out.lt)
  have HB2 := Lib.hid (chain (Nat.le_refl _) HB.out hb)
  have hz2 : w.heap.size < w2.heap.size := by have := hb.size; omega
  clear hb HR HB hz
  have HR := HR2
  have HB := HB2
  have hz := hz2
  clear HR2 HB2 hz2
  go_wp2_with fail
  refine (H10.out _).mono ?_
  rintro e' w3 ⟨rfl, hb⟩
  have HR3 := Lib.hid (HR.out.under hb HR.out.lt)
  have HB3 := Lib.hid (chain (Nat.le_refl _) HB.out hb)
  have hz3 : w.heap.size < w3.heap.size := by have := hb.size; omega
  clear hb HR HB hz
  have HR := HR3
  have HB := HB3
  have hz := hz3
  clear HR3 HB3 hz3
  go_wp2_with fail
  refine (H17.out _).mono ?_
  rintro e' w4 ⟨rfl, hb⟩
  have HR4 := Lib.hid (HR.out.under hb HR.out.lt)
  have HB4 := Lib.hid (chain (Nat.le_refl _) HB.out hb)
  have hz4 : w.heap.size < w4.heap.size := by have := hb.size; omega
  clear hb HR HB hz
  have HR := HR4
  have HB := HB4
  have hz := hz4
  clear HR4 HB4 hz4
  go_wp2_with fail
  refine (H30.out _).mono ?_
  rintro e' w5 ⟨rfl, hb⟩
  have HG5 : Hid (Holds w5 w4.heap.size 27 #[.string Z, .string Y, .string { data := #[] }, .int .i64 p, .int .i64 ((q : Int) + k)]) := Holds.under (Holds.made w4 27 _) hb (by simp)
  have HR5 : Hid (Holds w5 w.heap.size 27 #[.string { data := #[] }, .string { data := #[] }, .string { data := #[] }, .int .i64 0, .int .i64 0]) := (HR.out.under ((Below.refl w4.heap.size w4).alloc (Nat.le_refl _) _) hz).under hb (by simp; omega)
  have HB5 : Hid (Below w.heap.size w w5) := chain (Nat.le_refl _) (HB.out.alloc (Nat.le_of_lt hz) _) hb
  have hz5 : w.heap.size < w5.heap.size := by have := hb.size; simp at this; omega
  have hgr : w.heap.size ≠ w4.heap.size := by omega
  have hgl := hz
  clear hb HR HB hz
  have HR := HR5
  have HB := HB5
  have hz := hz5
  clear HR5 HB5 hz5
  have HG := HG5
  clear HG5
  have g4 : w5.cell? ⟨w4.heap.size, 4, none⟩ = some (.int .i64 ((q : Int) + k)) := HG.out.at 4
  go_wp2_with fail
  refine (H31e.out _).mono ?_
  rintro e' w6 ⟨rfl, hb⟩
  have HR6 := Lib.hid (HR.out.under hb HR.out.lt)
  have HB6 := Lib.hid (chain (Nat.le_refl _) HB.out hb)
  have hz6 : w.heap.size < w6.heap.size := by have := hb.size; omega
  have HG6 := Lib.hid (HG.out.under hb HG.out.lt)
  clear hb HR HB hz HG
  have HR := HR6
  have HB := HB6
  have hz := hz6
  clear HR6 HB6 hz6
  have HG := HG6
  clear HG6
  clear g4
  have g4 : w6.cell? ⟨w4.heap.size, 4, none⟩ = some (.int .i64 ((q : Int) + k)) := HG.out.at 4
  go_wp2_with fail
  refine (H31.out _).mono ?_
  rintro e' w7 ⟨rfl, hb⟩
  have HR7 := Lib.hid (HR.out.under hb HR.out.lt)
  have HB7 := Lib.hid (chain (Nat.le_refl _) HB.out hb)
  have hz7 : w.heap.size < w7.heap.size := by have := hb.size; omega
  have HG7 := Lib.hid (HG.out.under hb HG.out.lt)
  clear hb HR HB hz HG
  have HR := HR7
  have HB := HB7
  have hz := hz7
  clear HR7 HB7 hz7
  have HG := HG7
  clear HG7
  have x0 : w7.cell? ⟨w.heap.size, 0, none⟩ = _ := HR.out.at 0
  have x1 : w7.cell? ⟨w.heap.size, 1, none⟩ = _ := HR.out.at 1
  have x2 : w7.cell? ⟨w.heap.size, 2, none⟩ = _ := HR.out.at 2
  have x3 : w7.cell? ⟨w.heap.size, 3, none⟩ = _ := HR.out.at 3
  have x4 : w7.cell? ⟨w.heap.size, 4, none⟩ = _ := HR.out.at 4
  have v0 : w7.frozen? ⟨w.heap.size, 0, none⟩ = false := HR.out.soft 0
  have v1 : w7.frozen? ⟨w.heap.size, 1, none⟩ = false := HR.out.soft 1
  have v2 : w7.frozen? ⟨w.heap.size, 2, none⟩ = false := HR.out.soft 2
  have v3 : w7.frozen? ⟨w.heap.size, 3, none⟩ = false := HR.out.soft 3
  have v4 : w7.frozen? ⟨w.heap.size, 4, none⟩ = false := HR.out.soft 4
  go_wp2_with fail
  exact bodyPost_ret (v := .tuple #[.agg #[.string { data := #[] }, .string { data := #[] }, .string { data := #[] }, .int .i64 0, .int .i64 0], .int .i64 0]) (by simp [results, Tryd.results14, go_sem, x0, x1, x2, x3, x4]) rfl ⟨rfl, (((((HB.out.setCell (by exact Nat.le_refl _) _).setCell (by exact Nat.le_refl _) _).setCell (by exact Nat.le_refl _) _).setCell (by exact Nat.le_refl _) _).setCell (by exact Nat.le_refl _) _)⟩

set_option maxHeartbeats 8000000 in
theorem def_ng (s X Y Z : ByteArray) (p n q k f : Nat) (hs : s.size ≤ 1000000) (hpn : p + n + 1 ≤ s.size) (hn : 0 < n) (hq : q ≤ s.size) (hqk : q + k ≤ s.size) (hk : 0 < k) (hf : f ≤ s.size)
    (H8 : Hid (∀ W, Calls Tryd.prog 8 #[.string s, .int .i64 p] W fun r w' => r = .returned (.tuple #[.string X, .int .i64 n]) ∧ Below W.heap.size W w'))
    (H25 : Hid (∀ W, Calls Tryd.prog 25 #[.string (s.extract (p + n) s.size), .string { data := #[58] }] W fun r w' => r = .returned (.bool true) ∧ w' = W))
    (H29 : Hid (∀ W, Calls Tryd.prog 29 #[.string s, .int .i64 ((p : Int) + n + 1)] W fun r w' => r = .returned (.tuple #[.int .i64 q, .bool true]) ∧ Below W.heap.size W w'))
    (H10 : Hid (∀ W, Calls Tryd.prog 10 #[.string s, .int .i64 q] W fun r w' => r = .returned (.tuple #[.string Y, .int .i64 k]) ∧ Below W.heap.size W w'))
    (H17 : Hid (∀ W, Calls Tryd.prog 17 #[.string X] W fun r w' => r = .returned (.string Z) ∧ Below W.heap.size W w'))
    (H30 : Hid (∀ W, Calls Tryd.prog 30 #[.string s, .int .i64 ((q : Int) + k)] W fun r w' => r = .returned (.tuple #[.string { data := #[] }, .int .i64 0]) ∧ Below W.heap.size W w'))
    (H31 : Hid (∀ W, Calls Tryd.prog 31 #[.string s, .int .i64 ((q : Int) + k)] W fun r w' => r = .returned (.tuple #[.int .i64 f, .bool true]) ∧ Below W.heap.size W w'))
    (w : World) : Calls Tryd.prog 14 #[.string s, .int .i64 p] w fun r w' => r = .returned (.tuple #[.agg #[.string Z, .string Y, .string { data := #[] }, .int .i64 p, .int .i64 ((q : Int) + k)], .int .i64 ((f : Int) - p)]) ∧ Below w.heap.size w w' := by
  have c0 : ((n : Int) == 0) = false := by rw [beq_eq_false_iff_ne]; omega
  have c1 : ((k : Int) == 0) = false := by rw [beq_eq_false_iff_ne]; omega
  go_enter Tryd.func14, Tryd.ntmps14
  go_wp2_with fail
  refine (H8.out _).mono ?_
  rintro e' w1 ⟨rfl, hb⟩
  have hz : w.heap.size < w1.heap.size := by have := hb.size; simp at this; omega
  have HR : Hid (Holds w1 w.heap.size 27 #[.string { data := #[] }, .string { data := #[] }, .string { data := #[] }, .int .i64 0, .int .i64 0]) := Holds.under (Holds.made w 27 _) hb (by simp)
  have HB : Hid (Below w.heap.size w w1) := ((Below.refl _ _).alloc (Nat.le_refl _) _).trans (hb.mono (by simp))
  clear hb
  go_wp2_with fail
  refine (H25.out _).mono ?_
  rintro e' y ⟨rfl, hy⟩
  rw [hy]
  clear hy
  go_wp2_with fail
  refine (H29.out _).mono ?_
  rintro e' w2 ⟨rfl, hb⟩
  have HR2 := Lib.hid (HR.out.under hb HR.out.lt)
  have HB2 := Lib.hid (chain (Nat.le_refl _) HB.out hb)
  have hz2 : w.heap.size < w2.heap.size := by have := hb.size; omega
  clear hb HR HB hz
  have HR := HR2
  have HB := HB2
  have hz := hz2
  clear HR2 HB2 hz2
  go_wp2_with fail
  refine (H10.out _).mono ?_
  rintro e' w3 ⟨rfl, hb⟩
  have HR3 := Lib.hid (HR.out.under hb HR.out.lt)
  have HB3 := Lib.hid (chain (Nat.le_refl _) HB.out hb)
  have hz3 : w.heap.size < w3.heap.size := by have := hb.size; omega
  clear hb HR HB hz
  have HR := HR3
  have HB := HB3
  have hz := hz3
  clear HR3 HB3 hz3
  go_wp2_with fail
  refine (H17.out _).mono ?_
  rintro e' w4 ⟨rfl, hb⟩
  have HR4 := Lib.hid (HR.out.under hb HR.out.lt)
  have HB4 := Lib.hid (chain (Nat.le_refl _) HB.out hb)
  have hz4 : w.heap.size < w4.heap.size := by have := hb.size; omega
  clear hb HR HB hz
  have HR := HR4
  have HB := HB4
  have hz := hz4
  clear HR4 HB4 hz4
  go_wp2_with fail
  refine (H30.out _).mono ?_
  rintro e' w5 ⟨rfl, hb⟩
  have HG5 : Hid (Holds w5 w4.heap.size 27 #[.string Z, .string Y, .string { data := #[] }, .int .i64 p, .int .i64 ((q : Int) + k)]) := Holds.under (Holds.made w4 27 _) hb (by simp)
  have HR5 : Hid (Holds w5 w.heap.size 27 #[.string { data := #[] }, .string { data := #[] }, .string { data := #[] }, .int .i64 0, .int .i64 0]) := (HR.out.under ((Below.refl w4.heap.size w4).alloc (Nat.le_refl _) _) hz).under hb (by simp; omega)
  have HB5 : Hid (Below w.heap.size w w5) := chain (Nat.le_refl _) (HB.out.alloc (Nat.le_of_lt hz) _) hb
  have hz5 : w.heap.size < w5.heap.size := by have := hb.size; simp at this; omega
  have hgr : w.heap.size ≠ w4.heap.size := by omega
  have hgl := hz
  clear hb HR HB hz
  have HR := HR5
  have HB := HB5
  have hz := hz5
  clear HR5 HB5 hz5
  have HG := HG5
  clear HG5
  have g4 : w5.cell? ⟨w4.heap.size, 4, none⟩ = some (.int .i64 ((q : Int) + k)) := HG.out.at 4
  go_wp2_with fail
  refine (H31.out _).mono ?_
  rintro e' w6 ⟨rfl, hb⟩
  have HR6 := Lib.hid (HR.out.under hb HR.out.lt)
  have HB6 := Lib.hid (chain (Nat.le_refl _) HB.out hb)
  have hz6 : w.heap.size < w6.heap.size := by have := hb.size; omega
  have HG6 := Lib.hid (HG.out.under hb HG.out.lt)
  clear hb HR HB hz HG
  have HR := HR6
  have HB := HB6
  have hz := hz6
  clear HR6 HB6 hz6
  have HG := HG6
  clear HG6
  clear g4
  have g0 : w6.cell? ⟨w4.heap.size, 0, none⟩ = _ := HG.out.at 0
  have g1 : w6.cell? ⟨w4.heap.size, 1, none⟩ = _ := HG.out.at 1
  have g2 : w6.cell? ⟨w4.heap.size, 2, none⟩ = _ := HG.out.at 2
  have g3 : w6.cell? ⟨w4.heap.size, 3, none⟩ = _ := HG.out.at 3
  have g4 : w6.cell? ⟨w4.heap.size, 4, none⟩ = _ := HG.out.at 4
  have y0 : w6.frozen? ⟨w4.heap.size, 0, none⟩ = false := HG.out.soft 0
  have y1 : w6.frozen? ⟨w4.heap.size, 1, none⟩ = false := HG.out.soft 1
  have y2 : w6.frozen? ⟨w4.heap.size, 2, none⟩ = false := HG.out.soft 2
  have y3 : w6.frozen? ⟨w4.heap.size, 3, none⟩ = false := HG.out.soft 3
  have y4 : w6.frozen? ⟨w4.heap.size, 4, none⟩ = false := HG.out.soft 4
  have x0 : w6.cell? ⟨w.heap.size, 0, none⟩ = _ := HR.out.at 0
  have x1 : w6.cell? ⟨w.heap.size, 1, none⟩ = _ := HR.out.at 1
  have x2 : w6.cell? ⟨w.heap.size, 2, none⟩ = _ := HR.out.at 2
  have x3 : w6.cell? ⟨w.heap.size, 3, none⟩ = _ := HR.out.at 3
  have x4 : w6.cell? ⟨w.heap.size, 4, none⟩ = _ := HR.out.at 4
  have v0 : w6.frozen? ⟨w.heap.size, 0, none⟩ = false := HR.out.soft 0
  have v1 : w6.frozen? ⟨w.heap.size, 1, none⟩ = false := HR.out.soft 1
  have v2 : w6.frozen? ⟨w.heap.size, 2, none⟩ = false := HR.out.soft 2
  have v3 : w6.frozen? ⟨w.heap.size, 3, none⟩ = false := HR.out.soft 3
  have v4 : w6.frozen? ⟨w.heap.size, 4, none⟩ = false := HR.out.soft 4
  go_wp2_with fail
  exact bodyPost_ret (v := .tuple #[.agg #[.string Z, .string Y, .string { data := #[] }, .int .i64 p, .int .i64 ((q : Int) + k)], .int .i64 ((f : Int) - p)]) (by simp [results, Tryd.results14, go_sem, x0, x1, x2, x3, x4]) rfl ⟨rfl, (((((HB.out.setCell (by exact Nat.le_refl _) _).setCell (by exact Nat.le_refl _) _).setCell (by exact Nat.le_refl _) _).setCell (by exact Nat.le_refl _) _).setCell (by exact Nat.le_refl _) _)⟩

set_option maxHeartbeats 8000000 in
theorem def_nh (s X Y Z : ByteArray) (p n q k : Nat) (hs : s.size ≤ 1000000) (hpn : p + n + 1 ≤ s.size) (hn : 0 < n) (hq : q ≤ s.size) (hqk : q + k ≤ s.size) (hk : 0 < k)
    (H8 : Hid (∀ W, Calls Tryd.prog 8 #[.string s, .int .i64 p] W fun r w' => r = .returned (.tuple #[.string X, .int .i64 n]) ∧ Below W.heap.size W w'))
    (H25 : Hid (∀ W, Calls Tryd.prog 25 #[.string (s.extract (p + n) s.size), .string { data := #[58] }] W fun r w' => r = .returned (.bool true) ∧ w' = W))
    (H29 : Hid (∀ W, Calls Tryd.prog 29 #[.string s, .int .i64 ((p : Int) + n + 1)] W fun r w' => r = .returned (.tuple #[.int .i64 q, .bool true]) ∧ Below W.heap.size W w'))
    (H10 : Hid (∀ W, Calls Tryd.prog 10 #[.string s, .int .i64 q] W fun r w' => r = .returned (.tuple #[.string Y, .int .i64 k]) ∧ Below W.heap.size W w'))
    (H17 : Hid (∀ W, Calls Tryd.prog 17 #[.string X] W fun r w' => r = .returned (.string Z) ∧ Below W.heap.size W w'))
    (H30 : Hid (∀ W, Calls Tryd.prog 30 #[.string s, .int .i64 ((q : Int) + k)] W fun r w' => r = .returned (.tuple #[.string { data := #[] }, .int .i64 0]) ∧ Below W.heap.size W w'))
    (H31 : Hid (∀ W, Calls Tryd.prog 31 #[.string s, .int .i64 ((q : Int) + k)] W fun r w' => r = .returned (.tuple #[.int .i64 0, .bool false]) ∧ Below W.heap.size W w'))
    (w : World) : Calls Tryd.prog 14 #[.string s, .int .i64 p] w fun r w' => r = .returned (.tuple #[.agg #[.string { data := #[] }, .string { data := #[] }, .string { data := #[] }, .int .i64 0, .int .i64 0], .int .i64 0]) ∧ Below w.heap.size w w' := by
  have c0 : ((n : Int) == 0) = false := by rw [beq_eq_false_iff_ne]; omega
  have c1 : ((k : Int) == 0) = false := by rw [beq_eq_false_iff_ne]; omega
  go_enter Tryd.func14, Tryd.ntmps14
  go_wp2_with fail
  refine (H8.out _).mono ?_
  rintro e' w1 ⟨rfl, hb⟩
  have hz : w.heap.size < w1.heap.size := by have := hb.size; simp at this; omega
  have HR : Hid (Holds w1 w.heap.size 27 #[.string { data := #[] }, .string { data := #[] }, .string { data := #[] }, .int .i64 0, .int .i64 0]) := Holds.under (Holds.made w 27 _) hb (by simp)
  have HB : Hid (Below w.heap.size w w1) := ((Below.refl _ _).alloc (Nat.le_refl _) _).trans (hb.mono (by simp))
  clear hb
  go_wp2_with fail
  refine (H25.out _).mono ?_
  rintro e' y ⟨rfl, hy⟩
  rw [hy]
  clear hy
  go_wp2_with fail
  refine (H29.out _).mono ?_
  rintro e' w2 ⟨rfl, hb⟩
  have HR2 := Lib.hid (HR.out.under hb HR.out.lt)
  have HB2 := Lib.hid (chain (Nat.le_refl _) HB.out hb)
  have hz2 : w.heap.size < w2.heap.size := by have := hb.size; omega
  clear hb HR HB hz
  have HR := HR2
  have HB := HB2
  have hz := hz2
  clear HR2 HB2 hz2
  go_wp2_with fail
  refine (H10.out _).mono ?_
  rintro e' w3 ⟨rfl, hb⟩
  have HR3 := Lib.hid (HR.out.under hb HR.out.lt)
  have HB3 := Lib.hid (chain (Nat.le_refl _) HB.out hb)
  have hz3 : w.heap.size < w3.heap.size := by have := hb.size; omega
  clear hb HR HB hz
  have HR := HR3
  have HB := HB3
  have hz := hz3
  clear HR3 HB3 hz3
  go_wp2_with fail
  refine (H17.out _).mono ?_
  rintro e' w4 ⟨rfl, hb⟩
  have HR4 := Lib.hid (HR.out.under hb HR.out.lt)
  have HB4 := Lib.hid (chain (Nat.le_refl _) HB.out hb)
  have hz4 : w.heap.size < w4.heap.size := by have := hb.size; omega
  clear hb HR HB hz
  have HR := HR4
  have HB := HB4
  have hz := hz4
  clear HR4 HB4 hz4
  go_wp2_with fail
  refine (H30.out _).mono ?_
  rintro e' w5 ⟨rfl, hb⟩
  have HG5 : Hid (Holds w5 w4.heap.size 27 #[.string Z, .string Y, .string { data := #[] }, .int .i64 p, .int .i64 ((q : Int) + k)]) := Holds.under (Holds.made w4 27 _) hb (by simp)
  have HR5 : Hid (Holds w5 w.heap.size 27 #[.string { data := #[] }, .string { data := #[] }, .string { data := #[] }, .int .i64 0, .int .i64 0]) := (HR.out.under ((Below.refl w4.heap.size w4).alloc (Nat.le_refl _) _) hz).under hb (by simp; omega)
  have HB5 : Hid (Below w.heap.size w w5) := chain (Nat.le_refl _) (HB.out.alloc (Nat.le_of_lt hz) _) hb
  have hz5 : w.heap.size < w5.heap.size := by have := hb.size; simp at this; omega
  have hgr : w.heap.size ≠ w4.heap.size := by omega
  have hgl := hz
  clear hb HR HB hz
  have HR := HR5
  have HB := HB5
  have hz := hz5
  clear HR5 HB5 hz5
  have HG := HG5
  clear HG5
  have g4 : w5.cell? ⟨w4.heap.size, 4, none⟩ = some (.int .i64 ((q : Int) + k)) := HG.out.at 4
  go_wp2_with fail
  refine (H31.out _).mono ?_
  rintro e' w6 ⟨rfl, hb⟩
  have HR6 := Lib.hid (HR.out.under hb HR.out.lt)
  have HB6 := Lib.hid (chain (Nat.le_refl _) HB.out hb)
  have hz6 : w.heap.size < w6.heap.size := by have := hb.size; omega
  have HG6 := Lib.hid (HG.out.under hb HG.out.lt)
  clear hb HR HB hz HG
  have HR := HR6
  have HB := HB6
  have hz := hz6
  clear HR6 HB6 hz6
  have HG := HG6
  clear HG6
  have x0 : w6.cell? ⟨w.heap.size, 0, none⟩ = _ := HR.out.at 0
  have x1 : w6.cell? ⟨w.heap.size, 1, none⟩ = _ := HR.out.at 1
  have x2 : w6.cell? ⟨w.heap.size, 2, none⟩ = _ := HR.out.at 2
  have x3 : w6.cell? ⟨w.heap.size, 3, none⟩ = _ := HR.out.at 3
  have x4 : w6.cell? ⟨w.heap.size, 4, none⟩ = _ := HR.out.at 4
  have v0 : w6.frozen? ⟨w.heap.size, 0, none⟩ = false := HR.out.soft 0
  have v1 : w6.frozen? ⟨w.heap.size, 1, none⟩ = false := HR.out.soft 1
  have v2 : w6.frozen? ⟨w.heap.size, 2, none⟩ = false := HR.out.soft 2
  have v3 : w6.frozen? ⟨w.heap.size, 3, none⟩ = false := HR.out.soft 3
  have v4 : w6.frozen? ⟨w.heap.size, 4, none⟩ = false := HR.out.soft 4
  go_wp2_with fail
  exact bodyPost_ret (v := .tuple #[.agg #[.string { data := #[] }, .string { data := #[] }, .string { data := #[] }, .int .i64 0, .int .i64 0], .int .i64 0]) (by simp [results, Tryd.results14, go_sem, x0, x1, x2, x3, x4]) rfl ⟨rfl, (((((HB.out.setCell (by exact Nat.le_refl _) _).setCell (by exact Nat.le_refl _) _).setCell (by exact Nat.le_refl _) _).setCell (by exact Nat.le_refl _) _).setCell (by exact Nat.le_refl _) _)⟩

end Go.Proofs.YtfoheffbapifpaaDoor
