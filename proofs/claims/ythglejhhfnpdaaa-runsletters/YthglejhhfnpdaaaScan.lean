/-
  PROVED: contract of runs.Scan: the row that stands at a place, or none. Conditions: the text has at most 1000000 bytes.
-/
import Derived.Test.YthglejhhfnpdaaaLeans
namespace Go.Proofs.Ythglejhhfnpdaaa
open Go.ChangeShapes Go.WideShapes Go.ChangeAt Go.RowKit Go.Sort
set_option linter.unusedVariables false

set_option maxHeartbeats 8000000 in
theorem scan_no (s : ByteArray) (a : Int) (hs : s.size ≤ 1000000) (h : ¬ isRow s a) (w : World) :
    Calls Try.prog 8 #[.string s, .int .i64 a] w fun e w' => e = .returned (.tuple #[noV, .bool false]) ∧ Below w.heap.size w w' := by
  have H := Lib.hid (fun W => length_no s a hs h W)
  clear h
  go_enter Try.func8, Try.ntmps8
  go_wp2_with fail
  refine (H.out _).mono ?_
  rintro e w1 ⟨rfl, hb⟩
  have hz : w.heap.size < w1.heap.size := by have := hb.size; simp at this; omega
  have HR : Hid (Holds w1 w.heap.size 24 #[.int .u8 0, .int .i64 0, .bool false, .bool false]) := Holds.under (Holds.made w 24 _) hb (by simp)
  have HB : Hid (Below w.heap.size w w1) := ((Below.refl _ _).alloc (Nat.le_refl _) _).trans (hb.mono (by simp))
  clear hb
  have x0 : w1.cell? ⟨w.heap.size, 0, none⟩ = _ := HR.out.at 0
  have x1 : w1.cell? ⟨w.heap.size, 1, none⟩ = _ := HR.out.at 1
  have x2 : w1.cell? ⟨w.heap.size, 2, none⟩ = _ := HR.out.at 2
  have x3 : w1.cell? ⟨w.heap.size, 3, none⟩ = _ := HR.out.at 3
  have v0 : w1.frozen? ⟨w.heap.size, 0, none⟩ = false := HR.out.soft 0
  have v1 : w1.frozen? ⟨w.heap.size, 1, none⟩ = false := HR.out.soft 1
  have v2 : w1.frozen? ⟨w.heap.size, 2, none⟩ = false := HR.out.soft 2
  have v3 : w1.frozen? ⟨w.heap.size, 3, none⟩ = false := HR.out.soft 3
  go_wp2_with fail
  exact bodyPost_ret (v := .tuple #[noV, .bool false]) (by simp [results, Try.results8, go_sem, x0, x1, x2, x3, noV]) rfl ⟨rfl, (((((HB.out.setCell (by exact Nat.le_refl _) _).setCell (by exact Nat.le_refl _) _).setCell (by exact Nat.le_refl _) _).setCell (by exact Nat.le_refl _) _))⟩

theorem Try.mixed : Try.prog.follows Departure.mixedOrders = true := by kernel_rfl
theorem holds_drewN {w : World} {g : Nat} {t : TypeId} {cs : Array Value} (h : Holds w g t cs) (q : Nat) : Holds (w.drewN q) g t cs := h
theorem Grows.under {v : Value} {w w' : World} {e : Ending} (h : Grows v w e w') : Below w.heap.size w w' := h.below.2

set_option maxHeartbeats 16000000 in
theorem scan_yes (s : ByteArray) (p n : Nat) (c : UInt8) (bx mx by_ my : Bool) (hs : s.size ≤ 1000000) (hp : p < s.size) (hn : 0 < n) (hpn : p + n ≤ s.size) (hc : s[p]'hp = c)
    (H10 : Hid (∀ W, Calls Try.prog 10 #[.string s, .int .i64 p] W fun r w' => r = .returned (.int .i64 n) ∧ Below W.heap.size W w'))
    (H11 : Hid (∀ W, Calls Try.prog 11 #[.string s, .int .i64 p] W fun r w' => r = .returned (.agg #[.bool bx, .bool mx]) ∧ Below W.heap.size W w'))
    (H12 : Hid (∀ W, Calls Try.prog 12 #[.string s, .int .i64 ((p : Int) + n)] W fun r w' => r = .returned (.agg #[.bool by_, .bool my]) ∧ Below W.heap.size W w'))
    (w : World) :
    Calls Try.prog 8 #[.string s, .int .i64 p] w fun e w' => e = .returned (.tuple #[.agg #[.int .u8 c.toNat, .int .i64 n, .bool (opB (c == 95) bx mx by_ my), .bool (clB (c == 95) bx mx by_ my)], .bool true]) ∧ Below w.heap.size w w' := by
  have c0 : ((n : Int) == 0) = false := by rw [beq_eq_false_iff_ne]; omega
  have HO : Hid (opB (c == 95) bx mx by_ my = (leanB by_ my bx mx && (!(c == 95) || (!leanB bx mx by_ my || mx)))) := rfl
  have HC : Hid (clB (c == 95) bx mx by_ my = (leanB bx mx by_ my && (!(c == 95) || (!leanB by_ my bx mx || my)))) := rfl
  have HL1 := Lib.hid (leans_any by_ my bx mx)
  have HL2 := Lib.hid (leans_any bx mx by_ my)
  have e95 : (((s[p]'hp).toNat : Int) == 95) = (c == 95) := by
    rw [hc]
    by_cases e : c = 95
    · subst e; rfl
    · have h := ne_u8 c 95 e
      rw [show ((UInt8.toNat 95 : Nat) : Int) = 95 from rfl] at h
      rw [h]; symm; simpa using e
  obtain ⟨O, hO⟩ : ∃ O, O = opB (c == 95) bx mx by_ my := ⟨_, rfl⟩
  obtain ⟨C, hC⟩ : ∃ C, C = clB (c == 95) bx mx by_ my := ⟨_, rfl⟩
  rw [← hO] at HO ⊢
  rw [← hC] at HC ⊢
  clear hO hC
  subst hc
  generalize leanB by_ my bx mx = l at *
  generalize leanB bx mx by_ my = r at *
  generalize ((s[p]'hp) == 95) = low at *
  have hu := (s[p]'hp).toNat_lt
  go_enter Try.func8, Try.ntmps8
  go_wp2_with fail
  refine (H10.out _).mono ?_
  rintro e w1 ⟨rfl, hb⟩
  have hz1 : w.heap.size < w1.heap.size := by have := hb.size; simp at this; omega
  have HR1 : Hid (Holds w1 w.heap.size 24 #[.int .u8 0, .int .i64 0, .bool false, .bool false]) := Holds.under (Holds.made w 24 _) hb (by simp)
  have HB1 : Hid (Below w.heap.size w w1) := ((Below.refl _ _).alloc (Nat.le_refl _) _).trans (hb.mono (by simp))
  clear hb
  go_wp2_with fail
  refine (H11.out _).mono ?_
  rintro e w2 ⟨rfl, hb⟩
  have hz2 : w.heap.size < w2.heap.size := by have := hb.size; omega
  have HR2 := Lib.hid (HR1.out.under hb HR1.out.lt)
  have HB2 := Lib.hid (chain (Nat.le_refl _) HB1.out hb)
  clear hb HR1 HB1 hz1 H10 H11
  go_wp2_with fail
  refine (H12.out _).mono ?_
  rintro e w3 ⟨rfl, hb⟩
  have hz3 : w.heap.size < w3.heap.size := by have := hb.size; omega
  have HR3 := Lib.hid (HR2.out.under hb HR2.out.lt)
  have HB3 := Lib.hid (chain (Nat.le_refl _) HB2.out hb)
  clear hb HR2 HB2 hz2 H12
  go_wp2_with fail
  obtain ⟨W1, hW1⟩ : ∃ W1, W1 = (w3.alloc (.cells #[.bool bx, .bool mx] 32)).alloc (.cells #[.bool by_, .bool my] 32) := ⟨_, rfl⟩
  have hz : W1.heap.size = w3.heap.size + 2 := by rw [hW1]; simp
  have R7 := Lib.hid (show Holds W1 w3.heap.size 32 #[.bool bx, .bool mx] from by rw [hW1]; exact (Holds.made w3 32 _).under ((Below.refl _ _).alloc (Nat.le_refl _) _) (by simp))
  have R8 := Lib.hid (show Holds W1 (w3.heap.size + 1) 32 #[.bool by_, .bool my] from by rw [hW1]; have := Holds.made (w3.alloc (.cells #[.bool bx, .bool mx] 32)) 32 #[.bool by_, .bool my]; simpa using this)
  have B4 := Lib.hid (show Below w3.heap.size w3 W1 from by rw [hW1]; exact ((Below.refl _ _).alloc (Nat.le_refl _) _).alloc (by simp) _)
  have y0 : W1.cell? ⟨w3.heap.size, 0, none⟩ = some (.bool bx) := R7.out.at 0
  have y1 : W1.cell? ⟨w3.heap.size, 1, none⟩ = some (.bool mx) := R7.out.at 1
  have y2 : W1.cell? ⟨w3.heap.size + 1, 0, none⟩ = some (.bool by_) := R8.out.at 0
  have y3 : W1.cell? ⟨w3.heap.size + 1, 1, none⟩ = some (.bool my) := R8.out.at 1
  have p0 := cell_grown (by show _ < _; simp only []; omega) y0
  have p1 := cell_grown (by show _ < _; simp only []; omega) y1
  have p2 := cell_grown (by show _ < _; simp only []; omega) y2
  have p3 := cell_grown (by show _ < _; simp only []; omega) y3
  have hmix := Try.mixed
  have hsz : (w3.alloc (.cells #[.bool bx, .bool mx] 32)).heap.size = w3.heap.size + 1 := by simp
  rw [← hW1]
  have HW1 := Lib.hid hW1
  clear hW1
  try rw [hsz]
  go_quiet_grown (first | (go_at_call 13; with_reducible first | exact Calls.grown_of (HL1.out _) | exact Calls.grown_of (HL2.out _)))
  have B5 := Lib.hid (show Below w.heap.size w (grow (W1.drewN nq) osq) from chain (Nat.le_refl _) (chain (Nat.le_refl _) HB3.out B4.out) ((show Grows (.bool true) W1 (.returned (.bool true)) (grow (W1.drewN nq) osq) from ⟨rfl, nq, osq, rfl⟩).below.2))
  have q1 : (grow (W1.drewN nq) osq).cell? ⟨w3.heap.size, 1, none⟩ = some (.bool mx) := p1 _ _
  have q3 : (grow (W1.drewN nq) osq).cell? ⟨w3.heap.size + 1, 1, none⟩ = some (.bool my) := p3 _ _
  have hz5 : w3.heap.size + 1 < (grow (W1.drewN nq) osq).heap.size := by have := (show Grows (.bool true) W1 (.returned (.bool true)) (grow (W1.drewN nq) osq) from ⟨rfl, nq, osq, rfl⟩).below.2.size; omega
  have R5 := Lib.hid (show Holds (grow (W1.drewN nq) osq) w.heap.size 24 #[.int .u8 0, .int .i64 0, .bool false, .bool false] from HR3.out.under (chain (Nat.le_refl _) B4.out ((show Grows (.bool true) W1 (.returned (.bool true)) (grow (W1.drewN nq) osq) from ⟨rfl, nq, osq, rfl⟩).below.2)) HR3.out.lt)
  show Exit.then _ _ _ _ (grow (W1.drewN nq) osq)
  generalize grow (W1.drewN nq) osq = w5 at *
  clear p0 p1 p2 p3 y0 y1 y2 y3 HB3 HR3 R7 R8 B4 HW1 HL1 HL2 hz
  have x0 : w5.cell? ⟨w.heap.size, 0, none⟩ = _ := R5.out.at 0
  have x1 : w5.cell? ⟨w.heap.size, 1, none⟩ = _ := R5.out.at 1
  have x2 : w5.cell? ⟨w.heap.size, 2, none⟩ = _ := R5.out.at 2
  have x3 : w5.cell? ⟨w.heap.size, 3, none⟩ = _ := R5.out.at 3
  have v0 : w5.frozen? ⟨w.heap.size, 0, none⟩ = false := R5.out.soft 0
  have v1 : w5.frozen? ⟨w.heap.size, 1, none⟩ = false := R5.out.soft 1
  have v2 : w5.frozen? ⟨w.heap.size, 2, none⟩ = false := R5.out.soft 2
  have v3 : w5.frozen? ⟨w.heap.size, 3, none⟩ = false := R5.out.soft 3
  have z5 := R5.out.lt
  have z6 : w3.heap.size < w5.heap.size := by omega
  have ne1 : w5.heap.size ≠ w.heap.size := by omega
  cases low <;> cases l <;> cases r
  all_goals
    go_wp2_with fail
    have hO := HO.out
    have hC := HC.out
    simp only [Bool.not_true, Bool.not_false, Bool.true_and, Bool.false_and, Bool.true_or, Bool.false_or, Bool.and_true] at hO hC
    generalize hw6 : World.alloc _ _ = w6
    have R6 : Holds w6 w.heap.size 24 #[.int .u8 (s[p]'hp).toNat, .int .i64 n, .bool O, .bool C] := by
      rw [hO, hC, ← hw6]
      exact ((((R5.out.set 0 _).set 1 _).set 2 _).set 3 _).under ((Below.refl _ _).alloc (Nat.le_refl _) _) (by simp; omega)
    have B6 : Below w.heap.size w w6 := by
      rw [← hw6]
      exact ((((B5.out.setCell (by exact Nat.le_refl _) _).setCell (by exact Nat.le_refl _) _).setCell (by exact Nat.le_refl _) _).setCell (by exact Nat.le_refl _) _).alloc (by simp; omega) _
    clear hw6
    have y0 : w6.cell? ⟨w.heap.size, 0, none⟩ = some (.int .u8 (s[p]'hp).toNat) := R6.at 0
    have y1 : w6.cell? ⟨w.heap.size, 1, none⟩ = some (.int .i64 n) := R6.at 1
    have y2 : w6.cell? ⟨w.heap.size, 2, none⟩ = some (.bool O) := R6.at 2
    have y3 : w6.cell? ⟨w.heap.size, 3, none⟩ = some (.bool C) := R6.at 3
    exact bodyPost_ret (by simp [results, Try.results8, go_sem, y0, y1, y2, y3]) rfl ⟨rfl, B6⟩
theorem scan_in (s : ByteArray) (p : Nat) (c : UInt8) (hs : s.size ≤ 1000000) (hp : p < s.size) (hc : s[p]'hp = c) (hk : c = 42 ∨ c = 95) (w : World) :
    Calls Try.prog 8 #[.string s, .int .i64 p] w fun e w' => e = .returned (.tuple #[atV s p c, .bool true]) ∧ Below w.heap.size w w' := by
  have h1 := rowTo_lt s c p hp hc
  have h2 := (rowTo_bd s c p (by omega)).2
  refine scan_yes s p (rowTo s c p - p) c _ _ _ _ hs hp (by omega) (by omega) hc (fun W => length_yes s p c hs hp hc hk W) (fun W => ahead_any s p hs (by omega) W) (fun W => ?_) w
  have e : (p : Int) + ((rowTo s c p - p : Nat) : Int) = ((rowTo s c p : Nat) : Int) := by omega
  rw [e]
  exact behind_any s (rowTo s c p) hs h2 W
end Go.Proofs.Ythglejhhfnpdaaa
