/-
  PROVED: contract of alive: true. Conditions: the tables lie as their initialisers lay them.
-/
import Derived.Test.YtdfhgcknelgdmaaDoorSmall
import Derived.Test.YtdfhgcknelgdmaaDoorErase
namespace Go.Proofs.YtdfhgcknelgdmaaDoor
open Go.ChangeShapes Go.WideShapes Go.ChangeAt Go.RowKit Go.Sort
set_option linter.unusedVariables false

theorem fld24 (A : Option Addr) (l c : Nat) (w : World) : Sem.run Tryd.prog (Instr.field 24 (Value.agg #[.slice A l c]) 0) w = Result.ok (.slice A l c) w := by kernel_rfl
abbrev smallV (g : Nat) : Value := .agg #[.slice (some ⟨g + 1 + 1, 0, none⟩) 3 3]
theorem small_show_any (W : World) (g : Nat) (hg : Glob W) (h : SmallM W g 2) : Calls Tryd.prog 17 #[smallV g, .bool false] W fun e w' => e = .returned (.tuple #[.string { data := #[100, 111, 99, 10, 32, 112, 97, 114, 97, 10, 32, 32, 116, 101, 120, 116, 32, 116, 34, 97, 34, 10] }, .int .i64 0]) ∧ Below W.heap.size W w' := by
  refine (show_any (some ⟨g + 1 + 1, 0, none⟩) 3 (smallT 2) (small_bd 2) (small_num 2) false W h.tr hg).mono fun e w' h => ?_
  obtain ⟨h1, h2⟩ := h
  rw [small_par, small_show] at h1
  exact ⟨h1, h2⟩
theorem small_right_any (W : World) (g : Nat) (h : SmallM W g 2) : Calls Tryd.prog 11 #[smallV g] W fun e w' => e = .returned (.bool true) ∧ Below W.heap.size W w' := by
  refine (right_any (some ⟨g + 1 + 1, 0, none⟩) 3 (smallT 2) (small_bd 2) W h.tr).mono fun e w' h => ?_
  obtain ⟨h1, h2⟩ := h
  rw [small_par] at h1
  exact ⟨h1, h2⟩
theorem small_wrong_any (W : World) (g : Nat) (h : SmallM W g 1) : Calls Tryd.prog 11 #[smallV g] W fun e w' => e = .returned (.bool false) ∧ Below W.heap.size W w' := by
  refine (right_any (some ⟨g + 1 + 1, 0, none⟩) 3 (smallT 1) (small_bd 1) W h.tr).mono fun e w' h => ?_
  obtain ⟨h1, h2⟩ := h
  rw [small_bad] at h1
  exact ⟨h1, h2⟩
theorem small_parents_any (W : World) (g : Nat) (h : SmallM W g 2) : Calls Tryd.prog 14 #[smallV g] W (AnsI W [-1, 0, 1]) := by
  have := parents_any (some ⟨g + 1 + 1, 0, none⟩) 3 (smallT 2) (small_bd 2) W h.tr
  rw [small_par] at this
  exact this
theorem small_erase_any (W : World) (g : Nat) (h : SmallM W g 2) : Calls Tryd.prog 19 #[smallV g] W fun e w' => ∃ b o c, e = .returned (.agg #[.slice (some ⟨b, o, none⟩) 3 c]) ∧ w'.cell? ⟨b, o + 22, none⟩ = some (.int .i64 0) ∧ Below W.heap.size W w' := by
  refine (erase_any (some ⟨g + 1 + 1, 0, none⟩) 3 (smallT 2) (small_bd 2) W h.tr).mono fun e w' h => ?_
  obtain ⟨v, S, rfl, hO, hb⟩ := h
  obtain ⟨A, c, rfl, _, _, hT⟩ := hO.tr
  obtain ⟨b, o, kv, pv, rfl, _, hK, _⟩ := hT 2 _ rfl
  exact ⟨b, o, c, rfl, hK.c2, hb⟩

set_option maxRecDepth 100000 in
set_option maxHeartbeats 8000000 in
theorem alive_any (w : World) (hg : Glob w) : Calls Tryd.prog 8 #[] w fun e w' => e = .returned (.bool true) ∧ Below w.heap.size w w' := by
  have HGl := Lib.hid hg
  clear hg
  go_enter Tryd.func8, Tryd.ntmps8
  go_wp2_with fail
  refine (small_any _).mono ?_
  rintro e w1 ⟨rfl, hM, hb⟩
  have M1 := Lib.hid hM
  have B1 := Lib.hid hb
  clear hM hb
  go_wp2_with fail
  refine (small_show_any w1 (w.heap.size + 1) (HGl.out.on B1.out) M1.out).mono ?_
  rintro e w2 ⟨rfl, hb⟩
  have B2 := Lib.hid (chain (Nat.le_refl _) B1.out hb)
  clear hb M1
  go_wp2_with fail
  refine (small_any _).mono ?_
  rintro e w3 ⟨rfl, hM, hb⟩
  have M3 := Lib.hid hM
  have B3 := Lib.hid (chain (Nat.le_refl _) B2.out hb)
  have z2 := B2.out.size
  have z3 := hb.size
  have y3 : w2.heap.size + 1 + 1 + 1 < w3.heap.size := hM.nd.lt
  obtain ⟨W4, hW4⟩ : ∃ W4, W4 = w3.alloc (.cells #[.slice (some ⟨w2.heap.size + 1 + 1 + 1, 0, none⟩) 3 3] 24) := ⟨_, rfl⟩
  have b4 : Below w3.heap.size w3 W4 := by rw [hW4]; exact (Below.refl _ _).alloc (Nat.le_refl _) _
  have M4 := Lib.hid (hM.under b4 y3)
  have T4 : Hid (Holds W4 w3.heap.size 24 #[.slice (some ⟨w2.heap.size + 1 + 1 + 1, 0, none⟩) 3 3]) := by show Holds _ _ _ _; rw [hW4]; exact Holds.made w3 24 _
  have B4 := Lib.hid (chain (Nat.le_refl _) B3.out b4)
  have c0 : (w3.alloc (.cells #[.slice (some ⟨w2.heap.size + 1 + 1 + 1, 0, none⟩) 3 3] 24)).cell? ⟨w2.heap.size + 1 + 1 + 1, 18, none⟩ = some (.slice (some ⟨w2.heap.size + 1 + 1, 0, none⟩) 1 1) := by rw [← hW4]; exact M4.out.nd.at 18
  have c1 : (w3.alloc (.cells #[.slice (some ⟨w2.heap.size + 1 + 1 + 1, 0, none⟩) 3 3] 24)).cell? ⟨w2.heap.size + 1 + 1, 0, none⟩ = some (.int .i64 2) := by rw [← hW4]; exact M4.out.k1.at 0
  have f1 : (w3.alloc (.cells #[.slice (some ⟨w2.heap.size + 1 + 1 + 1, 0, none⟩) 3 3] 24)).frozen? ⟨w2.heap.size + 1 + 1, 0, none⟩ = false := by rw [← hW4]; exact M4.out.k1.soft 0
  have HW4 := Lib.hid hW4
  clear hM hb hW4 b4
  go_wp2_with fail
  clear c0 c1 f1
  rw [← HW4.out]
  have M5 : Hid (SmallM (W4.setCell ⟨w2.heap.size + 1 + 1, 0, none⟩ (.int .i64 1)) (w2.heap.size + 1) 1) := ⟨M4.out.k0.past (by show w2.heap.size + 1 ≠ w2.heap.size + 1 + 1; omega) _, M4.out.k1.set 0 _, M4.out.nd.past (by show w2.heap.size + 1 + 1 + 1 ≠ w2.heap.size + 1 + 1; omega) _⟩
  have T5 : Hid (Holds (W4.setCell ⟨w2.heap.size + 1 + 1, 0, none⟩ (.int .i64 1)) w3.heap.size 24 #[.slice (some ⟨w2.heap.size + 1 + 1 + 1, 0, none⟩) 3 3]) := T4.out.past (by show w3.heap.size ≠ w2.heap.size + 1 + 1; omega) _
  have B5 : Hid (Below w.heap.size w (W4.setCell ⟨w2.heap.size + 1 + 1, 0, none⟩ (.int .i64 1))) := B4.out.setCell (p := ⟨w2.heap.size + 1 + 1, 0, none⟩) (by show w.heap.size ≤ w2.heap.size + 1 + 1; omega) _
  clear M4 T4 B4
  generalize W4.setCell ⟨w2.heap.size + 1 + 1, 0, none⟩ (.int .i64 1) = W5 at M5 T5 B5 ⊢
  refine (small_any W5).mono ?_
  rintro e w6 ⟨rfl, hM, hb⟩
  have M6 := Lib.hid hM
  have N6 := Lib.hid (M5.out.under hb M5.out.nd.lt)
  have T6 := Lib.hid (T5.out.under hb T5.out.lt)
  have B6 := Lib.hid (chain (Nat.le_refl _) B5.out hb)
  clear hM hb M5 T5
  go_wp2_with fail
  refine (small_right_any w6 (W5.heap.size + 1) M6.out).mono ?_
  rintro e w7 ⟨rfl, hb⟩
  have N7 := Lib.hid (N6.out.under hb N6.out.nd.lt)
  have T7 := Lib.hid (T6.out.under hb T6.out.lt)
  have B7 := Lib.hid (chain (Nat.le_refl _) B6.out hb)
  have t7 : w7.cell? ⟨w3.heap.size, 0, none⟩ = some (.slice (some ⟨w2.heap.size + 1 + 1 + 1, 0, none⟩) 3 3) := T7.out.at 0
  clear hb M6 N6 T6
  go_wp2_with fail
  refine (small_wrong_any w7 (w2.heap.size + 1) N7.out).mono ?_
  rintro e w8 ⟨rfl, hb⟩
  have B8 := Lib.hid (chain (Nat.le_refl _) B7.out hb)
  clear hb N7 t7
  go_wp2_with fail
  refine (small_any w8).mono ?_
  rintro e w9 ⟨rfl, hM, hb⟩
  have M9 := Lib.hid hM
  have B9 := Lib.hid (chain (Nat.le_refl _) B8.out hb)
  clear hM hb
  go_wp2_with fail
  refine (small_parents_any w9 (w8.heap.size + 1) M9.out).mono ?_
  rintro e w10 ⟨PA, pc, rfl, hI, hb⟩
  have B10 := Lib.hid (chain (Nat.le_refl _) B9.out hb)
  have HS : Hid (Calls Tryd.prog 13 #[.slice PA 3 pc, .slice (some ⟨w10.heap.size, 0, none⟩) 3 3] (w10.alloc (.cells #[.int .i64 (-1), .int .i64 0, .int .i64 1] 3)) (Grows (.bool true) (w10.alloc (.cells #[.int .i64 (-1), .int .i64 0, .int .i64 1] 3)))) := by
    refine sameInts_yes PA (some ⟨w10.heap.size, 0, none⟩) pc 3 [-1, 0, 1] (by decide) _ (hI.on ((Below.refl _ _).alloc (Nat.le_refl _) _)) ?_
    have hh := Holds.made w10 3 #[.int .i64 (-1), .int .i64 0, .int .i64 1]
    intro i l hi
    match i with
    | 0 => simp at hi; subst hi; exact ⟨w10.heap.size, 0, rfl, hh.lt, hh.at 0⟩
    | 1 => simp at hi; subst hi; exact ⟨w10.heap.size, 0, rfl, hh.lt, hh.at 1⟩
    | 2 => simp at hi; subst hi; exact ⟨w10.heap.size, 0, rfl, hh.lt, hh.at 2⟩
    | i + 3 => simp at hi
  clear hI hb M9
  go_wp2_with fail
  refine HS.out.mono ?_
  rintro e w12 hG
  obtain ⟨rfl, hb⟩ := hG.below
  have B12 : Hid (Below w.heap.size w w12) := chain (Nat.le_refl _) (B10.out.alloc (by have := B10.out.size; omega) _) hb
  clear hG hb HS
  go_wp2_with fail
  refine (small_any w12).mono ?_
  rintro e w13 ⟨rfl, hM, hb⟩
  have M13 := Lib.hid hM
  have B13 := Lib.hid (chain (Nat.le_refl _) B12.out hb)
  clear hM hb
  go_wp2_with fail
  refine (small_erase_any w13 (w12.heap.size + 1) M13.out).mono ?_
  rintro e w14 ⟨eb, eo, ec, rfl, hc, hb⟩
  have B14 := Lib.hid (chain (Nat.le_refl _) B13.out hb)
  have hc2 : w14.cell? ⟨eb, eo + 2 * 10 + 2, none⟩ = some (.int .i64 0) := hc
  have hc3 : w14.cell? ⟨eb, eo + 20 + 2, none⟩ = some (.int .i64 0) := hc
  clear hb M13
  have hfl := fld24
  go_wp2_with fail
  go_ret
  exact ⟨rfl, B14.out⟩
end Go.Proofs.YtdfhgcknelgdmaaDoor
