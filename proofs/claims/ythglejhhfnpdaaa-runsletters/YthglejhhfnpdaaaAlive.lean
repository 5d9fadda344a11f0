/-
  PROVED: contracts of both Scans at any place, of runs.Scan at a text made of a row and a character or none at each side, and of the statements' own 'alive': it answers true. Conditions: the text has at most 50000 bytes.
-/
import Derived.Test.YthglejhhfnpdaaaScan
import Derived.Test.YthglejhhfnpdaaaRefScan
namespace Go.Proofs.Ythglejhhfnpdaaa
open Go.ChangeShapes Go.WideShapes Go.ChangeAt Go.RowKit Go.Sort
set_option linter.unusedVariables false

theorem scan_both (s : ByteArray) (a : Int) (hs : s.size ≤ 50000) : ∃ (c : UInt8) (n : Nat) (o cl ok : Bool),
    (∀ W, Calls Try.prog 8 #[.string s, .int .i64 a] W fun e w' => e = .returned (.tuple #[.agg #[.int .u8 c.toNat, .int .i64 n, .bool o, .bool cl], .bool ok]) ∧ Below W.heap.size W w') ∧
    (∀ W, Calls Try.prog 9 #[.string s, .int .i64 a] W fun e w' => e = .returned (.tuple #[.agg #[.int .u8 c.toNat, .int .i64 n, .bool o, .bool cl], .bool ok]) ∧ Below W.heap.size W w') := by
  by_cases h : isRow s a
  · obtain ⟨p, hp, rfl, hk⟩ := h
    exact ⟨s[p]'hp, rowTo s (s[p]'hp) p - p, _, _, true, fun W => scan_in s p _ (by omega) hp rfl hk W, fun W => refScan_in s p _ (by omega) hp rfl hk W⟩
  · exact ⟨0, 0, false, false, false, fun W => scan_no s a (by omega) h W, fun W => refScan_no s a (by omega) h W⟩
/-- The answer for a row of n marks c between these. -/
def rowB (c : UInt8) (n : Nat) (bx mx bY my : Bool) : Value := .agg #[.int .u8 c.toNat, .int .i64 n, .bool (opB (c == 95) bx mx bY my), .bool (clB (c == 95) bx mx bY my)]
theorem made_scan (s : ByteArray) (c : UInt8) (n : Nat) (pre suf : List UInt8) (hk : c = 42 ∨ c = 95) (hs : lst s = pre ++ List.replicate n c ++ suf) (hn : 0 < n) (hz : s.size ≤ 50000) (h1 : pre.length ≤ 1) (h2 : suf.length ≤ 1)
    (hp : ∀ x ∈ pre, x.toNat < 128) (hu : ∀ x ∈ suf, x.toNat < 128 ∧ x ≠ c) (a : Int) (ha : a = pre.length) (bx mx bY my : Bool) (e1 : isBlank (sideL pre) = bx) (e2 : isMark (sideL pre) = mx) (e3 : isBlank (sideL suf) = bY) (e4 : isMark (sideL suf) = my) (w : World) :
    Calls Try.prog 8 #[.string s, .int .i64 a] w fun e w' => e = .returned (.tuple #[rowB c n bx mx bY my, .bool true]) ∧ Below w.heap.size w w' := by
  obtain ⟨g1, g2, g3, g4, g5, g6⟩ := made_row s c n pre suf hs hn h1 h2 hp hu
  subst ha
  have h := scan_in s pre.length c (by omega) g1 g2 hk w
  unfold atV at h
  rw [g4, g5, g6, show pre.length + n - pre.length = n from by omega] at h
  unfold rowV at h
  rw [e1, e2, e3, e4] at h
  exact h
theorem side_none : isBlank (sideL []) = true ∧ isMark (sideL []) = false := ⟨by decide, by decide⟩
theorem side_blank : isBlank (sideL [32]) = true ∧ isMark (sideL [32]) = false := ⟨by decide, by decide⟩
theorem side_letter (x : UInt8) (h : 97 ≤ x.toNat) (h' : x.toNat ≤ 122) : isBlank (sideL [x]) = false ∧ isMark (sideL [x]) = false := plain_letter (x.toNat : Int) (by omega) (by omega)

theorem scan_stars (w : World) : Calls Try.prog 8 #[.string { data := #[97, 42, 42, 98] }, .int .i64 1] w fun e w' => e = .returned (.tuple #[.agg #[.int .u8 42, .int .i64 2, .bool true, .bool true], .bool true]) ∧ Below w.heap.size w w' :=
  made_scan { data := #[97, 42, 42, 98] } 42 2 [97] [98] (Or.inl rfl) rfl (by decide) (by decide) (by decide) (by decide) (by decide) (by decide) 1 rfl false false false false (by decide) (by decide) (by decide) (by decide) w
theorem scan_low (w : World) : Calls Try.prog 8 #[.string { data := #[97, 95, 98] }, .int .i64 1] w fun e w' => e = .returned (.tuple #[.agg #[.int .u8 95, .int .i64 1, .bool false, .bool false], .bool true]) ∧ Below w.heap.size w w' :=
  made_scan { data := #[97, 95, 98] } 95 1 [97] [98] (Or.inr rfl) rfl (by decide) (by decide) (by decide) (by decide) (by decide) (by decide) 1 rfl false false false false (by decide) (by decide) (by decide) (by decide) w
theorem scan_a (w : World) : Calls Try.prog 8 #[.string { data := #[97] }, .int .i64 0] w fun e w' => e = .returned (.tuple #[.agg #[.int .u8 0, .int .i64 0, .bool false, .bool false], .bool false]) ∧ Below w.heap.size w w' :=
  scan_no { data := #[97] } 0 (by decide) (by
    rintro ⟨p, h, e, hk⟩
    obtain rfl : p = 0 := by omega
    exact (by decide : ¬ ((97 : UInt8) = 42 ∨ (97 : UInt8) = 95)) hk) w
set_option maxHeartbeats 8000000 in
theorem alive_any (w : World) : Calls Try.prog 7 #[] w fun e w' => e = .returned (.bool true) ∧ Below w.heap.size w w' := by
  go_enter Try.func7, Try.ntmps7
  go_wp2_with fail
  refine (scan_stars _).mono ?_
  rintro e w1 ⟨rfl, hb1⟩
  have B1 := Lib.hid hb1
  have z1 := hb1.size
  clear hb1
  go_wp2_with fail
  refine (scan_low _).mono ?_
  rintro e w2 ⟨rfl, hb2⟩
  have B2 : Hid (Below w.heap.size w w2) := chain (Nat.le_refl _) B1.out ((Below.refl w1.heap.size w1).alloc (Nat.le_refl _) _ |>.trans (hb2.mono (by simp)))
  have R2 : Hid (Holds w2 w1.heap.size 24 #[.int .u8 42, .int .i64 2, .bool true, .bool true]) := Holds.under (Holds.made w1 24 _) hb2 (by simp)
  have z2 := hb2.size
  clear hb2 B1
  go_wp2_with fail
  refine (scan_a _).mono ?_
  rintro e w3 ⟨rfl, hb3⟩
  have B3 : Hid (Below w.heap.size w w3) := chain (Nat.le_refl _) B2.out ((Below.refl w2.heap.size w2).alloc (Nat.le_refl _) _ |>.trans (hb3.mono (by simp)))
  simp at z2
  have R3 := Lib.hid (R2.out.under (((Below.refl w2.heap.size w2).alloc (Nat.le_refl _) _).trans (hb3.mono (by simp))) R2.out.lt)
  have Q3 : Hid (Holds w3 w2.heap.size 24 #[.int .u8 95, .int .i64 1, .bool false, .bool false]) := Holds.under (Holds.made w2 24 _) hb3 (by simp)
  have z3 := hb3.size
  simp at z3
  clear hb3 B2 R2
  have zz1 : w1.heap.size < w3.heap.size := by omega
  have zz2 : w2.heap.size < w3.heap.size := by omega
  have x0 : w3.cell? ⟨w1.heap.size, 0, none⟩ = some (.int .u8 42) := R3.out.at 0
  have x1 : w3.cell? ⟨w1.heap.size, 1, none⟩ = some (.int .i64 2) := R3.out.at 1
  have x2 : w3.cell? ⟨w1.heap.size, 2, none⟩ = some (.bool true) := R3.out.at 2
  have x3 : w3.cell? ⟨w1.heap.size, 3, none⟩ = some (.bool true) := R3.out.at 3
  have y0 : w3.cell? ⟨w2.heap.size, 0, none⟩ = some (.int .u8 95) := Q3.out.at 0
  have y1 : w3.cell? ⟨w2.heap.size, 1, none⟩ = some (.int .i64 1) := Q3.out.at 1
  have y2 : w3.cell? ⟨w2.heap.size, 2, none⟩ = some (.bool false) := Q3.out.at 2
  have y3 : w3.cell? ⟨w2.heap.size, 3, none⟩ = some (.bool false) := Q3.out.at 3
  go_wp2_with fail
  go_ret
  exact ⟨rfl, B3.out.alloc (by have := B3.out.size; omega) _⟩
end Go.Proofs.Ythglejhhfnpdaaa
