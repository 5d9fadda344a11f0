/-
  PROVED: stetlaw08.LinkWithin returns true, a way at a time: by which of the calls within it tell a part. Conditions: the text has at most 20000 bytes; what each call tells is within the text.
-/
import Derived.Test.YtfoheffbapifpaaDoorAlive
import Derived.Deep.RegionHeld3
namespace Go.Proofs.YtfoheffbapifpaaDoor
open Go.ChangeShapes Go.WideShapes Go.ChangeAt Go.RowKit Go.Sort
set_option linter.unusedVariables false

set_option maxHeartbeats 16000000 in
set_option maxRecDepth 100000 in
theorem wi_1001 (s : ByteArray) (p : Nat) (hs : s.size ≤ 20000) (hp : p < s.size) (X : ByteArray) (n : Nat) (hn3 : 3 ≤ n) (hpn : p + n ≤ s.size) (hX : s.extract (p + 1) (p + n - 1) = X) (h91 : (s[p]'hp) = 91) (h93 : (s[p + n - 1]'(by omega)) = 93) (D : ByteArray) (T : ByteArray) (L Y Z : ByteArray) (q m : Nat) (hm : 0 < m) (hpm : p + m ≤ s.size) (hq : p < q) (hqm : q ≤ p + m) 
    (H8 : Hid (∀ W, Calls Tryd.prog 8 #[.string s, .int .i64 p] W fun r w' => r = .returned (.tuple #[.string X, .int .i64 n]) ∧ Below W.heap.size W w'))
    (H10 : Hid (∀ W, Calls Tryd.prog 10 #[.string s, .int .i64 p] W fun r w' => r = .returned (.tuple #[.string D, .int .i64 0]) ∧ Below W.heap.size W w'))
    (H12 : Hid (∀ W, Calls Tryd.prog 12 #[.string s, .int .i64 p] W fun r w' => r = .returned (.tuple #[.string T, .int .i64 0]) ∧ Below W.heap.size W w'))
    (H14 : Hid (∀ W, Calls Tryd.prog 14 #[.string s, .int .i64 p] W fun r w' => r = .returned (.tuple #[.agg #[.string L, .string Y, .string Z, .int .i64 p, .int .i64 q], .int .i64 m]) ∧ Below W.heap.size W w'))
    (H17 : Hid (∀ W, Calls Tryd.prog 17 #[.string L] W fun r w' => r = .returned (.string L) ∧ Below W.heap.size W w'))
    (w : World) : Calls Tryd.prog 5 #[.string s, .int .i64 p] w fun e w' => e = .returned (.bool true) ∧ Below w.heap.size w w' := by
  have dp : decide ((p : Int) < 0) = false := by simp
  have dn1 : decide ((n : Int) < 3) = false := decide_eq_false (by omega)
  have dn2 : decide ((s.size : Int) - p < n) = false := decide_eq_false (by omega)
  have cX : ((s.extract (p + 1) (p + n - 1)).toList == X.toList) = true := by rw [hX]; exact beq_self_eq_true _
  have n1 := (s[p]'hp).toNat_lt
  have n2 := (s[p + n - 1]'(by omega)).toNat_lt
  have c91 : (((s[p]'hp).toNat : Int) != 91) = false := nq_u8 _ 91 h91
  have c93 : (((s[p + n - 1]'(by omega)).toNat : Int) != 93) = false := nq_u8 _ 93 h93
  clear hX h91 h93
  have cm : ((m : Int) == 0) = false := by rw [beq_eq_false_iff_ne]; omega
  have cL : (L.toList == L.toList) = true := beq_self_eq_true _
  have e0 : decide ((0 : Int) ≤ (p : Int)) = true := decide_eq_true (by omega)
  have e1 : IntKind.i64.wrap ((s.size : Int) - p) = (s.size : Int) - p := IntWalk.i64_in _ (by omega)
  have e2 : decide ((m : Int) ≤ (s.size : Int) - p) = true := decide_eq_true (by omega)
  have e3 : ((p : Int) == (p : Int)) = true := beq_self_eq_true _
  have e4 : IntKind.i64.wrap ((q : Int) - p) = (q : Int) - p := IntWalk.i64_in _ (by omega)
  have e5 : decide ((q : Int) - p ≤ (m : Int)) = true := decide_eq_true (by omega)
  have e6 : decide (p < q) = true := decide_eq_true hq
  go_enter Tryd.func5, Tryd.ntmps5
  go_wp2_with fail
  refine (alive_any _).mono ?_
  rintro e' x0 ⟨rfl, hb⟩
  have B0 := Lib.hid hb
  clear hb
  go_wp2_with fail
  refine (H8.out _).mono ?_
  rintro e' x1 ⟨rfl, hb⟩
  have B1 := Lib.hid hb
  clear hb
  go_wp2_with fail
  refine (H10.out _).mono ?_
  rintro e' x2 ⟨rfl, hb⟩
  have B2 := Lib.hid hb
  clear hb
  go_wp2_with fail
  refine (H12.out _).mono ?_
  rintro e' x3 ⟨rfl, hb⟩
  have B3 := Lib.hid hb
  clear hb
  go_wp2_with fail
  refine (H14.out _).mono ?_
  rintro e' x5 ⟨rfl, hb⟩
  have B5 := Lib.hid hb
  clear hb
  go_wp2_with fail
  have HB : Hid (Below w.heap.size w x5) := chain (Nat.le_refl _) (chain (Nat.le_refl _) (chain (Nat.le_refl _) (chain (Nat.le_refl _) (B0.out) B1.out) B2.out) B3.out) B5.out
  have hz5 := HB.out.size
  have HG := Lib.hid (Holds.made x5 27 #[.string L, .string Y, .string Z, .int .i64 p, .int .i64 q])
  have HB6 : Hid (Below w.heap.size w (x5.alloc (.cells #[.string L, .string Y, .string Z, .int .i64 p, .int .i64 q] 27))) := HB.out.alloc hz5 _
  have hz6 : x5.heap.size < (x5.alloc (.cells #[.string L, .string Y, .string Z, .int .i64 p, .int .i64 q] 27)).heap.size := by simp
  clear B0 B1 B2 B3 B5 HB
  generalize x5.alloc (.cells #[.string L, .string Y, .string Z, .int .i64 p, .int .i64 q] 27) = w6 at *
  have g0 : w6.cell? ⟨x5.heap.size, 0, none⟩ = some (.string L) := HG.out.at 0
  have g3 : w6.cell? ⟨x5.heap.size, 3, none⟩ = some (.int .i64 p) := HG.out.at 3
  have g4 : w6.cell? ⟨x5.heap.size, 4, none⟩ = some (.int .i64 q) := HG.out.at 4
  generalize x5.heap.size = G at *
  clear HG
  go_region_held3 (fun w' => w'.cell? ⟨G, 0, none⟩ = some (.string L) ∧ w'.cell? ⟨G, 3, none⟩ = some (.int .i64 p) ∧ w'.cell? ⟨G, 4, none⟩ = some (.int .i64 q)) (first | exact ⟨g0, g3, g4⟩ | (refine ⟨?_, ?_, ?_⟩ <;> assumption))
    (first | (go_at_call 17; ((with_reducible refine (H17.out _).mono ?_)); rintro e' w7 ⟨rfl, hb'⟩; have hb : Below w6.heap.size w6 w7 := (Below.refl w6.heap.size w6).drew.trans hb'; have y0 : w7.cell? ⟨G, 0, none⟩ = some (.string L) := (hb.cell (p := ⟨G, 0, none⟩) (by show G < _; omega)).trans g0; have y3 : w7.cell? ⟨G, 3, none⟩ = some (.int .i64 p) := (hb.cell (p := ⟨G, 3, none⟩) (by show G < _; omega)).trans g3; have y4 : w7.cell? ⟨G, 4, none⟩ = some (.int .i64 q) := (hb.cell (p := ⟨G, 4, none⟩) (by show G < _; omega)).trans g4))
  all_goals (have HB7 := Lib.hid (chain (Nat.le_refl _) HB6.out hb); clear hb hb'; go_wp2_with fail; go_ret; exact ⟨rfl, HB7.out⟩)

end Go.Proofs.YtfoheffbapifpaaDoor
