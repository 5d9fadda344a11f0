/-
  PROVED: contract of class.entities: a map that holds the entities whose names have so many bytes, or no map. Conditions: none.
-/
import Derived.Test.YtfoheffbapifpaaDoorEntPure
import Derived.Test.YtfoheffbapifpaaDoorMarks
import Derived.StringKeys
namespace Go.Proofs.YtfoheffbapifpaaDoor
open Go.ChangeShapes Go.WideShapes Go.ChangeAt Go.RowKit Go.Sort Go.Maps
set_option linter.unusedVariables false

theorem law9 : Keyed Tryd.prog 9 := string_keyed Tryd.underlying9
/-- A new map that holds a list of names. -/
def MapPost (L : List Ent) (w : World) (e : Ending) (w' : World) : Prop :=
  ∃ B n, e = .returned (.map (some B)) ∧ w'.ownsMap Tryd.prog 9 (plainElem (H := Unit) Tryd.prog 3) B n (mapOf L) ∧ Below w.heap.size w w'
theorem ins {w : World} {B n : Nat} {D : DataW Unit} (h : w.ownsMap Tryd.prog 9 (plainElem (H := Unit) Tryd.prog 3) B n D) (hn : n < 1000) (k : ByteArray) (v : Int) (hk : k.size ≤ 1000) (hv : (Lit.int .i64 v).wf = true) :
    ∃ w', (Instr.mapUpdate 97 (.map (some B)) (.string k) (.int .i64 v)).run Tryd.prog w = .ok () w' ∧ w'.ownsMap Tryd.prog 9 (plainElem (H := Unit) Tryd.prog 3) B (n + 1) (D.put (.string k.data.toList) (.lit (.int .i64 v))) ∧ w.grownBy w' (some B) :=
  h.update law9 Tryd.underlying97 (by unfold maxLen; omega) (Go.WideMaps.keyOf_string_mk Tryd.underlying9 (by unfold maxLen; omega)) (plainElem_int Tryd.underlying3 hv)
theorem below_ins {w a b : World} (h : Below w.heap.size w a) (hg : a.grownBy b (some w.heap.size)) : Below w.heap.size w b := h.grown hg h.size (fun j hj => by cases hj; exact Nat.le_refl _)

set_option maxHeartbeats 4000000 in
theorem entities_2 (w : World) : Calls Tryd.prog 103 #[.int .i64 2] w (MapPost ent2 w) := by
  have hmm := @run_makeMap Tryd.prog
  have b0 : Below w.heap.size w (w.alloc (.map #[] 0)) := (Below.refl _ _).alloc (Nat.le_refl _) _
  have o0 := World.ownsMap_made w Tryd.prog 9 (plainElem (H := Unit) Tryd.prog 3)
  obtain ⟨w1, r1, o1, g1⟩ := ins o0 (by omega) ⟨#[108, 116]⟩ 60 (by decide) (by decide)
  have b1 := below_ins b0 g1
  obtain ⟨w2, r2, o2, g2⟩ := ins o1 (by omega) ⟨#[103, 116]⟩ 62 (by decide) (by decide)
  have b2 := below_ins b1 g2
  obtain ⟨w3, r3, o3, g3⟩ := ins o2 (by omega) ⟨#[112, 105]⟩ 960 (by decide) (by decide)
  have b3 := below_ins b2 g3
  obtain ⟨w4, r4, o4, g4⟩ := ins o3 (by omega) ⟨#[110, 101]⟩ 8800 (by decide) (by decide)
  have b4 := below_ins b3 g4
  obtain ⟨w5, r5, o5, g5⟩ := ins o4 (by omega) ⟨#[108, 101]⟩ 8804 (by decide) (by decide)
  have b5 := below_ins b4 g5
  obtain ⟨w6, r6, o6, g6⟩ := ins o5 (by omega) ⟨#[103, 101]⟩ 8805 (by decide) (by decide)
  have b6 := below_ins b5 g6
  have HP : Hid (MapPost ent2 w (.returned (.map (some w.heap.size))) w6) := ⟨w.heap.size, _, rfl, o6, b6⟩
  clear o0 b0 o1 b1 o2 b2 o3 b3 o4 b4 o5 b5 o6 b6 g1 g2 g3 g4 g5 g6
  go_enter Tryd.func103, Tryd.ntmps103
  go_wp2_with fail
  go_ret
  exact HP.out
set_option maxHeartbeats 4000000 in
theorem entities_3 (w : World) : Calls Tryd.prog 103 #[.int .i64 3] w (MapPost ent3 w) := by
  have hmm := @run_makeMap Tryd.prog
  have b0 : Below w.heap.size w (w.alloc (.map #[] 0)) := (Below.refl _ _).alloc (Nat.le_refl _) _
  have o0 := World.ownsMap_made w Tryd.prog 9 (plainElem (H := Unit) Tryd.prog 3)
  obtain ⟨w1, r1, o1, g1⟩ := ins o0 (by omega) ⟨#[97, 109, 112]⟩ 38 (by decide) (by decide)
  have b1 := below_ins b0 g1
  obtain ⟨w2, r2, o2, g2⟩ := ins o1 (by omega) ⟨#[114, 101, 103]⟩ 174 (by decide) (by decide)
  have b2 := below_ins b1 g2
  obtain ⟨w3, r3, o3, g3⟩ := ins o2 (by omega) ⟨#[100, 101, 103]⟩ 176 (by decide) (by decide)
  have b3 := below_ins b2 g3
  obtain ⟨w4, r4, o4, g4⟩ := ins o3 (by omega) ⟨#[121, 101, 110]⟩ 165 (by decide) (by decide)
  have b4 := below_ins b3 g4
  have HP : Hid (MapPost ent3 w (.returned (.map (some w.heap.size))) w4) := ⟨w.heap.size, _, rfl, o4, b4⟩
  clear o0 b0 o1 b1 o2 b2 o3 b3 o4 b4 g1 g2 g3 g4
  go_enter Tryd.func103, Tryd.ntmps103
  go_wp2_with fail
  go_ret
  exact HP.out
set_option maxHeartbeats 4000000 in
theorem entities_4 (w : World) : Calls Tryd.prog 103 #[.int .i64 4] w (MapPost ent4 w) := by
  have hmm := @run_makeMap Tryd.prog
  have b0 : Below w.heap.size w (w.alloc (.map #[] 0)) := (Below.refl _ _).alloc (Nat.le_refl _) _
  have o0 := World.ownsMap_made w Tryd.prog 9 (plainElem (H := Unit) Tryd.prog 3)
  obtain ⟨w1, r1, o1, g1⟩ := ins o0 (by omega) ⟨#[113, 117, 111, 116]⟩ 34 (by decide) (by decide)
  have b1 := below_ins b0 g1
  obtain ⟨w2, r2, o2, g2⟩ := ins o1 (by omega) ⟨#[97, 112, 111, 115]⟩ 39 (by decide) (by decide)
  have b2 := below_ins b1 g2
  obtain ⟨w3, r3, o3, g3⟩ := ins o2 (by omega) ⟨#[110, 98, 115, 112]⟩ 160 (by decide) (by decide)
  have b3 := below_ins b2 g3
  obtain ⟨w4, r4, o4, g4⟩ := ins o3 (by omega) ⟨#[99, 111, 112, 121]⟩ 169 (by decide) (by decide)
  have b4 := below_ins b3 g4
  obtain ⟨w5, r5, o5, g5⟩ := ins o4 (by omega) ⟨#[115, 101, 99, 116]⟩ 167 (by decide) (by decide)
  have b5 := below_ins b4 g5
  obtain ⟨w6, r6, o6, g6⟩ := ins o5 (by omega) ⟨#[112, 97, 114, 97]⟩ 182 (by decide) (by decide)
  have b6 := below_ins b5 g6
  obtain ⟨w7, r7, o7, g7⟩ := ins o6 (by omega) ⟨#[98, 117, 108, 108]⟩ 8226 (by decide) (by decide)
  have b7 := below_ins b6 g7
  obtain ⟨w8, r8, o8, g8⟩ := ins o7 (by omega) ⟨#[101, 117, 114, 111]⟩ 8364 (by decide) (by decide)
  have b8 := below_ins b7 g8
  obtain ⟨w9, r9, o9, g9⟩ := ins o8 (by omega) ⟨#[99, 101, 110, 116]⟩ 162 (by decide) (by decide)
  have b9 := below_ins b8 g9
  obtain ⟨w10, r10, o10, g10⟩ := ins o9 (by omega) ⟨#[108, 97, 114, 114]⟩ 8592 (by decide) (by decide)
  have b10 := below_ins b9 g10
  obtain ⟨w11, r11, o11, g11⟩ := ins o10 (by omega) ⟨#[114, 97, 114, 114]⟩ 8594 (by decide) (by decide)
  have b11 := below_ins b10 g11
  obtain ⟨w12, r12, o12, g12⟩ := ins o11 (by omega) ⟨#[117, 97, 114, 114]⟩ 8593 (by decide) (by decide)
  have b12 := below_ins b11 g12
  obtain ⟨w13, r13, o13, g13⟩ := ins o12 (by omega) ⟨#[100, 97, 114, 114]⟩ 8595 (by decide) (by decide)
  have b13 := below_ins b12 g13
  obtain ⟨w14, r14, o14, g14⟩ := ins o13 (by omega) ⟨#[97, 117, 109, 108]⟩ 228 (by decide) (by decide)
  have b14 := below_ins b13 g14
  obtain ⟨w15, r15, o15, g15⟩ := ins o14 (by omega) ⟨#[111, 117, 109, 108]⟩ 246 (by decide) (by decide)
  have b15 := below_ins b14 g15
  obtain ⟨w16, r16, o16, g16⟩ := ins o15 (by omega) ⟨#[117, 117, 109, 108]⟩ 252 (by decide) (by decide)
  have b16 := below_ins b15 g16
  obtain ⟨w17, r17, o17, g17⟩ := ins o16 (by omega) ⟨#[65, 117, 109, 108]⟩ 196 (by decide) (by decide)
  have b17 := below_ins b16 g17
  obtain ⟨w18, r18, o18, g18⟩ := ins o17 (by omega) ⟨#[79, 117, 109, 108]⟩ 214 (by decide) (by decide)
  have b18 := below_ins b17 g18
  obtain ⟨w19, r19, o19, g19⟩ := ins o18 (by omega) ⟨#[85, 117, 109, 108]⟩ 220 (by decide) (by decide)
  have b19 := below_ins b18 g19
  obtain ⟨w20, r20, o20, g20⟩ := ins o19 (by omega) ⟨#[98, 101, 116, 97]⟩ 946 (by decide) (by decide)
  have b20 := below_ins b19 g20
  have HP : Hid (MapPost ent4 w (.returned (.map (some w.heap.size))) w20) := ⟨w.heap.size, _, rfl, o20, b20⟩
  clear o0 b0 o1 b1 o2 b2 o3 b3 o4 b4 o5 b5 o6 b6 o7 b7 o8 b8 o9 b9 o10 b10 o11 b11 o12 b12 o13 b13 o14 b14 o15 b15 o16 b16 o17 b17 o18 b18 o19 b19 o20 b20 g1 g2 g3 g4 g5 g6 g7 g8 g9 g10 g11 g12 g13 g14 g15 g16 g17 g18 g19 g20
  go_enter Tryd.func103, Tryd.ntmps103
  go_wp2_with fail
  go_ret
  exact HP.out
set_option maxHeartbeats 4000000 in
theorem entities_5 (w : World) : Calls Tryd.prog 103 #[.int .i64 5] w (MapPost ent5 w) := by
  have hmm := @run_makeMap Tryd.prog
  have b0 : Below w.heap.size w (w.alloc (.map #[] 0)) := (Below.refl _ _).alloc (Nat.le_refl _) _
  have o0 := World.ownsMap_made w Tryd.prog 9 (plainElem (H := Unit) Tryd.prog 3)
  obtain ⟨w1, r1, o1, g1⟩ := ins o0 (by omega) ⟨#[116, 114, 97, 100, 101]⟩ 8482 (by decide) (by decide)
  have b1 := below_ins b0 g1
  obtain ⟨w2, r2, o2, g2⟩ := ins o1 (by omega) ⟨#[109, 100, 97, 115, 104]⟩ 8212 (by decide) (by decide)
  have b2 := below_ins b1 g2
  obtain ⟨w3, r3, o3, g3⟩ := ins o2 (by omega) ⟨#[110, 100, 97, 115, 104]⟩ 8211 (by decide) (by decide)
  have b3 := below_ins b2 g3
  obtain ⟨w4, r4, o4, g4⟩ := ins o3 (by omega) ⟨#[108, 115, 113, 117, 111]⟩ 8216 (by decide) (by decide)
  have b4 := below_ins b3 g4
  obtain ⟨w5, r5, o5, g5⟩ := ins o4 (by omega) ⟨#[114, 115, 113, 117, 111]⟩ 8217 (by decide) (by decide)
  have b5 := below_ins b4 g5
  obtain ⟨w6, r6, o6, g6⟩ := ins o5 (by omega) ⟨#[108, 100, 113, 117, 111]⟩ 8220 (by decide) (by decide)
  have b6 := below_ins b5 g6
  obtain ⟨w7, r7, o7, g7⟩ := ins o6 (by omega) ⟨#[114, 100, 113, 117, 111]⟩ 8221 (by decide) (by decide)
  have b7 := below_ins b6 g7
  obtain ⟨w8, r8, o8, g8⟩ := ins o7 (by omega) ⟨#[108, 97, 113, 117, 111]⟩ 171 (by decide) (by decide)
  have b8 := below_ins b7 g8
  obtain ⟨w9, r9, o9, g9⟩ := ins o8 (by omega) ⟨#[114, 97, 113, 117, 111]⟩ 187 (by decide) (by decide)
  have b9 := below_ins b8 g9
  obtain ⟨w10, r10, o10, g10⟩ := ins o9 (by omega) ⟨#[116, 105, 109, 101, 115]⟩ 215 (by decide) (by decide)
  have b10 := below_ins b9 g10
  obtain ⟨w11, r11, o11, g11⟩ := ins o10 (by omega) ⟨#[112, 111, 117, 110, 100]⟩ 163 (by decide) (by decide)
  have b11 := below_ins b10 g11
  obtain ⟨w12, r12, o12, g12⟩ := ins o11 (by omega) ⟨#[115, 122, 108, 105, 103]⟩ 223 (by decide) (by decide)
  have b12 := below_ins b11 g12
  obtain ⟨w13, r13, o13, g13⟩ := ins o12 (by omega) ⟨#[97, 108, 112, 104, 97]⟩ 945 (by decide) (by decide)
  have b13 := below_ins b12 g13
  obtain ⟨w14, r14, o14, g14⟩ := ins o13 (by omega) ⟨#[105, 110, 102, 105, 110]⟩ 8734 (by decide) (by decide)
  have b14 := below_ins b13 g14
  have HP : Hid (MapPost ent5 w (.returned (.map (some w.heap.size))) w14) := ⟨w.heap.size, _, rfl, o14, b14⟩
  clear o0 b0 o1 b1 o2 b2 o3 b3 o4 b4 o5 b5 o6 b6 o7 b7 o8 b8 o9 b9 o10 b10 o11 b11 o12 b12 o13 b13 o14 b14 g1 g2 g3 g4 g5 g6 g7 g8 g9 g10 g11 g12 g13 g14
  go_enter Tryd.func103, Tryd.ntmps103
  go_wp2_with fail
  go_ret
  exact HP.out
set_option maxHeartbeats 4000000 in
theorem entities_6 (w : World) : Calls Tryd.prog 103 #[.int .i64 6] w (MapPost ent6 w) := by
  have hmm := @run_makeMap Tryd.prog
  have b0 : Below w.heap.size w (w.alloc (.map #[] 0)) := (Below.refl _ _).alloc (Nat.le_refl _) _
  have o0 := World.ownsMap_made w Tryd.prog 9 (plainElem (H := Unit) Tryd.prog 3)
  obtain ⟨w1, r1, o1, g1⟩ := ins o0 (by omega) ⟨#[104, 101, 108, 108, 105, 112]⟩ 8230 (by decide) (by decide)
  have b1 := below_ins b0 g1
  obtain ⟨w2, r2, o2, g2⟩ := ins o1 (by omega) ⟨#[112, 108, 117, 115, 109, 110]⟩ 177 (by decide) (by decide)
  have b2 := below_ins b1 g2
  obtain ⟨w3, r3, o3, g3⟩ := ins o2 (by omega) ⟨#[100, 105, 118, 105, 100, 101]⟩ 247 (by decide) (by decide)
  have b3 := below_ins b2 g3
  obtain ⟨w4, r4, o4, g4⟩ := ins o3 (by omega) ⟨#[102, 114, 97, 99, 49, 50]⟩ 189 (by decide) (by decide)
  have b4 := below_ins b3 g4
  obtain ⟨w5, r5, o5, g5⟩ := ins o4 (by omega) ⟨#[109, 105, 100, 100, 111, 116]⟩ 183 (by decide) (by decide)
  have b5 := below_ins b4 g5
  obtain ⟨w6, r6, o6, g6⟩ := ins o5 (by omega) ⟨#[101, 97, 99, 117, 116, 101]⟩ 233 (by decide) (by decide)
  have b6 := below_ins b5 g6
  obtain ⟨w7, r7, o7, g7⟩ := ins o6 (by omega) ⟨#[101, 103, 114, 97, 118, 101]⟩ 232 (by decide) (by decide)
  have b7 := below_ins b6 g7
  obtain ⟨w8, r8, o8, g8⟩ := ins o7 (by omega) ⟨#[99, 99, 101, 100, 105, 108]⟩ 231 (by decide) (by decide)
  have b8 := below_ins b7 g8
  obtain ⟨w9, r9, o9, g9⟩ := ins o8 (by omega) ⟨#[110, 116, 105, 108, 100, 101]⟩ 241 (by decide) (by decide)
  have b9 := below_ins b8 g9
  have HP : Hid (MapPost ent6 w (.returned (.map (some w.heap.size))) w9) := ⟨w.heap.size, _, rfl, o9, b9⟩
  clear o0 b0 o1 b1 o2 b2 o3 b3 o4 b4 o5 b5 o6 b6 o7 b7 o8 b8 o9 b9 g1 g2 g3 g4 g5 g6 g7 g8 g9
  go_enter Tryd.func103, Tryd.ntmps103
  go_wp2_with fail
  go_ret
  exact HP.out
theorem entities_no (z : Int) (h : ¬ (2 ≤ z ∧ z ≤ 6)) (w : World) : Calls Tryd.prog 103 #[.int .i64 z] w fun e w' => e = .returned (.map none) ∧ w' = w := by
  have q2 : ((z : Int) == 2) = false := by simp; omega
  have q3 : ((z : Int) == 3) = false := by simp; omega
  have q4 : ((z : Int) == 4) = false := by simp; omega
  have q5 : ((z : Int) == 5) = false := by simp; omega
  have q6 : ((z : Int) == 6) = false := by simp; omega
  go_enter Tryd.func103, Tryd.ntmps103
  go_wp2_with fail
  go_ret
  exact ⟨rfl, rfl⟩
end Go.Proofs.YtfoheffbapifpaaDoor
