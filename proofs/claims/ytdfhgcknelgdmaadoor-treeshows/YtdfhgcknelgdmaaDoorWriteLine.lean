/-
  PROVED: contract of tree.writeLine: it writes 'lineL' to the builder. Conditions: the node's kind is one, its numbers are a machine's, its texts are small; the tables lie as their initialisers lay them.
-/
import Derived.Test.YtdfhgcknelgdmaaDoorLine
namespace Go.Proofs.YtdfhgcknelgdmaaDoor
open Go.ChangeShapes Go.WideShapes Go.ChangeAt Go.RowKit Go.Sort
set_option linter.unusedVariables false

theorem lst_nil (s : ByteArray) (h : s.size = 0) : lst s = [] := List.eq_nil_of_length_eq_zero (by rw [lst_size]; exact h)
theorem emp_yes (s : ByteArray) (h : s.size = 0) : s.toList.isEmpty = true := by rw [Lib.toList_data, List.isEmpty_iff]; exact lst_nil s h
theorem emp_no (s : ByteArray) (h : 0 < s.size) : s.toList.isEmpty = false := by
  rw [Lib.toList_data, List.isEmpty_eq_false_iff]
  intro e
  have := lst_size s
  unfold lst at this
  rw [e] at this
  simp at this
  omega
theorem kept_holds {w w' : World} {b g : Nat} {t : TypeId} {cs : Array Value} (h : Lib.OthersKept 5 (some b) w w') (hh : Holds w g t cs) (hne : g ≠ b) (ht : t ≠ 5) : Holds w' g t cs :=
  h g _ hh (fun e => hne (Option.some.inj e)) (fun c fz e => by injection e with _ e2; exact ht e2)
theorem bld_lt {B b : Nat} {bs : List Value} {w : World} (h : Lib.IsBuilderF 58 5 B b bs w) : B ≤ b ∧ b < w.heap.size := by
  rcases h with h | h <;> exact ⟨h.1, h.lt⟩

theorem idx80_0 (a0 a1 a2 a3 a4 a5 a6 a7 a8 a9 a10 a11 : Value) (w : World) : Sem.run Tryd.prog (Instr.index 80 (Value.agg #[a0, a1, a2, a3, a4, a5, a6, a7, a8, a9, a10, a11]) (Value.int .i64 0)) w = Result.ok (Value.agg #[a0, a1]) w := by kernel_rfl
theorem idx80_1 (a0 a1 a2 a3 a4 a5 a6 a7 a8 a9 a10 a11 : Value) (w : World) : Sem.run Tryd.prog (Instr.index 80 (Value.agg #[a0, a1, a2, a3, a4, a5, a6, a7, a8, a9, a10, a11]) (Value.int .i64 1)) w = Result.ok (Value.agg #[a2, a3]) w := by kernel_rfl
theorem idx80_2 (a0 a1 a2 a3 a4 a5 a6 a7 a8 a9 a10 a11 : Value) (w : World) : Sem.run Tryd.prog (Instr.index 80 (Value.agg #[a0, a1, a2, a3, a4, a5, a6, a7, a8, a9, a10, a11]) (Value.int .i64 2)) w = Result.ok (Value.agg #[a4, a5]) w := by kernel_rfl
theorem idx80_3 (a0 a1 a2 a3 a4 a5 a6 a7 a8 a9 a10 a11 : Value) (w : World) : Sem.run Tryd.prog (Instr.index 80 (Value.agg #[a0, a1, a2, a3, a4, a5, a6, a7, a8, a9, a10, a11]) (Value.int .i64 3)) w = Result.ok (Value.agg #[a6, a7]) w := by kernel_rfl
theorem idx80_4 (a0 a1 a2 a3 a4 a5 a6 a7 a8 a9 a10 a11 : Value) (w : World) : Sem.run Tryd.prog (Instr.index 80 (Value.agg #[a0, a1, a2, a3, a4, a5, a6, a7, a8, a9, a10, a11]) (Value.int .i64 4)) w = Result.ok (Value.agg #[a8, a9]) w := by kernel_rfl
theorem idx80_5 (a0 a1 a2 a3 a4 a5 a6 a7 a8 a9 a10 a11 : Value) (w : World) : Sem.run Tryd.prog (Instr.index 80 (Value.agg #[a0, a1, a2, a3, a4, a5, a6, a7, a8, a9, a10, a11]) (Value.int .i64 5)) w = Result.ok (Value.agg #[a10, a11]) w := by kernel_rfl
/-- What is written of six things, up to the i-th. -/
def itemL (X : Nat → List UInt8) : Nat → List UInt8
  | 0 => []
  | i + 1 => itemL X i ++ toldL (([[], [35], [], [116], [108], [104]] : List (List UInt8)).getD i []) (X i)
theorem toldL_len (a x : List UInt8) : (toldL a x).length ≤ 1 + a.length + x.length := by
  unfold toldL
  split
  · simp
  · simp; omega
theorem itemL_len (X : Nat → List UInt8) (h : ∀ i, (X i).length ≤ 40000) : ∀ i, (itemL X i).length ≤ 50000 * i
  | 0 => by simp [itemL]
  | i + 1 => by
    rw [itemL, List.length_append]
    have h1 := itemL_len X h i
    have h2 := toldL_len (([[], [35], [], [116], [108], [104]] : List (List UInt8)).getD i []) (X i)
    have h3 := h i
    have h4 : ((([[], [35], [], [116], [108], [104]] : List (List UInt8)).getD i [])).length ≤ 1 := by
      rcases i with _ | _ | _ | _ | _ | _ | i <;> simp [List.getD]
    omega

def LRel (X : Nat → List UInt8) (B b : Nat) (acc : List UInt8) (w : World) (v : Value) (wr : World) : Prop :=
  ∃ i : Nat, i ≤ 6 ∧ v = .int .i64 i ∧ Lib.IsBuilderF 58 5 B b (Lib.byteCells (acc ++ itemL X i)) wr ∧ Below B w wr

theorem six_texts (n : Nd) (hN : NumN n) (hx : n.x.size ≤ 10000) (hu : n.u.size ≤ 10000) (hh : n.h.size ≤ 10000) (sp : Bool) (kv pv : Value) :
    ∃ X0 X1 X2 X3 X4 X5 : ByteArray, lst X0 = spanL n sp ∧ lst X1 = levL n ∧ lst X2 = tigL n ∧ lst X3 = quoL (lst n.x) ∧ lst X4 = quoL (lst n.u) ∧ lst X5 = quoL (lst n.h) ∧
      X0.size ≤ 40000 ∧ X1.size ≤ 40000 ∧ X2.size ≤ 40000 ∧ X3.size ≤ 40000 ∧ X4.size ≤ 40000 ∧ X5.size ≤ 40000 ∧
      (∀ W, Glob W → Calls Tryd.prog 52 #[nagg n kv pv, .bool sp] W fun e w' => e = .returned (.string X0) ∧ Below W.heap.size W w') ∧
      (∀ W, Glob W → Calls Tryd.prog 53 #[nagg n kv pv] W fun e w' => e = .returned (.string X1) ∧ Below W.heap.size W w') ∧
      (∀ W, Glob W → Calls Tryd.prog 54 #[nagg n kv pv] W fun e w' => e = .returned (.string X2) ∧ Below W.heap.size W w') ∧
      (∀ W, Glob W → Calls Tryd.prog 55 #[.string n.x] W fun e w' => e = .returned (.string X3) ∧ Below W.heap.size W w') ∧
      (∀ W, Glob W → Calls Tryd.prog 55 #[.string n.u] W fun e w' => e = .returned (.string X4) ∧ Below W.heap.size W w') ∧
      (∀ W, Glob W → Calls Tryd.prog 55 #[.string n.h] W fun e w' => e = .returned (.string X5) ∧ Below W.heap.size W w') := by
  refine ⟨⟨(spanL n sp).toArray⟩, ⟨(levL n).toArray⟩, ⟨(tigL n).toArray⟩, ⟨(quoL (lst n.x)).toArray⟩, ⟨(quoL (lst n.u)).toArray⟩, ⟨(quoL (lst n.h)).toArray⟩, lst_mk _, lst_mk _, lst_mk _, lst_mk _, lst_mk _, lst_mk _, ?_, ?_, ?_, ?_, ?_, ?_, ?_, ?_, ?_, ?_, ?_, ?_⟩
  · rw [← lst_size, lst_mk]; unfold spanL; split
    · have h1 := Lib.itoa_length_le n.f hN.1.1 hN.1.2; have h2 := Lib.itoa_length_le n.t hN.2.1.1 hN.2.1.2; simp; omega
    · simp
  · rw [← lst_size, lst_mk]; unfold levL; split
    · simp
    · have h1 := Lib.itoa_length_le n.l hN.2.2.1 hN.2.2.2; omega
  · rw [← lst_size, lst_mk]; unfold tigL; split <;> simp
  · rw [← lst_size, lst_mk]; have := quoL_len (lst n.x); rw [lst_size] at this; omega
  · rw [← lst_size, lst_mk]; have := quoL_len (lst n.u); rw [lst_size] at this; omega
  · rw [← lst_size, lst_mk]; have := quoL_len (lst n.h); rw [lst_size] at this; omega
  · exact fun W hg => span_text n hN.1 hN.2.1 sp kv pv W hg
  · exact fun W hg => level_text n hN.2.2 kv pv W hg
  · exact fun W _ => tight_text n kv pv W
  · exact fun W _ => quoted_any n.x hx W
  · exact fun W _ => quoted_any n.u hu W
  · exact fun W _ => quoted_any n.h hh W

set_option maxRecDepth 100000 in
set_option maxHeartbeats 16000000 in
theorem writeLine_any (n : Nd) (hN : NumN n) (hk0 : 0 ≤ n.k) (hk1 : n.k < 19) (hx : n.x.size ≤ 10000) (hu : n.u.size ≤ 10000) (hh : n.h.size ≤ 10000) (sp : Bool) (KA PA : Option Addr) (K kc P pc : Nat) (B b : Nat) (acc : List UInt8) (hacc : acc.length ≤ 100000000000) (w : World) (hg : Glob w) (hB5 : 5 ≤ B)
    (hI : Lib.IsBuilderF 58 5 B b (Lib.byteCells acc) w) :
    Calls Tryd.prog 33 #[.pointer (some ⟨b, 0, none⟩), nagg n (.slice KA K kc) (.slice PA P pc), .bool sp] w fun e w' => e = .returned (.tuple #[]) ∧ Lib.IsBuilderF 58 5 B b (Lib.byteCells (acc ++ lineL n sp)) w' ∧ Below B w w' := by
  obtain ⟨hBb, hbw⟩ := bld_lt hI
  obtain ⟨X0, X1, X2, X3, X4, X5, e0, e1, e2, e3, e4, e5, l0, l1, l2, l3, l4, l5, c0, c1, c2, c3, c4, c5⟩ := six_texts n hN hx hu hh sp (.slice KA K kc) (.slice PA P pc)
  have HL : Hid (lineL n sp = nameL n.k ++ (itemL (fun i => [lst X0, lst X1, lst X2, lst X3, lst X4, lst X5].getD i []) 6 ++ [10])) := by
    show _ = _
    simp only [itemL, List.getD, e0, e1, e2, e3, e4, e5]
    unfold lineL
    simp [List.append_assoc]
  obtain ⟨k, hk⟩ : ∃ k : Nat, n.k = (k : Int) := ⟨n.k.toNat, by omega⟩
  have hk9 : k < 19 := by omega
  obtain ⟨NM, hNM⟩ : ∃ F : ByteArray, F = ⟨(nameL n.k).toArray⟩ := ⟨_, rfl⟩
  have hNl : lst NM = nameL n.k := by rw [hNM]
  have hNs : NM.size ≤ 10 := by
    rw [← lst_size, hNl, hk]
    have : k = 0 ∨ k = 1 ∨ k = 2 ∨ k = 3 ∨ k = 4 ∨ k = 5 ∨ k = 6 ∨ k = 7 ∨ k = 8 ∨ k = 9 ∨ k = 10 ∨ k = 11 ∨ k = 12 ∨ k = 13 ∨ k = 14 ∨ k = 15 ∨ k = 16 ∨ k = 17 ∨ k = 18 := by omega
    rcases this with rfl | rfl | rfl | rfl | rfl | rfl | rfl | rfl | rfl | rfl | rfl | rfl | rfl | rfl | rfl | rfl | rfl | rfl | rfl <;> decide
  have cn : w.cell? ⟨0, k, none⟩ = some (.string NM) := by rw [hNM, hk]; exact hg.nm k hk9
  have HXl : Hid (∀ i, ([lst X0, lst X1, lst X2, lst X3, lst X4, lst X5].getD i []).length ≤ 40000) := by
    intro i
    rcases i with _ | _ | _ | _ | _ | _ | i <;> simp [List.getD] <;> assumption
  have HNl := Lib.hid hNl
  have hw0 : 0 < w.heap.size := by have := hg.sz; omega
  have H0 := Lib.hid c0
  have H1 := Lib.hid c1
  have H2 := Lib.hid c2
  have H3 := Lib.hid c3
  have H4 := Lib.hid c4
  have H5 := Lib.hid c5
  have HI := Lib.hid hI
  have HGl := Lib.hid hg
  clear c0 c1 c2 c3 c4 c5 e0 e1 e2 e3 e4 e5 hNl hNM hI hg hN
  obtain ⟨nk, nf, nt, nl, nx, nu, nh, ng, nks, nps⟩ := n
  simp only at *
  subst hk
  obtain ⟨W0, hW0⟩ : ∃ W0, W0 = w.alloc (.cells #[.int .i64 k, .int .i64 nf, .int .i64 nt, .int .i64 nl, .string nx, .string nu, .string nh, .bool ng, .slice KA K kc, .slice PA P pc] 39) := ⟨_, rfl⟩
  have hb0 : Below w.heap.size w W0 := by rw [hW0]; exact (Below.refl _ _).alloc (Nat.le_refl _) _
  have J0 : Hid (Holds W0 w.heap.size 39 #[.int .i64 k, .int .i64 nf, .int .i64 nt, .int .i64 nl, .string nx, .string nu, .string nh, .bool ng, .slice KA K kc, .slice PA P pc]) := by show Holds _ _ _ _; rw [hW0]; exact Holds.made w 39 _
  have HI0 := Lib.hid (bld_below HI.out hb0)
  have HW0 := Lib.hid hW0
  have HB0 := Lib.hid hb0
  have hz0 := hb0.size
  clear hW0 hb0
  go_enter Tryd.func33, Tryd.ntmps33
  go_wp2_with fail
  rw [← HW0.out]
  refine (Tryd.Builder_Write B b (Lib.byteCells acc) NM W0 HI0.out (by rw [Lib.byteCells_length]; omega) (by omega)).mono ?_
  rintro e w1 ⟨rfl, g1, b1, k1⟩
  have HI1 := Lib.hid (bld_str HNl.out g1)
  have J1 := Lib.hid (kept_holds k1 J0.out (by omega) (by decide))
  have B1 : Hid (Below B w w1) := (HB0.out.mono (by omega)).trans b1
  have hz1 := b1.size
  clear g1 b1 k1 cn
  have hG1 := HGl.out.under B1.out hB5
  have C0 : Hid (∀ d os, Calls Tryd.prog 52 #[.agg #[.int .i64 k, .int .i64 nf, .int .i64 nt, .int .i64 nl, .string nx, .string nu, .string nh, .bool ng, .slice KA K kc, .slice PA P pc], .bool sp] (grow (redrawn w1 d) os) fun e w'' => e = .returned (.string X0) ∧ ∃ p : Regrown, w'' = grow (redrawn w1 p.d) p.os) := fun d os => Calls.regrown_of (H0.out _ (hG1.on (below_regrown w1 d os)))
  have C1 : Hid (∀ d os, Calls Tryd.prog 53 #[.agg #[.int .i64 k, .int .i64 nf, .int .i64 nt, .int .i64 nl, .string nx, .string nu, .string nh, .bool ng, .slice KA K kc, .slice PA P pc]] (grow (redrawn w1 d) os) fun e w'' => e = .returned (.string X1) ∧ ∃ p : Regrown, w'' = grow (redrawn w1 p.d) p.os) := fun d os => Calls.regrown_of (H1.out _ (hG1.on (below_regrown w1 d os)))
  have C2 : Hid (∀ d os, Calls Tryd.prog 54 #[.agg #[.int .i64 k, .int .i64 nf, .int .i64 nt, .int .i64 nl, .string nx, .string nu, .string nh, .bool ng, .slice KA K kc, .slice PA P pc]] (grow (redrawn w1 d) os) fun e w'' => e = .returned (.string X2) ∧ ∃ p : Regrown, w'' = grow (redrawn w1 p.d) p.os) := fun d os => Calls.regrown_of (H2.out _ (hG1.on (below_regrown w1 d os)))
  have C3 : Hid (∀ d os, Calls Tryd.prog 55 #[.string nx] (grow (redrawn w1 d) os) fun e w'' => e = .returned (.string X3) ∧ ∃ p : Regrown, w'' = grow (redrawn w1 p.d) p.os) := fun d os => Calls.regrown_of (H3.out _ (hG1.on (below_regrown w1 d os)))
  have C4 : Hid (∀ d os, Calls Tryd.prog 55 #[.string nu] (grow (redrawn w1 d) os) fun e w'' => e = .returned (.string X4) ∧ ∃ p : Regrown, w'' = grow (redrawn w1 p.d) p.os) := fun d os => Calls.regrown_of (H4.out _ (hG1.on (below_regrown w1 d os)))
  have C5 : Hid (∀ d os, Calls Tryd.prog 55 #[.string nh] (grow (redrawn w1 d) os) fun e w'' => e = .returned (.string X5) ∧ ∃ p : Regrown, w'' = grow (redrawn w1 p.d) p.os) := fun d os => Calls.regrown_of (H5.out _ (hG1.on (below_regrown w1 d os)))
  have y0 := cell_regrown (v := .int .i64 k) (J1.out.at 0)
  have y1 := cell_regrown (v := .int .i64 nf) (J1.out.at 1)
  have y2 := cell_regrown (v := .int .i64 nt) (J1.out.at 2)
  have y3 := cell_regrown (v := .int .i64 nl) (J1.out.at 3)
  have y4 := cell_regrown (v := .string nx) (J1.out.at 4)
  have y5 := cell_regrown (v := .string nu) (J1.out.at 5)
  have y6 := cell_regrown (v := .string nh) (J1.out.at 6)
  have y7 := cell_regrown (v := .bool ng) (J1.out.at 7)
  have y8 := cell_regrown (v := .slice KA K kc) (J1.out.at 8)
  have y9 := cell_regrown (v := .slice PA P pc) (J1.out.at 9)
  have HG1 := Lib.hid hG1
  clear hG1 H0 H1 H2 H3 H4 H5
  go_wp2_with fail
  refine wp_region_quiet_below (by kernel_rfl) (by kernel_rfl) ?_
  repeat (go_big_quiet_step (first | (go_at_call 52; with_reducible exact C0.out _ _) | (go_at_call 53; with_reducible exact C1.out _ _) | (go_at_call 54; with_reducible exact C2.out _ _) | (go_at_call 55; with_reducible exact C3.out _ _) | (go_at_call 55; with_reducible exact C4.out _ _) | (go_at_call 55; with_reducible exact C5.out _ _)))
  refine wpQuiet_nil ?_
  intro _ hw'
  obtain ⟨⟨dq, osq⟩, hw''⟩ := hw'
  subst hw''
  have HZ : Hid (Below w1.heap.size w1 (grow (redrawn w1 dq) osq)) := below_regrown w1 dq osq
  clear y0 y1 y2 y3 y4 y5 y6 y7 y8 y9 C0 C1 C2 C3 C4 C5
  generalize grow (redrawn w1 dq) osq = w2 at HZ ⊢
  have HI2 := Lib.hid (bld_below HI1.out HZ.out)
  have B2 : Hid (Below B w w2) := B1.out.trans (HZ.out.mono (by omega))
  have hz2 := HZ.out.size
  go_wp2_with fail
  obtain ⟨AN, hAN⟩ : ∃ l, l = acc ++ nameL (k : Int) := ⟨_, rfl⟩
  have hANl : AN.length ≤ 100000000100 := by rw [hAN, List.length_append, ← HNl.out, lst_size]; omega
  have HAN := Lib.hid hAN
  rw [← hAN] at HI2
  clear hAN
  obtain ⟨X, hX⟩ : ∃ X : Nat → List UInt8, X = fun i => [lst X0, lst X1, lst X2, lst X3, lst X4, lst X5].getD i [] := ⟨_, rfl⟩
  have HXl2 : Hid (∀ i, (itemL X i).length ≤ 50000 * i) := itemL_len X (by rw [hX]; exact HXl.out)
  rw [← hX] at HL
  have HX0 : Hid (X 0 = lst X0) := by show _ = _; rw [hX]; rfl
  have HX1 : Hid (X 1 = lst X1) := by show _ = _; rw [hX]; rfl
  have HX2 : Hid (X 2 = lst X2) := by show _ = _; rw [hX]; rfl
  have HX3 : Hid (X 3 = lst X3) := by show _ = _; rw [hX]; rfl
  have HX4 : Hid (X 4 = lst X4) := by show _ = _; rw [hX]; rfl
  have HX5 : Hid (X 5 = lst X5) := by show _ = _; rw [hX]; rfl
  clear hX HXl
  go_loopw [37] (fun v wr => LRel X B b AN w v wr) (fun v _ => 6 - (intOf v).toNat)
  case atStart => exact ⟨0, Nat.zero_le _, rfl, by simpa [itemL] using HI2.out, B2.out⟩
  case round =>
    obtain ⟨i, hi, rfl, hI, hB⟩ := hrel
    have HIr := Lib.hid hI
    have HBr := Lib.hid hB
    have hil := HXl2.out i
    obtain ⟨_, hbr⟩ := bld_lt hI
    have hzr := hB.size
    clear hI hB
    by_cases h6 : i = 6
    · subst h6
      have hl2 : (AN ++ itemL X 6).length ≤ 200000000000 := by rw [List.length_append]; omega
      go_wp2_with fail
      refine (Tryd.Builder_WriteByte B b (Lib.byteCells (AN ++ itemL X 6)) _ _ HIr.out (by rw [Lib.byteCells_length]; omega) (by omega)).mono ?_
      rintro e w3 ⟨rfl, g1, b1, k1⟩
      have HI3 := Lib.hid (bld_byte (c := 10) g1)
      have HB3 := Lib.hid (HBr.out.trans b1)
      clear g1 b1 k1
      go_wp2_with fail
      refine bodyPost_end (results_none rfl _ _ _) rfl ?_
      refine ⟨rfl, ?_, HB3.out⟩
      have := HI3.out
      rw [HAN.out, List.append_assoc, List.append_assoc, ← HL.out] at this
      exact this
    · have h5 : i = 0 ∨ i = 1 ∨ i = 2 ∨ i = 3 ∨ i = 4 ∨ i = 5 := by omega
      clear h6
      rcases h5 with rfl | rfl | rfl | rfl | rfl | rfl
      · have hix := idx80_0
        have hl2 : (AN ++ itemL X 0).length ≤ 200000000000 := by rw [List.length_append]; omega
        by_cases he : X0.size = 0
        · have e1 : X0.toList.isEmpty = true := emp_yes X0 he
          have HS : Hid (itemL X 1 = itemL X 0) := by show _ = _; rw [show itemL X 1 = itemL X 0 ++ toldL (([[], [35], [], [116], [108], [104]] : List (List UInt8)).getD 0 []) (X 0) from rfl, HX0.out, lst_nil X0 he]; simp [toldL]
          clear he
          go_wp2_with fail
          go_roundw
          case rel => exact ⟨1, by omega, by go_num, by rw [HS.out]; exact bld_below HIr.out ((Below.refl _ _).alloc (Nat.le_refl _) _), HBr.out.alloc (by omega) _⟩
          case measure => simp [intOf]
        · have e1 : X0.toList.isEmpty = false := emp_no X0 (by omega)
          have HS : Hid (AN ++ itemL X 1 = AN ++ itemL X 0 ++ [32] ++ [] ++ lst X0) := by show _ = _; rw [show itemL X 1 = itemL X 0 ++ toldL (([[], [35], [], [116], [108], [104]] : List (List UInt8)).getD 0 []) (X 0) from rfl, HX0.out]; unfold toldL; rw [if_neg (fun e => he (by rw [← lst_size, e]; rfl))]; simp [List.append_assoc]
          have R0 : Hid (Holds (wr.alloc (.cells #[.string { data := #[] }, .string X0] 78)) wr.heap.size 78 #[.string { data := #[] }, .string X0]) := Holds.made wr 78 _
          have R1 := Lib.hid (bld_below HIr.out ((Below.refl _ _).alloc (Nat.le_refl _) (.cells #[.string { data := #[] }, .string X0] 78)))
          clear he
          go_wp2_with fail
          refine (Tryd.Builder_WriteByte B b (Lib.byteCells (AN ++ itemL X 0)) _ _ R1.out (by rw [Lib.byteCells_length]; omega) (by simp; omega)).mono ?_
          rintro e w3 ⟨rfl, g1, b1, k1⟩
          have HI3 := Lib.hid (bld_byte (c := 32) g1)
          have R3 := Lib.hid (kept_holds k1 R0.out (by omega) (by decide))
          have HB3 : Hid (Below B w w3) := (HBr.out.alloc (by omega) _).trans b1
          have hz3 := b1.size
          simp only [World.size_alloc] at hz3
          have t0 : w3.cell? ⟨wr.heap.size, 0, none⟩ = some (.string { data := #[] }) := R3.out.at 0
          clear g1 b1 k1 R0 R1
          go_wp2_with fail
          refine (Tryd.Builder_Write B b (Lib.byteCells (AN ++ itemL X 0 ++ [32])) { data := #[] } _ HI3.out (by rw [Lib.byteCells_length, List.length_append]; show _ + _ + 0 ≤ _; simp; omega) (by omega)).mono ?_
          rintro e w4 ⟨rfl, g1, b1, k1⟩
          have HI4 := Lib.hid (bld_str (x := []) rfl g1)
          have R4 := Lib.hid (kept_holds k1 R3.out (by omega) (by decide))
          have HB4 := Lib.hid (HB3.out.trans b1)
          have hz4 := b1.size
          have t1 : w4.cell? ⟨wr.heap.size, 1, none⟩ = some (.string X0) := R4.out.at 1
          clear g1 b1 k1 R3 t0
          go_wp2_with fail
          refine (Tryd.Builder_Write B b (Lib.byteCells (AN ++ itemL X 0 ++ [32] ++ [])) X0 _ HI4.out (by rw [Lib.byteCells_length, List.length_append, List.length_append]; simp; omega) (by omega)).mono ?_
          rintro e w5 ⟨rfl, g1, b1, k1⟩
          have HI5 := Lib.hid (bld_str (x := lst X0) rfl g1)
          have HB5 := Lib.hid (HB4.out.trans b1)
          clear g1 b1 k1 R4 t1
          go_wp2_with fail
          go_roundw
          case rel => exact ⟨1, by omega, by go_num, by rw [HS.out]; exact HI5.out, HB5.out⟩
          case measure => simp [intOf]
      · have hix := idx80_1
        have hl2 : (AN ++ itemL X 1).length ≤ 200000000000 := by rw [List.length_append]; omega
        by_cases he : X1.size = 0
        · have e1 : X1.toList.isEmpty = true := emp_yes X1 he
          have HS : Hid (itemL X 2 = itemL X 1) := by show _ = _; rw [show itemL X 2 = itemL X 1 ++ toldL (([[], [35], [], [116], [108], [104]] : List (List UInt8)).getD 1 []) (X 1) from rfl, HX1.out, lst_nil X1 he]; simp [toldL]
          clear he
          go_wp2_with fail
          go_roundw
          case rel => exact ⟨2, by omega, by go_num, by rw [HS.out]; exact bld_below HIr.out ((Below.refl _ _).alloc (Nat.le_refl _) _), HBr.out.alloc (by omega) _⟩
          case measure => simp [intOf]
        · have e1 : X1.toList.isEmpty = false := emp_no X1 (by omega)
          have HS : Hid (AN ++ itemL X 2 = AN ++ itemL X 1 ++ [32] ++ [35] ++ lst X1) := by show _ = _; rw [show itemL X 2 = itemL X 1 ++ toldL (([[], [35], [], [116], [108], [104]] : List (List UInt8)).getD 1 []) (X 1) from rfl, HX1.out]; unfold toldL; rw [if_neg (fun e => he (by rw [← lst_size, e]; rfl))]; simp [List.append_assoc]
          have R0 : Hid (Holds (wr.alloc (.cells #[.string { data := #[35] }, .string X1] 78)) wr.heap.size 78 #[.string { data := #[35] }, .string X1]) := Holds.made wr 78 _
          have R1 := Lib.hid (bld_below HIr.out ((Below.refl _ _).alloc (Nat.le_refl _) (.cells #[.string { data := #[35] }, .string X1] 78)))
          clear he
          go_wp2_with fail
          refine (Tryd.Builder_WriteByte B b (Lib.byteCells (AN ++ itemL X 1)) _ _ R1.out (by rw [Lib.byteCells_length]; omega) (by simp; omega)).mono ?_
          rintro e w3 ⟨rfl, g1, b1, k1⟩
          have HI3 := Lib.hid (bld_byte (c := 32) g1)
          have R3 := Lib.hid (kept_holds k1 R0.out (by omega) (by decide))
          have HB3 : Hid (Below B w w3) := (HBr.out.alloc (by omega) _).trans b1
          have hz3 := b1.size
          simp only [World.size_alloc] at hz3
          have t0 : w3.cell? ⟨wr.heap.size, 0, none⟩ = some (.string { data := #[35] }) := R3.out.at 0
          clear g1 b1 k1 R0 R1
          go_wp2_with fail
          refine (Tryd.Builder_Write B b (Lib.byteCells (AN ++ itemL X 1 ++ [32])) { data := #[35] } _ HI3.out (by rw [Lib.byteCells_length, List.length_append]; show _ + _ + 1 ≤ _; simp; omega) (by omega)).mono ?_
          rintro e w4 ⟨rfl, g1, b1, k1⟩
          have HI4 := Lib.hid (bld_str (x := [35]) rfl g1)
          have R4 := Lib.hid (kept_holds k1 R3.out (by omega) (by decide))
          have HB4 := Lib.hid (HB3.out.trans b1)
          have hz4 := b1.size
          have t1 : w4.cell? ⟨wr.heap.size, 1, none⟩ = some (.string X1) := R4.out.at 1
          clear g1 b1 k1 R3 t0
          go_wp2_with fail
          refine (Tryd.Builder_Write B b (Lib.byteCells (AN ++ itemL X 1 ++ [32] ++ [35])) X1 _ HI4.out (by rw [Lib.byteCells_length, List.length_append, List.length_append]; simp; omega) (by omega)).mono ?_
          rintro e w5 ⟨rfl, g1, b1, k1⟩
          have HI5 := Lib.hid (bld_str (x := lst X1) rfl g1)
          have HB5 := Lib.hid (HB4.out.trans b1)
          clear g1 b1 k1 R4 t1
          go_wp2_with fail
          go_roundw
          case rel => exact ⟨2, by omega, by go_num, by rw [HS.out]; exact HI5.out, HB5.out⟩
          case measure => simp [intOf]
      · have hix := idx80_2
        have hl2 : (AN ++ itemL X 2).length ≤ 200000000000 := by rw [List.length_append]; omega
        by_cases he : X2.size = 0
        · have e1 : X2.toList.isEmpty = true := emp_yes X2 he
          have HS : Hid (itemL X 3 = itemL X 2) := by show _ = _; rw [show itemL X 3 = itemL X 2 ++ toldL (([[], [35], [], [116], [108], [104]] : List (List UInt8)).getD 2 []) (X 2) from rfl, HX2.out, lst_nil X2 he]; simp [toldL]
          clear he
          go_wp2_with fail
          go_roundw
          case rel => exact ⟨3, by omega, by go_num, by rw [HS.out]; exact bld_below HIr.out ((Below.refl _ _).alloc (Nat.le_refl _) _), HBr.out.alloc (by omega) _⟩
          case measure => simp [intOf]
        · have e1 : X2.toList.isEmpty = false := emp_no X2 (by omega)
          have HS : Hid (AN ++ itemL X 3 = AN ++ itemL X 2 ++ [32] ++ [] ++ lst X2) := by show _ = _; rw [show itemL X 3 = itemL X 2 ++ toldL (([[], [35], [], [116], [108], [104]] : List (List UInt8)).getD 2 []) (X 2) from rfl, HX2.out]; unfold toldL; rw [if_neg (fun e => he (by rw [← lst_size, e]; rfl))]; simp [List.append_assoc]
          have R0 : Hid (Holds (wr.alloc (.cells #[.string { data := #[] }, .string X2] 78)) wr.heap.size 78 #[.string { data := #[] }, .string X2]) := Holds.made wr 78 _
          have R1 := Lib.hid (bld_below HIr.out ((Below.refl _ _).alloc (Nat.le_refl _) (.cells #[.string { data := #[] }, .string X2] 78)))
          clear he
          go_wp2_with fail
          refine (Tryd.Builder_WriteByte B b (Lib.byteCells (AN ++ itemL X 2)) _ _ R1.out (by rw [Lib.byteCells_length]; omega) (by simp; omega)).mono ?_
          rintro e w3 ⟨rfl, g1, b1, k1⟩
          have HI3 := Lib.hid (bld_byte (c := 32) g1)
          have R3 := Lib.hid (kept_holds k1 R0.out (by omega) (by decide))
          have HB3 : Hid (Below B w w3) := (HBr.out.alloc (by omega) _).trans b1
          have hz3 := b1.size
          simp only [World.size_alloc] at hz3
          have t0 : w3.cell? ⟨wr.heap.size, 0, none⟩ = some (.string { data := #[] }) := R3.out.at 0
          clear g1 b1 k1 R0 R1
          go_wp2_with fail
          refine (Tryd.Builder_Write B b (Lib.byteCells (AN ++ itemL X 2 ++ [32])) { data := #[] } _ HI3.out (by rw [Lib.byteCells_length, List.length_append]; show _ + _ + 0 ≤ _; simp; omega) (by omega)).mono ?_
          rintro e w4 ⟨rfl, g1, b1, k1⟩
          have HI4 := Lib.hid (bld_str (x := []) rfl g1)
          have R4 := Lib.hid (kept_holds k1 R3.out (by omega) (by decide))
          have HB4 := Lib.hid (HB3.out.trans b1)
          have hz4 := b1.size
          have t1 : w4.cell? ⟨wr.heap.size, 1, none⟩ = some (.string X2) := R4.out.at 1
          clear g1 b1 k1 R3 t0
          go_wp2_with fail
          refine (Tryd.Builder_Write B b (Lib.byteCells (AN ++ itemL X 2 ++ [32] ++ [])) X2 _ HI4.out (by rw [Lib.byteCells_length, List.length_append, List.length_append]; simp; omega) (by omega)).mono ?_
          rintro e w5 ⟨rfl, g1, b1, k1⟩
          have HI5 := Lib.hid (bld_str (x := lst X2) rfl g1)
          have HB5 := Lib.hid (HB4.out.trans b1)
          clear g1 b1 k1 R4 t1
          go_wp2_with fail
          go_roundw
          case rel => exact ⟨3, by omega, by go_num, by rw [HS.out]; exact HI5.out, HB5.out⟩
          case measure => simp [intOf]
      · have hix := idx80_3
        have hl2 : (AN ++ itemL X 3).length ≤ 200000000000 := by rw [List.length_append]; omega
        by_cases he : X3.size = 0
        · have e1 : X3.toList.isEmpty = true := emp_yes X3 he
          have HS : Hid (itemL X 4 = itemL X 3) := by show _ = _; rw [show itemL X 4 = itemL X 3 ++ toldL (([[], [35], [], [116], [108], [104]] : List (List UInt8)).getD 3 []) (X 3) from rfl, HX3.out, lst_nil X3 he]; simp [toldL]
          clear he
          go_wp2_with fail
          go_roundw
          case rel => exact ⟨4, by omega, by go_num, by rw [HS.out]; exact bld_below HIr.out ((Below.refl _ _).alloc (Nat.le_refl _) _), HBr.out.alloc (by omega) _⟩
          case measure => simp [intOf]
        · have e1 : X3.toList.isEmpty = false := emp_no X3 (by omega)
          have HS : Hid (AN ++ itemL X 4 = AN ++ itemL X 3 ++ [32] ++ [116] ++ lst X3) := by show _ = _; rw [show itemL X 4 = itemL X 3 ++ toldL (([[], [35], [], [116], [108], [104]] : List (List UInt8)).getD 3 []) (X 3) from rfl, HX3.out]; unfold toldL; rw [if_neg (fun e => he (by rw [← lst_size, e]; rfl))]; simp [List.append_assoc]
          have R0 : Hid (Holds (wr.alloc (.cells #[.string { data := #[116] }, .string X3] 78)) wr.heap.size 78 #[.string { data := #[116] }, .string X3]) := Holds.made wr 78 _
          have R1 := Lib.hid (bld_below HIr.out ((Below.refl _ _).alloc (Nat.le_refl _) (.cells #[.string { data := #[116] }, .string X3] 78)))
          clear he
          go_wp2_with fail
          refine (Tryd.Builder_WriteByte B b (Lib.byteCells (AN ++ itemL X 3)) _ _ R1.out (by rw [Lib.byteCells_length]; omega) (by simp; omega)).mono ?_
          rintro e w3 ⟨rfl, g1, b1, k1⟩
          have HI3 := Lib.hid (bld_byte (c := 32) g1)
          have R3 := Lib.hid (kept_holds k1 R0.out (by omega) (by decide))
          have HB3 : Hid (Below B w w3) := (HBr.out.alloc (by omega) _).trans b1
          have hz3 := b1.size
          simp only [World.size_alloc] at hz3
          have t0 : w3.cell? ⟨wr.heap.size, 0, none⟩ = some (.string { data := #[116] }) := R3.out.at 0
          clear g1 b1 k1 R0 R1
          go_wp2_with fail
          refine (Tryd.Builder_Write B b (Lib.byteCells (AN ++ itemL X 3 ++ [32])) { data := #[116] } _ HI3.out (by rw [Lib.byteCells_length, List.length_append]; show _ + _ + 1 ≤ _; simp; omega) (by omega)).mono ?_
          rintro e w4 ⟨rfl, g1, b1, k1⟩
          have HI4 := Lib.hid (bld_str (x := [116]) rfl g1)
          have R4 := Lib.hid (kept_holds k1 R3.out (by omega) (by decide))
          have HB4 := Lib.hid (HB3.out.trans b1)
          have hz4 := b1.size
          have t1 : w4.cell? ⟨wr.heap.size, 1, none⟩ = some (.string X3) := R4.out.at 1
          clear g1 b1 k1 R3 t0
          go_wp2_with fail
          refine (Tryd.Builder_Write B b (Lib.byteCells (AN ++ itemL X 3 ++ [32] ++ [116])) X3 _ HI4.out (by rw [Lib.byteCells_length, List.length_append, List.length_append]; simp; omega) (by omega)).mono ?_
          rintro e w5 ⟨rfl, g1, b1, k1⟩
          have HI5 := Lib.hid (bld_str (x := lst X3) rfl g1)
          have HB5 := Lib.hid (HB4.out.trans b1)
          clear g1 b1 k1 R4 t1
          go_wp2_with fail
          go_roundw
          case rel => exact ⟨4, by omega, by go_num, by rw [HS.out]; exact HI5.out, HB5.out⟩
          case measure => simp [intOf]
      · have hix := idx80_4
        have hl2 : (AN ++ itemL X 4).length ≤ 200000000000 := by rw [List.length_append]; omega
        by_cases he : X4.size = 0
        · have e1 : X4.toList.isEmpty = true := emp_yes X4 he
          have HS : Hid (itemL X 5 = itemL X 4) := by show _ = _; rw [show itemL X 5 = itemL X 4 ++ toldL (([[], [35], [], [116], [108], [104]] : List (List UInt8)).getD 4 []) (X 4) from rfl, HX4.out, lst_nil X4 he]; simp [toldL]
          clear he
          go_wp2_with fail
          go_roundw
          case rel => exact ⟨5, by omega, by go_num, by rw [HS.out]; exact bld_below HIr.out ((Below.refl _ _).alloc (Nat.le_refl _) _), HBr.out.alloc (by omega) _⟩
          case measure => simp [intOf]
        · have e1 : X4.toList.isEmpty = false := emp_no X4 (by omega)
          have HS : Hid (AN ++ itemL X 5 = AN ++ itemL X 4 ++ [32] ++ [108] ++ lst X4) := by show _ = _; rw [show itemL X 5 = itemL X 4 ++ toldL (([[], [35], [], [116], [108], [104]] : List (List UInt8)).getD 4 []) (X 4) from rfl, HX4.out]; unfold toldL; rw [if_neg (fun e => he (by rw [← lst_size, e]; rfl))]; simp [List.append_assoc]
          have R0 : Hid (Holds (wr.alloc (.cells #[.string { data := #[108] }, .string X4] 78)) wr.heap.size 78 #[.string { data := #[108] }, .string X4]) := Holds.made wr 78 _
          have R1 := Lib.hid (bld_below HIr.out ((Below.refl _ _).alloc (Nat.le_refl _) (.cells #[.string { data := #[108] }, .string X4] 78)))
          clear he
          go_wp2_with fail
          refine (Tryd.Builder_WriteByte B b (Lib.byteCells (AN ++ itemL X 4)) _ _ R1.out (by rw [Lib.byteCells_length]; omega) (by simp; omega)).mono ?_
          rintro e w3 ⟨rfl, g1, b1, k1⟩
          have HI3 := Lib.hid (bld_byte (c := 32) g1)
          have R3 := Lib.hid (kept_holds k1 R0.out (by omega) (by decide))
          have HB3 : Hid (Below B w w3) := (HBr.out.alloc (by omega) _).trans b1
          have hz3 := b1.size
          simp only [World.size_alloc] at hz3
          have t0 : w3.cell? ⟨wr.heap.size, 0, none⟩ = some (.string { data := #[108] }) := R3.out.at 0
          clear g1 b1 k1 R0 R1
          go_wp2_with fail
          refine (Tryd.Builder_Write B b (Lib.byteCells (AN ++ itemL X 4 ++ [32])) { data := #[108] } _ HI3.out (by rw [Lib.byteCells_length, List.length_append]; show _ + _ + 1 ≤ _; simp; omega) (by omega)).mono ?_
          rintro e w4 ⟨rfl, g1, b1, k1⟩
          have HI4 := Lib.hid (bld_str (x := [108]) rfl g1)
          have R4 := Lib.hid (kept_holds k1 R3.out (by omega) (by decide))
          have HB4 := Lib.hid (HB3.out.trans b1)
          have hz4 := b1.size
          have t1 : w4.cell? ⟨wr.heap.size, 1, none⟩ = some (.string X4) := R4.out.at 1
          clear g1 b1 k1 R3 t0
          go_wp2_with fail
          refine (Tryd.Builder_Write B b (Lib.byteCells (AN ++ itemL X 4 ++ [32] ++ [108])) X4 _ HI4.out (by rw [Lib.byteCells_length, List.length_append, List.length_append]; simp; omega) (by omega)).mono ?_
          rintro e w5 ⟨rfl, g1, b1, k1⟩
          have HI5 := Lib.hid (bld_str (x := lst X4) rfl g1)
          have HB5 := Lib.hid (HB4.out.trans b1)
          clear g1 b1 k1 R4 t1
          go_wp2_with fail
          go_roundw
          case rel => exact ⟨5, by omega, by go_num, by rw [HS.out]; exact HI5.out, HB5.out⟩
          case measure => simp [intOf]
      · have hix := idx80_5
        have hl2 : (AN ++ itemL X 5).length ≤ 200000000000 := by rw [List.length_append]; omega
        by_cases he : X5.size = 0
        · have e1 : X5.toList.isEmpty = true := emp_yes X5 he
          have HS : Hid (itemL X 6 = itemL X 5) := by show _ = _; rw [show itemL X 6 = itemL X 5 ++ toldL (([[], [35], [], [116], [108], [104]] : List (List UInt8)).getD 5 []) (X 5) from rfl, HX5.out, lst_nil X5 he]; simp [toldL]
          clear he
          go_wp2_with fail
          go_roundw
          case rel => exact ⟨6, by omega, by go_num, by rw [HS.out]; exact bld_below HIr.out ((Below.refl _ _).alloc (Nat.le_refl _) _), HBr.out.alloc (by omega) _⟩
          case measure => simp [intOf]
        · have e1 : X5.toList.isEmpty = false := emp_no X5 (by omega)
          have HS : Hid (AN ++ itemL X 6 = AN ++ itemL X 5 ++ [32] ++ [104] ++ lst X5) := by show _ = _; rw [show itemL X 6 = itemL X 5 ++ toldL (([[], [35], [], [116], [108], [104]] : List (List UInt8)).getD 5 []) (X 5) from rfl, HX5.out]; unfold toldL; rw [if_neg (fun e => he (by rw [← lst_size, e]; rfl))]; simp [List.append_assoc]
          have R0 : Hid (Holds (wr.alloc (.cells #[.string { data := #[104] }, .string X5] 78)) wr.heap.size 78 #[.string { data := #[104] }, .string X5]) := Holds.made wr 78 _
          have R1 := Lib.hid (bld_below HIr.out ((Below.refl _ _).alloc (Nat.le_refl _) (.cells #[.string { data := #[104] }, .string X5] 78)))
          clear he
          go_wp2_with fail
          refine (Tryd.Builder_WriteByte B b (Lib.byteCells (AN ++ itemL X 5)) _ _ R1.out (by rw [Lib.byteCells_length]; omega) (by simp; omega)).mono ?_
          rintro e w3 ⟨rfl, g1, b1, k1⟩
          have HI3 := Lib.hid (bld_byte (c := 32) g1)
          have R3 := Lib.hid (kept_holds k1 R0.out (by omega) (by decide))
          have HB3 : Hid (Below B w w3) := (HBr.out.alloc (by omega) _).trans b1
          have hz3 := b1.size
          simp only [World.size_alloc] at hz3
          have t0 : w3.cell? ⟨wr.heap.size, 0, none⟩ = some (.string { data := #[104] }) := R3.out.at 0
          clear g1 b1 k1 R0 R1
          go_wp2_with fail
          refine (Tryd.Builder_Write B b (Lib.byteCells (AN ++ itemL X 5 ++ [32])) { data := #[104] } _ HI3.out (by rw [Lib.byteCells_length, List.length_append]; show _ + _ + 1 ≤ _; simp; omega) (by omega)).mono ?_
          rintro e w4 ⟨rfl, g1, b1, k1⟩
          have HI4 := Lib.hid (bld_str (x := [104]) rfl g1)
          have R4 := Lib.hid (kept_holds k1 R3.out (by omega) (by decide))
          have HB4 := Lib.hid (HB3.out.trans b1)
          have hz4 := b1.size
          have t1 : w4.cell? ⟨wr.heap.size, 1, none⟩ = some (.string X5) := R4.out.at 1
          clear g1 b1 k1 R3 t0
          go_wp2_with fail
          refine (Tryd.Builder_Write B b (Lib.byteCells (AN ++ itemL X 5 ++ [32] ++ [104])) X5 _ HI4.out (by rw [Lib.byteCells_length, List.length_append, List.length_append]; simp; omega) (by omega)).mono ?_
          rintro e w5 ⟨rfl, g1, b1, k1⟩
          have HI5 := Lib.hid (bld_str (x := lst X5) rfl g1)
          have HB5 := Lib.hid (HB4.out.trans b1)
          clear g1 b1 k1 R4 t1
          go_wp2_with fail
          go_roundw
          case rel => exact ⟨6, by omega, by go_num, by rw [HS.out]; exact HI5.out, HB5.out⟩
          case measure => simp [intOf]
end Go.Proofs.YtdfhgcknelgdmaaDoor
