/-
  PROVED: contract of text.At: an offset within a text has the place 'placeL', 'placeC'; any other is ErrPlace. Conditions: the text has at most 200000 bytes.
-/
import Derived.Test.YtinbdangpehkaaaAhead
import Derived.Test.YtinbdangpehkaaaLine
import Derived.Deep.RegionHeld3
namespace Go.Proofs.Ytinbdangpehkaaa
open Go.ChangeShapes Go.WideShapes Go.ChangeAt Go.RowKit
set_option linter.unusedVariables false

/-- Block g holds just these cells, none of them frozen. -/
def Holds (w : World) (g : Nat) (t : TypeId) (cs : Array Value) : Prop := w.heap[g]? = some (.cells cs t (0, 0))
theorem Holds.lt {w : World} {g : Nat} {t : TypeId} {cs : Array Value} (h : Holds w g t cs) : g < w.heap.size := (Array.getElem?_eq_some_iff.1 h).1
theorem Holds.at {w : World} {g : Nat} {t : TypeId} {cs : Array Value} (h : Holds w g t cs) (i : Nat) : w.cell? ⟨g, i, none⟩ = cs[i]? := cell_of_row w g i cs t (0, 0) h
theorem Holds.soft {w : World} {g : Nat} {t : TypeId} {cs : Array Value} (h : Holds w g t cs) (i : Nat) : w.frozen? ⟨g, i, none⟩ = false := by
  unfold Holds at h
  simp [World.frozen?, h]
theorem Holds.under {w w' : World} {g B : Nat} {t : TypeId} {cs : Array Value} (h : Holds w g t cs) (hb : Below B w w') (hg : g < B) : Holds w' g t cs := (hb.block g hg).trans h
theorem Holds.made (w : World) (t : TypeId) (cs : Array Value) : Holds (w.alloc (.cells cs t)) w.heap.size t cs := heap_alloc_new w _
theorem Holds.set {w : World} {g : Nat} {t : TypeId} {cs : Array Value} (h : Holds w g t cs) (i : Nat) (u : Value) : Holds (w.setCell ⟨g, i, none⟩ u) g t (cs.setIfInBounds i u) := by
  unfold Holds at h ⊢
  simp [World.setCell, Array.getElem?_modify, h]
theorem Holds.past {w : World} {g : Nat} {t : TypeId} {cs : Array Value} (h : Holds w g t cs) {p : Addr} (hp : g ≠ p.block) (u : Value) : Holds (w.setCell p u) g t cs := (Below.heap_setCell w p u g hp).trans h

theorem at_out (s : ByteArray) (a : Int) (h : a < 0 ∨ (s.size : Int) < a) (hs : s.size ≤ 200000) (w : World) :
    Calls Try.prog 17 #[.string s, .int .i64 a] w fun e w' => e = .returned (.tuple #[.agg #[.int .i64 0, .int .i64 0], .int .i64 11]) ∧ Below w.heap.size w w' := by
  by_cases h0 : a < 0
  · go_enter Try.func17, Try.ntmps17
    go_wp2_with fail
    exact bodyPost_ret (v := .tuple #[.agg #[.int .i64 0, .int .i64 0], .int .i64 11]) (by simp [results, Try.results17, go_sem]) rfl ⟨rfl, (Below.refl _ _).alloc (Nat.le_refl _) _⟩
  · have h1 : (s.size : Int) < a := by omega
    go_enter Try.func17, Try.ntmps17
    go_wp2_with fail
    exact bodyPost_ret (v := .tuple #[.agg #[.int .i64 0, .int .i64 0], .int .i64 11]) (by simp [results, Try.results17, go_sem]) rfl ⟨rfl, (Below.refl _ _).alloc (Nat.le_refl _) _⟩

theorem begun_sub (s : ByteArray) (f e i : Nat) (hF : Fit s e) (h1 : f ≤ i) (h2 : i ≤ e) (hs : s.size ≤ 200000) (w : World) :
    Calls Try.prog 30 #[.string (s.extract f e), .int .i64 (IntKind.i64.wrap ((i : Int) - (f : Int)))] w fun en w' => en = .returned (.int .i64 (cnt s f i)) ∧ Below w.heap.size w w' := by
  have h := begun_at s f e (i - f) hF (by omega) hs w
  rw [show f + (i - f) = i from by omega, show (((i - f : Nat) : Int)) = (i : Int) - (f : Int) from by omega] at h
  rw [IntWalk.i64_in _ (by have := hF.1; omega)]
  exact h

theorem far2 {w : World} {B G j : Nat} {a b u : Value} (h : B ≠ G) (hc : w.cell? ⟨G, j, none⟩ = some u) : ((w.setCell ⟨B, 0, none⟩ a).setCell ⟨B, 1, none⟩ b).cell? ⟨G, j, none⟩ = some u := by
  rw [World.cell?_of_block (w := w) (a := ⟨G, j, none⟩)]
  · exact hc
  · exact (Below.heap_setCell _ _ _ _ (Ne.symm h)).trans (Below.heap_setCell _ _ _ _ (Ne.symm h))

theorem place_ret {s : ByteArray} {i n f : Nat} (h : placeL s i = n ∧ placeC s i = 1 + cnt s f i) (hb : cnt s f i ≤ 200000) :
    Ending.returned (.tuple #[.agg #[.int .i64 n, .int .i64 (IntKind.i64.wrap (1 + (cnt s f i : Int)))], .int .i64 0]) = .returned (.tuple #[.agg #[.int .i64 (placeL s i), .int .i64 (placeC s i)], .int .i64 0]) := by
  rw [h.1, h.2, IntWalk.i64_in _ (by omega), show ((1 + cnt s f i : Nat) : Int) = 1 + (cnt s f i : Int) from by omega]

/-- The number in the first cell of a block. -/
def posOf (w : World) (g : Nat) : Nat := match w.cell? ⟨g, 0, none⟩ with
  | some (.int _ q) => q.toNat
  | _ => 0
theorem posOf_holds {w : World} {g : Nat} {t : TypeId} {f : Nat} {a b : Value} (h : Holds w g t #[.int .i64 f, a, b]) : posOf w g = f := by
  unfold posOf
  rw [h.at 0]
  rfl

/-- What the loop of text.At goes by. -/
def ARel (s : ByteArray) (i : Nat) (w : World) (g : Nat) (v : Value) (wr : World) : Prop :=
  ∃ n f : Nat, v = .int .i64 n ∧ f ≤ i ∧ n ≤ f + 1 ∧ loc s i n f = loc s i 1 0 ∧ Holds wr g 28 #[.int .i64 f, .int .i64 (lineTo s f), .int .i64 (lineEnd s f)] ∧ Holds wr w.heap.size 30 #[.int .i64 0, .int .i64 0] ∧ Below w.heap.size w wr

set_option maxHeartbeats 1000000 in
theorem at_in (s : ByteArray) (i : Nat) (hi : i ≤ s.size) (hs : s.size ≤ 200000) (w : World) :
    Calls Try.prog 17 #[.string s, .int .i64 i] w fun e w' => e = .returned (.tuple #[.agg #[.int .i64 (placeL s i), .int .i64 (placeC s i)], .int .i64 0]) ∧ Below w.heap.size w w' := by
  have hs' : s.size ≤ maxLen := by unfold maxLen; omega
  have b1 : decide ((i : Int) < 0) = false := by simp
  have b2 : decide (s.size < i) = false := by simp; omega
  go_enter Try.func17, Try.ntmps17
  go_wp2_with fail
  refine (lineFrom_at s 0 (Nat.zero_le _) hs' _).mono ?_
  rintro e w1 ⟨rfl, hb1⟩
  have hz1 : w.heap.size < w1.heap.size := by have := hb1.size; simp at this; omega
  have hB1 : Below w.heap.size w w1 := ((Below.refl _ _).alloc (Nat.le_refl _) _).trans (hb1.mono (by simp))
  have HR1 : Hid (Holds w1 w.heap.size 30 #[.int .i64 0, .int .i64 0]) := Holds.under (Holds.made w 30 _) hb1 (by simp)
  clear hb1
  go_wp2_with fail
  go_loopw [6] (fun v wr => ARel s i w w1.heap.size v wr) (fun _ wr => s.size - posOf wr w1.heap.size)
  case atStart => exact ⟨1, 0, rfl, Nat.zero_le _, Nat.le_refl _, rfl, Holds.made w1 28 _, Holds.under HR1.out ((Below.refl w1.heap.size w1).alloc (Nat.le_refl _) _) hz1, hB1.alloc (Nat.le_of_lt hz1) _⟩
  case round =>
    obtain ⟨n, f, rfl, hf, hnf, hloc, hG, hR, hB⟩ := hrel
    have HLoc := Lib.hid hloc
    have HG := Lib.hid hG
    have HR := Lib.hid hR
    have hgl := hG.lt
    have k0 : wr.cell? ⟨w1.heap.size, 0, none⟩ = some (.int .i64 f) := hG.at 0
    have k1 : wr.cell? ⟨w1.heap.size, 1, none⟩ = some (.int .i64 (lineTo s f)) := hG.at 1
    have k2 : wr.cell? ⟨w1.heap.size, 2, none⟩ = some (.int .i64 (lineEnd s f)) := hG.at 2
    have hfs : f ≤ s.size := by omega
    have hle := lineEnd_le s f hfs
    have hfe := Nat.le_trans (lineTo_ge s f) (lineEnd_ge s f)
    clear hloc hG hR
    by_cases hgo : ended s f ∧ lineEnd s f ≤ i
    · obtain ⟨he, hei⟩ := hgo
      have hgt := (ended_lt s f he).2.1
      have HL2 := Lib.hid (loc_go s i n f ⟨he, hei⟩)
      have de : decide ((lineTo s f : Int) < (lineEnd s f : Int)) = true := by have : lineTo s f < lineEnd s f := he; simp; omega
      clear he
      go_wp2_with fail
      refine (ended_at _ _ _ _).mono ?_
      rintro e w2 ⟨rfl, hb2⟩
      have HG2 : Hid (Holds w2 w1.heap.size 28 #[.int .i64 f, .int .i64 (lineTo s f), .int .i64 (lineEnd s f)]) := HG.out.under hb2 hgl
      have q2 : w2.cell? ⟨w1.heap.size, 2, none⟩ = some (.int .i64 (lineEnd s f)) := HG2.out.at 2
      rw [de]
      go_wp2_with fail
      refine (lineFrom_at s (lineEnd s f) hle hs' _).mono ?_
      rintro e w3 ⟨rfl, hb3⟩
      have hs2 := hb2.size
      have hs3 := hb3.size
      have hG3 : Holds w3 w1.heap.size 28 #[.int .i64 f, .int .i64 (lineTo s f), .int .i64 (lineEnd s f)] := HG2.out.under hb3 (by omega)
      have HR3 : Hid (Holds w3 w.heap.size 30 #[.int .i64 0, .int .i64 0]) := (HR.out.under hb2 (by omega)).under hb3 (by omega)
      have HB3 : Hid (Below w.heap.size w w3) := (hB.trans (hb2.mono hB.size)).trans (hb3.mono (by have := hB.size; omega))
      have p0 : w3.cell? ⟨w1.heap.size, 0, none⟩ = some (.int .i64 f) := hG3.at 0
      have p1 : w3.cell? ⟨w1.heap.size, 1, none⟩ = some (.int .i64 (lineTo s f)) := hG3.at 1
      have p2 : w3.cell? ⟨w1.heap.size, 2, none⟩ = some (.int .i64 (lineEnd s f)) := hG3.at 2
      have z0 : w3.frozen? ⟨w1.heap.size, 0, none⟩ = false := hG3.soft 0
      have z1 : w3.frozen? ⟨w1.heap.size, 1, none⟩ = false := hG3.soft 1
      have z2 : w3.frozen? ⟨w1.heap.size, 2, none⟩ = false := hG3.soft 2
      have HG3 := Lib.hid hG3
      clear hG3 HG2 q2 hb2 hb3
      go_wp2_with fail
      go_roundw
      case rel =>
        have hG4 := ((HG3.out.set 0 (.int .i64 (lineEnd s f))).set 1 (.int .i64 (lineTo s (lineEnd s f)))).set 2 (.int .i64 (lineEnd s (lineEnd s f)))
        exact ⟨n + 1, lineEnd s f, by go_num, hei, by omega, HL2.out.symm.trans HLoc.out, hG4, ((HR3.out.past (by show w.heap.size ≠ w1.heap.size; omega) _).past (by show w.heap.size ≠ w1.heap.size; omega) _).past (by show w.heap.size ≠ w1.heap.size; omega) _, ((HB3.out.setCell (Nat.le_of_lt hz1) _).setCell (Nat.le_of_lt hz1) _).setCell (Nat.le_of_lt hz1) _⟩
      case measure =>
        have hG4 := ((HG3.out.set 0 (.int .i64 (lineEnd s f))).set 1 (.int .i64 (lineTo s (lineEnd s f)))).set 2 (.int .i64 (lineEnd s (lineEnd s f)))
        rw [posOf_holds hG4, posOf_holds HG.out]
        omega
    · have hlf := loc_out s i n f hgo
      have HP : Hid (placeL s i = n ∧ placeC s i = 1 + cnt s f i) := by
        unfold placeL placeC
        rw [← HLoc.out, hlf]
        exact ⟨rfl, rfl⟩
      by_cases he : ended s f
      · have hei : i < lineEnd s f := Nat.lt_of_not_le fun hh => hgo ⟨he, hh⟩
        have hle2 : i ≤ lineEnd s f := Nat.le_of_lt hei
        have de : decide ((lineTo s f : Int) < (lineEnd s f : Int)) = true := by have : lineTo s f < lineEnd s f := he; simp; omega
        clear he hgo hlf
        go_wp2_with fail
        refine (ended_at _ _ _ _).mono ?_
        rintro e w2 ⟨rfl, hb2⟩
        have hG2 : Holds w2 w1.heap.size 28 #[.int .i64 f, .int .i64 (lineTo s f), .int .i64 (lineEnd s f)] := HG.out.under hb2 hgl
        have q0 : w2.cell? ⟨w1.heap.size, 0, none⟩ = some (.int .i64 f) := hG2.at 0
        have q2 : w2.cell? ⟨w1.heap.size, 2, none⟩ = some (.int .i64 (lineEnd s f)) := hG2.at 2
        rw [de]
        have hz2 := hb2.size
        have hR2 := HR.out.under hb2 (by omega)
        have hcl := cnt_le s i _ f (Nat.le_refl _)
        have HF := Lib.hid (fit_line s f hfs)
        go_wp2_with fail
        go_region_held3 (fun w' => w'.cell? ⟨w1.heap.size, 0, none⟩ = some (.int .i64 f) ∧ w'.cell? ⟨w1.heap.size, 2, none⟩ = some (.int .i64 (lineEnd s f))) (first | exact ⟨q0, q2⟩ | (refine ⟨?_, ?_⟩ <;> assumption) | (refine ⟨far2 (Nat.ne_of_lt hz1) ?_, far2 (Nat.ne_of_lt hz1) ?_⟩ <;> assumption))
          (first | (go_at_call 30; ((with_reducible refine (begun_sub s f (lineEnd s f) i HF.out hf hle2 hs _).mono ?_)); rintro e w3 ⟨rfl, hb3'⟩; have hb3 : Below w2.heap.size w2 w3 := (Below.refl w2.heap.size w2).drew.trans hb3'; have y0 : w3.cell? ⟨w1.heap.size, 0, none⟩ = some (.int .i64 f) := (hb3.cell (p := ⟨w1.heap.size, 0, none⟩) (by show w1.heap.size < _; omega)).trans q0; have y2 : w3.cell? ⟨w1.heap.size, 2, none⟩ = some (.int .i64 (lineEnd s f)) := (hb3.cell (p := ⟨w1.heap.size, 2, none⟩) (by show w1.heap.size < _; omega)).trans q2; have hR3 := hR2.under hb3 (by omega); have x0 : w3.cell? ⟨w.heap.size, 0, none⟩ = some (.int .i64 0) := hR3.at 0; have x1 : w3.cell? ⟨w.heap.size, 1, none⟩ = some (.int .i64 0) := hR3.at 1; have v0 : w3.frozen? ⟨w.heap.size, 0, none⟩ = false := hR3.soft 0; have v1 : w3.frozen? ⟨w.heap.size, 1, none⟩ = false := hR3.soft 1))
        have HB3 : Hid (Below w.heap.size w w3) := (hB.trans (hb2.mono hB.size)).trans (hb3.mono (by have := hB.size; omega))
        go_wp2_with fail
        exact bodyPost_ret (v := .tuple #[.agg #[.int .i64 n, .int .i64 (IntKind.i64.wrap (1 + (cnt s f i : Int)))], .int .i64 0]) (by simp [results, Try.results17, go_sem, x0, x1]) rfl ⟨place_ret HP.out (by omega), (HB3.out.setCell (Nat.le_refl _) _).setCell (Nat.le_refl _) _⟩
      · have hle2 : i ≤ lineEnd s f := by have := not_ended s f hfs he; omega
        have de : decide ((lineTo s f : Int) < (lineEnd s f : Int)) = false := by have : ¬ lineTo s f < lineEnd s f := he; simp; omega
        clear he hgo hlf
        go_wp2_with fail
        refine (ended_at _ _ _ _).mono ?_
        rintro e w2 ⟨rfl, hb2⟩
        have hG2 : Holds w2 w1.heap.size 28 #[.int .i64 f, .int .i64 (lineTo s f), .int .i64 (lineEnd s f)] := HG.out.under hb2 hgl
        have q0 : w2.cell? ⟨w1.heap.size, 0, none⟩ = some (.int .i64 f) := hG2.at 0
        have q2 : w2.cell? ⟨w1.heap.size, 2, none⟩ = some (.int .i64 (lineEnd s f)) := hG2.at 2
        rw [de]
        have hz2 := hb2.size
        have hR2 := HR.out.under hb2 (by omega)
        have hcl := cnt_le s i _ f (Nat.le_refl _)
        have HF := Lib.hid (fit_line s f hfs)
        go_wp2_with fail
        go_region_held3 (fun w' => w'.cell? ⟨w1.heap.size, 0, none⟩ = some (.int .i64 f) ∧ w'.cell? ⟨w1.heap.size, 2, none⟩ = some (.int .i64 (lineEnd s f))) (first | exact ⟨q0, q2⟩ | (refine ⟨?_, ?_⟩ <;> assumption) | (refine ⟨far2 (Nat.ne_of_lt hz1) ?_, far2 (Nat.ne_of_lt hz1) ?_⟩ <;> assumption))
          (first | (go_at_call 30; ((with_reducible refine (begun_sub s f (lineEnd s f) i HF.out hf hle2 hs _).mono ?_)); rintro e w3 ⟨rfl, hb3'⟩; have hb3 : Below w2.heap.size w2 w3 := (Below.refl w2.heap.size w2).drew.trans hb3'; have y0 : w3.cell? ⟨w1.heap.size, 0, none⟩ = some (.int .i64 f) := (hb3.cell (p := ⟨w1.heap.size, 0, none⟩) (by show w1.heap.size < _; omega)).trans q0; have y2 : w3.cell? ⟨w1.heap.size, 2, none⟩ = some (.int .i64 (lineEnd s f)) := (hb3.cell (p := ⟨w1.heap.size, 2, none⟩) (by show w1.heap.size < _; omega)).trans q2; have hR3 := hR2.under hb3 (by omega); have x0 : w3.cell? ⟨w.heap.size, 0, none⟩ = some (.int .i64 0) := hR3.at 0; have x1 : w3.cell? ⟨w.heap.size, 1, none⟩ = some (.int .i64 0) := hR3.at 1; have v0 : w3.frozen? ⟨w.heap.size, 0, none⟩ = false := hR3.soft 0; have v1 : w3.frozen? ⟨w.heap.size, 1, none⟩ = false := hR3.soft 1))
        have HB3 : Hid (Below w.heap.size w w3) := (hB.trans (hb2.mono hB.size)).trans (hb3.mono (by have := hB.size; omega))
        go_wp2_with fail
        exact bodyPost_ret (v := .tuple #[.agg #[.int .i64 n, .int .i64 (IntKind.i64.wrap (1 + (cnt s f i : Int)))], .int .i64 0]) (by simp [results, Try.results17, go_sem, x0, x1]) rfl ⟨place_ret HP.out (by omega), (HB3.out.setCell (Nat.le_refl _) _).setCell (Nat.le_refl _) _⟩

/-- What At answers. -/
def atV (s : ByteArray) (a : Int) : Value := if a < 0 ∨ (s.size : Int) < a then .tuple #[.agg #[.int .i64 0, .int .i64 0], .int .i64 11] else .tuple #[.agg #[.int .i64 (placeL s a.toNat), .int .i64 (placeC s a.toNat)], .int .i64 0]
theorem at_any (s : ByteArray) (a : Int) (hs : s.size ≤ 200000) (w : World) :
    Calls Try.prog 17 #[.string s, .int .i64 a] w fun e w' => e = .returned (atV s a) ∧ Below w.heap.size w w' := by
  unfold atV
  by_cases h : a < 0 ∨ (s.size : Int) < a
  · rw [if_pos h]
    exact at_out s a h hs w
  · rw [if_neg h]
    obtain ⟨i, rfl⟩ : ∃ i : Nat, a = i := ⟨a.toNat, by omega⟩
    exact at_in s i (by omega) hs w
end Go.Proofs.Ytinbdangpehkaaa
